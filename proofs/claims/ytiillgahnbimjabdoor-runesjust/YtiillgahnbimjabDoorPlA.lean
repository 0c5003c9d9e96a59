/- Plain: texts, bytes, code points: how they stand as bytes, and how they are read. -/
import Derived.WalkKit
import Derived.Lib.Builder
import Derived.Lib.UnsafeStr
import Derived.Lib.AppendStr
import Derived.Lib.RuneBytes
import Derived.Lib.DecodeN
import Derived.Laws.RangeAny
import Derived.Lib.RuneCount
import Derived.Laws.Runes
namespace Go.Proofs.YtiillgahnbimjabDoor
open Go.RowKit

/-- The byte of a text at a place, or -1. -/
def chr (s : ByteArray) (i : Nat) : Int := if h : i < s.size then (s[i].toNat : Int) else -1
theorem chr_in {s : ByteArray} {i : Nat} (h : i < s.size) : chr s i = (s[i].toNat : Int) := by unfold chr; rw [dif_pos h]
theorem chr_out {s : ByteArray} {i : Nat} (h : ¬ i < s.size) : chr s i = -1 := by unfold chr; rw [dif_neg h]
theorem chr_le (s : ByteArray) (i : Nat) : -1 ≤ chr s i ∧ chr s i ≤ 255 := by
  unfold chr
  split
  · have := s[i].toNat_lt; omega
  · omega
theorem chr_lt {s : ByteArray} {i : Nat} (h : 0 ≤ chr s i) : i < s.size := by
  by_cases hi : i < s.size
  · exact hi
  · rw [chr_out hi] at h; omega
theorem chr_bd {s : ByteArray} {i : Nat} (h : i < s.size) : 0 ≤ chr s i ∧ chr s i ≤ 255 := by
  rw [chr_in h]; have := s[i].toNat_lt; omega
def asText (l : List Int) : ByteArray := l.foldl (fun r n => r.push (UInt8.ofNat n.toNat)) ByteArray.empty
theorem asText_data (l : List Int) : (asText l).data.toList = l.map (fun n => UInt8.ofNat n.toNat) := by
  have key : ∀ (l : List Int) (s : ByteArray), (l.foldl (fun r n => r.push (UInt8.ofNat n.toNat)) s).data.toList = s.data.toList ++ l.map (fun n => UInt8.ofNat n.toNat) := by
    intro l
    induction l with
    | nil => intro s; simp
    | cons b l ih => intro s; rw [List.foldl_cons, ih]; simp [ByteArray.push]
  have := key l ByteArray.empty
  simpa [asText] using this

/-- The bytes of a text, as numbers. -/
def byl (s : ByteArray) : List Int := s.data.toList.map fun c => (c.toNat : Int)
def By (l : List Int) : Prop := ∀ n ∈ l, 0 ≤ n ∧ n ≤ 255

theorem By.append {a b : List Int} (h : By a) (k : By b) : By (a ++ b) := fun n hn => by
  rcases List.mem_append.1 hn with h1 | h1
  · exact h n h1
  · exact k n h1
theorem By.nil : By [] := fun n hn => by cases hn
theorem By.cons {x : Int} {l : List Int} (hx : 0 ≤ x ∧ x ≤ 255) (h : By l) : By (x :: l) := fun n hn => by
  rcases List.mem_cons.1 hn with rfl | h1
  · exact hx
  · exact h n h1
theorem byl_by (s : ByteArray) : By (byl s) := fun n hn => by
  unfold byl at hn
  obtain ⟨c, _, rfl⟩ := List.mem_map.1 hn
  have := c.toNat_lt
  omega
theorem byl_len (s : ByteArray) : (byl s).length = s.size := by unfold byl; rw [List.length_map]; rfl
theorem byl_get (s : ByteArray) (k : Nat) (h : k < s.size) : (byl s)[k]? = some (s[k].toNat : Int) := by
  unfold byl
  rw [List.getElem?_map, List.getElem?_eq_getElem (by simpa using h)]
  rfl
theorem by_cells {l : List Int} (h : By l) : Lib.byteCells (l.map fun n => UInt8.ofNat n.toNat) = l.map (Value.int .u8) := by
  unfold Lib.byteCells
  rw [List.map_map]
  refine List.map_congr_left fun n hn => ?_
  have := h n hn
  show Value.int .u8 ((UInt8.ofNat n.toNat).toNat : Int) = _
  rw [UInt8.toNat_ofNat', Nat.mod_eq_of_lt (by omega)]
  congr 1
  omega
theorem asText_eq (l : List Int) : asText l = ⟨(l.map fun n => UInt8.ofNat n.toNat).toArray⟩ := by
  have h := asText_data l
  cases ht : asText l with
  | mk d =>
    rw [ht] at h
    cases d with
    | mk x => simp at h; rw [h]
theorem strCells_text {l : List Int} (h : By l) : Lib.strCells (asText l) = l.map (Value.int .u8) := by
  rw [asText_eq, ← by_cells h]; rfl
theorem asText_size (l : List Int) : (asText l).size = l.length := by
  rw [asText_eq]; show (List.toArray _).size = _; simp
theorem asText_byl (s : ByteArray) : asText (byl s) = s := by
  rw [asText_eq]
  unfold byl
  rw [List.map_map]
  have : (List.map ((fun n : Int => UInt8.ofNat n.toNat) ∘ fun c : UInt8 => (c.toNat : Int)) s.data.toList) = s.data.toList := by
    conv => rhs; rw [← List.map_id s.data.toList]
    refine List.map_congr_left fun c _ => ?_
    simp
  rw [this]

/-- A code point. -/
def cp (n : Int) : Prop := 0 ≤ n ∧ n ≤ 1114111 ∧ ¬ (55296 ≤ n ∧ n ≤ 57343)
/-- Its bytes. -/
abbrev enL (n : Int) : List Int := Lib.encodeRuneZ n
theorem enL_by (n : Int) : By (enL n) := fun x hx => by have := Lib.encodeRuneZ_byte n x hx; omega
theorem enL_one {r : Int} (h0 : 0 ≤ r) (h1 : r ≤ 127) : enL r = [r] := Lib.encodeRuneZ_one h0 h1
theorem enL_two {r : Int} (h0 : 128 ≤ r) (h1 : r ≤ 2047) : enL r = [192 + r / 64, 128 + r % 64] := Lib.encodeRuneZ_two h0 h1
theorem enL_three {r : Int} (h : (2048 ≤ r ∧ r < 55296) ∨ (57343 < r ∧ r ≤ 65535)) : enL r = [224 + r / 4096, 128 + r / 64 % 64, 128 + r % 64] := Lib.encodeRuneZ_three h
theorem enL_four {r : Int} (h0 : 65536 ≤ r) (h1 : r ≤ 1114111) : enL r = [240 + r / 262144, 128 + r / 4096 % 64, 128 + r / 64 % 64, 128 + r % 64] := Lib.encodeRuneZ_four h0 h1
theorem cp_cases {r : Int} (h : cp r) : (0 ≤ r ∧ r ≤ 127) ∨ (128 ≤ r ∧ r ≤ 2047) ∨ ((2048 ≤ r ∧ r < 55296) ∨ (57343 < r ∧ r ≤ 65535)) ∨ (65536 ≤ r ∧ r ≤ 1114111) := by
  unfold cp at h; omega
/-- How many bytes a number has. -/
def szI (n : Int) : Nat := if n ≤ 127 then 1 else if n ≤ 2047 then 2 else if n ≤ 65535 then 3 else 4
theorem enL_len {r : Int} (h : cp r) : (enL r).length = szI r := by
  unfold szI
  rcases cp_cases h with q | q | q | q
  · rw [enL_one q.1 q.2, if_pos (by omega)]; rfl
  · rw [enL_two q.1 q.2, if_neg (by omega), if_pos (by omega)]; rfl
  · rw [enL_three q, if_neg (by omega), if_neg (by omega), if_pos (by omega)]; rfl
  · rw [enL_four q.1 q.2, if_neg (by omega), if_neg (by omega), if_neg (by omega)]; rfl
theorem szI_bd (n : Int) : 1 ≤ szI n ∧ szI n ≤ 4 := by
  unfold szI
  repeat' split
  all_goals omega

theorem ba_ext {a b : ByteArray} (h : a.data.toList = b.data.toList) : a = b := by
  cases a with | mk x => cases b with | mk y => cases x with | mk l => cases y with | mk m => simp at h; rw [h]
set_option maxRecDepth 100000 in
theorem encode_eq {r : Int} (h : cp r) : Utf8.encode r = asText (enL r) := by
  have hv : Utf8.valid r = true := by rw [validRune_eq]; unfold validRune; unfold cp at h; exact decide_eq_true (by omega)
  apply ba_ext
  rw [asText_data]
  unfold Utf8.encode
  simp only [hv, if_true]
  rcases cp_cases h with q | q | q | q
  · rw [enL_one q.1 q.2, if_pos (by omega)]; rfl
  · rw [enL_two q.1 q.2, if_neg (by omega), if_pos (by omega)]
    simp only [List.map_cons, List.map_nil]
    rw [show (192 + r / 64).toNat = 192 + r.toNat / 64 from by omega, show (128 + r % 64).toNat = 128 + r.toNat % 64 from by omega]
  · rw [enL_three q, if_neg (by omega), if_neg (by omega), if_pos (by omega)]
    simp only [List.map_cons, List.map_nil]
    rw [show (224 + r / 4096).toNat = 224 + r.toNat / 4096 from by omega, show (128 + r / 64 % 64).toNat = 128 + r.toNat / 64 % 64 from by omega, show (128 + r % 64).toNat = 128 + r.toNat % 64 from by omega]
  · rw [enL_four q.1 q.2, if_neg (by omega), if_neg (by omega), if_neg (by omega)]
    simp only [List.map_cons, List.map_nil]
    rw [show (240 + r / 262144).toNat = 240 + r.toNat / 262144 from by omega, show (128 + r / 4096 % 64).toNat = 128 + r.toNat / 4096 % 64 from by omega, show (128 + r / 64 % 64).toNat = 128 + r.toNat / 64 % 64 from by omega, show (128 + r % 64).toNat = 128 + r.toNat % 64 from by omega]

/-- What four bytes tell: a code point and its length; or what stands for none. -/
def deB (b c d e : Int) : Int × Nat :=
  if b < 128 then (b, 1) else
  if (194 ≤ b ∧ b ≤ 223) ∧ (128 ≤ c ∧ c < 192) then ((b - 192) * 64 + (c - 128), 2) else
  if (224 ≤ b ∧ b ≤ 239) ∧ (128 ≤ c ∧ c < 192) ∧ (128 ≤ d ∧ d < 192) ∧ (b ≠ 224 ∨ 160 ≤ c) ∧ (b ≠ 237 ∨ c < 160) then ((b - 224) * 4096 + (c - 128) * 64 + (d - 128), 3) else
  if (240 ≤ b ∧ b ≤ 244) ∧ (128 ≤ c ∧ c < 192) ∧ (128 ≤ d ∧ d < 192) ∧ (128 ≤ e ∧ e < 192) ∧ (b ≠ 240 ∨ 144 ≤ c) ∧ (b ≠ 244 ∨ c < 144) then ((b - 240) * 262144 + (c - 128) * 4096 + (d - 128) * 64 + (e - 128), 4) else (65533, 1)
def dec4 (s : ByteArray) (i : Nat) : Int × Nat := deB (chr s i) (chr s (i + 1)) (chr s (i + 2)) (chr s (i + 3))

set_option maxRecDepth 100000 in
set_option maxHeartbeats 4000000 in
theorem decN_deB (n b0 b1 b2 b3 : Nat) (x1 x2 x3 : Int) (h0 : b0 < 256) (h1 : b1 < 256) (h2 : b2 < 256) (h3 : b3 < 256)
    (c1 : (1 < n ∧ x1 = b1) ∨ (¬ 1 < n ∧ x1 = -1)) (c2 : (2 < n ∧ x2 = b2) ∨ (¬ 2 < n ∧ x2 = -1)) (c3 : (3 < n ∧ x3 = b3) ∨ (¬ 3 < n ∧ x3 = -1)) :
    ((Lib.decodeN n b0 b1 b2 b3).1 : Int) = (deB b0 x1 x2 x3).1 ∧ (Lib.decodeN n b0 b1 b2 b3).2 = (deB b0 x1 x2 x3).2 := by
  unfold Lib.decodeN deB
  repeat' split
  all_goals first | (exfalso; omega) | (refine ⟨?_, ?_⟩ <;> dsimp only <;> omega)
theorem get_chr (s : ByteArray) (i : Nat) (h : i < s.size) : ((s.get! i).toNat : Int) = chr s i := by
  rw [chr_in h]
  have : s.get! i = s[i] := by simp [ByteArray.get!, getElem!_pos, h]; rfl
  rw [this]
theorem near_chr (s : ByteArray) (i k : Nat) : (k < s.size - i ∧ chr s (i + k) = ((s.get! (i + k)).toNat : Int)) ∨ (¬ k < s.size - i ∧ chr s (i + k) = -1) := by
  by_cases q : i + k < s.size
  · exact .inl ⟨by omega, (get_chr s _ q).symm⟩
  · exact .inr ⟨by omega, chr_out q⟩
theorem dec_dec4 (s : ByteArray) (i : Nat) (h : i < s.size) : ((Utf8.decode s i).1 : Int) = (dec4 s i).1 ∧ (Utf8.decode s i).2 = (dec4 s i).2 := by
  have := decN_deB (s.size - i) _ _ _ _ _ _ _ (s.get! i).toNat_lt (s.get! (i + 1)).toNat_lt (s.get! (i + 2)).toNat_lt (s.get! (i + 3)).toNat_lt (near_chr s i 1) (near_chr s i 2) (near_chr s i 3)
  rw [get_chr s i h] at this
  rw [Lib.decode_at]
  exact this

/-- A list of bytes stands at a place of a text. -/
def St (s : ByteArray) (i : Nat) (l : List Int) : Prop := ∀ k x, l[k]? = some x → chr s (i + k) = x
/-- The code point whose encoding begins at a place, and its length. -/
def dcd (s : ByteArray) (i : Nat) : Option (Int × Nat) := if chr s i < 0 ∨ dec4 s i = (65533, 1) then none else some (dec4 s i)

theorem St.at0 {s : ByteArray} {i : Nat} {x : Int} {l : List Int} (h : St s i (x :: l)) : chr s i = x := h 0 x rfl
theorem St.at1 {s : ByteArray} {i : Nat} {x y : Int} {l : List Int} (h : St s i (x :: y :: l)) : chr s (i + 1) = y := h 1 y rfl
theorem St.at2 {s : ByteArray} {i : Nat} {x y z : Int} {l : List Int} (h : St s i (x :: y :: z :: l)) : chr s (i + 2) = z := h 2 z rfl
theorem St.at3 {s : ByteArray} {i : Nat} {x y z u : Int} {l : List Int} (h : St s i (x :: y :: z :: u :: l)) : chr s (i + 3) = u := h 3 u rfl
theorem St.one {s : ByteArray} {i : Nat} {x : Int} (h : chr s i = x) : St s i [x] := fun k y hk => by
  match k, hk with
  | 0, hk => cases hk; exact h
theorem St.two {s : ByteArray} {i : Nat} {x y : Int} (h : chr s i = x) (h1 : chr s (i + 1) = y) : St s i [x, y] := fun k v hk => by
  match k, hk with
  | 0, hk => cases hk; exact h
  | 1, hk => cases hk; exact h1
theorem St.three {s : ByteArray} {i : Nat} {x y z : Int} (h : chr s i = x) (h1 : chr s (i + 1) = y) (h2 : chr s (i + 2) = z) : St s i [x, y, z] := fun k v hk => by
  match k, hk with
  | 0, hk => cases hk; exact h
  | 1, hk => cases hk; exact h1
  | 2, hk => cases hk; exact h2
theorem St.four {s : ByteArray} {i : Nat} {x y z u : Int} (h : chr s i = x) (h1 : chr s (i + 1) = y) (h2 : chr s (i + 2) = z) (h3 : chr s (i + 3) = u) : St s i [x, y, z, u] := fun k v hk => by
  match k, hk with
  | 0, hk => cases hk; exact h
  | 1, hk => cases hk; exact h1
  | 2, hk => cases hk; exact h2
  | 3, hk => cases hk; exact h3

set_option maxRecDepth 100000 in
/-- What stands there is read. -/
theorem dec4_of {s : ByteArray} {i : Nat} {r : Int} (h : cp r) (hs : St s i (enL r)) : dec4 s i = (r, szI r) ∧ 0 ≤ chr s i ∧ ¬ (r = 65533 ∧ szI r = 1) := by
  unfold dec4 szI
  rcases cp_cases h with q | q | q | q
  · rw [enL_one q.1 q.2] at hs
    rw [hs.at0, if_pos (by omega)]
    unfold deB
    rw [if_pos (by omega)]
    exact ⟨rfl, by omega, by omega⟩
  · rw [enL_two q.1 q.2] at hs
    rw [hs.at0, hs.at1, if_neg (by omega), if_pos (by omega)]
    unfold deB
    rw [if_neg (by omega), if_pos (by omega)]
    exact ⟨Prod.ext (by dsimp only; omega) rfl, by omega, by omega⟩
  · rw [enL_three q] at hs
    rw [hs.at0, hs.at1, hs.at2, if_neg (by omega), if_neg (by omega), if_pos (by omega)]
    unfold deB
    rw [if_neg (by omega), if_neg (by omega), if_pos (by omega)]
    exact ⟨Prod.ext (by dsimp only; omega) rfl, by omega, by omega⟩
  · rw [enL_four q.1 q.2] at hs
    rw [hs.at0, hs.at1, hs.at2, hs.at3, if_neg (by omega), if_neg (by omega), if_neg (by omega)]
    unfold deB
    rw [if_neg (by omega), if_neg (by omega), if_neg (by omega), if_pos (by omega)]
    exact ⟨Prod.ext (by dsimp only; omega) rfl, by omega, by omega⟩

set_option maxRecDepth 100000 in
set_option maxHeartbeats 1000000 in
/-- What is read stands there. -/
theorem dcd_some {s : ByteArray} {i : Nat} {r : Int} {n : Nat} (h : dcd s i = some (r, n)) : cp r ∧ n = szI r ∧ St s i (enL r) := by
  unfold dcd at h
  split at h
  · cases h
  · next hq =>
    have h := Option.some.inj h
    have hb := chr_le s i
    generalize hB : chr s i = b at *
    generalize hC : chr s (i + 1) = c at *
    generalize hD : chr s (i + 2) = d at *
    generalize hE : chr s (i + 3) = e at *
    unfold dec4 at h hq
    rw [hB, hC, hD, hE] at h hq
    unfold deB at h hq
    unfold cp szI
    split at h
    · next q =>
      obtain ⟨rfl, rfl⟩ := Prod.mk.inj h
      rw [enL_one (by omega) (by omega), if_pos (by omega)]
      exact ⟨by omega, rfl, St.one hB⟩
    · split at h
      · next q1 q =>
        obtain ⟨hr, rfl⟩ := Prod.mk.inj h
        rw [enL_two (by omega) (by omega), if_neg (by omega), if_pos (by omega)]
        exact ⟨by omega, rfl, St.two (by omega) (by omega)⟩
      · split at h
        · next q1 q2 q =>
          obtain ⟨hr, rfl⟩ := Prod.mk.inj h
          rw [enL_three (by omega), if_neg (by omega), if_neg (by omega), if_pos (by omega)]
          exact ⟨by omega, rfl, St.three (by omega) (by omega) (by omega)⟩
        · split at h
          · next q1 q2 q3 q =>
            obtain ⟨hr, rfl⟩ := Prod.mk.inj h
            rw [enL_four (by omega) (by omega), if_neg (by omega), if_neg (by omega), if_neg (by omega)]
            exact ⟨by omega, rfl, St.four (by omega) (by omega) (by omega) (by omega)⟩
          · next q1 q2 q3 q4 =>
            rw [if_neg q1, if_neg q2, if_neg q3, if_neg q4] at hq
            exact absurd (.inr rfl) hq
theorem dcd_of {s : ByteArray} {i : Nat} {r : Int} (h : cp r) (hs : St s i (enL r)) : dcd s i = some (r, szI r) := by
  obtain ⟨h1, h2, h3⟩ := dec4_of h hs
  unfold dcd
  rw [h1, if_neg]
  rintro (q | q)
  · omega
  · exact h3 (Prod.mk.inj q)
theorem dcd_iff {s : ByteArray} {i : Nat} {r : Int} {n : Nat} : dcd s i = some (r, n) ↔ cp r ∧ n = szI r ∧ St s i (enL r) :=
  ⟨dcd_some, fun ⟨h1, h2, h3⟩ => by rw [h2]; exact dcd_of h1 h3⟩
theorem St.lt {s : ByteArray} {i : Nat} {l : List Int} (h : St s i l) (hb : By l) (h0 : l ≠ []) : i + l.length ≤ s.size := by
  have hl : l.length - 1 < l.length := by have := List.length_pos_iff.2 h0; omega
  have hx := h (l.length - 1) _ (List.getElem?_eq_getElem hl)
  have := hb _ (List.getElem_mem hl)
  have := chr_lt (s := s) (i := i + (l.length - 1)) (by omega)
  omega
theorem dcd_bd {s : ByteArray} {i : Nat} {r : Int} {n : Nat} (h : dcd s i = some (r, n)) : cp r ∧ 1 ≤ n ∧ n ≤ 4 ∧ i + n ≤ s.size := by
  obtain ⟨h1, rfl, h3⟩ := dcd_some h
  have hb := szI_bd r
  have h4 := h3.lt (enL_by r) (by intro e; have := enL_len h1; rw [e] at this; simp at this; omega)
  rw [enL_len h1] at h4
  exact ⟨h1, hb.1, hb.2, h4⟩
theorem dcd_out {s : ByteArray} {i : Nat} (h : ¬ i < s.size) : dcd s i = none := by
  unfold dcd; rw [chr_out h, if_pos (by omega)]
theorem dec4_bd (s : ByteArray) (i : Nat) : 1 ≤ (dec4 s i).2 ∧ (dec4 s i).2 ≤ 4 := by
  unfold dec4 deB; repeat' split
  all_goals (dsimp only; omega)
/-- Either an encoding begins there, or what is told is 65533 and one byte. -/
theorem dec4_cases (s : ByteArray) (i : Nat) (h : i < s.size) : dcd s i = some (dec4 s i) ∨ (dcd s i = none ∧ dec4 s i = (65533, 1)) := by
  have hb := chr_bd h
  unfold dcd
  by_cases q : dec4 s i = (65533, 1)
  · rw [if_pos (.inr q)]; exact .inr ⟨rfl, q⟩
  · rw [if_neg (by rintro (a | a); omega; exact q a)]; exact .inl rfl
end Go.Proofs.YtiillgahnbimjabDoor
