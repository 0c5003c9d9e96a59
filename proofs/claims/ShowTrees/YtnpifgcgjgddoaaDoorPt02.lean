/- DERIVED. Plain mathematics and walks, laid together (2). -/
import Derived.WalkKit
import Derived.Lib.Builder
import Derived.Lib.UnsafeStr
import Derived.Lib.AppendStr
import Derived.Lib.ConvBytes
import Derived.Lib.AtoiErrMem
import Derived.BigQuiet
import Derived.Deep.MidRow
import Derived.Lib.ItoaNum
import Derived.Test.YtnpifgcgjgddoaaDoorRows
import Derived.Maps.AppendAt
import Derived.ProofKit
import Derived.RangeFuncBox
import Derived.Laws.OwnMore
import Derived.Deep.RegionHeld3
import Derived.Test.YtnpifgcgjgddoaaDoorPt01
namespace Go.Proofs.YtnpifgcgjgddoaaDoor
open Go.RowKit
theorem eqW (x y : BitVec 256) : (x == y) = (wd x 0 == wd y 0 && (wd x 1 == wd y 1 && (wd x 2 == wd y 2 && wd x 3 == wd y 3))) := by
  rw [Bool.eq_iff_iff]
  simp only [Bool.and_eq_true, beq_iff_eq]
  exact ⟨fun h => by rw [h]; simp, fun ⟨a, b, c, d⟩ => set_ext x y a b c d⟩
theorem eq24w (a b c d a' b' c' d' : Int) (w : World) : (Op.equalIn 10000 31 (.agg #[.int .u64 a, .int .u64 b, .int .u64 c, .int .u64 d]) (.agg #[.int .u64 a', .int .u64 b', .int .u64 c', .int .u64 d'])).run Tryd.prog w = .ok (a == a' && (b == b' && (c == c' && d == d'))) w := by
  have u3 := Tryd.underlying29
  have a3 := Tryd.isAgg29
  have z3 := Tryd.sizeOf29
  rw [show (10000 : Nat) = 9999 + 1 from rfl, Op.equalIn]
  simp only [Sem.run_bind, run_underlying Tryd.underlying31, Result.andThen_ok]
  simp only [Std.Legacy.Range.forIn_eq_forIn_range', Std.Legacy.Range.size, Nat.sub_zero, Nat.add_sub_cancel, Nat.div_one, List.range'_succ, List.range'_zero, List.forIn_cons, List.forIn_nil]
  go_simp
  by_cases h1 : a = a' <;> by_cases h2 : b = b' <;> by_cases h3 : c = c' <;> by_cases h4 : d = d' <;> simp [h1, h2, h3, h4]
theorem eq24 (x y : BitVec 256) (w : World) : (Op.equalIn 10000 31 (.agg #[.int .u64 (wd x 0), .int .u64 (wd x 1), .int .u64 (wd x 2), .int .u64 (wd x 3)]) (.agg #[.int .u64 (wd y 0), .int .u64 (wd y 1), .int .u64 (wd y 2), .int .u64 (wd y 3)])).run Tryd.prog w = .ok (x == y) w := by
  rw [eq24w, eqW]
end Go.Proofs.YtnpifgcgjgddoaaDoor

namespace Go.Proofs.YtnpifgcgjgddoaaDoor
open Go.RowKit
def hxB (c : Int) : Bool := dgB c || (decide (97 ≤ c) && decide (c ≤ 102))
end Go.Proofs.YtnpifgcgjgddoaaDoor

namespace Go.Proofs.YtnpifgcgjgddoaaDoor
open Go.RowKit
/-- Does a text of some bytes stand at a place? -/
def pfx (s : ByteArray) (i : Nat) : List UInt8 → Bool
  | [] => true
  | c :: l => chr s i == (c.toNat : Int) && pfx s (i + 1) l
end Go.Proofs.YtnpifgcgjgddoaaDoor

namespace Go.Proofs.YtnpifgcgjgddoaaDoor
open Go.RowKit
def isNm (s : ByteArray) : Bool := decide (0 < s.size) && decide (s.size ≤ 32) && hdB (chr s 0) && spN nmB s 0 == s.size
theorem emp_of {s : ByteArray} (h : ¬ 0 < s.size) : s = ⟨#[]⟩ := by
  apply ByteArray.ext
  apply Array.eq_empty_of_size_eq_zero
  have : s.data.size = s.size := rfl
  omega
end Go.Proofs.YtnpifgcgjgddoaaDoor

namespace Go.Proofs.YtnpifgcgjgddoaaDoor.Q
open Go.RowKit
/-- What a reading answers: a value, or a place and an error's number. -/
abbrev Rd (α : Type) := Sum α (Int × Int)

/-- The byte of a text at a place, or -1. -/
def chr (s : ByteArray) (i : Nat) : Int := if h : i < s.size then (s[i].toNat : Int) else -1
theorem chr_in {s : ByteArray} {i : Nat} (h : i < s.size) : chr s i = (s[i].toNat : Int) := by unfold chr; rw [dif_pos h]
theorem chr_out {s : ByteArray} {i : Nat} (h : ¬ i < s.size) : chr s i = -1 := by unfold chr; rw [dif_neg h]
theorem chr_le (s : ByteArray) (i : Nat) : -1 ≤ chr s i ∧ chr s i ≤ 255 := by
  unfold chr
  split
  · have := s[i].toNat_lt; omega
  · omega
theorem chr_lt {s : ByteArray} {i : Nat} (h : 0 ≤ chr s i) : i < s.size := by
  by_cases hi : i < s.size
  · exact hi
  · rw [chr_out hi] at h; omega
/-- What a digit is worth, or -1. -/
def hexV (c : Int) : Int := if 48 ≤ c ∧ c ≤ 57 then c - 48 else if 97 ≤ c ∧ c ≤ 102 then c - 87 else -1
theorem hexV_bd (c : Int) : -1 ≤ hexV c ∧ hexV c ≤ 15 := by unfold hexV; split <;> (try split) <;> omega
theorem hexV_lo {c : Int} (h : 0 ≤ hexV c) : 0 ≤ c := by
  unfold hexV at h; split at h
  · omega
  · split at h <;> omega
/-- A byte told by its number, behind a backslash. -/
def rdHex (s : ByteArray) (i : Nat) : Option (Int × Nat) :=
  if 0 ≤ hexV (chr s (i + 2)) ∧ 0 ≤ hexV (chr s (i + 3)) then some (16 * hexV (chr s (i + 2)) + hexV (chr s (i + 3)), i + 4) else none
def rdEsc (s : ByteArray) (i : Nat) : Option (Int × Nat) :=
  if chr s (i + 1) = 110 then some (10, i + 2) else if chr s (i + 1) = 114 then some (13, i + 2) else if chr s (i + 1) = 116 then some (9, i + 2) else
  if chr s (i + 1) = 92 ∨ chr s (i + 1) = 39 ∨ chr s (i + 1) = 34 then some (chr s (i + 1), i + 2) else
  if chr s (i + 1) = 120 then rdHex s i else none
/-- One byte of a literal, or an error's number. -/
def rdByte (s : ByteArray) (i : Nat) : Rd (Int × Nat) :=
  if chr s i = 92 then (match rdEsc s i with | none => .inr (i, 21) | some p => .inl p) else
  if chr s i < 32 ∨ chr s i = 127 then .inr (i, 22) else .inl (chr s i, i + 1)
/-- What stands behind a literal's first mark, its second one too. -/
def rdBody (s : ByteArray) (m : Int) : Nat → Nat → List Int → Rd (List Int × Nat)
  | 0, i, _ => .inr (i, 22)
  | f + 1, i, l => if chr s i = m then .inl (l, i + 1) else if s.size ≤ i then .inr (s.size, 22) else
    match rdByte s i with
    | .inr (a, c) => .inr (a, c)
    | .inl (b, n) => rdBody s m f n (l ++ [b])
/-- A literal that begins at a place. -/
def rdCut (s : ByteArray) (i : Int) : Rd (List Int × Nat) :=
  if 65536 < s.size then .inr (0, 2) else
  if i < 0 ∨ (s.size : Int) < i then .inr (0, 1) else
  if chr s i.toNat = 39 ∨ chr s i.toNat = 34 then rdBody s (chr s i.toNat) (s.size + 1) (i.toNat + 1) [] else .inr (i, 20)
theorem rdHex_bd {s : ByteArray} {i : Nat} {b : Int} {n : Nat} (h : rdHex s i = some (b, n)) : 0 ≤ b ∧ b ≤ 255 ∧ i < n ∧ n ≤ s.size := by
  unfold rdHex at h
  split at h
  · next q =>
    cases h
    have h1 := hexV_bd (chr s (i + 2)); have h2 := hexV_bd (chr s (i + 3))
    have h3 := chr_lt (hexV_lo q.2)
    exact ⟨by omega, by omega, by omega, by omega⟩
  · cases h
theorem rdEsc_bd {s : ByteArray} {i : Nat} {b : Int} {n : Nat} (h : rdEsc s i = some (b, n)) : 0 ≤ b ∧ b ≤ 255 ∧ i < n ∧ n ≤ s.size := by
  unfold rdEsc at h
  have hb := chr_le s (i + 1)
  split at h
  · next q => cases h; have := chr_lt (s := s) (i := i + 1) (by omega); omega
  · split at h
    · next q => cases h; have := chr_lt (s := s) (i := i + 1) (by omega); omega
    · split at h
      · next q => cases h; have := chr_lt (s := s) (i := i + 1) (by omega); omega
      · split at h
        · next q => cases h; have := chr_lt (s := s) (i := i + 1) (by omega); omega
        · split at h
          · exact rdHex_bd h
          · cases h
theorem rdByte_bd {s : ByteArray} {i : Nat} {b : Int} {n : Nat} (h : rdByte s i = .inl (b, n)) : 0 ≤ b ∧ b ≤ 255 ∧ i < n ∧ n ≤ s.size := by
  unfold rdByte at h
  split at h
  · split at h
    · cases h
    · next p hp => cases h; exact rdEsc_bd hp
  · split at h
    · cases h
    · next q => cases h; have := chr_le s i; have := chr_lt (s := s) (i := i) (by omega); omega
theorem rdBody_end {s : ByteArray} {m : Int} {f i : Nat} {l : List Int} (h : chr s i = m) : rdBody s m (f + 1) i l = .inl (l, i + 1) := by
  unfold rdBody; rw [if_pos h]
theorem rdBody_step {s : ByteArray} {m : Int} {f i : Nat} {l : List Int} {b : Int} {n : Nat} (h : chr s i ≠ m) (hi : i < s.size) (hb : rdByte s i = .inl (b, n)) : rdBody s m (f + 1) i l = rdBody s m f n (l ++ [b]) := by
  rw [rdBody, if_neg h, if_neg (by omega), hb]
/-- A list of numbers as a text. -/
def asText (l : List Int) : ByteArray := l.foldl (fun r n => r.push (UInt8.ofNat n.toNat)) ByteArray.empty
theorem asText_data (l : List Int) : (asText l).data.toList = l.map (fun n => UInt8.ofNat n.toNat) := by
  have key : ∀ (l : List Int) (s : ByteArray), (l.foldl (fun r n => r.push (UInt8.ofNat n.toNat)) s).data.toList = s.data.toList ++ l.map (fun n => UInt8.ofNat n.toNat) := by
    intro l
    induction l with
    | nil => intro s; simp
    | cons b l ih => intro s; rw [List.foldl_cons, ih]; simp [ByteArray.push]
  have := key l ByteArray.empty
  simpa [asText] using this
end Go.Proofs.YtnpifgcgjgddoaaDoor.Q

namespace Go.Proofs.YtnpifgcgjgddoaaDoor.Q
open Go.RowKit
/-- The digit of a number below 16. -/
def hexD (m : Int) : Int := if m < 10 then 48 + m else 87 + m
/-- A byte as it stands in a literal. -/
def shB (b : Int) : List Int :=
  if b = 10 then [92, 110] else if b = 13 then [92, 114] else if b = 9 then [92, 116] else if b = 39 ∨ b = 92 then [92, b] else
  if 32 ≤ b ∧ b ≤ 126 then [b] else [92, 120, hexD (b / 16), hexD (b % 16)]
/-- The bytes of a text, as numbers. -/
def byl (s : ByteArray) : List Int := s.data.toList.map fun c => (c.toNat : Int)
/-- The first bytes of a literal. -/
def qTo (s : ByteArray) (k : Nat) : List Int := 39 :: ((byl s).take k).flatMap shB
def qT (s : ByteArray) : List Int := 39 :: (byl s).flatMap shB ++ [39]
/-- All are bytes. -/
def By (l : List Int) : Prop := ∀ n ∈ l, 0 ≤ n ∧ n ≤ 255

theorem By.append {a b : List Int} (h : By a) (k : By b) : By (a ++ b) := fun n hn => by
  rcases List.mem_append.1 hn with h1 | h1
  · exact h n h1
  · exact k n h1
theorem By.nil : By [] := fun n hn => by cases hn
theorem By.cons {x : Int} {l : List Int} (hx : 0 ≤ x ∧ x ≤ 255) (h : By l) : By (x :: l) := fun n hn => by
  rcases List.mem_cons.1 hn with rfl | h1
  · exact hx
  · exact h n h1
theorem hexD_bd {m : Int} (h0 : 0 ≤ m) (h1 : m < 16) : 48 ≤ hexD m ∧ hexD m ≤ 102 := by unfold hexD; split <;> omega
theorem shB_by {b : Int} (h0 : 0 ≤ b) (h1 : b ≤ 255) : By (shB b) := by
  have d1 := hexD_bd (m := b / 16) (by omega) (by omega)
  have d2 := hexD_bd (m := b % 16) (by omega) (by omega)
  unfold shB
  repeat' split
  all_goals
    intro n hn
    simp only [List.mem_cons, List.not_mem_nil, or_false] at hn
    omega
theorem shB_len (b : Int) : 1 ≤ (shB b).length ∧ (shB b).length ≤ 4 := by
  unfold shB
  repeat' split
  all_goals simp
theorem byl_by (s : ByteArray) : By (byl s) := fun n hn => by
  unfold byl at hn
  obtain ⟨c, _, rfl⟩ := List.mem_map.1 hn
  have := c.toNat_lt
  omega
theorem byl_len (s : ByteArray) : (byl s).length = s.size := by unfold byl; rw [List.length_map]; rfl
theorem byl_get (s : ByteArray) (k : Nat) (h : k < s.size) : (byl s)[k]? = some (s[k].toNat : Int) := by
  unfold byl
  rw [List.getElem?_map, List.getElem?_eq_getElem (by simpa using h)]
  rfl
theorem qTo_succ (s : ByteArray) (k : Nat) (h : k < s.size) : qTo s (k + 1) = qTo s k ++ shB (s[k].toNat : Int) := by
  unfold qTo
  have h2 := byl_get s k h
  rw [List.take_add_one, h2, List.flatMap_append]
  simp
theorem qTo_all (s : ByteArray) (k : Nat) (h : s.size ≤ k) : qTo s k ++ [39] = qT s := by
  unfold qTo qT
  rw [List.take_of_length_le (by rw [byl_len]; exact h)]
theorem flat_by {l : List Int} (h : By l) : By (l.flatMap shB) := fun n hn => by
  obtain ⟨b, hb, h2⟩ := List.mem_flatMap.1 hn
  exact shB_by (h b hb).1 (h b hb).2 n h2
theorem flat_len (l : List Int) : l.length ≤ (l.flatMap shB).length ∧ (l.flatMap shB).length ≤ 4 * l.length := by
  induction l with
  | nil => simp
  | cons b l ih => rw [List.flatMap_cons, List.length_append, List.length_cons]; have := shB_len b; omega
theorem qTo_len (s : ByteArray) (k : Nat) : (qTo s k).length ≤ 4 * k + 1 ∧ 1 ≤ (qTo s k).length := by
  unfold qTo
  have h := flat_len ((byl s).take k)
  have h2 : ((byl s).take k).length ≤ k := List.length_take_le _ _
  rw [List.length_cons]
  omega
theorem qT_by (s : ByteArray) : By (qT s) := (By.cons (by omega) (flat_by (byl_by s))).append (By.cons (by omega) By.nil)

theorem by_cells {l : List Int} (h : By l) : Lib.byteCells (l.map fun n => UInt8.ofNat n.toNat) = l.map (Value.int .u8) := by
  unfold Lib.byteCells
  rw [List.map_map]
  refine List.map_congr_left fun n hn => ?_
  have := h n hn
  show Value.int .u8 ((UInt8.ofNat n.toNat).toNat : Int) = _
  rw [UInt8.toNat_ofNat', Nat.mod_eq_of_lt (by omega)]
  congr 1
  omega
theorem asText_eq (l : List Int) : asText l = ⟨(l.map fun n => UInt8.ofNat n.toNat).toArray⟩ := by
  have h := asText_data l
  cases ht : asText l with
  | mk d =>
    rw [ht] at h
    cases d with
    | mk x => simp at h; rw [h]
theorem strCells_text {l : List Int} (h : By l) : Lib.strCells (asText l) = l.map (Value.int .u8) := by
  rw [asText_eq, ← by_cells h]; rfl
theorem asText_size (l : List Int) : (asText l).size = l.length := by
  rw [asText_eq]; show (List.toArray _).size = _; simp
theorem asText_byl (s : ByteArray) : asText (byl s) = s := by
  rw [asText_eq]
  unfold byl
  rw [List.map_map]
  have : (List.map ((fun n : Int => UInt8.ofNat n.toNat) ∘ fun c : UInt8 => (c.toNat : Int)) s.data.toList) = s.data.toList := by
    conv => rhs; rw [← List.map_id s.data.toList]
    refine List.map_congr_left fun c _ => ?_
    simp
  rw [this]
/-- What Quote answers. -/
def quV (s : ByteArray) : Value := if 65536 < s.size ∨ 65536 < (qT s).length then .tuple #[.string ⟨#[]⟩, .int .i64 2] else .tuple #[.string (asText (qT s)), .int .i64 0]
end Go.Proofs.YtnpifgcgjgddoaaDoor.Q

namespace Go.Proofs.YtnpifgcgjgddoaaDoor
open Go.RowKit
def gtK (k : Int) : Int := if k = 4 then 999999 else if k = 13 ∨ k = 14 ∨ k = 15 then 50 else 0
def nameR (s : ByteArray) (b : Nat) : Sum Tk (Nat × Int) := if 32 < spN nmB s b - b then .inr (b, 2) else .inl ⟨1, 0, b, spN nmB s b, s.extract b (spN nmB s b), 0, 0, 0, 0⟩
end Go.Proofs.YtnpifgcgjgddoaaDoor

namespace Go.Proofs.YtnpifgcgjgddoaaDoor
open Go.RowKit
def txF (k : Int) (tx : ByteArray) : Bool := if k = 1 then isNm tx else if k = 21 then (tx.toList == []) || isNm tx else if k = 2 then decide ((tx.size : Int) ≤ 255) else if k = 28 then ((tx.size : Int) == 1) else (tx.toList == [])
end Go.Proofs.YtnpifgcgjgddoaaDoor

namespace Go.Proofs.YtnpifgcgjgddoaaDoor
open Go.RowKit
def nbF (k n s0 : Int) : Bool := decide (0 ≤ n) && decide (n ≤ if k = 5 then s0 else gtK k)
end Go.Proofs.YtnpifgcgjgddoaaDoor

namespace Go.Proofs.YtnpifgcgjgddoaaDoor
open Go.RowKit
def nmR (s : ByteArray) (b d : Nat) (k : Int) : Sum Tk (Nat × Int) := match numR s d (gtK k) with
  | .inr e => .inr (b, e)
  | .inl n => .inl ⟨k, n, b, spN dgB s d, ⟨#[]⟩, 0, 0, 0, 0⟩
end Go.Proofs.YtnpifgcgjgddoaaDoor

namespace Go.Proofs.YtnpifgcgjgddoaaDoor
open Go.RowKit
/-- The signs, in the table's order. -/
def sgTab : List (Int × List UInt8) := [(29, [37, 101]), (30, [37, 102]), (14, [94, 43]), (15, [94, 45]), (13, [94]), (6, [60, 45]), (27, [45, 62]), (7, [47]), (8, [38]), (9, [33]), (10, [63]), (11, [42]), (12, [43]), (16, [40]), (17, [41]), (18, [46]), (21, [123, 58]), (22, [58, 125]), (23, [123, 124]), (24, [124, 125]), (25, [123, 126]), (26, [126, 125]), (19, [123]), (20, [125])]
/-- The first sign that fits. -/
def sgGo (s : ByteArray) (i : Nat) : List (Int × List UInt8) → Int × List UInt8
  | [] => (0, [])
  | p :: l => if pfx s i p.2 = true then p else sgGo s i l
def sgAt (s : ByteArray) (i : Nat) : Int × List UInt8 := sgGo s i sgTab
end Go.Proofs.YtnpifgcgjgddoaaDoor

namespace Go.Proofs.YtnpifgcgjgddoaaDoor
open Go.RowKit
/-- A code point: the number, the place behind it, whether it is one. -/
def ptP (s : ByteArray) (a : Nat) : Int × Nat × Bool :=
  if spN hxB s a = a ∨ 6 < spN hxB s a - a then (0, a, false) else (wthR s a 16 (spN hxB s a - a), spN hxB s a, decide (wthR s a 16 (spN hxB s a - a) ≤ 1114111))
end Go.Proofs.YtnpifgcgjgddoaaDoor

namespace Go.Proofs.YtnpifgcgjgddoaaDoor
open Go.RowKit
theorem ptP_le {s : ByteArray} {a : Nat} (ha : a ≤ s.size) : a ≤ (ptP s a).2.1 ∧ (ptP s a).2.1 ≤ s.size := by
  unfold ptP
  split
  · exact ⟨Nat.le_refl _, ha⟩
  · exact ⟨spN_ge hxB s (by decide) a, spN_le hxB s (by decide) a ha⟩
def ptsP (s : ByteArray) (b : Nat) : Sum Tk (Nat × Int) :=
  if (ptP s (b + 3)).2.2 = false then .inr (b, 30)
  else if chr s (ptP s (b + 3)).2.1 = 45 then
    (if (ptP s ((ptP s (b + 3)).2.1 + 1)).2.2 = false ∨ (ptP s ((ptP s (b + 3)).2.1 + 1)).1 < (ptP s (b + 3)).1 then .inr (b, 30)
     else if chr s (ptP s ((ptP s (b + 3)).2.1 + 1)).2.1 = 125 then .inl ⟨5, (ptP s (b + 3)).1, b, ((ptP s ((ptP s (b + 3)).2.1 + 1)).2.1 + 1 : Nat), ⟨#[]⟩, (ptP s ((ptP s (b + 3)).2.1 + 1)).1, 0, 0, 0⟩ else .inr (b, 30))
  else if chr s (ptP s (b + 3)).2.1 = 125 then .inl ⟨5, (ptP s (b + 3)).1, b, ((ptP s (b + 3)).2.1 + 1 : Nat), ⟨#[]⟩, (ptP s (b + 3)).1, 0, 0, 0⟩ else .inr (b, 30)
end Go.Proofs.YtnpifgcgjgddoaaDoor

namespace Go.Proofs.YtnpifgcgjgddoaaDoor
open Go.RowKit
abbrev nlT (b d : Nat) : Tk := ⟨21, 0, b, d, ⟨#[]⟩, 0, 0, 0, 0⟩
def grpP (s : ByteArray) (b d : Nat) : Sum Tk (Nat × Int) :=
  if hdB (chr s d) = true then
    (if 32 < spN nmB s d - d then .inr (d, 2) else if chr s (spN nmB s d) = 58 then .inl ⟨21, 0, b, (spN nmB s d + 1 : Nat), s.extract d (spN nmB s d), 0, 0, 0, 0⟩ else .inl (nlT b d))
  else .inl (nlT b d)
end Go.Proofs.YtnpifgcgjgddoaaDoor

namespace Go.Proofs.YtnpifgcgjgddoaaDoor
open Go.RowKit
theorem pfx_len {s : ByteArray} : ∀ {l : List UInt8} {i : Nat}, i ≤ s.size → pfx s i l = true → i + l.length ≤ s.size := by
  intro l
  induction l with
  | nil => intro i h _; exact h
  | cons c l ih =>
    intro i h hp
    rw [pfx, Bool.and_eq_true] at hp
    have h1 : i < s.size := chr_lt (by rw [beq_iff_eq.1 hp.1]; omega)
    have := ih (i := i + 1) (by omega) hp.2
    rw [List.length_cons]; omega
theorem sgGo_len (s : ByteArray) (i : Nat) (hi : i ≤ s.size) : ∀ l, i + (sgGo s i l).2.length ≤ s.size := by
  intro l
  induction l with
  | nil => exact hi
  | cons p l ih =>
    rw [sgGo]
    split
    · next h => exact pfx_len hi h
    · exact ih
theorem sgAt_len (s : ByteArray) (i : Nat) (hi : i ≤ s.size) : i + (sgAt s i).2.length ≤ s.size := sgGo_len s i hi _
def sigP (s : ByteArray) (b : Nat) : Sum Tk (Nat × Int) :=
  if (sgAt s b).1 = 0 then .inr (b, 50) else if (sgAt s b).1 = 13 ∨ (sgAt s b).1 = 14 ∨ (sgAt s b).1 = 15 then nmR s b (b + (sgAt s b).2.length) (sgAt s b).1
  else if (sgAt s b).1 = 21 then grpP s b (b + (sgAt s b).2.length) else .inl ⟨(sgAt s b).1, 0, b, (b + (sgAt s b).2.length : Nat), ⟨#[]⟩, 0, 0, 0, 0⟩
end Go.Proofs.YtnpifgcgjgddoaaDoor

namespace Go.Proofs.YtnpifgcgjgddoaaDoor
open Go.RowKit
theorem rdMembers_end {s : ByteArray} {f : Nat} {x : BitVec 256} {k : Nat} (h : chr s k = 93) : rdMembers s (f + 1) x k = .inl (x, k) := by
  unfold rdMembers; rw [if_pos h]
theorem rdMembers_err {s : ByteArray} {f : Nat} {x : BitVec 256} {k a : Nat} {c : Int} (h : ¬ chr s k = 93) (h1 : rdMember s k = .inr (a, c)) : rdMembers s (f + 1) x k = .inr (a, c) := by
  rw [rdMembers, if_neg h, h1]
theorem rdMembers_step {s : ByteArray} {f : Nat} {x y : BitVec 256} {k n : Nat} (h : ¬ chr s k = 93) (h1 : rdMember s k = .inl (y, n)) : rdMembers s (f + 1) x k = rdMembers s f (x ||| y) n := by
  rw [rdMembers, if_neg h, h1]

theorem rdMembers_ok {s : ByteArray} : ∀ {f : Nat} {x y : BitVec 256} {i n : Nat}, rdMembers s f x i = .inl (y, n) → i ≤ n ∧ n < s.size ∧ chr s n = 93 := by
  intro f
  induction f with
  | zero => intro x y i n h; simp [rdMembers] at h
  | succ f ih =>
    intro x y i n h
    by_cases hc : chr s i = 93
    · rw [rdMembers_end hc] at h; simp only [Sum.inl.injEq, Prod.mk.injEq] at h; obtain ⟨rfl, rfl⟩ := h; exact ⟨by omega, chr_lt (by omega), hc⟩
    · cases hm : rdMember s i with
      | inr pq =>
        obtain ⟨a', c'⟩ := pq
        rw [rdMembers_err hc hm] at h; simp at h
      | inl p => obtain ⟨y, n⟩ := p; have b := rdMember_bd hm; rw [rdMembers_step hc hm] at h; have b2 := ih h; exact ⟨by omega, b2.2⟩
end Go.Proofs.YtnpifgcgjgddoaaDoor

namespace Go.Proofs.YtnpifgcgjgddoaaDoor
open Go.RowKit
def rdEnd : Rd (BitVec 256 × Nat) → Rd (BitVec 256 × Nat)
  | .inr (a, c) => .inr (a, c)
  | .inl (x, e) => .inl (x, e + 1)
def rdTurn : Rd (BitVec 256 × Nat) → Rd (BitVec 256 × Nat)
  | .inr (a, c) => .inr (a, c)
  | .inl (x, e) => .inl (~~~ x, e + 1)
def rdRead (s : ByteArray) (i : Int) : Rd (BitVec 256 × Nat) :=
  if i < 0 ∨ (s.size : Int) < i then .inr (0, 1) else
  if chr s i.toNat = 91 then
    if chr s (i.toNat + 1) = 94 then rdTurn (rdMembers s (s.size + 1) 0#256 (i.toNat + 2)) else rdEnd (rdMembers s (s.size + 1) 0#256 (i.toNat + 1))
  else .inr (i.toNat, 6)

theorem rdRead_ok {s : ByteArray} {i : Int} {x : BitVec 256} {n : Nat} (h : rdRead s i = .inl (x, n)) : n ≤ s.size := by
  unfold rdRead at h
  split at h
  · simp at h
  · split at h
    · split at h
      · cases hm : rdMembers s (s.size + 1) 0#256 (i.toNat + 2) with
        | inr pq =>
          obtain ⟨a', c'⟩ := pq
          rw [hm] at h; simp [rdTurn] at h
        | inl p => obtain ⟨y, m⟩ := p; have b := rdMembers_ok hm; rw [hm] at h; simp only [rdTurn, Sum.inl.injEq, Prod.mk.injEq] at h; omega
      · cases hm : rdMembers s (s.size + 1) 0#256 (i.toNat + 1) with
        | inr pq =>
          obtain ⟨a', c'⟩ := pq
          rw [hm] at h; simp [rdEnd] at h
        | inl p => obtain ⟨y, m⟩ := p; have b := rdMembers_ok hm; rw [hm] at h; simp only [rdEnd, Sum.inl.injEq, Prod.mk.injEq] at h; omega
    · simp at h
end Go.Proofs.YtnpifgcgjgddoaaDoor

namespace Go.Proofs.YtnpifgcgjgddoaaDoor
open Go.RowKit
def clT (s : ByteArray) (b : Nat) : Rd (BitVec 256 × Nat) → Sum Tk (Nat × Int)
  | .inl p => .inl ⟨3, 0, b, p.2, ⟨#[]⟩, wd p.1 0, wd p.1 1, wd p.1 2, wd p.1 3⟩
  | .inr q => if q.2 = 6 ∧ q.1 = s.size then .inr (b, 52) else .inr q
end Go.Proofs.YtnpifgcgjgddoaaDoor

namespace Go.Proofs.YtnpifgcgjgddoaaDoor
open Go.RowKit
def pctP (s : ByteArray) (b : Nat) : Sum Tk (Nat × Int) :=
  if pfx s b [37, 117, 123] = true then ptsP s b else if ¬ (sgAt s b).1 = 0 then sigP s b
  else if b + 1 < s.size ∧ (cls (chr s (b + 1)).toNat).2 = 0 then .inl ⟨28, 0, b, (b + 2 : Nat), s.extract (b + 1) (b + 2), wd (cls (chr s (b + 1)).toNat).1 0, wd (cls (chr s (b + 1)).toNat).1 1, wd (cls (chr s (b + 1)).toNat).1 2, wd (cls (chr s (b + 1)).toNat).1 3⟩ else .inr (b, 10)
end Go.Proofs.YtnpifgcgjgddoaaDoor

namespace Go.Proofs.YtnpifgcgjgddoaaDoor
open Go.RowKit
def seF (k : Int) (tx : ByteArray) (s0 s1 s2 s3 : Int) : Bool := if k = 3 then true else if k = 28 then ((cls (chr tx 0).toNat).2 == 0) && (s0 == wd (cls (chr tx 0).toNat).1 0 && (s1 == wd (cls (chr tx 0).toNat).1 1 && (s2 == wd (cls (chr tx 0).toNat).1 2 && s3 == wd (cls (chr tx 0).toNat).1 3))) else if k = 5 then decide (s0 ≤ 1114111) && (s0 == s0 && (s1 == 0 && (s2 == 0 && s3 == 0))) else (s0 == 0 && (s1 == 0 && (s2 == 0 && s3 == 0)))
end Go.Proofs.YtnpifgcgjgddoaaDoor

namespace Go.Proofs.YtnpifgcgjgddoaaDoor
open Go.RowKit
def riF (t : Tk) : Bool := decide (1 ≤ t.kd) && decide (t.kd ≤ 30) && txF t.kd t.tx && nbF t.kd t.nn t.s0 && seF t.kd t.tx t.s0 t.s1 t.s2 t.s3
end Go.Proofs.YtnpifgcgjgddoaaDoor

namespace Go.Proofs.YtnpifgcgjgddoaaDoor
open Go.RowKit
/-- What a token may hold. -/
structure TkB (t : Tk) : Prop where
  n : t.nn < 9223372036854775808
  u0 : 0 ≤ t.s0
  u1 : t.s0 < 18446744073709551616
  u2 : 0 ≤ t.s1 ∧ t.s1 < 18446744073709551616
  u3 : 0 ≤ t.s2 ∧ t.s2 < 18446744073709551616
  u4 : 0 ≤ t.s3 ∧ t.s3 < 18446744073709551616
end Go.Proofs.YtnpifgcgjgddoaaDoor

namespace Go.Proofs.YtnpifgcgjgddoaaDoor
open Go.RowKit
def dgs (b : Nat) : Nat → Nat → List UInt8
  | 0, _ => []
  | f + 1, n => if n < b then [hexD n] else dgs b f (n / b) ++ [hexD (n % b)]
def dgT (b n : Nat) : List UInt8 := dgs b (n + 1) n
theorem div_less {b n : Nat} (hb : 2 ≤ b) (h : ¬ n < b) : n / b < n := Nat.div_lt_self (by omega) hb
theorem dgs_fuel (b : Nat) (hb : 2 ≤ b) : ∀ f g n, n < f → n < g → dgs b f n = dgs b g n := by
  intro f
  induction f with
  | zero => intro g n h; omega
  | succ f ih =>
    intro g n h1 h2
    cases g with
    | zero => omega
    | succ g =>
      unfold dgs
      by_cases h : n < b
      · rw [if_pos h, if_pos h]
      · have hd := div_less hb h
        rw [if_neg h, if_neg h, ih g (n / b) (by omega) (by omega)]
theorem dgT_lo {b n : Nat} (h : n < b) : dgT b n = [hexD n] := by
  unfold dgT dgs
  rw [if_pos h]
theorem dgT_hi {b n : Nat} (hb : 2 ≤ b) (h : ¬ n < b) : dgT b n = dgT b (n / b) ++ [hexD (n % b)] := by
  have hd := div_less hb h
  have e : dgT b n = dgs b n (n / b) ++ [hexD (n % b)] := by
    unfold dgT
    conv => lhs; unfold dgs
    rw [if_neg h]
  rw [e, dgs_fuel b hb n (n / b + 1) (n / b) hd (by omega)]
  rfl
theorem dgT_ne (b n : Nat) (hb : 2 ≤ b) : dgT b n ≠ [] := by
  by_cases h : n < b
  · rw [dgT_lo h]; simp
  · rw [dgT_hi hb h]; simp
theorem dgT_len (b : Nat) (hb : 2 ≤ b) : ∀ (k n : Nat), n < b ^ (k + 1) → (dgT b n).length ≤ k + 1 := by
  intro k
  induction k with
  | zero =>
    intro n h
    rw [dgT_lo (by simpa using h)]
    simp
  | succ k ih =>
    intro n h
    by_cases h1 : n < b
    · rw [dgT_lo h1]; simp
    · have h2 : n / b < b ^ (k + 1) := by
        rw [Nat.div_lt_iff_lt_mul (by omega), ← Nat.pow_succ]
        exact h
      rw [dgT_hi hb h1, List.length_append, List.length_singleton]
      have := ih (n / b) h2
      omega
end Go.Proofs.YtnpifgcgjgddoaaDoor

namespace Go.Proofs.YtnpifgcgjgddoaaDoor
open Go.RowKit
/-- The text of one span. -/
def spT (lo hi : Nat) : List UInt8 := if hi - lo = 0 then itm lo else if hi - lo = 1 then itm lo ++ itm hi else itm lo ++ [45] ++ itm hi
theorem catL (a b : List UInt8) : (⟨a.toArray⟩ : ByteArray) ++ ⟨b.toArray⟩ = ⟨(a ++ b).toArray⟩ := by apply ByteArray.ext; simp
/-- The text of one byte, as a value. -/
def itB (b : Nat) : ByteArray := ⟨(itm b).toArray⟩
theorem itB_size (b : Nat) : (itB b).size ≤ 4 := by
  show (itm b).toArray.size ≤ 4
  unfold itm
  repeat' split
  all_goals simp
theorem box2 (w : World) (a b : Value) (t : TypeId) : (w.alloc (.cells #[a, b] t)).cell? ⟨w.heap.size, 0, none⟩ = some a ∧ (w.alloc (.cells #[a, b] t)).cell? ⟨w.heap.size, 1, none⟩ = some b := by
  constructor <;> simp [go_sem]

set_option maxRecDepth 100000 in
set_option maxHeartbeats 1000000 in
theorem showSpan_any (lo hi : Nat) (hle : lo ≤ hi) (hh : hi < 256) (w : World) :
    Calls Tryd.prog 49 #[.agg #[.int .i64 lo, .int .i64 hi]] w fun e w' => e = .returned (.string ⟨(spT lo hi).toArray⟩) ∧ Below w.heap.size w w' := by
  obtain ⟨c0, c1⟩ := box2 w (.int .i64 lo) (.int .i64 hi) 100
  have C0 := (show Hid _ from c0)
  have C1 := (show Hid _ from c1)
  have HI : Hid (∀ b : Nat, b < 256 → ∀ w, Calls Tryd.prog 56 #[.int .i64 (b : Int)] w fun e w' => e = .returned (.string (itB b)) ∧ Below w.heap.size w w') := fun b hb w => item_any b hb w
  have z1 := itB_size lo
  have z2 := itB_size hi
  have HB := (show Hid _ from below1 w (.cells #[.int .i64 lo, .int .i64 hi] 100))
  by_cases h0 : hi - lo = 0
  · have e0 : ((hi : Int) - (lo : Int) == 0) = true := beq_iff_eq.2 (by omega)
    have HE : Hid (spT lo hi = itm lo) := (by show spT lo hi = _; unfold spT; rw [if_pos h0])
    go_enter Tryd.func49, Tryd.ntmps49
    go_wp2_with fail
    refine (HI.out lo (by omega) _).mono ?_
    rintro e w1 ⟨rfl, hb⟩
    have HR := (show Hid _ from HB.out.trans (hb.mono (by simp)))
    clear hb
    go_wp2
    go_ret
    exact ⟨by rw [HE.out]; rfl, HR.out⟩
  · have e0 : ((hi : Int) - (lo : Int) == 0) = false := beq_eq_false_iff_ne.2 (by omega)
    have HR : Hid (Below (w.heap.size + 1) (w.alloc (.cells #[.int .i64 lo, .int .i64 hi] 100)) (w.alloc (.cells #[.int .i64 lo, .int .i64 hi] 100))) := Below.refl _ _
    by_cases h1 : hi - lo = 1
    · have e1 : ((hi : Int) - (lo : Int) == 1) = true := beq_iff_eq.2 (by omega)
      have HE : Hid (spT lo hi = itm lo ++ itm hi) := (by show spT lo hi = _; unfold spT; rw [if_neg h0, if_pos h1])
      go_enter Tryd.func49, Tryd.ntmps49
      go_wp2
      go_region_with ((go_at_call 56; refine (HI.out _ (by omega) _).mono ?_; rintro e w1 ⟨rfl, hb⟩; have hz1 := hb.size; (try simp at hz1); have hr2 := (show Below (w.heap.size + 1) (w.alloc (.cells #[.int .i64 lo, .int .i64 hi] 100)) w1 from (by first | exact HR.out.trans (hb.mono (by omega)) | exact HR.out.drew.trans (hb.mono (by simp)))); replace HR := (show Hid _ from hr2); have d0 := (HR.out.cell (p := ⟨w.heap.size, 0, none⟩) (by simp)).trans C0.out; have d1 := (HR.out.cell (p := ⟨w.heap.size, 1, none⟩) (by simp)).trans C1.out))
      all_goals
        go_wp2
        go_ret
        exact ⟨by rw [HE.out]; exact ret_str (catL (itm lo) (itm hi)), HB.out.trans (HR.out.mono (by omega))⟩
    · have e1 : ((hi : Int) - (lo : Int) == 1) = false := beq_eq_false_iff_ne.2 (by omega)
      have HE : Hid (spT lo hi = itm lo ++ [45] ++ itm hi) := (by show spT lo hi = _; unfold spT; rw [if_neg h0, if_neg h1])
      go_enter Tryd.func49, Tryd.ntmps49
      go_wp2
      go_region_with ((go_at_call 56; refine (HI.out _ (by omega) _).mono ?_; rintro e w1 ⟨rfl, hb⟩; have hz1 := hb.size; (try simp at hz1); have hr2 := (show Below (w.heap.size + 1) (w.alloc (.cells #[.int .i64 lo, .int .i64 hi] 100)) w1 from (by first | exact HR.out.trans (hb.mono (by omega)) | exact HR.out.drew.trans (hb.mono (by simp)))); replace HR := (show Hid _ from hr2); have d0 := (HR.out.cell (p := ⟨w.heap.size, 0, none⟩) (by simp)).trans C0.out; have d1 := (HR.out.cell (p := ⟨w.heap.size, 1, none⟩) (by simp)).trans C1.out))
      all_goals
        go_wp2
        go_ret
        exact ⟨by rw [HE.out]; exact ret_str (by exact (congrArg (· ++ itB hi) (catL (itm lo) [45])).trans (catL (itm lo ++ [45]) (itm hi))), HB.out.trans (HR.out.mono (by omega))⟩
end Go.Proofs.YtnpifgcgjgddoaaDoor

namespace Go.Proofs.YtnpifgcgjgddoaaDoor
open Go.RowKit
def gnm (s : ByteArray) : ByteArray := if s.size = 0 then ⟨#[]⟩ else s ++ ⟨#[58]⟩
end Go.Proofs.YtnpifgcgjgddoaaDoor

namespace Go.Proofs.YtnpifgcgjgddoaaDoor
open Go.RowKit
theorem not0_any (w : World) :
    Calls Tryd.prog 54 #[.agg #[.int .u64 0, .int .u64 0, .int .u64 0, .int .u64 0]] w fun e w' => e = .returned (sv (~~~ 0#256)) ∧ Below w.heap.size w w' := by
  have h := not_any 0#256 w
  rw [sv, wd_zero, wd_zero, wd_zero, wd_zero] at h
  exact h

set_option maxRecDepth 100000 in
set_option maxHeartbeats 1000000 in
theorem full_any (x : BitVec 256) (w : World) :
    Calls Tryd.prog 47 #[sv x] w fun e w' => e = .returned (.bool (x == ~~~ 0#256)) ∧ Below w.heap.size w w' := by
  have heq := eq24
  have HR := (show Hid _ from below1 w (c4 x))
  have HX := (show Hid _ from Holds.new w x)
  generalize hq : ~~~ 0#256 = q
  have n0 : ∀ w, Calls Tryd.prog 54 #[.agg #[.int .u64 0, .int .u64 0, .int .u64 0, .int .u64 0]] w fun e w' => e = .returned (sv q) ∧ Below w.heap.size w w' := by rw [← hq]; exact not0_any
  have N0 := (show Hid _ from n0)
  clear n0 hq
  go_enter Tryd.func47, Tryd.ntmps47
  go_wp2
  go_region_with ((go_at_call 54; refine (N0.out _).mono ?_; rintro e w1 ⟨rfl, hb⟩; obtain ⟨l0, c0, c1, c2, c3, f0, f1, f2, f3⟩ := (by first | exact HX.out.drew.below hb (by simp) | exact HX.out.below hb (by simp)); replace HR := (show Hid _ from (by first | exact HR.out.drew.trans (hb.mono (by simp)) | exact HR.out.trans (hb.mono (by simp))))))
  all_goals
    go_wp2
    go_ret
    exact ⟨rfl, HR.out⟩
end Go.Proofs.YtnpifgcgjgddoaaDoor

namespace Go.Proofs.YtnpifgcgjgddoaaDoor
open Go.RowKit
theorem spL_ok (bs : List Int) (p : Int × Int) (h : p ∈ spL bs) : p.1 ≤ p.2 := by
  have key : ∀ n (bs : List Int), bs.length = n → ∀ p ∈ spL bs, p.1 ≤ p.2 := fun n => by
    induction n with
    | zero => intro bs h p hp; rw [List.eq_nil_of_length_eq_zero h] at hp; simp [spL] at hp
    | succ n ih =>
      intro bs h p hp
      rcases snoc_cases bs with rfl | ⟨m, b, rfl⟩
      · simp at h
      · have ihm := ih m (by simp at h; exact h)
        rw [spL_snoc] at hp
        rcases snoc_cases (spL m) with hs | ⟨l, ⟨lo, hi⟩, hs⟩
        · rw [hs] at hp; simp [spStep] at hp; subst hp; exact Int.le_refl _
        · rw [hs] at hp ihm
          by_cases e : hi + 1 = b
          · rw [spStep_hit _ _ _ _ e] at hp
            rcases List.mem_append.1 hp with h1 | h1
            · exact ihm p (List.mem_append_left _ h1)
            · simp at h1; subst h1
              have := ihm (lo, hi) (by simp)
              simp at this ⊢; omega
          · rw [spStep_miss _ _ _ _ e] at hp
            rcases List.mem_append.1 hp with h1 | h1
            · exact ihm p h1
            · simp at h1; subst h1; exact Int.le_refl _
  exact key _ bs rfl p h

theorem bys_byte (x : BitVec 256) (b : Int) (h : b ∈ bys x) : 0 ≤ b ∧ b < 256 := bysTo_bd x 256 b h
theorem spL_from (bs : List Int) (p : Int × Int) (h : p ∈ spL bs) : p.1 ∈ bs ∧ p.2 ∈ bs := by
  have key : ∀ n (bs : List Int), bs.length = n → ∀ p ∈ spL bs, p.1 ∈ bs ∧ p.2 ∈ bs := fun n => by
    induction n with
    | zero => intro bs h p hp; rw [List.eq_nil_of_length_eq_zero h] at hp; simp [spL] at hp
    | succ n ih =>
      intro bs h p hp
      rcases snoc_cases bs with rfl | ⟨m, b, rfl⟩
      · simp at h
      · have ihm := ih m (by simp at h; exact h)
        rw [spL_snoc] at hp
        rcases snoc_cases (spL m) with hs | ⟨l, ⟨lo, hi⟩, hs⟩
        · rw [hs] at hp; simp [spStep] at hp; subst hp; simp
        · rw [hs] at hp ihm
          have inl : ∀ q ∈ l ++ [(lo, hi)], q.1 ∈ m ++ [b] ∧ q.2 ∈ m ++ [b] := fun q hq => ⟨List.mem_append_left _ (ihm q hq).1, List.mem_append_left _ (ihm q hq).2⟩
          by_cases e : hi + 1 = b
          · rw [spStep_hit _ _ _ _ e] at hp
            rcases List.mem_append.1 hp with h1 | h1
            · exact inl p (List.mem_append_left _ h1)
            · simp at h1; subst h1
              exact ⟨(inl (lo, hi) (by simp)).1, by simp⟩
          · rw [spStep_miss _ _ _ _ e] at hp
            rcases List.mem_append.1 hp with h1 | h1
            · exact inl p h1
            · simp at h1; subst h1; simp
  exact key _ bs rfl p h
theorem spL_len256 (x : BitVec 256) : (spL (bys x)).length ≤ 256 := Nat.le_trans (spL_len _) (by rw [bys_len]; exact cnt_le x)
theorem spL_byte (x : BitVec 256) (p : Int × Int) (h : p ∈ spL (bys x)) : 0 ≤ p.1 ∧ p.1 ≤ p.2 ∧ p.2 < 256 :=
  ⟨(bys_byte x _ (spL_from _ p h).1).1, spL_ok _ p h, (bys_byte x _ (spL_from _ p h).2).2⟩

/-- The members of a class text, behind one another. -/
def mems (l : List (Int × Int)) : List UInt8 := l.flatMap fun p => spT p.1.toNat p.2.toNat
theorem mems_snoc (l : List (Int × Int)) (p : Int × Int) : mems (l ++ [p]) = mems l ++ spT p.1.toNat p.2.toNat := by unfold mems; rw [List.flatMap_append]; simp
def fulB (x : BitVec 256) : Bool := x == ~~~ 0#256
/-- The class text of a set. -/
def shT (x : BitVec 256) : List UInt8 := if fulB x then [91, 94, 93] else 91 :: mems (spL (bys x)) ++ [93]
theorem fulB_any (x : BitVec 256) (w : World) : Calls Tryd.prog 47 #[sv x] w fun e w' => e = .returned (.bool (fulB x)) ∧ Below w.heap.size w w' := full_any x w
theorem itm_len (b : Nat) : (itm b).length ≤ 4 := by
  unfold itm
  repeat' split
  all_goals simp
theorem spT_len (lo hi : Nat) : (spT lo hi).length ≤ 9 := by
  have h1 := itm_len lo
  have h2 := itm_len hi
  unfold spT
  repeat' split
  · omega
  · rw [List.length_append]; omega
  · rw [List.length_append, List.length_append]; simp only [List.length_singleton]; omega
theorem mems_cons (p : Int × Int) (l : List (Int × Int)) : mems (p :: l) = spT p.1.toNat p.2.toNat ++ mems l := by unfold mems; rw [List.flatMap_cons]
theorem mems_len (l : List (Int × Int)) : (mems l).length ≤ 9 * l.length := by
  induction l with
  | nil => simp [mems]
  | cons p l ih => have := spT_len p.1.toNat p.2.toNat; rw [mems_cons, List.length_append, List.length_cons]; omega

theorem bld_below {w w' : World} {b : Nat} {bs : List Value} (h : Lib.IsBuilder 45 5 b b bs w) (hb : Below w.heap.size w w') : Lib.IsBuilder 45 5 b b bs w' := by
  have key : ∀ p, Lib.BuilderAt 45 5 b b p bs w → Lib.BuilderAt 45 5 b b p bs w' := fun p hp => by
    have hlt := hp.lt
    obtain ⟨hB, v, hbk, hown, hne⟩ := hp
    exact ⟨hB, v, (hb.block b hlt).trans hbk, own_below hown hb (by omega), hne⟩
  exact h.imp (key _) (key _)
theorem own_keepT {w w' : World} {b base : Nat} {v : Value} {n : Nat} {xs : List Value} (h : w.ownsRow base 100 2 v n xs) (hk : KeepT b w w') (hb : b < base) : w'.ownsRow base 100 2 v n xs := by
  refine ⟨h.1, h.2.imp id ?_⟩
  rintro ⟨g, cap, cur, h1, h2, h3, h4⟩
  have hlt : g < w.heap.size := (h.lt g (by rw [h1]; rfl)).2
  exact ⟨g, cap, cur, h1, h2, (hk.block g hlt (by omega) (fun c fr e => by rw [h3] at e; cases e)).trans h3, h4⟩

theorem alloc_size (w : World) (o : Obj) : (w.alloc o).heap.size = w.heap.size + 1 := by simp
theorem own_below' {w w' : World} {base e size : Nat} {v : Value} {n : Nat} {xs : List Value} (h : w.ownsRow base e size v n xs) (hb : Below w.heap.size w w') : w'.ownsRow base e size v n xs := by
  refine h.kept (row := none) ⟨hb.os, hb.tape, hb.output, hb.size, fun k hk _ => hb.block k hk⟩ ?_
  cases h2 : v.ownBlock
  · exact .inl rfl
  · exact .inr (by simp)
theorem bld_more {w : World} {b : Nat} {c : UInt8} {m l : List UInt8} (h : Lib.IsBuilder 45 5 b b (Lib.byteCells (c :: m) ++ Lib.strCells ⟨l.toArray⟩) w) : Lib.IsBuilder 45 5 b b (Lib.byteCells (c :: (m ++ l))) w := by
  rw [Lib.strCells_eq, ← Lib.byteCells_append] at h; exact h
theorem bld_more1 {w : World} {b : Nat} {m : List UInt8} (h : Lib.IsBuilder 45 5 b b (Lib.byteCells m ++ [.int .u8 93]) w) : Lib.IsBuilder 45 5 b b (Lib.byteCells (m ++ [93])) w := by
  rw [Lib.byteCells_append]; exact h
theorem len_str {SL : List (Int × Int)} {k lo hi : Nat} (h : SL.length ≤ 256) : (Lib.byteCells (91 :: mems (SL.take k))).length + (⟨(spT lo hi).toArray⟩ : ByteArray).size ≤ 140737488355328 := by
  rw [Lib.byteCells_length, List.length_cons]
  have h1 := mems_len (SL.take k)
  have h2 := spT_len lo hi
  have h3 : (SL.take k).length ≤ 256 := by rw [List.length_take]; omega
  show _ + (spT lo hi).toArray.size ≤ _
  rw [List.size_toArray]
  omega
theorem len_end {SL : List (Int × Int)} (h : SL.length ≤ 256) : (Lib.byteCells (91 :: mems SL)).length + 1 ≤ 140737488355328 := by
  rw [Lib.byteCells_length, List.length_cons]
  have h1 := mems_len SL
  omega
theorem step_at (SL : List (Int × Int)) (k : Nat) (h : k < SL.length) (hok : ∀ p ∈ SL, 0 ≤ p.1 ∧ p.1 ≤ p.2 ∧ p.2 < 256) :
    ∃ lo hi : Nat, lo ≤ hi ∧ hi < 256 ∧ (SL[k]).1 = (lo : Int) ∧ (SL[k]).2 = (hi : Int) ∧ mems (SL.take (k + 1)) = mems (SL.take k) ++ spT lo hi := by
  obtain ⟨h1, h2, h3⟩ := hok _ (List.getElem_mem h)
  refine ⟨(SL[k]).1.toNat, (SL[k]).2.toNat, by omega, by omega, by omega, by omega, ?_⟩
  rw [← mems_snoc, List.take_append_getElem h]
theorem read_at {w : World} {base : Nat} {g : Option Addr} {cap k : Nat} {SL : List (Int × Int)} (h : w.ownsRow base 100 2 (.slice g SL.length cap) SL.length (spc SL)) (hk : k < SL.length) :
    ∃ g', g = some ⟨g', 0, none⟩ ∧ w.cell? ⟨g', k * 2, none⟩ = some (.int .i64 (SL[k]).1) ∧ w.cell? ⟨g', k * 2 + 1, none⟩ = some (.int .i64 (SL[k]).2) := by
  rcases h.2 with ⟨hv, h0⟩ | ⟨g', cap', cur, hv, hr⟩
  · omega
  · cases hv
    exact ⟨g', rfl, (h.cellAt (k * 2) (by omega)).trans (spc_lo SL k hk), (h.cellAt (k * 2 + 1) (by omega)).trans (spc_hi SL k hk)⟩

set_option maxRecDepth 100000 in
set_option maxHeartbeats 2000000 in
theorem show_any (x : BitVec 256) (w : World) :
    Calls Tryd.prog 39 #[sv x] w fun e w' => e = .returned (.string ⟨(shT x).toArray⟩) ∧ Below w.heap.size w w' := by
  have HX := (show Hid _ from Holds.new w x)
  have HB := (show Hid _ from below1 w (c4 x))
  cases hf : fulB x
  · have HE : Hid (shT x = 91 :: mems (spL (bys x)) ++ [93]) := (by show shT x = _; unfold shT; rw [hf]; rfl)
    go_enter Tryd.func39, Tryd.ntmps39
    go_wp2_with fail
    refine (fulB_any x _).mono ?_
    rintro e w1 ⟨rfl, hb⟩
    have HX1 := (show Hid _ from HX.out.below hb (by simp))
    have HB1 := (show Hid _ from HB.out.trans (hb.mono (by simp)))
    have hs1 : w.heap.size < w1.heap.size := HX1.out.lt
    have hbl := (show Hid _ from Lib.fresh_isBuilder 45 5 w1)
    clear hb HX HB
    go_wp2_with fail
    refine (writeByte_any w1.heap.size [] 91 _ hbl.out (by simp)).mono ?_
    rintro e w2 ⟨rfl, hb, hb2, hk2⟩
    have HL2 := (show Hid _ from hb)
    have hs2 : w1.heap.size < w2.heap.size := by have := hb2.size; simp at this; omega
    have HB2 := (show Hid _ from (HB1.out.alloc (by omega) _).trans (hb2.mono (by omega)))
    have HX2 := (show Hid _ from (HX1.out.alloc _).below hb2 (by omega))
    clear hb hb2 hk2 hbl HB1 HX1
    obtain ⟨x0, x1, x2, x3⟩ := (⟨HX2.out.c0, HX2.out.c1, HX2.out.c2, HX2.out.c3⟩ : _ ∧ _ ∧ _ ∧ _)
    go_wp2_with fail
    refine (spans_any x _).mono ?_
    rintro e w3 ⟨v, rfl, hro, hnil, hb3⟩
    have HL3 := (show Hid _ from bld_below HL2.out hb3)
    have HB3 := (show Hid _ from HB2.out.trans (hb3.mono (by omega)))
    have hs3 := hb3.size
    have HR := (show Hid _ from hro)
    have hsl : ∃ g cap, v = .slice g (spL (bys x)).length cap := by
      rcases hro.2 with ⟨hv, h0⟩ | ⟨g, cap, cur, hv, _⟩
      · exact ⟨_, _, by rw [h0]; exact hv⟩
      · exact ⟨_, _, hv⟩
    obtain ⟨g, cap, rfl⟩ := hsl
    have HZ : Hid ((spL (bys x)).length ≤ 256) := (show (spL (bys x)).length ≤ 256 from spL_len256 x)
    have HOK : Hid (∀ p ∈ spL (bys x), 0 ≤ p.1 ∧ p.1 ≤ p.2 ∧ p.2 < 256) := (fun p hp => spL_byte x p hp)
    clear hro hnil hb3 HX2 x0 x1 x2 x3
    have HME : Hid (shT x = 91 :: mems (spL (bys x)) ++ [93]) := HE
    clear HE
    generalize spL (bys x) = SL at *
    go_wp2
    go_loopw [12] (fun t wr => ∃ k : Nat, k ≤ SL.length ∧ t = .int .i64 k ∧ Hid (Lib.IsBuilder 45 5 w1.heap.size w1.heap.size (Lib.byteCells (91 :: mems (SL.take k))) wr ∧ wr.ownsRow (w2.heap.size + 1) 100 2 (.slice g SL.length cap) SL.length (spc SL) ∧ Below w.heap.size w wr ∧ w3.heap.size ≤ wr.heap.size)) (fun t _ => SL.length - (intOf t).toNat)
    case atStart => exact ⟨0, by omega, rfl, HL3.out, HR.out, HB3.out, Nat.le_refl _⟩
    case round =>
      obtain ⟨k, hk, rfl, HI⟩ := hrel
      have hz := HZ.out
      by_cases hlt : k < SL.length
      · have hk0 : (0 : Int) ≤ (k : Int) := by omega
        have hk1 : (k : Int) < (SL.length : Int) := by omega
        obtain ⟨lo, hi, hle, hh, e1, e2, hmem⟩ := step_at SL k hlt HOK.out
        obtain ⟨g', rfl, c0, c1⟩ := read_at HI.out.2.1 hlt
        rw [e1] at c0
        rw [e2] at c1
        have hkl : k * 2 + 1 < 2 * SL.length := by omega
        go_wp2_with fail
        refine (showSpan_any lo hi hle hh _).mono ?_
        rintro e w4 ⟨rfl, hb4⟩
        have hs4 := hb4.size
        simp only [alloc_size] at hs4
        have ha4 : Below wr.heap.size wr w4 := ((Below.refl wr.heap.size wr).alloc (Nat.le_refl _) _).trans (hb4.mono (by simp))
        have hL4 := bld_below HI.out.1 ha4
        have hO4 := own_below' HI.out.2.1 ha4
        have hB4 := HI.out.2.2.1.trans (ha4.mono HI.out.2.2.1.size)
        have hz4 := HI.out.2.2.2
        have HL4 := (show Hid _ from hL4)
        have HJ := (show Hid _ from (⟨hO4, hB4, (by omega : w3.heap.size ≤ w4.heap.size)⟩ : _ ∧ _ ∧ _))
        clear hb4 ha4 hL4 hO4 hB4 hz4 HI c0 c1
        go_wp2_with fail
        refine (writeString_any w1.heap.size _ _ _ HL4.out ?_).mono ?_
        · exact len_str HZ.out
        rintro e w5 ⟨rfl, hb, hb5, hk5⟩
        have HL5 := (show Hid _ from hb)
        have HK := (show Hid _ from (⟨own_keepT HJ.out.1 hk5 (by omega), HJ.out.2.1.trans (hb5.mono (by omega)), Nat.le_trans HJ.out.2.2 hk5.size⟩ : _ ∧ _ ∧ _))
        clear hb hb5 hk5 HL4 HJ
        go_wp2
        go_roundw
        case rel => exact ⟨k + 1, by omega, by go_num, by rw [hmem]; exact bld_more HL5.out, HK.out.1, HK.out.2.1, HK.out.2.2⟩
        case measure => simp [intOf]; omega
      · obtain rfl : k = SL.length := by omega
        rw [List.take_length] at HI
        go_wp2_with fail
        refine (writeByte_any w1.heap.size _ 93 _ HI.out.1 ?_).mono ?_
        · exact len_end HZ.out
        rintro e w5 ⟨rfl, hb, hb5, hk5⟩
        have HL5 := (show Hid (Lib.IsBuilder 45 5 w1.heap.size w1.heap.size (Lib.byteCells (shT x)) w5) from (by rw [HME.out]; exact bld_more1 hb))
        have HB5 := (show Hid _ from HI.out.2.2.1.trans (hb5.mono (by omega)))
        have hs5 := hk5.size
        have hs6 := HI.out.2.2.2
        clear hb hb5 hk5
        go_wp2_with fail
        refine (Tryd.Builder_String_any w1.heap.size w1.heap.size (shT x) _ HL5.out (by omega)).mono ?_
        rintro e w6 ⟨rfl, hb6⟩
        have HB6 := (show Hid _ from HB5.out.trans (hb6.mono (by omega)))
        clear hb6
        go_wp2
        go_ret
        exact ⟨rfl, HB6.out⟩
  · have HE : Hid (shT x = [91, 94, 93]) := (by show shT x = _; unfold shT; rw [hf]; rfl)
    go_enter Tryd.func39, Tryd.ntmps39
    go_wp2_with fail
    refine (fulB_any x _).mono ?_
    rintro e w1 ⟨rfl, hb⟩
    have HB1 := (show Hid _ from HB.out.trans (hb.mono (by simp)))
    clear hb
    go_wp2
    go_ret
    exact ⟨by rw [HE.out]; rfl, HB1.out⟩
end Go.Proofs.YtnpifgcgjgddoaaDoor

namespace Go.Proofs.YtnpifgcgjgddoaaDoor.Q
open Go.RowKit
/-- The digits of 16. -/
abbrev digs : ByteArray := ⟨#[48, 49, 50, 51, 52, 53, 54, 55, 56, 57, 97, 98, 99, 100, 101, 102]⟩
end Go.Proofs.YtnpifgcgjgddoaaDoor.Q

namespace Go.Proofs.YtnpifgcgjgddoaaDoor.Q
open Go.RowKit
theorem Tryd.info5 : (Tryd.prog.info? 5).map (fun i => (i.zero, i.size, i.bytes)) = some (some (.int .u8 0), 1, 1) := by kernel_rfl

/-- A row that the call owns, behind a call that turned nothing of what was there. -/
theorem own_below {w w' : World} {base e size : Nat} {v : Value} {n : Nat} {xs : List Value} (h : w.ownsRow base e size v n xs) (hb : Below w.heap.size w w') : w'.ownsRow base e size v n xs := by
  refine h.kept (row := none) ⟨hb.os, hb.tape, hb.output, hb.size, fun k hk _ => hb.block k hk⟩ ?_
  cases h2 : v.ownBlock
  · exact .inl rfl
  · exact .inr (by simp)

/-- The text of a row of bytes that the call owns. -/
theorem text_own {w : World} {base : Nat} {v : Value} {l : List Int} (h : w.ownsRow base 5 1 v l.length (l.map (Value.int .u8))) :
    (convert 43 9 v).run Tryd.prog w = .ok (.string (asText l)) w := by
  have hc := h
  obtain ⟨hlen, h2⟩ := h
  rcases h2 with ⟨rfl, hn⟩ | ⟨g, cap, cur, rfl, _⟩
  · obtain rfl : l = [] := List.eq_nil_of_length_eq_zero hn
    rw [run_convert_bytes_string w 43 9 5 _ _ _ Tryd.underlying43 Tryd.underlying5 Tryd.underlying9]
    rfl
  · rw [run_convert_bytes_string w 43 9 5 _ _ _ Tryd.underlying43 Tryd.underlying5 Tryd.underlying9]
    refine run_bytesToString w ⟨g, 0, none⟩ l.length cap l ?_
    have := run_loadCells_list (P := Tryd.prog) (w := w) ⟨g, 0, none⟩ (l.map (Value.int .u8)) (hc.cells rfl)
    rwa [List.length_map] at this
end Go.Proofs.YtnpifgcgjgddoaaDoor.Q

namespace Go.Proofs.YtnpifgcgjgddoaaDoor.Q
open Go.RowKit
theorem Tryd.sizeB : (Tryd.prog.info? 45).map (·.size) = some 2 := by kernel_rfl

set_option maxHeartbeats 1000000 in
set_option maxRecDepth 100000 in
theorem check_used (b : Nat) (w : World) (h0 : w.cell? ⟨b, 0, none⟩ = some (.pointer (some ⟨b, 0, none⟩))) :
    Calls Tryd.prog 30 #[.pointer (some ⟨b, 0, none⟩)] w fun e w' => e = .returned (.tuple #[]) ∧ w' = w := by
  obtain ⟨j, hj, hjs⟩ := Option.map_eq_some_iff.1 Tryd.sizeB
  go_enter Tryd.func30, Tryd.ntmps30
  go_wp2
  rw [Lib.run_neq_ptr_same w _ Tryd.underlying42 hj]
  go_wp2
  go_end0
  exact ⟨rfl, rfl⟩

set_option maxHeartbeats 1000000 in
set_option maxRecDepth 100000 in
theorem check_fresh (b : Nat) (w : World) (h0 : w.cell? ⟨b, 0, none⟩ = some (.pointer none)) (hsh : w.shape? b = some (45, 2)) (hfz : w.frozen? ⟨b, 0, none⟩ = false) :
    Calls Tryd.prog 30 #[.pointer (some ⟨b, 0, none⟩)] w fun e w' => e = .returned (.tuple #[]) ∧ w' = w.setCell ⟨b, 0, none⟩ (.pointer (some ⟨b, 0, none⟩)) := by
  obtain ⟨j, hj, hjs⟩ := Option.map_eq_some_iff.1 Tryd.sizeB
  go_enter Tryd.func30, Tryd.ntmps30
  go_wp2
  rw [Lib.run_to_unsafe w ⟨b, 0, none⟩ Tryd.underlying42 Tryd.underlying85 hj (by rw [hjs]; decide) hsh (Nat.zero_lt_succ 1)]
  simp only [Result.andThen]
  rw [Oper.upon_value]
  go_wp2
  rw [run_callFunc_extern Tryd.func37 (by kernel_rfl) (by kernel_rfl) (by kernel_rfl) (e := Extern.AbiNoEscape.same) (by kernel_rfl)]
  rw [Lib.run_noEscape]
  simp only [Result.andThen]
  rw [Oper.upon_value]
  go_wp2
  rw [Lib.run_from_unsafe w ⟨b, 0, none⟩ Tryd.underlying85 Tryd.underlying42 hj hsh (by kernel_rfl)]
  simp only [Result.andThen]
  rw [Oper.upon_value]
  go_wp2
  go_end0
  exact ⟨rfl, rfl⟩

/-- Whatever is no row of bytes, and not block b, is as it was. -/
structure KeepT (b : Nat) (w w' : World) : Prop where
  size : w.heap.size ≤ w'.heap.size
  block : ∀ k, k < w.heap.size → k ≠ b → (∀ c fr, w.heap[k]? ≠ some (.cells c 5 fr)) → w'.heap[k]? = w.heap[k]?
theorem KeepT.refl (b : Nat) (w : World) : KeepT b w w := ⟨Nat.le_refl _, fun _ _ _ _ => rfl⟩
theorem KeepT.trans {b : Nat} {x y z : World} (h : KeepT b x y) (k : KeepT b y z) : KeepT b x z :=
  ⟨Nat.le_trans h.size k.size, fun j hj hb ht => by
    have e := h.block j hj hb ht
    exact (k.block j (Nat.lt_of_lt_of_le hj h.size) hb (fun c fr => by rw [e]; exact ht c fr)).trans e⟩
theorem KeepT.setCell (b j : Nat) (w : World) (u : Value) : KeepT b w (w.setCell ⟨b, j, none⟩ u) :=
  ⟨by simp [World.setCell], fun k _ hk _ => Below.heap_setCell _ _ _ _ hk⟩
theorem KeepT.alloc (b : Nat) (w : World) (o : Obj) : KeepT b w (w.alloc o) := ⟨by simp, fun k hk _ _ => Below.heap_alloc _ _ _ hk⟩
theorem KeepT.grown {b : Nat} {w w' : World} {base : Nat} {v : Value} {n : Nat} {xs : List Value} (ho : w.ownsRow base 5 1 v n xs) (hg : w.grownBy w' v.ownBlock) : KeepT b w w' :=
  ⟨hg.size, fun k hk _ ht => hg.block k hk (fun e => by
    rcases ho.2 with ⟨rfl, _⟩ | ⟨g, cap, cur, rfl, _, hgb, _⟩
    · cases e
    · obtain rfl : k = g := by simpa [Value.ownBlock] using e
      exact ht _ _ hgb)⟩
theorem check_any (b : Nat) (bs : List Value) (w : World) (h : Lib.IsBuilder 45 5 b b bs w) :
    Calls Tryd.prog 30 #[.pointer (some ⟨b, 0, none⟩)] w fun e w' => e = .returned (.tuple #[]) ∧ Lib.BuilderAt 45 5 b b (.pointer (some ⟨b, 0, none⟩)) bs w' ∧ Below b w w' ∧ KeepT b w w' := by
  rcases h with h | h
  · refine (check_fresh b w h.cell0 h.shape h.frozen0).mono ?_
    rintro e w' ⟨rfl, rfl⟩
    exact ⟨rfl, h.used _, (Below.refl b w).setCell (p := ⟨b, 0, none⟩) h.1 _, KeepT.setCell b 0 w _⟩
  · refine (check_used b w h.cell0).mono ?_
    rintro e w' ⟨rfl, rfl⟩
    exact ⟨rfl, h, Below.refl b _, KeepT.refl b _⟩

set_option maxHeartbeats 1000000 in
set_option maxRecDepth 100000 in
theorem writeByte_any (b : Nat) (bs : List Value) (c : Int) (w : World) (h : Lib.IsBuilder 45 5 b b bs w) (hlen : bs.length + 1 ≤ 140737488355328) :
    Calls Tryd.prog 45 #[.pointer (some ⟨b, 0, none⟩), .int .u8 c] w fun e w' => e = .returned .nilIface ∧ Lib.IsBuilder 45 5 b b (bs ++ [.int .u8 c]) w' ∧ Below b w w' ∧ KeepT b w w' := by
  obtain ⟨i0, hi, hz0, hz1, hz2⟩ := info_parts Tryd.info5
  go_enter Tryd.func45, Tryd.ntmps45
  go_wp2_with fail
  refine (check_any b bs _ h).mono ?_
  rintro e w1 ⟨rfl, h1, hb1, hk1⟩
  have hlt := h1.lt
  obtain ⟨hB, v, hbk, hown, hne⟩ := h1
  have c0 : w1.cell? ⟨b, 0, none⟩ = some (.pointer (some ⟨b, 0, none⟩)) := by rw [Lib.cell_of_heap hbk]; rfl
  have c1 : w1.cell? ⟨b, 1, none⟩ = some v := by rw [Lib.cell_of_heap hbk]; rfl
  go_wp2_with (at_builtin; refine wpList_append_own _ rfl _ _ 43 rfl b 5 i0 (.int .u8 0) 1 1 Tryd.underlying43 hi hz0 hz1 hz2 rfl (by decide) _ _ _ rfl (hown.alloc _) ⟨w1.heap.size, 0, none⟩ 1 1 [.int .u8 c] rfl rfl (cell_one_new _ _ _) ?c2 ?c3 ?c4 ?c5 ?_)
  case c2 => intro u hu; simp at hu; subst hu; rfl
  case c3 => unfold maxLen; omega
  case c4 => omega
  case c5 => simp; omega
  intro v' w2 hown' hgrow _
  have hb2 : w2.heap[b]? = some (.cells #[.pointer (some ⟨b, 0, none⟩), v] 45 (0, 0)) := by
    rw [hgrow.block b (by simp; omega) (fun e => hne e.symm), Lib.alloc_old w1 _ b hlt]
    exact hbk
  have d0 : w2.cell? ⟨b, 0, none⟩ = some (.pointer (some ⟨b, 0, none⟩)) := by rw [Lib.cell_of_heap hb2]; rfl
  have d1 : w2.cell? ⟨b, 1, none⟩ = some v := by rw [Lib.cell_of_heap hb2]; rfl
  have f1 : w2.frozen? ⟨b, 1, none⟩ = false := Lib.frozen_of_heap hb2 1
  obtain ⟨g, cap, rfl⟩ := ownsRow_succ hown'
  go_wp2
  go_ret
  refine ⟨rfl, .inr ?_, ?_, ?_⟩
  · exact Lib.BuilderAt.put (T := 45) (e := 5) hB hb2 (bs' := bs ++ [.int .u8 c]) (by simpa using hown') (by decide)
  · exact ((hb1.alloc (by omega) _).grown hgrow (by simp; omega) (fun k hk => (hown.lt k hk).1)).setCell (p := ⟨b, 1, none⟩) hB _
  · exact ((hk1.trans (KeepT.alloc b w1 _)).trans (KeepT.grown (hown.alloc _) hgrow)).trans (KeepT.setCell b 1 w2 _)

set_option maxHeartbeats 1000000 in
set_option maxRecDepth 100000 in
theorem writeString_any (b : Nat) (bs : List Value) (s : ByteArray) (w : World) (h : Lib.IsBuilder 45 5 b b bs w) (hlen : bs.length + s.size ≤ 140737488355328) :
    Calls Tryd.prog 20 #[.pointer (some ⟨b, 0, none⟩), .string s] w fun e w' => e = .returned (.tuple #[.int .i64 s.size, .nilIface]) ∧ Lib.IsBuilder 45 5 b b (bs ++ Lib.strCells s) w' ∧ Below b w w' ∧ KeepT b w w' := by
  obtain ⟨i0, hi, hz0, hz1, hz2⟩ := info_parts Tryd.info5
  go_enter Tryd.func20, Tryd.ntmps20
  go_wp2_with fail
  refine (check_any b bs _ h).mono ?_
  rintro e w1 ⟨rfl, h1, hb1, hk1⟩
  have hlt := h1.lt
  obtain ⟨hB, v, hbk, hown, hne⟩ := h1
  have c0 : w1.cell? ⟨b, 0, none⟩ = some (.pointer (some ⟨b, 0, none⟩)) := by rw [Lib.cell_of_heap hbk]; rfl
  have c1 : w1.cell? ⟨b, 1, none⟩ = some v := by rw [Lib.cell_of_heap hbk]; rfl
  go_wp2_with (at_builtin; refine Lib.wpList_append_own_string _ rfl _ _ 43 9 rfl b 5 i0 Tryd.underlying43 Tryd.underlying9 hi hz0 hz1 hz2 _ _ _ rfl hown s rfl ?c3 ?c4 ?c5 ?_)
  case c3 => unfold maxLen; omega
  case c4 => omega
  case c5 => omega
  intro v' w2 hown' hgrow _
  have hb2 : w2.heap[b]? = some (.cells #[.pointer (some ⟨b, 0, none⟩), v] 45 (0, 0)) := by
    rw [hgrow.block b hlt (fun e => hne e.symm)]
    exact hbk
  have d0 : w2.cell? ⟨b, 0, none⟩ = some (.pointer (some ⟨b, 0, none⟩)) := by rw [Lib.cell_of_heap hb2]; rfl
  have d1 : w2.cell? ⟨b, 1, none⟩ = some v := by rw [Lib.cell_of_heap hb2]; rfl
  have f1 : w2.frozen? ⟨b, 1, none⟩ = false := Lib.frozen_of_heap hb2 1
  obtain ⟨ao, n', cap, rfl⟩ : ∃ ao n' cap, v' = .slice ao n' cap := by
    rcases hown'.2 with ⟨hv, _⟩ | ⟨g, cap, cur, hv, _⟩
    · exact ⟨_, _, _, hv⟩
    · exact ⟨_, _, _, hv⟩
  go_wp2
  go_ret2
  refine ⟨rfl, .inr ?_, ?_, ?_⟩
  · exact Lib.BuilderAt.put (T := 45) (e := 5) hB hb2 (bs' := bs ++ Lib.strCells s) (by simpa [Lib.strCells_length] using hown') (by decide)
  · exact (hb1.grown hgrow (by omega) (fun k hk => (hown.lt k hk).1)).setCell (p := ⟨b, 1, none⟩) hB _
  · exact (hk1.trans (KeepT.grown hown hgrow)).trans (KeepT.setCell b 1 w2 _)
end Go.Proofs.YtnpifgcgjgddoaaDoor.Q

namespace Go.Proofs.YtnpifgcgjgddoaaDoor.Q
open Go.RowKit
theorem below1 (w : World) (o : Obj) : Below w.heap.size w (w.alloc o) := (Below.refl _ _).alloc (Nat.le_refl _) _
theorem lit_own (l : List Int) (hl : l.length ≤ 100) (w : World) : (w.alloc (.cells (l.map (Value.int .u8)).toArray 5)).ownsRow w.heap.size 5 1 (.slice (some ⟨w.heap.size, 0, none⟩) l.length l.length) l.length (l.map (Value.int .u8)) := by
  have h := World.ownsRow_lit (e := 5) (size := 1) (base := w.heap.size) w (l.map (Value.int .u8)).toArray l.length (Nat.le_refl _) (by unfold maxLen; omega) (by simp)
  simpa using h
theorem conv1 (c : Int) (w : World) : (convert 43 9 (.slice (some ⟨w.heap.size, 0, none⟩) 1 1)).run Tryd.prog (w.alloc (.cells #[.int .u8 c] 5)) = .ok (.string (asText [c])) (w.alloc (.cells #[.int .u8 c] 5)) :=
  text_own (l := [c]) (lit_own [c] (by simp) w)
theorem conv2 (c d : Int) (w : World) : (convert 43 9 (.slice (some ⟨w.heap.size, 0, none⟩) 2 2)).run Tryd.prog (w.alloc (.cells #[.int .u8 c, .int .u8 d] 5)) = .ok (.string (asText [c, d])) (w.alloc (.cells #[.int .u8 c, .int .u8 d] 5)) :=
  text_own (l := [c, d]) (lit_own [c, d] (by simp) w)
theorem conv4d (a b c d : Int) (w : World) : (convert 43 9 (.slice (some ⟨w.heap.size, 0, none⟩) 4 4)).run Tryd.prog (w.alloc (.cells #[.int .u8 a, .int .u8 b, .int .u8 c, .int .u8 d] 5)).drew = .ok (.string (asText [a, b, c, d])) (w.alloc (.cells #[.int .u8 a, .int .u8 b, .int .u8 c, .int .u8 d] 5)).drew :=
  text_own (l := [a, b, c, d]) (w := (w.alloc (.cells #[.int .u8 a, .int .u8 b, .int .u8 c, .int .u8 d] 5)).drew) (base := w.heap.size) (lit_own [a, b, c, d] (by simp) w)
theorem dig_of : ∀ m : Fin 16, ((digs[m.val]'m.isLt).toNat : Int) = hexD (m.val : Int) := by decide +kernel

set_option maxRecDepth 100000 in
set_option maxHeartbeats 1000000 in
theorem showB_hex (b : Nat) (hb : b < 256) (w : World) (h1 : ((b : Int) == 10) = false) (h2 : ((b : Int) == 13) = false) (h3 : ((b : Int) == 9) = false) (h4 : ((b : Int) == 39) = false) (h5 : ((b : Int) == 92) = false) (h6 : ¬ (32 ≤ (b : Int) ∧ (b : Int) ≤ 126)) :
    Calls Tryd.prog 46 #[.int .u8 b] w fun e w' => e = .returned (.string (asText [92, 120, hexD ((b : Int) / 16), hexD ((b : Int) % 16)])) ∧ Below w.heap.size w w' := by
  have t1 : IntKind.u8.wrap ((b : Int) / 16) = ((b / 16 : Nat) : Int) := by rw [IntKind.wrap_u8']; omega
  have t2 : IntKind.u8.wrap ((b : Int) % 16) = ((b % 16 : Nat) : Int) := by rw [IntKind.wrap_u8']; omega
  have t3 : (b : Int) / 16 = ((b / 16 : Nat) : Int) := by omega
  have t4 : (b : Int) % 16 = ((b % 16 : Nat) : Int) := by omega
  have k0 : (0 : Int) ≤ ((b / 16 : Nat) : Int) := by omega
  have k1 : ((b / 16 : Nat) : Int) < 16 := by omega
  have k2 : (0 : Int) ≤ ((b % 16 : Nat) : Int) := by omega
  have k3 : ((b % 16 : Nat) : Int) < 16 := by omega
  have q1 : b / 16 < 16 := by omega
  have q2 : b % 16 < 16 := by omega
  have hcv := conv4d 92 120 ((digs[b / 16]'q1).toNat : Int) ((digs[b % 16]'q2).toNat : Int) w
  have HR : Hid (asText [92, 120, hexD ((b : Int) / 16), hexD ((b : Int) % 16)] = asText [92, 120, ((digs[b / 16]'q1).toNat : Int), ((digs[b % 16]'q2).toNat : Int)]) := (by
    show _ = _
    rw [t3, t4, ← dig_of ⟨b / 16, q1⟩, ← dig_of ⟨b % 16, q2⟩])
  rw [HR.out]
  clear HR
  have hg : ¬ 32 ≤ (b : Int) ∨ (32 ≤ (b : Int) ∧ ¬ (b : Int) ≤ 126) := by omega
  clear h6
  generalize b / 16 = m at *
  generalize b % 16 = n at *
  rcases hg with hg | ⟨hg, hg2⟩
  all_goals
    go_enter Tryd.func46, Tryd.ntmps46
    go_wp2_with fail
    go_region
    all_goals
      go_wp2
      go_ret
      exact ⟨rfl, (below1 _ _).drew⟩

set_option maxRecDepth 100000 in
set_option maxHeartbeats 1000000 in
theorem showB_any (b : Nat) (hb : b < 256) (w : World) :
    Calls Tryd.prog 46 #[.int .u8 b] w fun e w' => e = .returned (.string (asText (shB b))) ∧ Below w.heap.size w w' := by
  unfold shB
  by_cases h1 : (b : Int) = 10
  · rw [if_pos h1]
    have e1 : ((b : Int) == 10) = true := beq_iff_eq.2 h1
    clear h1
    go_enter Tryd.func46, Tryd.ntmps46
    go_wp2
    go_ret
    exact ⟨rfl, Below.refl _ _⟩
  rw [if_neg h1]
  have e1 : ((b : Int) == 10) = false := beq_eq_false_iff_ne.2 h1
  by_cases h2 : (b : Int) = 13
  · rw [if_pos h2]
    have e2 : ((b : Int) == 13) = true := beq_iff_eq.2 h2
    clear h1 h2
    go_enter Tryd.func46, Tryd.ntmps46
    go_wp2
    go_ret
    exact ⟨rfl, Below.refl _ _⟩
  rw [if_neg h2]
  have e2 : ((b : Int) == 13) = false := beq_eq_false_iff_ne.2 h2
  by_cases h3 : (b : Int) = 9
  · rw [if_pos h3]
    have e3 : ((b : Int) == 9) = true := beq_iff_eq.2 h3
    clear h1 h2 h3
    go_enter Tryd.func46, Tryd.ntmps46
    go_wp2
    go_ret
    exact ⟨rfl, Below.refl _ _⟩
  rw [if_neg h3]
  have e3 : ((b : Int) == 9) = false := beq_eq_false_iff_ne.2 h3
  by_cases h4 : (b : Int) = 39 ∨ (b : Int) = 92
  · rw [if_pos h4]
    have hg : ((b : Int) == 39) = true ∨ (((b : Int) == 39) = false ∧ ((b : Int) == 92) = true) := by
      rcases h4 with h | h
      · exact .inl (beq_iff_eq.2 h)
      · exact .inr ⟨beq_eq_false_iff_ne.2 (by omega), beq_iff_eq.2 h⟩
    have hcv := conv2 92 (b : Int) w
    clear h1 h2 h3 h4
    rcases hg with e4 | ⟨e4, e5⟩
    all_goals
      go_enter Tryd.func46, Tryd.ntmps46
      go_wp2
      go_ret
      exact ⟨rfl, below1 _ _⟩
  rw [if_neg h4]
  have e4 : ((b : Int) == 39) = false := beq_eq_false_iff_ne.2 (by omega)
  have e5 : ((b : Int) == 92) = false := beq_eq_false_iff_ne.2 (by omega)
  by_cases h5 : 32 ≤ (b : Int) ∧ (b : Int) ≤ 126
  · rw [if_pos h5]
    obtain ⟨h6, h7⟩ := h5
    have hcv := conv1 (b : Int) w
    clear h1 h2 h3 h4
    go_enter Tryd.func46, Tryd.ntmps46
    go_wp2
    go_ret
    exact ⟨rfl, below1 _ _⟩
  rw [if_neg h5]
  exact showB_hex b hb w e1 e2 e3 e4 e5 h5
end Go.Proofs.YtnpifgcgjgddoaaDoor.Q

namespace Go.Proofs.YtnpifgcgjgddoaaDoor.Q
open Go.RowKit
theorem bld_below {w w' : World} {b : Nat} {bs : List Value} (h : Lib.IsBuilder 45 5 b b bs w) (hb : Below w.heap.size w w') : Lib.IsBuilder 45 5 b b bs w' := by
  have key : ∀ p, Lib.BuilderAt 45 5 b b p bs w → Lib.BuilderAt 45 5 b b p bs w' := fun p hp => by
    have hlt := hp.lt
    obtain ⟨hB, v, hbk, hown, hne⟩ := hp
    exact ⟨hB, v, (hb.block b hlt).trans hbk, own_below hown hb, hne⟩
  exact h.imp (key _) (key _)

theorem quV_long {s : ByteArray} (h : 65536 < s.size ∨ 65536 < (qT s).length) : quV s = .tuple #[.string ⟨#[]⟩, .int .i64 2] := by unfold quV; rw [if_pos h]
theorem quV_fits {s : ByteArray} (h : ¬ (65536 < s.size ∨ 65536 < (qT s).length)) : quV s = .tuple #[.string (asText (qT s)), .int .i64 0] := by unfold quV; rw [if_neg h]

set_option maxRecDepth 100000 in
set_option maxHeartbeats 4000000 in
theorem quote_any (s : ByteArray) (w : World) :
    Calls Tryd.prog 38 #[.string s] w fun e w' => e = .returned (quV s) ∧ Below w.heap.size w w' := by
  by_cases h : 65536 < s.size
  · have HE := (show Hid _ from quV_long (.inl h))
    have h1 : (65536 : Int) < (s.size : Int) := by omega
    go_enter Tryd.func38, Tryd.ntmps38
    go_wp2
    go_ret2
    exact ⟨by rw [HE.out]; rfl, Below.refl _ _⟩
  · have h1 : ¬ (65536 : Int) < (s.size : Int) := by omega
    have t1 : decide ((65536 : Int) < (s.size : Int)) = false := decide_eq_false (by omega)
    have HK := (show Hid _ from Lib.fresh_isBuilder 45 5 w)
    have HB := (show Hid _ from below1 w (.cells #[.pointer none, .slice none 0 0] 45))
    go_enter Tryd.func38, Tryd.ntmps38
    go_wp2_with fail
    refine (writeByte_any w.heap.size [] 39 _ HK.out (by simp)).mono ?_
    rintro e w1 ⟨rfl, hk1, hb1, _⟩
    have HK1 := (show Hid (Lib.IsBuilder 45 5 w.heap.size w.heap.size ((qTo s 0).map (Value.int .u8)) w1) from hk1)
    have HB1 := (show Hid _ from HB.out.trans (hb1.mono (Nat.le_refl _)))
    clear hk1 hb1 HK HB
    go_wp2_with fail
    go_loopw [5] (fun t wr => ∃ k : Nat, k ≤ s.size ∧ t = .int .i64 k ∧ Hid (Lib.IsBuilder 45 5 w.heap.size w.heap.size ((qTo s k).map (Value.int .u8)) wr ∧ Below w.heap.size w wr)) (fun t _ => s.size - (intOf t).toNat)
    case atStart => exact ⟨0, by omega, rfl, HK1.out, HB1.out⟩
    case round =>
      obtain ⟨k, hk, rfl, HI⟩ := hrel
      clear HK1 HB1
      have hql := qTo_len s k
      by_cases hlt : k < s.size
      · have HS := (show Hid _ from qTo_succ s k hlt)
        have hbb : s[k].toNat < 256 := s[k].toNat_lt
        have HW : Hid (∀ w, Calls Tryd.prog 46 #[.int .u8 (s[k].toNat : Int)] w fun e w' => e = .returned (.string (asText (shB (s[k].toNat : Int)))) ∧ Below w.heap.size w w') := fun w => showB_any _ hbb w
        have HT : Hid ((asText (shB (s[k].toNat : Int))).size ≤ 4) := (by show _ ≤ 4; rw [asText_size]; exact (shB_len _).2)
        have HC : Hid (Lib.strCells (asText (shB (s[k].toNat : Int))) = (shB (s[k].toNat : Int)).map (Value.int .u8)) := strCells_text (shB_by (by omega) (by omega))
        go_wp2_with fail
        refine (HW.out _).mono ?_
        rintro e w2 ⟨rfl, hb2⟩
        have HJ := (show Hid _ from (⟨bld_below HI.out.1 hb2, HI.out.2.trans (hb2.mono HI.out.2.size)⟩ : _ ∧ _))
        clear hb2 HI HW
        go_wp2_with fail
        refine (writeString_any w.heap.size _ _ _ HJ.out.1 (by have h := HT.out; rw [List.length_map]; omega)).mono ?_
        rintro e w3 ⟨rfl, hk3, hb3, _⟩
        have HI3 := (show Hid (Lib.IsBuilder 45 5 w.heap.size w.heap.size ((qTo s (k + 1)).map (Value.int .u8)) w3 ∧ Below w.heap.size w w3) from (by
          refine ⟨?_, HJ.out.2.trans (hb3.mono (Nat.le_refl _))⟩
          rw [HS.out, List.map_append, ← HC.out]
          exact hk3))
        clear hk3 hb3 HJ
        go_wp2
        go_roundw
        case rel => exact ⟨k + 1, by omega, by go_num, HI3⟩
        case measure => simp [intOf]; omega
      · have HA := (show Hid _ from qTo_all s k (by omega))
        go_wp2_with fail
        refine (writeByte_any w.heap.size _ 39 _ HI.out.1 (by rw [List.length_map]; omega)).mono ?_
        rintro e w3 ⟨rfl, hk3, hb3, _⟩
        have HI3 := (show Hid (Lib.IsBuilder 45 5 w.heap.size w.heap.size ((qT s).map (Value.int .u8)) w3 ∧ Below w.heap.size w w3) from (by
          refine ⟨?_, HI.out.2.trans (hb3.mono (Nat.le_refl _))⟩
          rw [← HA.out, List.map_append]
          exact hk3))
        clear hk3 hb3 HI HA
        go_wp2_with fail
        refine (Tryd.Builder_Len w.heap.size w.heap.size _ _ HI3.out.1).mono ?_
        rintro e w4 ⟨rfl, rfl⟩
        rw [List.length_map]
        by_cases hq : 65536 < (qT s).length
        · have HE := (show Hid _ from quV_long (.inr hq))
          have hqI : (65536 : Int) < ((qT s).length : Int) := by omega
          go_wp2
          go_ret2
          exact ⟨by rw [HE.out]; rfl, HI3.out.2⟩
        · have HE := (show Hid _ from quV_fits (s := s) (by omega))
          have hqI : ¬ (65536 : Int) < ((qT s).length : Int) := by omega
          have HX := (show Hid (Lib.IsBuilder 45 5 w.heap.size w.heap.size (Lib.byteCells ((qT s).map fun n => UInt8.ofNat n.toNat)) w4) from (by
            show Lib.IsBuilder _ _ _ _ _ _
            rw [by_cells (qT_by s)]
            exact HI3.out.1))
          clear hq
          generalize (qT s).length = L at *
          go_wp2_with fail
          refine (Tryd.Builder_String_any w.heap.size w.heap.size _ _ HX.out HI3.out.2.size).mono ?_
          rintro e w5 ⟨rfl, hb5⟩
          go_wp2
          go_ret2
          exact ⟨by rw [HE.out, asText_eq]; rfl, HI3.out.2.trans hb5⟩
end Go.Proofs.YtnpifgcgjgddoaaDoor.Q

namespace Go.Proofs.YtnpifgcgjgddoaaDoor
open Go.RowKit
theorem q_chr (s : ByteArray) (i : Nat) : Q.chr s i = chr s i := rfl
theorem q_text (l : List Int) : Q.asText l = asText l := rfl
/-- The program's reading of a literal, by what Cut answers. -/
def litP (s : ByteArray) (b : Nat) : Q.Rd (List Int × Nat) → Sum Tk (Nat × Int)
  | .inr (a, c) => if c = 21 then .inr (a.toNat, 51) else if c = 22 ∧ a < (s.size : Int) then .inr (a.toNat, 50) else .inr (b, 52)
  | .inl (l, e) => if 255 < l.length then .inr (b, 2) else .inl ⟨2, 0, b, e, asText l, 0, 0, 0, 0⟩
theorem esc_same (s : ByteArray) (i : Nat) : Q.rdEsc s i = (escT s i).map fun p => ((p.1 : Int), p.2) := by
  unfold Q.rdEsc escT Q.rdHex
  rw [show Q.chr = chr from rfl, show Q.hexV = hexV from rfl]
  have hb := chr_le s (i + 1)
  by_cases a1 : chr s (i + 1) = 110
  · rw [if_pos a1, if_pos a1]; rfl
  by_cases a2 : chr s (i + 1) = 114
  · rw [if_neg a1, if_neg a1, if_pos a2, if_pos a2]; rfl
  by_cases a3 : chr s (i + 1) = 116
  · rw [if_neg a1, if_neg a1, if_neg a2, if_neg a2, if_pos a3, if_pos a3]; rfl
  rw [if_neg a1, if_neg a1, if_neg a2, if_neg a2, if_neg a3, if_neg a3]
  by_cases a4 : chr s (i + 1) = 92 ∨ chr s (i + 1) = 39 ∨ chr s (i + 1) = 34
  · rw [if_pos a4, if_pos a4, Option.map_some, Int.toNat_of_nonneg (by omega)]
  rw [if_neg a4, if_neg a4]
  by_cases h : chr s (i + 1) = 120
  · have h1 := hexV_bd (chr s (i + 2))
    rw [if_pos h]
    by_cases q : 0 ≤ hexV (chr s (i + 2)) ∧ 0 ≤ hexV (chr s (i + 3))
    · rw [if_pos q, if_pos ⟨h, q⟩, Option.map_some, Int.toNat_of_nonneg (by omega)]
    · rw [if_neg q, if_neg (fun x => q x.2)]; rfl
  · rw [if_neg h, if_neg (fun x => h x.1)]; rfl
theorem escT_lt {s : ByteArray} {i : Nat} {c n : Nat} (h : escT s i = some (c, n)) : i < n ∧ n ≤ i + 4 := by
  unfold escT at h
  split at h
  · cases h; omega
  split at h
  · cases h; omega
  split at h
  · cases h; omega
  split at h
  · cases h; omega
  split at h
  · cases h; omega
  · cases h
theorem body_same (s : ByteArray) (q : Int) (b : Nat) (hq : q = 39 ∨ q = 34) : ∀ (f i : Nat) (l : List Int), s.size < f + i → litP s b (Q.rdBody s q f i l) = litGo s q b f l i := by
  intro f
  induction f with
  | zero =>
    intro i l hf
    rw [Q.rdBody, litGo]
    rw [litP, if_neg (by decide), if_neg (by omega)]
  | succ f ih =>
    intro i l hf
    rw [Q.rdBody, litGo, q_chr]
    by_cases h1 : i < s.size
    · have hb := chr_in h1
      have hb2 : ¬ chr s i < 0 := by rw [hb]; omega
      rw [if_neg hb2]
      by_cases h2 : chr s i = q
      · rw [if_pos h2, if_pos h2]; rfl
      rw [if_neg h2, if_neg h2, if_neg (by omega)]
      by_cases h92 : chr s i = 92
      · have e1 : ¬ (chr s i < 32 ∨ chr s i = 127) := by omega
        rw [if_neg e1, if_neg (fun x => x h92)]
        unfold Q.rdByte
        rw [q_chr, if_pos h92, esc_same]
        cases he : escT s i with
        | none =>
          show litP s b (.inr ((i : Int), 21)) = _
          rw [litP, if_pos rfl]; rfl
        | some p =>
          have h3 := escT_lt (c := p.1) (n := p.2) he
          exact ih _ _ (by omega)
      · unfold Q.rdByte
        rw [q_chr, if_neg h92]
        by_cases h32 : chr s i < 32 ∨ chr s i = 127
        · rw [if_pos h32, if_pos h32]
          rw [litP, if_neg (by decide), if_pos ⟨rfl, by omega⟩]; rfl
        · rw [if_neg h32, if_neg h32, if_pos h92]
          exact ih _ _ (by omega)
    · rw [chr_out h1, if_neg (by omega), if_pos (by omega), if_pos (by omega)]
      rw [litP, if_neg (by decide), if_neg (by omega)]
theorem lit_same (s : ByteArray) (b : Nat) (hs : s.size ≤ 65536) (hb : b ≤ s.size) (hq : chr s b = 39 ∨ chr s b = 34) : litP s b (Q.rdCut s b) = litR s b := by
  unfold Q.rdCut litR
  rw [if_neg (by omega), if_neg (by omega), Int.toNat_natCast, q_chr, if_pos hq]
  exact body_same s _ b hq _ _ _ (by omega)
end Go.Proofs.YtnpifgcgjgddoaaDoor

namespace Go.Proofs.YtnpifgcgjgddoaaDoor
open Go.RowKit
def mkS (a b c d : Int) : BitVec 256 := BitVec.ofNat 256 (a.toNat + 2 ^ 64 * (b.toNat + 2 ^ 64 * (c.toNat + 2 ^ 64 * d.toNat)))
theorem mkS_wd (a b c d : Int) (ha : 0 ≤ a ∧ a < 18446744073709551616) (hb : 0 ≤ b ∧ b < 18446744073709551616) (hc : 0 ≤ c ∧ c < 18446744073709551616) (hd : 0 ≤ d ∧ d < 18446744073709551616) :
    wd (mkS a b c d) 0 = a ∧ wd (mkS a b c d) 1 = b ∧ wd (mkS a b c d) 2 = c ∧ wd (mkS a b c d) 3 = d := by
  unfold mkS
  simp only [wd, BitVec.extractLsb'_toNat, BitVec.toNat_ofNat, Nat.shiftRight_eq_div_pow]
  refine ⟨?_, ?_, ?_, ?_⟩ <;> omega
def txO (l : List UInt8) : ByteArray := ⟨l.toArray⟩
def rnT (a b : Nat) : ByteArray := ⟨#[37, 117, 123]⟩ ++ txO (dgT 16 a) ++ ⟨#[45]⟩ ++ txO (dgT 16 b) ++ ⟨#[125]⟩
def tkX (t : Tk) : ByteArray :=
  if t.kd = 1 then t.tx else if t.kd = 21 then ⟨#[123, 58]⟩ ++ gnm t.tx else if t.kd = 2 then Q.asText (Q.qT t.tx) else
  if t.kd = 3 then txO (shT (mkS t.s0 t.s1 t.s2 t.s3)) else if t.kd = 28 then ⟨#[37]⟩ ++ t.tx else if t.kd = 5 then rnT t.nn.toNat t.s0.toNat else
  if t.kd = 4 then txO (dgT 10 t.nn.toNat) else if t.kd = 13 then ⟨#[94]⟩ ++ txO (dgT 10 t.nn.toNat) else if t.kd = 14 then ⟨#[94, 43]⟩ ++ txO (dgT 10 t.nn.toNat) else
  if t.kd = 15 then ⟨#[94, 45]⟩ ++ txO (dgT 10 t.nn.toNat) else if t.kd = 29 then ⟨#[37, 101]⟩ else if t.kd = 30 then ⟨#[37, 102]⟩ else txO (sgn t.kd.toNat)
/-- What a right token holds, kind by kind. -/
theorem ri_nat {t : Tk} (h : riF t = true) : 1 ≤ t.kd ∧ t.kd ≤ 30 ∧ txF t.kd t.tx = true ∧ 0 ≤ t.nn ∧ t.nn ≤ (if t.kd = 5 then t.s0 else gtK t.kd) ∧ seF t.kd t.tx t.s0 t.s1 t.s2 t.s3 = true := by
  unfold riF nbF at h
  simp only [Bool.and_eq_true, decide_eq_true_eq] at h
  obtain ⟨⟨⟨⟨h1, h2⟩, h3⟩, h4, h5⟩, h6⟩ := h
  exact ⟨h1, h2, h3, h4, h5, h6⟩
theorem isNm_len {s : ByteArray} (h : isNm s = true) : 0 < s.size ∧ s.size ≤ 32 := by
  unfold isNm at h
  simp only [Bool.and_eq_true, decide_eq_true_eq] at h
  exact ⟨h.1.1.1, h.1.1.2⟩
theorem emp_size {s : ByteArray} (h : (s.toList == []) = true) : s.size = 0 := by
  have h := beq_iff_eq.1 h
  rw [ByteArray.toList_eq] at h
  have : s.data.toList.length = 0 := by rw [h]; rfl
  exact this
theorem txF_len {k : Int} {s : ByteArray} (h : txF k s = true) : s.size ≤ 255 := by
  unfold txF at h
  split at h
  · have := isNm_len h; omega
  split at h
  · rcases Bool.or_eq_true_iff.1 h with h | h
    · have := emp_size h; omega
    · have := isNm_len h; omega
  split at h
  · have := of_decide_eq_true h; omega
  split at h
  · have := beq_iff_eq.1 h; omega
  · have := emp_size h; omega
theorem set5_le {k s0 s1 s2 s3 : Int} {s : ByteArray} (hk : k = 5) (h : seF k s s0 s1 s2 s3 = true) : s0 ≤ 1114111 := by
  subst hk
  unfold seF at h
  rw [if_neg (by omega), if_neg (by omega), if_pos rfl] at h
  simp only [Bool.and_eq_true, decide_eq_true_eq] at h
  exact h.1
theorem txO_size (l : List UInt8) : (txO l).size = l.length := by show l.toArray.size = _; simp
theorem shT_len (x : BitVec 256) : (shT x).length ≤ 2306 := by
  unfold shT
  split
  · simp
  · have h1 := mems_len (spL (bys x))
    have h2 := spL_len256 x
    simp only [List.length_append, List.length_cons, List.length_nil]
    omega
end Go.Proofs.YtnpifgcgjgddoaaDoor

namespace Go.Proofs.YtnpifgcgjgddoaaDoor
open Go.RowKit
theorem qT_len (s : ByteArray) : (Q.qT s).length ≤ 4 * s.size + 2 := by
  have h := (Q.qTo_len s s.size).1
  rw [← Q.qTo_all s s.size (Nat.le_refl _), List.length_append, List.length_singleton]
  omega
end Go.Proofs.YtnpifgcgjgddoaaDoor

namespace Go.Proofs.YtnpifgcgjgddoaaDoor
open Go.RowKit
theorem bcells (a b : List UInt8) : Lib.byteCells (a ++ b) = Lib.byteCells a ++ Lib.byteCells b := by unfold Lib.byteCells; rw [List.map_append]
theorem scells (s : ByteArray) : Lib.strCells s = Lib.byteCells s.data.toList := rfl
end Go.Proofs.YtnpifgcgjgddoaaDoor

namespace Go.Proofs.YtnpifgcgjgddoaaDoor.T
open Go.RowKit
def dgB (c : Int) : Bool := decide (48 ≤ c) && decide (c ≤ 57)
def ltB (c : Int) : Bool := (decide (97 ≤ c) && decide (c ≤ 122)) || (decide (65 ≤ c) && decide (c ≤ 90))
def nmC (c : Int) : Bool := dgB c || ltB c || c == 95

def NmP (s : ByteArray) : Prop := 0 < s.size ∧ s.size ≤ 32 ∧ (∀ h : 0 < s.size, dgB (s[0].toNat : Int) = false) ∧ ∀ (j : Nat) (h : j < s.size), nmC (s[j].toNat : Int) = true
def decNm (s:ByteArray):Decidable (NmP s):=by unfold NmP;exact inferInstance
def nmB (s:ByteArray):Bool:=@decide (NmP s) (decNm s)
theorem nmB_t {s : ByteArray} (h : NmP s) : nmB s = true := by unfold nmB; exact @decide_eq_true _ (decNm _) h
theorem nmB_f {s : ByteArray} (h : ¬ NmP s) : nmB s = false := by unfold nmB; exact @decide_eq_false _ (decNm _) h

def tmGo (s : ByteArray) : Nat → Nat → Bool
  | 0, _ => true
  | m + 1, i => if h : i < s.size then (if (s[i].toNat : Int) = 37 then (if h2 : i + 1 < s.size then (if (s[i + 1].toNat : Int) = 37 ∨ dgB (s[i + 1].toNat : Int) = true then tmGo s m (i + 2) else false) else false) else tmGo s m (i + 1)) else true
def tmB (s : ByteArray) : Bool := if s.size ≤ 255 then tmGo s s.size 0 else false

/-- A node of a pattern. -/
structure Nd where
  op : Int
  nn : Int
  tx : ByteArray
  s0 : Int
  s1 : Int
  s2 : Int
  s3 : Int

def ar (op : Int) : Int := if op < 1 ∨ 23 < op then -1 else if op ≤ 6 ∨ op = 17 then 0 else if op = 7 ∨ op = 8 then 2 else 1
theorem ar_hi (op : Int) : ar op ≤ 2 := by
  unfold ar; split
  · omega
  · split
    · omega
    · split <;> omega

def txF (op : Int) (tx : ByteArray) : Bool := if op = 4 then decide (1 ≤ tx.size ∧ tx.size ≤ 255) else if op = 6 then nmB tx else if op = 19 then decide (tx.size = 0) || nmB tx else if op = 22 then tmB tx else decide (tx.size = 0)
def nuF (op nn : Int) : Bool := if op = 14 ∨ op = 15 ∨ op = 16 ∨ op = 23 then decide (0 ≤ nn ∧ nn ≤ 50) else decide (nn = 0)
def seF (op a b c d : Int) : Bool := if op = 5 then true else decide (a = 0 ∧ b = 0 ∧ c = 0 ∧ d = 0)
def fdF (n : Nd) : Bool := txF n.op n.tx && nuF n.op n.nn && seF n.op n.s0 n.s1 n.s2 n.s3
def alE (n : Nd) : Int := if ar n.op < 0 then 40 else if fdF n then 0 else 41

abbrev ndG (n : Nd) : Value := .agg #[.int .i64 n.op, .int .i64 n.nn, .string n.tx, .int .u64 n.s0, .int .u64 n.s1, .int .u64 n.s2, .int .u64 n.s3]
def ndV (n : Nd) : List Value := [.int .i64 n.op, .int .i64 n.nn, .string n.tx, .int .u64 n.s0, .int .u64 n.s1, .int .u64 n.s2, .int .u64 n.s3]
def ndc (l : List Nd) : List Value := l.flatMap ndV
theorem ndc_len (l : List Nd) : (ndc l).length = l.length * 7 := by
  induction l with
  | nil => rfl
  | cons a l ih => show (ndV a ++ ndc l).length = _; rw [List.length_append, ih, List.length_cons]; show 7 + _ = _; omega

theorem emp_t {s : ByteArray} (h : s.size = 0) : s.toList.isEmpty = true := by
  obtain ⟨d⟩ := s
  have h2 : d.size = 0 := h
  rw [ByteArray.toList_eq, Array.eq_empty_of_size_eq_zero h2]; rfl
theorem emp_f {s : ByteArray} (h : ¬ s.size = 0) : s.toList.isEmpty = false := by
  obtain ⟨d⟩ := s
  have h2 : ¬ d.toList.length = 0 := h
  rw [ByteArray.toList_eq]
  show d.toList.isEmpty = false
  cases hd : d.toList with
  | nil => rw [hd] at h2; exact absurd rfl h2
  | cons a b => rfl
theorem ret_bool {a b : Bool} (h : a = b) : Ending.returned (.bool a) = .returned (.bool b) := by rw [h]
end Go.Proofs.YtnpifgcgjgddoaaDoor.T
