/- DERIVED. Plain mathematics and walks, laid together (2). -/
import Derived.WalkKit
import Derived.ProofKit
import Derived.BigQuiet
import Derived.Lib.AtoiErrMem
import Derived.Deep.AppendLies
import Derived.Test.YtnpifgcgjgddoaaGreatDoorRows
import Derived.Test.YtnpifgcgjgddoaaGreatDoorPg01
namespace Go.Proofs.YtnpifgcgjgddoaaGreatDoor
open Go.RowKit
/-- The byte of a text at a place, or -1. -/
def chr (s : ByteArray) (i : Nat) : Int := if h : i < s.size then (s[i].toNat : Int) else -1
theorem chr_in {s : ByteArray} {i : Nat} (h : i < s.size) : chr s i = (s[i].toNat : Int) := by unfold chr; rw [dif_pos h]
theorem chr_out {s : ByteArray} {i : Nat} (h : ¬ i < s.size) : chr s i = -1 := by unfold chr; rw [dif_neg h]
theorem chr_le (s : ByteArray) (i : Nat) : -1 ≤ chr s i ∧ chr s i ≤ 255 := by
  unfold chr
  split
  · have := s[i].toNat_lt; omega
  · omega
theorem chr_lt {s : ByteArray} {i : Nat} (h : 0 ≤ chr s i) : i < s.size := by
  by_cases hi : i < s.size
  · exact hi
  · rw [chr_out hi] at h; omega
/-- What a digit is worth, or -1. -/
def hexV (c : Int) : Int := if 48 ≤ c ∧ c ≤ 57 then c - 48 else if 97 ≤ c ∧ c ≤ 102 then c - 87 else -1
/-- A byte told by its number, behind a backslash. -/
def rdHex (s : ByteArray) (i : Nat) : Option (Nat × Nat) :=
  if 0 ≤ hexV (chr s (i + 2)) ∧ 0 ≤ hexV (chr s (i + 3)) then some ((16 * hexV (chr s (i + 2)) + hexV (chr s (i + 3))).toNat, i + 4) else none
def rdEsc (s : ByteArray) (i : Nat) : Option (Nat × Nat) :=
  if chr s (i + 1) = 110 then some (10, i + 2) else if chr s (i + 1) = 114 then some (13, i + 2) else if chr s (i + 1) = 116 then some (9, i + 2) else
  if chr s (i + 1) = 120 then rdHex s i else if signB (chr s (i + 1)) then some ((chr s (i + 1)).toNat, i + 2) else none
def rdItem (s : ByteArray) (i : Nat) : Option (Nat × Nat) :=
  if chr s i = 92 then rdEsc s i else if chr s i = 93 ∨ chr s i = 45 ∨ chr s i = 37 ∨ prnB (chr s i) = false then none else some ((chr s i).toNat, i + 1)
/-- What is read, or a place and an error. -/
abbrev Rd (α : Type) := Sum α (Nat × Int)
def rdClass (s : ByteArray) (i : Nat) : Rd (BitVec 256 × Nat) :=
  if i + 1 < s.size ∧ (cls (chr s (i + 1)).toNat).2 = 0 then .inl ((cls (chr s (i + 1)).toNat).1, i + 2) else .inr (i, 10)
def rdMember (s : ByteArray) (i : Nat) : Rd (BitVec 256 × Nat) :=
  if chr s i = 37 then rdClass s i else
  match rdItem s i with
  | none => .inr (i, 6)
  | some (lo, n) =>
    if chr s n = 45 then
      match rdItem s (n + 1) with
      | none => .inr ((n + 1), 6)
      | some (hi, e) => if hi < lo then .inr (i, 1) else .inl (spn lo hi, e)
    else .inl (spn lo lo, n)
def rdMembers (s : ByteArray) : Nat → BitVec 256 → Nat → Rd (BitVec 256 × Nat)
  | 0, _, i => .inr (i, 6)
  | f + 1, x, i =>
    if chr s i = 93 then .inl (x, i) else
    match rdMember s i with
    | .inr (a, c) => .inr (a, c)
    | .inl (y, n) => rdMembers s f (x ||| y) n

theorem hexV_bd (c : Int) : -1 ≤ hexV c ∧ hexV c ≤ 15 := by unfold hexV; split; omega; split <;> omega
theorem hexV_chr {s : ByteArray} {i : Nat} (h : 0 ≤ hexV (chr s i)) : i < s.size := by
  by_cases hi : i < s.size
  · exact hi
  · rw [chr_out hi] at h; simp [hexV] at h
theorem rdHex_bd {s : ByteArray} {i b n : Nat} (h : rdHex s i = some (b, n)) : b < 256 ∧ i < n ∧ n ≤ s.size := by
  unfold rdHex at h
  split at h
  · rename_i hh
    have h1 := hexV_bd (chr s (i + 2)); have h2 := hexV_bd (chr s (i + 3)); have h3 := hexV_chr hh.2
    simp at h; omega
  · simp at h
theorem rdEsc_bd {s : ByteArray} {i b n : Nat} (h : rdEsc s i = some (b, n)) : b < 256 ∧ i < n ∧ n ≤ s.size := by
  unfold rdEsc at h
  have hc := chr_le s (i + 1)
  by_cases hi : i + 1 < s.size
  · split at h; (simp at h; omega)
    split at h; (simp at h; omega)
    split at h; (simp at h; omega)
    split at h; (exact rdHex_bd h)
    split at h
    · simp at h; omega
    · simp at h
  · rw [chr_out hi] at h; simp [signB] at h
theorem rdItem_bd {s : ByteArray} {i b n : Nat} (h : rdItem s i = some (b, n)) : b < 256 ∧ i < n ∧ n ≤ s.size := by
  unfold rdItem at h
  split at h
  · exact rdEsc_bd h
  · split at h
    · simp at h
    · rename_i h1
      have hc := chr_le s i
      have hi : i < s.size := by
        by_cases hi : i < s.size
        · exact hi
        · rw [chr_out hi] at h1; simp [prnB] at h1
      simp at h; omega
theorem rdMember_bd {s : ByteArray} {i n : Nat} {y : BitVec 256} (h : rdMember s i = .inl (y, n)) : i < n ∧ n ≤ s.size := by
  unfold rdMember at h
  split at h
  · unfold rdClass at h
    split at h
    · simp at h; omega
    · simp at h
  · split at h
    · simp at h
    · rename_i lo m hm
      have b1 := rdItem_bd hm
      split at h
      · split at h
        · simp at h
        · rename_i hi e he
          have b2 := rdItem_bd he
          split at h
          · simp at h
          · simp at h; omega
      · simp at h; omega
end Go.Proofs.YtnpifgcgjgddoaaGreatDoor

namespace Go.Proofs.YtnpifgcgjgddoaaGreatDoor
open Go.RowKit
def dgB (c : Int) : Bool := decide (48 ≤ c) && decide (c ≤ 57)
def hdB (c : Int) : Bool := (decide (97 ≤ c) && decide (c ≤ 122)) || (decide (65 ≤ c) && decide (c ≤ 90)) || c == 95
def nmB (c : Int) : Bool := hdB c || dgB c
/-- Behind the bytes at a place that a test lets by. -/
def spGo (P : Int → Bool) (s : ByteArray) : Nat → Nat → Nat
  | 0, i => i
  | m + 1, i => if P (chr s i) then spGo P s m (i + 1) else i
def spN (P : Int → Bool) (s : ByteArray) (i : Nat) : Nat := spGo P s (s.size - i) i
theorem spN_stop {P : Int → Bool} {s : ByteArray} {i : Nat} (h : P (chr s i) = false) : spN P s i = i := by
  unfold spN
  cases s.size - i with
  | zero => rfl
  | succ m => rw [spGo, h]; rfl
theorem spN_next {P : Int → Bool} {s : ByteArray} {i : Nat} (hn : P (-1) = false) (h : P (chr s i) = true) : i < s.size ∧ spN P s i = spN P s (i + 1) := by
  have hi : i < s.size := by
    by_cases q : i < s.size
    · exact q
    · rw [chr_out (by omega), hn] at h; cases h
  refine ⟨hi, ?_⟩
  unfold spN
  rw [show s.size - i = (s.size - (i + 1)) + 1 from by omega, spGo, h]
  rfl
theorem spN_spec (P : Int → Bool) (s : ByteArray) (hn : P (-1) = false) : ∀ d i, s.size - i = d → i ≤ spN P s i ∧ (i ≤ s.size → spN P s i ≤ s.size) ∧ P (chr s (spN P s i)) = false ∧ ∀ k, i ≤ k → k < spN P s i → P (chr s k) = true := by
  intro d
  induction d with
  | zero =>
    intro i hi
    have h : P (chr s i) = false := by rw [chr_out (by omega)]; exact hn
    rw [spN_stop h]
    exact ⟨Nat.le_refl _, fun q => q, h, fun k h1 h2 => by omega⟩
  | succ d ih =>
    intro i hi
    cases h : P (chr s i) with
    | false => rw [spN_stop h]; exact ⟨Nat.le_refl _, fun q => q, h, fun k h1 h2 => by omega⟩
    | true =>
      obtain ⟨h1, h2⟩ := spN_next hn h
      obtain ⟨i1, i2, i3, i4⟩ := ih (i + 1) (by omega)
      rw [h2]
      refine ⟨by omega, fun _ => i2 (by omega), i3, fun k k1 k2 => ?_⟩
      by_cases e : k = i
      · subst e; exact h
      · exact i4 k (by omega) k2
theorem spN_ge (P : Int → Bool) (s : ByteArray) (hn : P (-1) = false) (i : Nat) : i ≤ spN P s i := (spN_spec P s hn _ i rfl).1
theorem spN_le (P : Int → Bool) (s : ByteArray) (hn : P (-1) = false) (i : Nat) (h : i ≤ s.size) : spN P s i ≤ s.size := (spN_spec P s hn _ i rfl).2.1 h
/-- The number that k digits to a base tell, from a place on. -/
def wthR (s : ByteArray) (i : Nat) (base : Int) : Nat → Int
  | 0 => 0
  | k + 1 => wthR s i base k * base + hexV (chr s (i + k))
theorem chr_ext {s : ByteArray} {a b k : Nat} (h : a + k < b) (hb : b ≤ s.size) : chr (s.extract a b) k = chr s (a + k) := by
  have h1 : k < (s.extract a b).size := by rw [ByteArray.size_extract]; omega
  rw [chr_in h1, chr_in (show a + k < s.size by omega)]
  congr 2
  exact ByteArray.getElem_extract h1
/-- A number, or what is wrong. -/
def numR (s : ByteArray) (i : Nat) (most : Int) : Sum Int Int :=
  if spN dgB s i - i = 0 ∨ (1 < spN dgB s i - i ∧ chr s i = 48) then .inr 50
  else if 6 < spN dgB s i - i ∨ most < wthR s i 10 (spN dgB s i - i) then .inr 1
  else .inl (wthR s i 10 (spN dgB s i - i))
/-- A token. -/
structure Tk where
  kd : Int
  nn : Int
  fr : Int
  en : Int
  tx : ByteArray
  s0 : Int
  s1 : Int
  s2 : Int
  s3 : Int
/-- A byte behind a backslash in a literal. -/
def escT (s : ByteArray) (i : Nat) : Option (Nat × Nat) :=
  if chr s (i + 1) = 110 then some (10, i + 2) else if chr s (i + 1) = 114 then some (13, i + 2) else if chr s (i + 1) = 116 then some (9, i + 2)
  else if chr s (i + 1) = 92 ∨ chr s (i + 1) = 39 ∨ chr s (i + 1) = 34 then some ((chr s (i + 1)).toNat, i + 2)
  else if chr s (i + 1) = 120 ∧ 0 ≤ hexV (chr s (i + 2)) ∧ 0 ≤ hexV (chr s (i + 3)) then some ((16 * hexV (chr s (i + 2)) + hexV (chr s (i + 3))).toNat, i + 4)
  else none
def litGo (s : ByteArray) (q : Int) (b : Nat) : Nat → List Int → Nat → Sum Tk (Nat × Int)
  | 0, _, _ => .inr (b, 52)
  | f + 1, out, i =>
    if chr s i < 0 then .inr (b, 52) else if chr s i = q then (if 255 < out.length then .inr (b, 2) else .inl ⟨2, 0, b, i + 1, asText out, 0, 0, 0, 0⟩)
    else if chr s i < 32 ∨ chr s i = 127 then .inr (i, 50) else if chr s i ≠ 92 then litGo s q b f (out ++ [chr s i]) (i + 1)
    else match escT s i with
      | none => .inr (i, 51)
      | some (c, n) => litGo s q b f (out ++ [(c : Int)]) n
def litR (s : ByteArray) (b : Nat) : Sum Tk (Nat × Int) := litGo s (chr s b) b (s.size + 1) [] (b + 1)
end Go.Proofs.YtnpifgcgjgddoaaGreatDoor

namespace Go.Proofs.YtnpifgcgjgddoaaGreatDoor.T
open Go.RowKit
def dgB (c : Int) : Bool := decide (48 ≤ c) && decide (c ≤ 57)
def ltB (c : Int) : Bool := (decide (97 ≤ c) && decide (c ≤ 122)) || (decide (65 ≤ c) && decide (c ≤ 90))
def nmC (c : Int) : Bool := dgB c || ltB c || c == 95

def NmP (s : ByteArray) : Prop := 0 < s.size ∧ s.size ≤ 32 ∧ (∀ h : 0 < s.size, dgB (s[0].toNat : Int) = false) ∧ ∀ (j : Nat) (h : j < s.size), nmC (s[j].toNat : Int) = true
def decNm (s:ByteArray):Decidable (NmP s):=by unfold NmP;exact inferInstance
def nmB (s:ByteArray):Bool:=@decide (NmP s) (decNm s)
theorem nmB_t {s : ByteArray} (h : NmP s) : nmB s = true := by unfold nmB; exact @decide_eq_true _ (decNm _) h
theorem nmB_f {s : ByteArray} (h : ¬ NmP s) : nmB s = false := by unfold nmB; exact @decide_eq_false _ (decNm _) h

def tmGo (s : ByteArray) : Nat → Nat → Bool
  | 0, _ => true
  | m + 1, i => if h : i < s.size then (if (s[i].toNat : Int) = 37 then (if h2 : i + 1 < s.size then (if (s[i + 1].toNat : Int) = 37 ∨ dgB (s[i + 1].toNat : Int) = true then tmGo s m (i + 2) else false) else false) else tmGo s m (i + 1)) else true
def tmB (s : ByteArray) : Bool := if s.size ≤ 255 then tmGo s s.size 0 else false

/-- A node of a pattern. -/
structure Nd where
  op : Int
  nn : Int
  tx : ByteArray
  s0 : Int
  s1 : Int
  s2 : Int
  s3 : Int

def ar (op : Int) : Int := if op < 1 ∨ 23 < op then -1 else if op ≤ 6 ∨ op = 17 then 0 else if op = 7 ∨ op = 8 then 2 else 1
theorem ar_hi (op : Int) : ar op ≤ 2 := by
  unfold ar; split
  · omega
  · split
    · omega
    · split <;> omega

def txF (op : Int) (tx : ByteArray) : Bool := if op = 4 then decide (1 ≤ tx.size ∧ tx.size ≤ 255) else if op = 6 then nmB tx else if op = 19 then decide (tx.size = 0) || nmB tx else if op = 22 then tmB tx else decide (tx.size = 0)
def nuF (op nn : Int) : Bool := if op = 14 ∨ op = 15 ∨ op = 16 ∨ op = 23 then decide (0 ≤ nn ∧ nn ≤ 50) else decide (nn = 0)
def seF (op a b c d : Int) : Bool := if op = 5 then true else decide (a = 0 ∧ b = 0 ∧ c = 0 ∧ d = 0)
def fdF (n : Nd) : Bool := txF n.op n.tx && nuF n.op n.nn && seF n.op n.s0 n.s1 n.s2 n.s3
def alE (n : Nd) : Int := if ar n.op < 0 then 40 else if fdF n then 0 else 41

abbrev ndG (n : Nd) : Value := .agg #[.int .i64 n.op, .int .i64 n.nn, .string n.tx, .int .u64 n.s0, .int .u64 n.s1, .int .u64 n.s2, .int .u64 n.s3]
def ndV (n : Nd) : List Value := [.int .i64 n.op, .int .i64 n.nn, .string n.tx, .int .u64 n.s0, .int .u64 n.s1, .int .u64 n.s2, .int .u64 n.s3]
def ndc (l : List Nd) : List Value := l.flatMap ndV
theorem ndc_len (l : List Nd) : (ndc l).length = l.length * 7 := by
  induction l with
  | nil => rfl
  | cons a l ih => show (ndV a ++ ndc l).length = _; rw [List.length_append, ih, List.length_cons]; show 7 + _ = _; omega

theorem emp_t {s : ByteArray} (h : s.size = 0) : s.toList.isEmpty = true := by
  obtain ⟨d⟩ := s
  have h2 : d.size = 0 := h
  rw [ByteArray.toList_eq, Array.eq_empty_of_size_eq_zero h2]; rfl
theorem emp_f {s : ByteArray} (h : ¬ s.size = 0) : s.toList.isEmpty = false := by
  obtain ⟨d⟩ := s
  have h2 : ¬ d.toList.length = 0 := h
  rw [ByteArray.toList_eq]
  show d.toList.isEmpty = false
  cases hd : d.toList with
  | nil => rw [hd] at h2; exact absurd rfl h2
  | cons a b => rfl
theorem ret_bool {a b : Bool} (h : a = b) : Ending.returned (.bool a) = .returned (.bool b) := by rw [h]
end Go.Proofs.YtnpifgcgjgddoaaGreatDoor.T

namespace Go.Proofs.YtnpifgcgjgddoaaGreatDoor.N
open Go.RowKit
abbrev Nd := T.Nd
def bgK (k : Int) : Bool := k == 8 || k == 9 || k == 2 || k == 3 || k == 28 || k == 5 || k == 18 || k == 29 || k == 30 || k == 16 || k == 19 || k == 21 || k == 23 || k == 25
end Go.Proofs.YtnpifgcgjgddoaaGreatDoor.N

namespace Go.Proofs.YtnpifgcgjgddoaaGreatDoor
open Go.RowKit
/-- The digits of 16. -/
abbrev digs : ByteArray := ⟨#[48, 49, 50, 51, 52, 53, 54, 55, 56, 57, 97, 98, 99, 100, 101, 102]⟩
end Go.Proofs.YtnpifgcgjgddoaaGreatDoor

namespace Go.Proofs.YtnpifgcgjgddoaaGreatDoor
open Go.RowKit
set_option maxRecDepth 100000 in
set_option maxHeartbeats 1000000 in
theorem at_any (s : ByteArray) (i : Nat) (w : World) :
    Calls Tryz.prog 107 #[.string s, .int .i64 i] w fun e w' => e = .returned (.int .i64 (chr s i)) ∧ w' = w := by
  by_cases h : i < s.size
  · have HE := (show Hid _ from chr_in h)
    have h0 : (0 : Int) ≤ (i : Int) := by omega
    have h1 : (i : Int) < (s.size : Int) := by omega
    have hb : (s[i].toNat : Int) ≤ 255 := by have := s[i].toNat_lt; omega
    have hw8 : IntKind.i64.wrap (s[i].toNat : Int) = (s[i].toNat : Int) := by rw [IntKind.wrap_i64]; omega
    go_enter Tryz.func107, Tryz.ntmps107
    go_wp2
    go_ret
    exact ⟨by rw [HE.out]; rfl, rfl⟩
  · have HE := (show Hid _ from chr_out h)
    have h0 : (0 : Int) ≤ (i : Int) := by omega
    have h1 : ¬ (i : Int) < (s.size : Int) := by omega
    go_enter Tryz.func107, Tryz.ntmps107
    go_wp2
    go_ret
    exact ⟨by rw [HE.out]; rfl, rfl⟩

set_option maxRecDepth 100000 in
set_option maxHeartbeats 1000000 in
theorem special_any (b : Int) (w : World) :
    Calls Tryz.prog 131 #[.int .i64 b] w fun e w' => e = .returned (.bool (signB b)) ∧ w' = w := by
  cases e92 : (b == 92)
  ·
    cases e93 : (b == 93)
    ·
      cases e91 : (b == 91)
      ·
        cases e94 : (b == 94)
        ·
          cases e45 : (b == 45)
          ·
            cases e37 : (b == 37)
            ·
              have HE : Hid (signB b = false) := (by show signB b = _; simp [signB, e92, e93, e91, e94, e45, e37])
              go_enter Tryz.func131, Tryz.ntmps131
              go_wp2
              go_ret
              exact ⟨ret_bool HE.out.symm, rfl⟩
            ·
              have HE : Hid (signB b = true) := (by show signB b = _; simp [signB, e92, e93, e91, e94, e45, e37])
              go_enter Tryz.func131, Tryz.ntmps131
              go_wp2
              go_ret
              exact ⟨ret_bool HE.out.symm, rfl⟩
          ·
            have HE : Hid (signB b = true) := (by show signB b = _; simp [signB, e92, e93, e91, e94, e45])
            go_enter Tryz.func131, Tryz.ntmps131
            go_wp2
            go_ret
            exact ⟨ret_bool HE.out.symm, rfl⟩
        ·
          have HE : Hid (signB b = true) := (by show signB b = _; simp [signB, e92, e93, e91, e94])
          go_enter Tryz.func131, Tryz.ntmps131
          go_wp2
          go_ret
          exact ⟨ret_bool HE.out.symm, rfl⟩
      ·
        have HE : Hid (signB b = true) := (by show signB b = _; simp [signB, e92, e93, e91])
        go_enter Tryz.func131, Tryz.ntmps131
        go_wp2
        go_ret
        exact ⟨ret_bool HE.out.symm, rfl⟩
    ·
      have HE : Hid (signB b = true) := (by show signB b = _; simp [signB, e92, e93])
      go_enter Tryz.func131, Tryz.ntmps131
      go_wp2
      go_ret
      exact ⟨ret_bool HE.out.symm, rfl⟩
  ·
    have HE : Hid (signB b = true) := (by show signB b = _; simp [signB, e92])
    go_enter Tryz.func131, Tryz.ntmps131
    go_wp2
    go_ret
    exact ⟨ret_bool HE.out.symm, rfl⟩
end Go.Proofs.YtnpifgcgjgddoaaGreatDoor

namespace Go.Proofs.YtnpifgcgjgddoaaGreatDoor
open Go.RowKit
set_option maxRecDepth 100000 in
set_option maxHeartbeats 4000000 in
theorem head_any (c : Int) (w : World) : Calls Tryz.prog 83 #[.int .i64 c] w fun e w' => e = .returned (.bool (hdB c)) ∧ w' = w := by
  by_cases a1 : 97 ≤ c <;> by_cases a2 : c ≤ 122 <;> by_cases a3 : 65 ≤ c <;> by_cases a4 : c ≤ 90 <;> by_cases a5 : c = 95 <;> first
    | (exfalso; omega)
    | (subst a5; go_enter Tryz.func83, Tryz.ntmps83; go_wp2_with fail; go_ret; exact ⟨rfl, rfl⟩)
    | (have a6 : (c == 95) = false := beq_eq_false_iff_ne.2 a5; go_enter Tryz.func83, Tryz.ntmps83; go_wp2_with fail; go_ret; exact ⟨by simp [hdB, *], rfl⟩)
set_option maxRecDepth 100000 in
set_option maxHeartbeats 4000000 in
theorem digit_any (c : Int) (w : World) : Calls Tryz.prog 108 #[.int .i64 c] w fun e w' => e = .returned (.bool (dgB c)) ∧ w' = w := by
  by_cases a1 : 48 ≤ c <;> by_cases a2 : c ≤ 57 <;> first
    | (exfalso; omega)
    | (go_enter Tryz.func108, Tryz.ntmps108; go_wp2_with fail; go_ret; exact ⟨by simp [dgB, *], rfl⟩)
set_option maxRecDepth 100000 in
set_option maxHeartbeats 4000000 in
theorem run_any (s : ByteArray) (i : Nat) (hs : s.size ≤ 140737488355328) (hi : i ≤ 140737488355500) (w : World) : Calls Tryz.prog 84 #[.string s, .int .i64 i] w fun e w' => e = .returned (.int .i64 (spN nmB s i)) ∧ w' = w := by
  have HA : Hid (∀ k w, Calls Tryz.prog 107 #[.string s, .int .i64 ((k : Nat) : Int)] w fun e w' => e = .returned (.int .i64 (chr s k)) ∧ w' = w) := fun k w => at_any s k w
  have HD : Hid (∀ c w, Calls Tryz.prog 108 #[.int .i64 c] w fun e w' => e = .returned (.bool (dgB c)) ∧ w' = w) := fun c w => digit_any c w
  have HH : Hid (∀ c w, Calls Tryz.prog 83 #[.int .i64 c] w fun e w' => e = .returned (.bool (hdB c)) ∧ w' = w) := fun c w => head_any c w
  have HN : Hid (∀ k, nmB (chr s k) = true → k < s.size ∧ spN nmB s k = spN nmB s (k + 1)) := fun k h => spN_next (by decide) h
  have HS : Hid (∀ k, nmB (chr s k) = false → spN nmB s k = k) := fun k h => spN_stop h
  go_enter Tryz.func84, Tryz.ntmps84
  go_wp2_with fail
  go_loopw [1] (fun t wr => ∃ k : Nat, k ≤ 140737488355500 ∧ t = .int .i64 k ∧ wr = w ∧ Hid (spN nmB s k = spN nmB s i)) (fun t _ => s.size - (intOf t).toNat)
  case atStart => exact ⟨i, hi, rfl, rfl, rfl⟩
  case round =>
    obtain ⟨k, hk, rfl, rfl, HI⟩ := hrel
    go_wp2_with fail
    refine (HA.out _ _).mono ?_
    rintro e w ⟨rfl, rfl⟩
    go_wp2_with fail
    refine (HH.out _ _).mono ?_
    rintro e w ⟨rfl, rfl⟩
    cases hh : hdB (chr s k) with
    | true =>
      obtain ⟨h1, h2⟩ := HN.out k (by unfold nmB; rw [hh]; rfl)
      have HI2 : Hid (spN nmB s (k + 1) = spN nmB s i) := h2.symm.trans HI.out
      clear HA HD HH HN HS hh h2 HI
      go_wp2_with fail
      go_roundw
      case rel => exact ⟨k + 1, by omega, by go_num, trivial, HI2⟩
      case measure => simp [intOf]; omega
    | false =>
      go_wp2_with fail
      refine (HA.out _ _).mono ?_
      rintro e w ⟨rfl, rfl⟩
      go_wp2_with fail
      refine (HD.out _ _).mono ?_
      rintro e w ⟨rfl, rfl⟩
      cases hd : dgB (chr s k) with
      | true =>
        obtain ⟨h1, h2⟩ := HN.out k (by unfold nmB; rw [hh, hd]; rfl)
        have HI2 : Hid (spN nmB s (k + 1) = spN nmB s i) := h2.symm.trans HI.out
        clear HA HD HH HN HS hh hd h2 HI
        go_wp2_with fail
        go_roundw
        case rel => exact ⟨k + 1, by omega, by go_num, trivial, HI2⟩
        case measure => simp [intOf]; omega
      | false =>
        have HI2 : Hid (spN nmB s i = k) := HI.out.symm.trans (HS.out k (by unfold nmB; rw [hh, hd]; rfl))
        clear HA HD HH HN HS hh hd HI
        go_wp2_with fail
        go_ret
        exact ⟨by rw [HI2.out]; rfl, rfl⟩
end Go.Proofs.YtnpifgcgjgddoaaGreatDoor

namespace Go.Proofs.YtnpifgcgjgddoaaGreatDoor
open Go.RowKit
theorem below_box (w : World) (o : Obj) : Below w.heap.size w (w.alloc o) := Below.alloc (Below.refl _ _) (Nat.le_refl _) o
end Go.Proofs.YtnpifgcgjgddoaaGreatDoor

namespace Go.Proofs.YtnpifgcgjgddoaaGreatDoor
open Go.RowKit
def lnB (c : Int) : Bool := decide (0 ≤ c) && !(c == 10)
def gpGo (s : ByteArray) : Nat → Nat → Nat
  | 0, i => i
  | f + 1, i => if i < s.size then (if chr s i = 45 ∧ chr s (i + 1) = 45 then gpGo s f (spN lnB s i) else if chr s i = 9 ∨ chr s i = 10 ∨ chr s i = 13 ∨ chr s i = 32 then gpGo s f (i + 1) else i) else i
def gapN (s : ByteArray) (i : Nat) : Nat := gpGo s (s.size + 1) i
/-- The sign of a kind. -/
def sgn (k : Nat) : List UInt8 :=
  if k = 6 then [60, 45] else if k = 27 then [45, 62] else if k = 7 then [47] else if k = 8 then [38] else if k = 9 then [33] else if k = 10 then [63] else if k = 11 then [42] else if k = 12 then [43] else if k = 16 then [40] else if k = 17 then [41]
  else if k = 18 then [46] else if k = 22 then [58, 125] else if k = 23 then [123, 124] else if k = 24 then [124, 125] else if k = 25 then [123, 126] else if k = 26 then [126, 125] else if k = 19 then [123] else if k = 20 then [125] else []
end Go.Proofs.YtnpifgcgjgddoaaGreatDoor

namespace Go.Proofs.YtnpifgcgjgddoaaGreatDoor
open Go.RowKit
theorem own_form {W : World} {B e s n : Nat} {v : Value} {xs : List Value} (h : W.ownsRow B e s v n xs) : ∃ A c, v = .slice A n c := by
  rcases h.2 with ⟨rfl, h0⟩ | ⟨g, cap, cur, rfl, _⟩
  · exact ⟨none, 0, by rw [h0]⟩
  · exact ⟨_, cap, rfl⟩
end Go.Proofs.YtnpifgcgjgddoaaGreatDoor

namespace Go.Proofs.YtnpifgcgjgddoaaGreatDoor
open Go.RowKit
def hxB (c : Int) : Bool := dgB c || (decide (97 ≤ c) && decide (c ≤ 102))
end Go.Proofs.YtnpifgcgjgddoaaGreatDoor

namespace Go.Proofs.YtnpifgcgjgddoaaGreatDoor
open Go.RowKit
/-- Does a text of some bytes stand at a place? -/
def pfx (s : ByteArray) (i : Nat) : List UInt8 → Bool
  | [] => true
  | c :: l => chr s i == (c.toNat : Int) && pfx s (i + 1) l
end Go.Proofs.YtnpifgcgjgddoaaGreatDoor

namespace Go.Proofs.YtnpifgcgjgddoaaGreatDoor.N
open Go.RowKit
theorem own_same {W W' : World} {B e s n : Nat} {v : Value} {xs : List Value} (h : W.ownsRow B e s v n xs) (hk : ∀ k, v.ownBlock = some k → W'.heap[k]? = W.heap[k]?) : W'.ownsRow B e s v n xs := by
  refine ⟨h.1, ?_⟩
  rcases h.2 with hn | ⟨g, cap, cur, rfl, hB, hg, rest⟩
  · exact .inl hn
  · exact .inr ⟨g, cap, cur, rfl, hB, (hk g rfl).trans hg, rest⟩
theorem own_ty {W : World} {B e s n : Nat} {v : Value} {xs : List Value} (h : W.ownsRow B e s v n xs) {k : Nat} (hk : v.ownBlock = some k) : ∃ cur, W.heap[k]? = some (.cells cur e (0, 0)) := by
  rcases h.2 with ⟨rfl, _⟩ | ⟨g, cap, cur, rfl, _, hg, _⟩
  · cases hk
  · cases hk; exact ⟨cur, hg⟩
theorem own_apart {W : World} {B e s n B2 e2 s2 n2 : Nat} {v v2 : Value} {xs xs2 : List Value} (h : W.ownsRow B e s v n xs) (h2 : W.ownsRow B2 e2 s2 v2 n2 xs2) (hne : e ≠ e2) {k : Nat} (hk : v.ownBlock = some k) : v2.ownBlock ≠ some k := fun q => by
  obtain ⟨c1, h1⟩ := own_ty h hk
  obtain ⟨c2, h3⟩ := own_ty h2 q
  rw [h1] at h3
  injection h3 with h4
  injection h4 with _ h5
  exact hne h5
end Go.Proofs.YtnpifgcgjgddoaaGreatDoor.N

namespace Go.Proofs.YtnpifgcgjgddoaaGreatDoor.T
/-- A part: its first and its last node, its height. -/
abbrev Pt := Nat × Nat × Nat

def opAt (L : List Nd) (k : Nat) : Int := match L[k]? with
  | some n => n.op
  | none => 0
def arN (op : Int) : Nat := (ar op).toNat
/-- The part that ends with node k, by the parts that are free ahead of it (the last one first). -/
def mk (L : List Nd) (k : Nat) (op : Int) (st : List Pt) : Pt :=
  if arN op = 0 then (k, k, 1) else if arN op = 1 then (match st with
    | x :: _ => (x.1, k, max 1 (x.2.2 + 1))
    | [] => (k, k, 1)) else (match st with
    | y :: x :: _ => (x.1, k, max (max 1 (if opAt L x.2.1 = op then x.2.2 else x.2.2 + 1)) (y.2.2 + 1))
    | _ => (k, k, 1))
def run (L : List Nd) : Nat → List Pt
  | 0 => []
  | k + 1 => mk L k (opAt L k) (run L k) :: (run L k).drop (arN (opAt L k))
def pt (L : List Nd) (k : Nat) : Pt := mk L k (opAt L k) (run L k)
theorem run_succ (L : List Nd) (k : Nat) : run L (k + 1) = pt L k :: (run L k).drop (arN (opAt L k)) := rfl

/-- What is wrong with node k; 0: nothing. -/
def er (L : List Nd) (k : Nat) : Int := match L[k]? with
  | none => 0
  | some n => if alE n ≠ 0 then alE n else if (run L k).length < arN n.op then 42 else if 60 < (pt L k).2.2 then 4 else 0
def ckGo (L : List Nd) : Nat → Nat → Nat × Int
  | 0, _ => if (run L L.length).length = 1 then (0, 0) else (L.length, 42)
  | m + 1, k => if er L k ≠ 0 then (k, er L k) else ckGo L m (k + 1)
def ck (L : List Nd) : Nat × Int := if 2048 < L.length then (0, 2) else ckGo L L.length 0

theorem ckGo_from (L : List Nd) : ∀ (k m : Nat), k + m = L.length → (∀ j, j < k → er L j = 0) → ckGo L L.length 0 = ckGo L m k := by
  intro k
  induction k with
  | zero => intro m hm _; rw [← hm, Nat.zero_add]
  | succ k ih =>
    intro m hm h
    rw [ih (m + 1) (by omega) (fun j hj => h j (by omega)), ckGo, if_neg (by rw [h k (by omega)]; simp)]
theorem ck_bad {L : List Nd} {k : Nat} (hl : ¬ 2048 < L.length) (hk : k < L.length) (h : ∀ j, j < k → er L j = 0) (he : er L k ≠ 0) : ck L = (k, er L k) := by
  rw [ck, if_neg hl, ckGo_from L k (L.length - k) (by omega) h, show L.length - k = (L.length - k - 1) + 1 from by omega, ckGo, if_pos he]
theorem ck_end {L : List Nd} (hl : ¬ 2048 < L.length) (h : ∀ j, j < L.length → er L j = 0) : ck L = if (run L L.length).length = 1 then (0, 0) else (L.length, 42) := by
  rw [ck, if_neg hl, ckGo_from L L.length 0 (by omega) h, ckGo]
theorem ck_long {L : List Nd} (hl : 2048 < L.length) : ck L = (0, 2) := by rw [ck, if_pos hl]
/-- Right. -/
structure Rt (L : List Nd) : Prop where
  len : ¬ 2048 < L.length
  each : ∀ j, j < L.length → er L j = 0
  one : (run L L.length).length = 1
theorem ckGo_ok (L : List Nd) : ∀ (m k : Nat), k + m = L.length → (ckGo L m k).2 = 0 → (∀ j, k ≤ j → j < L.length → er L j = 0) ∧ (run L L.length).length = 1 := by
  intro m
  induction m with
  | zero =>
    intro k hk h
    refine ⟨fun j h1 h2 => by omega, ?_⟩
    rw [ckGo] at h
    split at h
    · assumption
    · cases h
  | succ m ih =>
    intro k hk h
    rw [ckGo] at h
    split at h
    · next he => exact absurd h he
    · next he =>
      obtain ⟨h1, h2⟩ := ih (k + 1) (by omega) h
      refine ⟨fun j a b => ?_, h2⟩
      by_cases hj : j = k
      · subst hj
        exact Classical.byContradiction he
      · exact h1 j (by omega) b
theorem rt_of {L : List Nd} (h : (ck L).2 = 0) : Rt L := by
  unfold ck at h
  split at h
  · cases h
  · next hl =>
    obtain ⟨h1, h2⟩ := ckGo_ok L L.length 0 (by omega) h
    exact ⟨hl, fun j hj => h1 j (by omega) hj, h2⟩

theorem er_of {L : List Nd} {k : Nat} {n : Nd} (h : L[k]? = some n) : er L k = if alE n ≠ 0 then alE n else if (run L k).length < arN n.op then 42 else if 60 < (pt L k).2.2 then 4 else 0 := by
  unfold er; rw [h]
theorem op_of {L : List Nd} {k : Nat} {n : Nd} (h : L[k]? = some n) : opAt L k = n.op := by unfold opAt; rw [h]
theorem alE_ar {n : Nd} (h : alE n = 0) : 0 ≤ ar n.op := by
  unfold alE at h
  split at h
  · cases h
  · omega

/-- What lies free ahead of node k lies one behind the other. -/
def Chn (L : List Nd) : Nat → List Pt → Prop
  | at', [] => at' = 0
  | at', x :: r => x.2.1 + 1 = at' ∧ x = pt L x.2.1 ∧ x.1 ≤ x.2.1 ∧ Chn L x.1 r
theorem mk_last (L : List Nd) (k : Nat) (op : Int) (st : List Pt) : (mk L k op st).2.1 = k := by
  unfold mk
  split
  · rfl
  · split
    · split <;> rfl
    · split <;> rfl
theorem arN_le (op : Int) : arN op ≤ 2 := by unfold arN; have := ar_hi op; omega
theorem chn_run (L : List Nd) : ∀ k, k ≤ L.length → (∀ j, j < k → er L j = 0) → Chn L k (run L k) := by
  intro k
  induction k with
  | zero => intro _ _; exact rfl
  | succ k ih =>
    intro hk h
    have c := ih (by omega) (fun j hj => h j (by omega))
    have hn : L[k]? = some L[k] := List.getElem?_eq_getElem (by omega)
    have he := h k (by omega)
    rw [er_of hn] at he
    have ha : alE L[k] = 0 := by
      apply Classical.byContradiction
      intro q
      rw [if_pos q] at he
      exact q he
    rw [if_neg (by simp [ha])] at he
    have hl : ¬ (run L k).length < arN L[k].op := by
      intro q
      rw [if_pos q] at he
      cases he
    have hop := op_of hn
    rw [run_succ]
    have hlast : (pt L k).2.1 = k := mk_last _ _ _ _
    refine ⟨by rw [hlast], by rw [hlast], ?_, ?_⟩
    · rw [hlast]
      unfold pt mk
      rw [hop]
      split
      · exact Nat.le_refl _
      · split
        · cases hr : run L k with
          | nil => exact Nat.le_refl _
          | cons x r => rw [hr] at c; have := c.1; have := c.2.2.1; show x.1 ≤ k; omega
        · cases hr : run L k with
          | nil => exact Nat.le_refl _
          | cons y r =>
            rw [hr] at c
            cases hr2 : r with
            | nil => exact Nat.le_refl _
            | cons x r2 =>
              rw [hr2] at c
              have h1 := c.1; have h2 := c.2.2.1; have h3 := c.2.2.2.1; have h4 := c.2.2.2.2.2.1
              show x.1 ≤ k
              omega
    · have h2 := arN_le L[k].op
      unfold pt mk
      rw [hop]
      by_cases a0 : arN L[k].op = 0
      · rw [if_pos a0, a0]
        exact c
      · rw [if_neg a0]
        by_cases a1 : arN L[k].op = 1
        · rw [if_pos a1, a1]
          rw [a1] at hl
          cases hr : run L k with
          | nil => rw [hr] at hl; exact absurd (by simp) hl
          | cons x r => rw [hr] at c; exact c.2.2.2
        · rw [if_neg a1, show arN L[k].op = 2 from by omega]
          rw [show arN L[k].op = 2 from by omega] at hl
          cases hr : run L k with
          | nil => rw [hr] at hl; exact absurd (by simp) hl
          | cons y r =>
            rw [hr] at c hl
            cases hr2 : r with
            | nil => rw [hr2] at hl; exact absurd (by simp) hl
            | cons x r2 => rw [hr2] at c; exact c.2.2.2.2.2.2
end Go.Proofs.YtnpifgcgjgddoaaGreatDoor.T

namespace Go.Proofs.YtnpifgcgjgddoaaGreatDoor.T
theorem chn_mem (L : List Nd) : ∀ (st : List Pt) (k : Nat), Chn L k st → ∀ x ∈ st, x.2.1 < k ∧ x.1 ≤ x.2.1 ∧ x = pt L x.2.1 := by
  intro st
  induction st with
  | nil => intro k _ x hx; cases hx
  | cons y r ih =>
    intro k h x hx
    obtain ⟨h1, h2, h3, h4⟩ := h
    rcases List.mem_cons.1 hx with rfl | hx
    · exact ⟨by omega, h3, h2⟩
    · obtain ⟨a, b, c⟩ := ih y.1 h4 x hx
      exact ⟨by omega, b, c⟩
structure ErOk (L : List Nd) (k : Nat) (n : Nd) : Prop where
  al : alE n = 0
  ar : arN n.op ≤ (run L k).length
  ht : (pt L k).2.2 ≤ 60
theorem er_ok {L : List Nd} {k : Nat} {n : Nd} (hn : L[k]? = some n) (h : er L k = 0) : ErOk L k n := by
  rw [er_of hn] at h
  by_cases h1 : alE n ≠ 0
  · rw [if_pos h1] at h; exact absurd h h1
  rw [if_neg h1] at h
  by_cases h2 : (run L k).length < arN n.op
  · rw [if_pos h2] at h; cases h
  rw [if_neg h2] at h
  by_cases h3 : 60 < (pt L k).2.2
  · rw [if_pos h3] at h; cases h
  exact ⟨Classical.byContradiction h1, by omega, by omega⟩
theorem run_bd {L : List Nd} {k : Nat} (hk : k ≤ L.length) (h : ∀ j, j < k → er L j = 0) : ∀ x ∈ run L k, x.1 ≤ x.2.1 ∧ x.2.1 < k ∧ x.2.2 ≤ 60 ∧ x = pt L x.2.1 := by
  intro x hx
  obtain ⟨a, b, c⟩ := chn_mem L _ k (chn_run L k hk h) x hx
  have hn : L[x.2.1]? = some L[x.2.1] := List.getElem?_eq_getElem (by omega)
  have := (er_ok hn (h _ a)).ht
  rw [← c] at this
  exact ⟨b, a, this, c⟩
theorem run_len (L : List Nd) (k : Nat) : (run L k).length ≤ k := by
  induction k with
  | zero => exact Nat.le_refl _
  | succ k ih => rw [run_succ, List.length_cons, List.length_drop]; omega
theorem arN_of {n : Nd} (h : alE n = 0) : ((arN n.op : Nat) : Int) = ar n.op := by
  have := alE_ar h
  unfold arN
  omega
/-- The top of a stack, in the order of the list. -/
theorem rev_drop {α : Type} (st : List α) (a : Nat) (h : a ≤ st.length) : st.reverse.drop (st.length - a) = (st.take a).reverse := by
  rw [List.drop_reverse]
  congr 2
  omega
theorem rev_take {α : Type} (st : List α) (a : Nat) (h : a ≤ st.length) : st.reverse.take (st.length - a) = (st.drop a).reverse := by
  rw [List.take_reverse]
  congr 2
  omega
end Go.Proofs.YtnpifgcgjgddoaaGreatDoor.T

namespace Go.Proofs.YtnpifgcgjgddoaaGreatDoor.T
open Go.RowKit
set_option maxRecDepth 100000 in
set_option maxHeartbeats 1000000 in
theorem isDigit_any (c : Int) (w : World) : Calls Tryz.prog 147 #[.int .u8 c] w fun e w' => e = .returned (.bool (dgB c)) ∧ w' = w := by
  by_cases h : 48 ≤ c
  · have HE : Hid (dgB c = decide (c ≤ 57)) := (by show dgB c = _; unfold dgB; rw [decide_eq_true h]; rfl)
    go_enter Tryz.func147, Tryz.ntmps147
    go_wp2
    go_ret
    exact ⟨by rw [HE.out]; rfl, rfl⟩
  · have HE : Hid (dgB c = false) := (by show dgB c = _; unfold dgB; rw [decide_eq_false h]; rfl)
    go_enter Tryz.func147, Tryz.ntmps147
    go_wp2
    go_ret
    exact ⟨by rw [HE.out]; rfl, rfl⟩

set_option maxRecDepth 100000 in
set_option maxHeartbeats 1000000 in
theorem isLetter_any (c : Int) (w : World) : Calls Tryz.prog 148 #[.int .u8 c] w fun e w' => e = .returned (.bool (ltB c)) ∧ w' = w := by
  have HE : Hid (ltB c = ((decide (97 ≤ c) && decide (c ≤ 122)) || (decide (65 ≤ c) && decide (c ≤ 90)))) := rfl
  by_cases h : 97 ≤ c <;> by_cases h1 : c ≤ 122 <;> by_cases h2 : 65 ≤ c <;> by_cases h3 : c ≤ 90
  all_goals
    go_enter Tryz.func148, Tryz.ntmps148
    go_wp2
    go_ret
    refine ⟨ret_bool ?_, rfl⟩
    rw [HE.out]
    simp <;> omega

set_option maxRecDepth 100000 in
set_option maxHeartbeats 2000000 in
theorem arity_any (op : Int) (w : World) : Calls Tryz.prog 68 #[.int .i64 op] w fun e w' => e = .returned (.int .i64 (ar op)) ∧ w' = w := by
  by_cases h1 : op < 1
  · have HE : Hid (ar op = -1) := (by show ar op = _; unfold ar; rw [if_pos (.inl h1)])
    go_enter Tryz.func68, Tryz.ntmps68
    go_wp2
    go_ret
    exact ⟨by rw [HE.out]; rfl, rfl⟩
  by_cases h2 : 23 < op
  · have HE : Hid (ar op = -1) := (by show ar op = _; unfold ar; rw [if_pos (.inr h2)])
    go_enter Tryz.func68, Tryz.ntmps68
    go_wp2
    go_ret
    exact ⟨by rw [HE.out]; rfl, rfl⟩
  by_cases h3 : op ≤ 6
  · have HE : Hid (ar op = 0) := (by show ar op = _; unfold ar; rw [if_neg (by omega), if_pos (.inl h3)])
    go_enter Tryz.func68, Tryz.ntmps68
    go_wp2
    go_ret
    exact ⟨by rw [HE.out]; rfl, rfl⟩
  by_cases h4 : op = 17
  · have HE : Hid (ar op = 0) := (by show ar op = _; unfold ar; rw [if_neg (by omega), if_pos (.inr h4)])
    have e4 : (op == 17) = true := beq_iff_eq.2 h4
    clear h4
    go_enter Tryz.func68, Tryz.ntmps68
    go_wp2
    go_ret
    exact ⟨by rw [HE.out]; rfl, rfl⟩
  have e4 : (op == 17) = false := beq_eq_false_iff_ne.2 h4
  by_cases h5 : op = 7
  · have HE : Hid (ar op = 2) := (by show ar op = _; unfold ar; rw [if_neg (by omega), if_neg (by omega), if_pos (.inl h5)])
    have e5 : (op == 7) = true := beq_iff_eq.2 h5
    clear h5 h4
    go_enter Tryz.func68, Tryz.ntmps68
    go_wp2
    go_ret
    exact ⟨by rw [HE.out]; rfl, rfl⟩
  have e5 : (op == 7) = false := beq_eq_false_iff_ne.2 h5
  by_cases h6 : op = 8
  · have HE : Hid (ar op = 2) := (by show ar op = _; unfold ar; rw [if_neg (by omega), if_neg (by omega), if_pos (.inr h6)])
    have e6 : (op == 8) = true := beq_iff_eq.2 h6
    clear h6 h5 h4
    go_enter Tryz.func68, Tryz.ntmps68
    go_wp2
    go_ret
    exact ⟨by rw [HE.out]; rfl, rfl⟩
  have e6 : (op == 8) = false := beq_eq_false_iff_ne.2 h6
  have HE : Hid (ar op = 1) := (by show ar op = _; unfold ar; rw [if_neg (by omega), if_neg (by omega), if_neg (by omega)])
  clear h6 h5 h4
  go_enter Tryz.func68, Tryz.ntmps68
  go_wp2
  go_ret
  exact ⟨by rw [HE.out]; rfl, rfl⟩

set_option maxRecDepth 100000 in
set_option maxHeartbeats 4000000 in
theorem arityR_any (op : Int) (w : World) : Calls Tryz.prog 74 #[.int .i64 op] w fun e w' => e = .returned (.int .i64 (ar op)) ∧ w' = w := by
  by_cases h1 : op = 1
  · subst h1
    go_enter Tryz.func74, Tryz.ntmps74
    go_wp2
    go_ret
    exact ⟨rfl, rfl⟩
  have e1 : (op == 1) = false := beq_eq_false_iff_ne.2 h1
  by_cases h2 : op = 2
  · subst h2
    go_enter Tryz.func74, Tryz.ntmps74
    go_wp2
    go_ret
    exact ⟨rfl, rfl⟩
  have e2 : (op == 2) = false := beq_eq_false_iff_ne.2 h2
  by_cases h3 : op = 3
  · subst h3
    go_enter Tryz.func74, Tryz.ntmps74
    go_wp2
    go_ret
    exact ⟨rfl, rfl⟩
  have e3 : (op == 3) = false := beq_eq_false_iff_ne.2 h3
  by_cases h4 : op = 4
  · subst h4
    go_enter Tryz.func74, Tryz.ntmps74
    go_wp2
    go_ret
    exact ⟨rfl, rfl⟩
  have e4 : (op == 4) = false := beq_eq_false_iff_ne.2 h4
  by_cases h5 : op = 5
  · subst h5
    go_enter Tryz.func74, Tryz.ntmps74
    go_wp2
    go_ret
    exact ⟨rfl, rfl⟩
  have e5 : (op == 5) = false := beq_eq_false_iff_ne.2 h5
  by_cases h6 : op = 6
  · subst h6
    go_enter Tryz.func74, Tryz.ntmps74
    go_wp2
    go_ret
    exact ⟨rfl, rfl⟩
  have e6 : (op == 6) = false := beq_eq_false_iff_ne.2 h6
  by_cases h17 : op = 17
  · subst h17
    go_enter Tryz.func74, Tryz.ntmps74
    go_wp2
    go_ret
    exact ⟨rfl, rfl⟩
  have e17 : (op == 17) = false := beq_eq_false_iff_ne.2 h17
  by_cases h7 : op = 7
  · subst h7
    go_enter Tryz.func74, Tryz.ntmps74
    go_wp2
    go_ret
    exact ⟨rfl, rfl⟩
  have e7 : (op == 7) = false := beq_eq_false_iff_ne.2 h7
  by_cases h8 : op = 8
  · subst h8
    go_enter Tryz.func74, Tryz.ntmps74
    go_wp2
    go_ret
    exact ⟨rfl, rfl⟩
  have e8 : (op == 8) = false := beq_eq_false_iff_ne.2 h8
  by_cases h9 : op = 9
  · subst h9
    go_enter Tryz.func74, Tryz.ntmps74
    go_wp2
    go_ret
    exact ⟨rfl, rfl⟩
  have e9 : (op == 9) = false := beq_eq_false_iff_ne.2 h9
  by_cases h10 : op = 10
  · subst h10
    go_enter Tryz.func74, Tryz.ntmps74
    go_wp2
    go_ret
    exact ⟨rfl, rfl⟩
  have e10 : (op == 10) = false := beq_eq_false_iff_ne.2 h10
  by_cases h11 : op = 11
  · subst h11
    go_enter Tryz.func74, Tryz.ntmps74
    go_wp2
    go_ret
    exact ⟨rfl, rfl⟩
  have e11 : (op == 11) = false := beq_eq_false_iff_ne.2 h11
  by_cases h12 : op = 12
  · subst h12
    go_enter Tryz.func74, Tryz.ntmps74
    go_wp2
    go_ret
    exact ⟨rfl, rfl⟩
  have e12 : (op == 12) = false := beq_eq_false_iff_ne.2 h12
  by_cases h13 : op = 13
  · subst h13
    go_enter Tryz.func74, Tryz.ntmps74
    go_wp2
    go_ret
    exact ⟨rfl, rfl⟩
  have e13 : (op == 13) = false := beq_eq_false_iff_ne.2 h13
  by_cases h14 : op = 14
  · subst h14
    go_enter Tryz.func74, Tryz.ntmps74
    go_wp2
    go_ret
    exact ⟨rfl, rfl⟩
  have e14 : (op == 14) = false := beq_eq_false_iff_ne.2 h14
  by_cases h15 : op = 15
  · subst h15
    go_enter Tryz.func74, Tryz.ntmps74
    go_wp2
    go_ret
    exact ⟨rfl, rfl⟩
  have e15 : (op == 15) = false := beq_eq_false_iff_ne.2 h15
  by_cases h16 : op = 16
  · subst h16
    go_enter Tryz.func74, Tryz.ntmps74
    go_wp2
    go_ret
    exact ⟨rfl, rfl⟩
  have e16 : (op == 16) = false := beq_eq_false_iff_ne.2 h16
  by_cases h18 : op = 18
  · subst h18
    go_enter Tryz.func74, Tryz.ntmps74
    go_wp2
    go_ret
    exact ⟨rfl, rfl⟩
  have e18 : (op == 18) = false := beq_eq_false_iff_ne.2 h18
  by_cases h19 : op = 19
  · subst h19
    go_enter Tryz.func74, Tryz.ntmps74
    go_wp2
    go_ret
    exact ⟨rfl, rfl⟩
  have e19 : (op == 19) = false := beq_eq_false_iff_ne.2 h19
  by_cases h20 : op = 20
  · subst h20
    go_enter Tryz.func74, Tryz.ntmps74
    go_wp2
    go_ret
    exact ⟨rfl, rfl⟩
  have e20 : (op == 20) = false := beq_eq_false_iff_ne.2 h20
  by_cases h21 : op = 21
  · subst h21
    go_enter Tryz.func74, Tryz.ntmps74
    go_wp2
    go_ret
    exact ⟨rfl, rfl⟩
  have e21 : (op == 21) = false := beq_eq_false_iff_ne.2 h21
  by_cases h22 : op = 22
  · subst h22
    go_enter Tryz.func74, Tryz.ntmps74
    go_wp2
    go_ret
    exact ⟨rfl, rfl⟩
  have e22 : (op == 22) = false := beq_eq_false_iff_ne.2 h22
  by_cases h23 : op = 23
  · subst h23
    go_enter Tryz.func74, Tryz.ntmps74
    go_wp2
    go_ret
    exact ⟨rfl, rfl⟩
  have e23 : (op == 23) = false := beq_eq_false_iff_ne.2 h23
  have HE : Hid (ar op = -1) := (by show ar op = _; unfold ar; rw [if_pos (by omega)])
  clear h1 h2 h3 h4 h5 h6 h17 h7 h8 h9 h10 h11 h12 h13 h14 h15 h16 h18 h19 h20 h21 h22 h23
  go_enter Tryz.func74, Tryz.ntmps74
  go_wp2
  go_ret
  exact ⟨by rw [HE.out]; rfl, rfl⟩
end Go.Proofs.YtnpifgcgjgddoaaGreatDoor.T

namespace Go.Proofs.YtnpifgcgjgddoaaGreatDoor.T
open Go.RowKit
set_option maxRecDepth 100000 in
set_option maxHeartbeats 4000000 in
theorem isName_any (s : ByteArray) (hs : s.size ≤ 140737488355328) (w : World) : Calls Tryz.prog 120 #[.string s] w fun e w' => e = .returned (.bool (nmB s)) ∧ w' = w := by
  have HD : Hid (∀ c w, Calls Tryz.prog 147 #[.int .u8 c] w fun e w' => e = .returned (.bool (dgB c)) ∧ w' = w) := fun c w => isDigit_any c w
  have HL : Hid (∀ c w, Calls Tryz.prog 148 #[.int .u8 c] w fun e w' => e = .returned (.bool (ltB c)) ∧ w' = w) := fun c w => isLetter_any c w
  by_cases h0 : s.size = 0
  · have HE : Hid (nmB s = false) := nmB_f (fun h => by have := h.1; omega)
    have q0 := emp_t h0
    clear h0 HD HL hs
    go_enter Tryz.func120, Tryz.ntmps120
    go_wp2_with fail
    go_ret
    exact ⟨by rw [HE.out]; rfl, rfl⟩
  have q0 := emp_f h0
  by_cases h1 : 32 < s.size
  · have HE : Hid (nmB s = false) := nmB_f (fun h => by have := h.2.1; omega)
    have z1 : (32 : Int) < (s.size : Int) := by omega
    clear h0 HD HL hs
    go_enter Tryz.func120, Tryz.ntmps120
    go_wp2_with fail
    go_ret
    exact ⟨by rw [HE.out]; rfl, rfl⟩
  have z1 : ¬ (32 : Int) < (s.size : Int) := by omega
  have hp : 0 < s.size := by omega
  cases hd : dgB (s[0].toNat : Int) with
  | true =>
    have HE : Hid (nmB s = false) := nmB_f (fun h => by have := h.2.2.1 hp; rw [hd] at this; cases this)
    go_enter Tryz.func120, Tryz.ntmps120
    go_wp2_with fail
    refine (HD.out _ _).mono ?_
    rintro e w ⟨rfl, rfl⟩
    rw [hd]
    clear HD HL hd
    go_wp2_with fail
    go_ret
    exact ⟨by rw [HE.out]; rfl, rfl⟩
  | false =>
    have HN : Hid ((∀ (j : Nat) (h : j < s.size), nmC (s[j].toNat : Int) = true) → nmB s = true) := fun h => nmB_t ⟨hp, by omega, fun _ => hd, h⟩
    have HM : Hid (∀ (j : Nat) (h : j < s.size), nmC (s[j].toNat : Int) = false → nmB s = false) := fun j h e => nmB_f (fun q => by have := q.2.2.2 j h; rw [e] at this; cases this)
    go_enter Tryz.func120, Tryz.ntmps120
    go_wp2_with fail
    refine (HD.out _ _).mono ?_
    rintro e w ⟨rfl, rfl⟩
    rw [hd]
    clear hd
    go_wp2_with fail
    go_loopw [18] (fun t wr => ∃ k : Nat, k ≤ s.size ∧ t = .int .i64 k ∧ wr = w ∧ Hid (∀ (j : Nat) (h : j < s.size), j < k → nmC (s[j].toNat : Int) = true)) (fun t _ => s.size - (intOf t).toNat)
    case atStart => exact ⟨0, by omega, by go_num, rfl, fun j h q => by omega⟩
    case round =>
      obtain ⟨k, hk, rfl, rfl, HI⟩ := hrel
      by_cases hlt : k < s.size
      · have z3 : (0 : Int) ≤ (k : Int) := by omega
        have z4 : (k : Int) < (s.size : Int) := by omega
        have HC : Hid (nmC (s[k].toNat : Int) = (dgB (s[k].toNat : Int) || ltB (s[k].toNat : Int) || (s[k].toNat : Int) == 95)) := rfl
        cases hd2 : dgB (s[k].toNat : Int) with
        | true =>
          have HI2 : Hid (∀ (j : Nat) (h : j < s.size), j < k + 1 → nmC (s[j].toNat : Int) = true) := fun j h q => by
            by_cases hj : j < k
            · exact HI.out j h hj
            · obtain rfl : j = k := by omega
              rw [HC.out, hd2]; rfl
          clear HI HC HN HM
          go_wp2_with fail
          refine (HD.out _ _).mono ?_
          rintro e w ⟨rfl, rfl⟩
          rw [hd2]
          clear hd2 HD HL
          go_wp2_with fail
          go_roundw
          case rel => exact ⟨k + 1, by omega, by go_num, trivial, HI2⟩
          case measure => simp [intOf]; omega
        | false =>
          cases hl2 : ltB (s[k].toNat : Int) with
          | true =>
            have HI2 : Hid (∀ (j : Nat) (h : j < s.size), j < k + 1 → nmC (s[j].toNat : Int) = true) := fun j h q => by
              by_cases hj : j < k
              · exact HI.out j h hj
              · obtain rfl : j = k := by omega
                rw [HC.out, hd2, hl2]; rfl
            clear HI HC HN HM
            go_wp2_with fail
            refine (HD.out _ _).mono ?_
            rintro e w ⟨rfl, rfl⟩
            rw [hd2]
            clear hd2 HD
            go_wp2_with fail
            refine (HL.out _ _).mono ?_
            rintro e w ⟨rfl, rfl⟩
            rw [hl2]
            clear hl2 HL
            go_wp2_with fail
            go_roundw
            case rel => exact ⟨k + 1, by omega, by go_num, trivial, HI2⟩
            case measure => simp [intOf]; omega
          | false =>
            by_cases h95 : (s[k].toNat : Int) = 95
            · have e95 : ((s[k].toNat : Int) == 95) = true := beq_iff_eq.2 h95
              have HI2 : Hid (∀ (j : Nat) (h : j < s.size), j < k + 1 → nmC (s[j].toNat : Int) = true) := fun j h q => by
                by_cases hj : j < k
                · exact HI.out j h hj
                · obtain rfl : j = k := by omega
                  rw [HC.out, hd2, hl2, e95]; rfl
              clear HI HC HN HM h95
              go_wp2_with fail
              refine (HD.out _ _).mono ?_
              rintro e w ⟨rfl, rfl⟩
              rw [hd2]
              clear hd2 HD
              go_wp2_with fail
              refine (HL.out _ _).mono ?_
              rintro e w ⟨rfl, rfl⟩
              rw [hl2]
              clear hl2 HL
              go_wp2_with fail
              go_roundw
              case rel => exact ⟨k + 1, by omega, by go_num, trivial, HI2⟩
              case measure => simp [intOf]; omega
            · have e95 : ((s[k].toNat : Int) == 95) = false := beq_eq_false_iff_ne.2 h95
              have HE : Hid (nmB s = false) := HM.out k hlt (by rw [HC.out, hd2, hl2, e95]; rfl)
              clear HI HC HN HM h95
              go_wp2_with fail
              refine (HD.out _ _).mono ?_
              rintro e w ⟨rfl, rfl⟩
              rw [hd2]
              clear hd2 HD
              go_wp2_with fail
              refine (HL.out _ _).mono ?_
              rintro e w ⟨rfl, rfl⟩
              rw [hl2]
              clear hl2 HL
              go_wp2_with fail
              go_ret
              exact ⟨by rw [HE.out]; rfl, rfl⟩
      · obtain rfl : k = s.size := by omega
        have HE : Hid (nmB s = true) := HN.out (fun j h => HI.out j h h)
        clear HD HL HN HM HI
        go_wp2_with fail
        go_ret
        exact ⟨by rw [HE.out]; rfl, rfl⟩

theorem tm_end (s : ByteArray) (m i : Nat) (h : ¬ i < s.size) : tmGo s m i = true := by
  cases m with
  | zero => rfl
  | succ m => rw [tmGo, dif_neg h]
theorem tm_plain {s : ByteArray} {m i : Nat} (h : i < s.size) (q : s.size ≤ i + m) (e : ¬ (s[i].toNat : Int) = 37) : ∃ m2, s.size ≤ i + 1 + m2 ∧ tmGo s m i = tmGo s m2 (i + 1) := by
  cases m with
  | zero => omega
  | succ m => exact ⟨m, by omega, by rw [tmGo, dif_pos h, if_neg e]⟩
theorem tm_two {s : ByteArray} {m i : Nat} (h : i < s.size) (q : s.size ≤ i + m) (e : (s[i].toNat : Int) = 37) (h2 : i + 1 < s.size) (d : (s[i + 1].toNat : Int) = 37 ∨ dgB (s[i + 1].toNat : Int) = true) : ∃ m2, s.size ≤ i + 2 + m2 ∧ tmGo s m i = tmGo s m2 (i + 2) := by
  cases m with
  | zero => omega
  | succ m => exact ⟨m, by omega, by rw [tmGo, dif_pos h, if_pos e, dif_pos h2, if_pos d]⟩
theorem tm_cut {s : ByteArray} {m i : Nat} (h : i < s.size) (q : s.size ≤ i + m) (e : (s[i].toNat : Int) = 37) (h2 : ¬ i + 1 < s.size) : tmGo s m i = false := by
  cases m with
  | zero => omega
  | succ m => rw [tmGo, dif_pos h, if_pos e, dif_neg h2]
theorem tm_bad {s : ByteArray} {m i : Nat} (h : i < s.size) (q : s.size ≤ i + m) (e : (s[i].toNat : Int) = 37) (h2 : i + 1 < s.size) (d : ¬ (s[i + 1].toNat : Int) = 37) (d2 : dgB (s[i + 1].toNat : Int) = false) : tmGo s m i = false := by
  cases m with
  | zero => omega
  | succ m => rw [tmGo, dif_pos h, if_pos e, dif_pos h2, if_neg (by rw [d2]; simp only [Bool.false_eq_true, or_false]; exact d)]

set_option maxRecDepth 100000 in
set_option maxHeartbeats 4000000 in
theorem isTemplate_any (s : ByteArray) (hs : s.size ≤ 140737488355328) (w : World) : Calls Tryz.prog 121 #[.string s] w fun e w' => e = .returned (.bool (tmB s)) ∧ w' = w := by
  have HD : Hid (∀ c w, Calls Tryz.prog 147 #[.int .u8 c] w fun e w' => e = .returned (.bool (dgB c)) ∧ w' = w) := fun c w => isDigit_any c w
  by_cases h1 : 255 < s.size
  · have HE : Hid (tmB s = false) := (by show tmB s = _; unfold tmB; rw [if_neg (by omega)])
    have z1 : (255 : Int) < (s.size : Int) := by omega
    clear HD hs
    go_enter Tryz.func121, Tryz.ntmps121
    go_wp2_with fail
    go_ret
    exact ⟨by rw [HE.out]; rfl, rfl⟩
  have z1 : ¬ (255 : Int) < (s.size : Int) := by omega
  have HB : Hid (tmB s = tmGo s s.size 0) := (by show tmB s = _; unfold tmB; rw [if_pos (by omega)])
  go_enter Tryz.func121, Tryz.ntmps121
  go_wp2_with fail
  go_loopw [3] (fun t wr => ∃ k : Nat, k ≤ s.size ∧ t = .int .i64 k ∧ wr = w ∧ Hid (∃ m, s.size ≤ k + m ∧ tmB s = tmGo s m k)) (fun t _ => s.size - (intOf t).toNat)
  case atStart => exact ⟨0, by omega, by go_num, rfl, ⟨s.size, by omega, HB.out⟩⟩
  case round =>
    obtain ⟨k, hk, rfl, rfl, HI⟩ := hrel
    clear HB
    obtain ⟨m, hm, HJ⟩ := HI.out
    have HJ := (show Hid _ from HJ)
    clear HI
    by_cases hlt : k < s.size
    · have z3 : (0 : Int) ≤ (k : Int) := by omega
      have z4 : (k : Int) < (s.size : Int) := by omega
      by_cases h37 : (s[k].toNat : Int) = 37
      · have e37 : ((s[k].toNat : Int) == 37) = true := beq_iff_eq.2 h37
        by_cases h2 : k + 1 < s.size
        · have z5 : ((k : Int) + 1 == (s.size : Int)) = false := beq_eq_false_iff_ne.2 (by omega)
          have z6 : (k : Int) + 1 < (s.size : Int) := by omega
          by_cases g37 : (s[k + 1].toNat : Int) = 37
          · have f37 : ((s[k + 1].toNat : Int) != 37) = false := by rw [bne, beq_iff_eq.2 g37]; rfl
            have HK : Hid (∃ m2, s.size ≤ k + 2 + m2 ∧ tmB s = tmGo s m2 (k + 2)) := by
              obtain ⟨m2, u, v⟩ := tm_two hlt hm h37 h2 (.inl g37)
              exact ⟨m2, u, HJ.out.trans v⟩
            clear HJ h37 g37 HD
            go_wp2_with fail
            go_roundw
            case rel => exact ⟨k + 2, by omega, by go_num, trivial, HK⟩
            case measure => simp [intOf]; omega
          · have f37 : ((s[k + 1].toNat : Int) != 37) = true := by rw [bne, beq_eq_false_iff_ne.2 g37]; rfl
            cases hd : dgB (s[k + 1].toNat : Int) with
            | true =>
              have HK : Hid (∃ m2, s.size ≤ k + 2 + m2 ∧ tmB s = tmGo s m2 (k + 2)) := by
                obtain ⟨m2, u, v⟩ := tm_two hlt hm h37 h2 (.inr hd)
                exact ⟨m2, u, HJ.out.trans v⟩
              clear HJ h37 g37
              go_wp2_with fail
              refine (HD.out _ _).mono ?_
              rintro e w ⟨rfl, rfl⟩
              rw [hd]
              clear hd HD
              go_wp2_with fail
              go_roundw
              case rel => exact ⟨k + 2, by omega, by go_num, trivial, HK⟩
              case measure => simp [intOf]; omega
            | false =>
              have HE : Hid (tmB s = false) := HJ.out.trans (tm_bad hlt hm h37 h2 g37 hd)
              clear HJ h37 g37
              go_wp2_with fail
              refine (HD.out _ _).mono ?_
              rintro e w ⟨rfl, rfl⟩
              rw [hd]
              clear hd HD
              go_wp2_with fail
              go_ret
              exact ⟨by rw [HE.out]; rfl, rfl⟩
        · have z5 : ((k : Int) + 1 == (s.size : Int)) = true := beq_iff_eq.2 (by omega)
          have HE : Hid (tmB s = false) := HJ.out.trans (tm_cut hlt hm h37 h2)
          clear HJ h37 HD
          go_wp2_with fail
          go_ret
          exact ⟨by rw [HE.out]; rfl, rfl⟩
      · have e37 : ((s[k].toNat : Int) == 37) = false := beq_eq_false_iff_ne.2 h37
        have HK : Hid (∃ m2, s.size ≤ k + 1 + m2 ∧ tmB s = tmGo s m2 (k + 1)) := by
          obtain ⟨m2, u, v⟩ := tm_plain hlt hm h37
          exact ⟨m2, u, HJ.out.trans v⟩
        clear HJ h37 HD
        go_wp2_with fail
        go_roundw
        case rel => exact ⟨k + 1, by omega, by go_num, trivial, HK⟩
        case measure => simp [intOf]; omega
    · obtain rfl : k = s.size := by omega
      have HE : Hid (tmB s = true) := HJ.out.trans (tm_end s m _ (by omega))
      clear HD HJ
      go_wp2_with fail
      go_ret
      exact ⟨by rw [HE.out]; rfl, rfl⟩
end Go.Proofs.YtnpifgcgjgddoaaGreatDoor.T

namespace Go.Proofs.YtnpifgcgjgddoaaGreatDoor.T
open Go.RowKit
def seE (a b c d a' b' c' d' : Int) : Bool := (a == a') && ((b == b') && ((c == c') && (d == d')))
def ndE (m n : Nd) : Bool := (m.op == n.op) && ((m.nn == n.nn) && ((m.tx.toList == n.tx.toList) && seE m.s0 m.s1 m.s2 m.s3 n.s0 n.s1 n.s2 n.s3))
theorem ndE_refl (m : Nd) : ndE m m = true := by unfold ndE seE; simp
theorem eq41d (m : Nat) (a b c d a' b' c' d' : Int) (w : World) : (Op.equalIn (m + 2) 49 (.agg #[.int .u64 a, .int .u64 b, .int .u64 c, .int .u64 d]) (.agg #[.int .u64 a', .int .u64 b', .int .u64 c', .int .u64 d'])).run Tryz.prog w = .ok (seE a b c d a' b' c' d') w := by
  have u3 := Tryz.underlying48
  have a3 := Tryz.isAgg48
  have z3 := Tryz.sizeOf48
  rw [Op.equalIn]
  simp only [Sem.run_bind, run_underlying Tryz.underlying49, Result.andThen_ok]
  simp only [Std.Legacy.Range.forIn_eq_forIn_range', Std.Legacy.Range.size, Nat.sub_zero, Nat.add_sub_cancel, Nat.div_one, List.range'_succ, List.range'_zero, List.forIn_cons, List.forIn_nil]
  unfold seE
  cases ha : (a == a')
  · go_simp
  cases hb : (b == b')
  · go_simp
  cases hc : (c == c')
  · go_simp
  cases hd : (d == d')
  · go_simp
  go_simp

theorem eq41 (a b c d a' b' c' d' : Int) (w : World) : (Op.equalIn 9999 49 (.agg #[.int .u64 a, .int .u64 b, .int .u64 c, .int .u64 d]) (.agg #[.int .u64 a', .int .u64 b', .int .u64 c', .int .u64 d'])).run Tryz.prog w = .ok (seE a b c d a' b' c' d') w := eq41d 9997 a b c d a' b' c' d' w
theorem eq41e (a b c d a' b' c' d' : Int) (w : World) : (Op.equalIn 10000 49 (.agg #[.int .u64 a, .int .u64 b, .int .u64 c, .int .u64 d]) (.agg #[.int .u64 a', .int .u64 b', .int .u64 c', .int .u64 d'])).run Tryz.prog w = .ok (seE a b c d a' b' c' d') w := eq41d 9998 a b c d a' b' c' d' w

set_option maxRecDepth 100000 in
set_option maxHeartbeats 2000000 in
theorem node_eql (m n : Nd) (W : World) : (binOp .eql 51 (ndG m) (ndG n)).run Tryz.prog W = .ok (.bool (ndE m n)) W := by
  have hp : Tryz.prog.stoodInHeld 51 = false := by kernel_rfl
  unfold ndE
  cases ha : (m.op == n.op)
  · simp [go_sem, Tryz.underlying51, Tryz.underlying3, Tryz.underlying9, Tryz.isAgg49, Tryz.isAgg3, Tryz.isAgg9, Tryz.sizeOf49, hp, eq41, ha]
  cases hb : (m.nn == n.nn)
  · simp [go_sem, Tryz.underlying51, Tryz.underlying3, Tryz.underlying9, Tryz.isAgg49, Tryz.isAgg3, Tryz.isAgg9, Tryz.sizeOf49, hp, eq41, ha, hb]
  cases hc : (m.tx.toList == n.tx.toList)
  · simp [go_sem, Tryz.underlying51, Tryz.underlying3, Tryz.underlying9, Tryz.isAgg49, Tryz.isAgg3, Tryz.isAgg9, Tryz.sizeOf49, hp, eq41, ha, hb, hc]
  cases hd : seE m.s0 m.s1 m.s2 m.s3 n.s0 n.s1 n.s2 n.s3
  · simp [go_sem, Tryz.underlying51, Tryz.underlying3, Tryz.underlying9, Tryz.isAgg49, Tryz.isAgg3, Tryz.isAgg9, Tryz.sizeOf49, hp, eq41, ha, hb, hc, hd]
  simp [go_sem, Tryz.underlying51, Tryz.underlying3, Tryz.underlying9, Tryz.isAgg49, Tryz.isAgg3, Tryz.isAgg9, Tryz.sizeOf49, hp, eq41, ha, hb, hc, hd]
set_option maxRecDepth 100000 in
set_option maxHeartbeats 2000000 in
theorem node_neq (m n : Nd) (W : World) : (binOp .neq 51 (ndG m) (ndG n)).run Tryz.prog W = .ok (.bool (!ndE m n)) W := by
  have hp : Tryz.prog.stoodInHeld 51 = false := by kernel_rfl
  unfold ndE
  cases ha : (m.op == n.op)
  · simp [go_sem, Tryz.underlying51, Tryz.underlying3, Tryz.underlying9, Tryz.isAgg49, Tryz.isAgg3, Tryz.isAgg9, Tryz.sizeOf49, hp, eq41, ha]
  cases hb : (m.nn == n.nn)
  · simp [go_sem, Tryz.underlying51, Tryz.underlying3, Tryz.underlying9, Tryz.isAgg49, Tryz.isAgg3, Tryz.isAgg9, Tryz.sizeOf49, hp, eq41, ha, hb]
  cases hc : (m.tx.toList == n.tx.toList)
  · simp [go_sem, Tryz.underlying51, Tryz.underlying3, Tryz.underlying9, Tryz.isAgg49, Tryz.isAgg3, Tryz.isAgg9, Tryz.sizeOf49, hp, eq41, ha, hb, hc]
  cases hd : seE m.s0 m.s1 m.s2 m.s3 n.s0 n.s1 n.s2 n.s3
  · simp [go_sem, Tryz.underlying51, Tryz.underlying3, Tryz.underlying9, Tryz.isAgg49, Tryz.isAgg3, Tryz.isAgg9, Tryz.sizeOf49, hp, eq41, ha, hb, hc, hd]
  simp [go_sem, Tryz.underlying51, Tryz.underlying3, Tryz.underlying9, Tryz.isAgg49, Tryz.isAgg3, Tryz.isAgg9, Tryz.sizeOf49, hp, eq41, ha, hb, hc, hd]
theorem set_eql (a b c d a' b' c' d' : Int) (W : World) : (binOp .eql 49 (.agg #[.int .u64 a, .int .u64 b, .int .u64 c, .int .u64 d]) (.agg #[.int .u64 a', .int .u64 b', .int .u64 c', .int .u64 d'])).run Tryz.prog W = .ok (.bool (seE a b c d a' b' c' d')) W := by
  have h := eq41e a b c d a' b' c' d'
  simp [go_sem, h]
theorem set_neq (a b c d a' b' c' d' : Int) (W : World) : (binOp .neq 49 (.agg #[.int .u64 a, .int .u64 b, .int .u64 c, .int .u64 d]) (.agg #[.int .u64 a', .int .u64 b', .int .u64 c', .int .u64 d'])).run Tryz.prog W = .ok (.bool (!seE a b c d a' b' c' d')) W := by
  have h := eq41e a b c d a' b' c' d'
  simp [go_sem, h]
theorem seE_zero (op a b c d : Int) (h : ¬ op = 5) : seE a b c d 0 0 0 0 = seF op a b c d := by
  unfold seE seF
  rw [if_neg h]
  by_cases ha : a = 0 <;> by_cases hb : b = 0 <;> by_cases hc : c = 0 <;> by_cases hd : d = 0 <;> simp [ha, hb, hc, hd]
end Go.Proofs.YtnpifgcgjgddoaaGreatDoor.T

namespace Go.Proofs.YtnpifgcgjgddoaaGreatDoor.T
open Go.RowKit
/-- A node, laid in a block. -/
structure NB (W : World) (g o : Nat) (n : Nd) : Prop where
  c0 : W.cell? ⟨g, o, none⟩ = some (.int .i64 n.op)
  c1 : W.cell? ⟨g, o + 1, none⟩ = some (.int .i64 n.nn)
  c2 : W.cell? ⟨g, o + 2, none⟩ = some (.string n.tx)
  c3 : W.cell? ⟨g, o + 3, none⟩ = some (.int .u64 n.s0)
  c4 : W.cell? ⟨g, o + 4, none⟩ = some (.int .u64 n.s1)
  c5 : W.cell? ⟨g, o + 5, none⟩ = some (.int .u64 n.s2)
  c6 : W.cell? ⟨g, o + 6, none⟩ = some (.int .u64 n.s3)
theorem NB.lt {W : World} {g o : Nat} {n : Nd} (h : NB W g o n) : g < W.heap.size := World.block_lt_of_cell? W _ h.c0
theorem NB.same {W W' : World} {g o : Nat} {n : Nd} (h : NB W g o n) (hb : W'.heap[g]? = W.heap[g]?) : NB W' g o n := by
  have key : ∀ j, W'.cell? ⟨g, j, none⟩ = W.cell? ⟨g, j, none⟩ := fun j => World.cell?_of_block (a := ⟨g, j, none⟩) hb
  exact ⟨(key _).trans h.c0, (key _).trans h.c1, (key _).trans h.c2, (key _).trans h.c3, (key _).trans h.c4, (key _).trans h.c5, (key _).trans h.c6⟩
theorem NB.below {W W' : World} {g o : Nat} {n : Nd} (h : NB W g o n) (hb : Below W.heap.size W W') : NB W' g o n := h.same (hb.block g h.lt)
abbrev ndO (n : Nd) : Obj := .cells #[.int .i64 n.op, .int .i64 n.nn, .string n.tx, .int .u64 n.s0, .int .u64 n.s1, .int .u64 n.s2, .int .u64 n.s3] 51
theorem nb_new (w : World) (n : Nd) : NB (w.alloc (ndO n)) w.heap.size 0 n := by
  have key : ∀ (j : Nat) u, (#[Value.int .i64 n.op, .int .i64 n.nn, .string n.tx, .int .u64 n.s0, .int .u64 n.s1, .int .u64 n.s2, .int .u64 n.s3] : Array Value)[j]? = some u → (w.alloc (ndO n)).cell? ⟨w.heap.size, j, none⟩ = some u := fun j u hu => by
    rw [cell_of_row (w.alloc (ndO n)) w.heap.size j _ 51 (0, 0) (heap_alloc_new w _)]
    exact hu
  exact ⟨key 0 _ rfl, key 1 _ rfl, key 2 _ rfl, key 3 _ rfl, key 4 _ rfl, key 5 _ rfl, key 6 _ rfl⟩
theorem below_box (w : World) (o : Obj) : Below w.heap.size w (w.alloc o) := (Below.refl _ _).alloc (Nat.le_refl _) _

set_option maxRecDepth 100000 in
set_option maxHeartbeats 2000000 in
theorem numberFits_any (op nn : Int) (tx : ByteArray) (a b c d : Int) (w : World) : Calls Tryz.prog 92 #[.agg #[.int .i64 op, .int .i64 nn, .string tx, .int .u64 a, .int .u64 b, .int .u64 c, .int .u64 d]] w fun e w' => e = .returned (.bool (nuF op nn)) ∧ Below w.heap.size w w' := by
  have key : ∀ (q : op = 14 ∨ op = 15 ∨ op = 16 ∨ op = 23), Hid (nuF op nn = decide (0 ≤ nn ∧ nn ≤ 50)) := fun q => (by show nuF op nn = _; unfold nuF; rw [if_pos q])
  by_cases h0 : op = 14 ∨ op = 15 ∨ op = 16 ∨ op = 23
  · have HE := key h0
    clear key
    rcases h0 with rfl | rfl | rfl | rfl
    all_goals
      by_cases n0 : 0 ≤ nn
      · have HF : Hid (nuF _ nn = decide (nn ≤ 50)) := (by show nuF _ nn = _; rw [HE.out]; simp only [n0, true_and])
        clear HE
        go_enter Tryz.func92, Tryz.ntmps92
        go_wp2_with fail
        go_ret
        exact ⟨by rw [HF.out]; rfl, below_box _ _⟩
      · have HF : Hid (nuF _ nn = false) := (by show nuF _ nn = _; rw [HE.out]; simp only [n0, false_and, decide_false])
        clear HE
        go_enter Tryz.func92, Tryz.ntmps92
        go_wp2_with fail
        go_ret
        exact ⟨by rw [HF.out]; rfl, below_box _ _⟩
  · have HF : Hid (nuF op nn = (nn == 0)) := (by show nuF op nn = _; unfold nuF; rw [if_neg h0]; rfl)
    have e1 : (op == 14) = false := beq_eq_false_iff_ne.2 (by omega)
    have e2 : (op == 15) = false := beq_eq_false_iff_ne.2 (by omega)
    have e3 : (op == 16) = false := beq_eq_false_iff_ne.2 (by omega)
    have e4 : (op == 23) = false := beq_eq_false_iff_ne.2 (by omega)
    clear h0 key
    go_enter Tryz.func92, Tryz.ntmps92
    go_wp2_with fail
    go_ret
    exact ⟨by rw [HF.out]; rfl, below_box _ _⟩

set_option maxRecDepth 100000 in
set_option maxHeartbeats 2000000 in
theorem setFits_any (op nn : Int) (tx : ByteArray) (a b c d : Int) (w : World) : Calls Tryz.prog 93 #[.agg #[.int .i64 op, .int .i64 nn, .string tx, .int .u64 a, .int .u64 b, .int .u64 c, .int .u64 d]] w fun e w' => e = .returned (.bool (seF op a b c d)) ∧ Below w.heap.size w w' := by
  by_cases h5 : op = 5
  · have HF : Hid (seF op a b c d = true) := (by show seF op a b c d = _; unfold seF; rw [if_pos h5])
    have e5 : (op == 5) = true := beq_iff_eq.2 h5
    clear h5
    go_enter Tryz.func93, Tryz.ntmps93
    go_wp2_with fail
    go_ret
    exact ⟨by rw [HF.out]; rfl, below_box _ _⟩
  · have HF : Hid (seF op a b c d = seE a b c d 0 0 0 0) := (by show seF op a b c d = _; rw [seE_zero op a b c d h5])
    have e5 : (op == 5) = false := beq_eq_false_iff_ne.2 h5
    have hq := set_eql a b c d 0 0 0 0
    clear h5
    go_enter Tryz.func93, Tryz.ntmps93
    go_wp2_with fail
    go_ret
    exact ⟨by rw [HF.out]; rfl, below_box _ _⟩

set_option maxRecDepth 100000 in
set_option maxHeartbeats 4000000 in
theorem textFits_any (op nn : Int) (tx : ByteArray) (a b c d : Int) (hs : tx.size ≤ 140737488355328) (w : World) : Calls Tryz.prog 91 #[.agg #[.int .i64 op, .int .i64 nn, .string tx, .int .u64 a, .int .u64 b, .int .u64 c, .int .u64 d]] w fun e w' => e = .returned (.bool (txF op tx)) ∧ Below w.heap.size w w' := by
  have HN : Hid (∀ w, Calls Tryz.prog 120 #[.string tx] w fun e w' => e = .returned (.bool (nmB tx)) ∧ w' = w) := fun w => isName_any tx hs w
  have HT : Hid (∀ w, Calls Tryz.prog 121 #[.string tx] w fun e w' => e = .returned (.bool (tmB tx)) ∧ w' = w) := fun w => isTemplate_any tx hs w
  by_cases h4 : op = 4
  · have e4 : (op == 4) = true := beq_iff_eq.2 h4
    by_cases q0 : tx.size = 0
    · have HF : Hid (txF op tx = false) := (by show txF op tx = _; unfold txF; rw [if_pos h4, decide_eq_false (by omega)])
      have t0 := emp_t q0
      clear h4 q0 HN HT
      go_enter Tryz.func91, Tryz.ntmps91
      go_wp2_with fail
      go_ret
      exact ⟨by rw [HF.out]; rfl, below_box _ _⟩
    · have HF : Hid (txF op tx = decide ((tx.size : Int) ≤ 255)) := (by
        show txF op tx = _
        unfold txF
        rw [if_pos h4]
        by_cases q : tx.size ≤ 255
        · rw [decide_eq_true (by omega), decide_eq_true (by omega)]
        · rw [decide_eq_false (by omega), decide_eq_false (by omega)])
      have t0 := emp_f q0
      clear h4 q0 HN HT
      go_enter Tryz.func91, Tryz.ntmps91
      go_wp2_with fail
      go_ret
      exact ⟨by rw [HF.out]; rfl, below_box _ _⟩
  have e4 : (op == 4) = false := beq_eq_false_iff_ne.2 h4
  by_cases h6 : op = 6
  · have e6 : (op == 6) = true := beq_iff_eq.2 h6
    have HF : Hid (txF op tx = nmB tx) := (by show txF op tx = _; unfold txF; rw [if_neg h4, if_pos h6])
    clear h4 h6 HT
    go_enter Tryz.func91, Tryz.ntmps91
    go_wp2_with fail
    refine (HN.out _).mono ?_
    rintro e w2 ⟨rfl, rfl⟩
    clear HN
    go_wp2_with fail
    go_ret
    exact ⟨by rw [HF.out]; rfl, below_box _ _⟩
  have e6 : (op == 6) = false := beq_eq_false_iff_ne.2 h6
  by_cases h19 : op = 19
  · have e19 : (op == 19) = true := beq_iff_eq.2 h19
    by_cases q0 : tx.size = 0
    · have HF : Hid (txF op tx = true) := (by show txF op tx = _; unfold txF; rw [if_neg h4, if_neg h6, if_pos h19, decide_eq_true q0]; rfl)
      have t0 := emp_t q0
      clear h4 h6 h19 q0 HN HT
      go_enter Tryz.func91, Tryz.ntmps91
      go_wp2_with fail
      go_ret
      exact ⟨by rw [HF.out]; rfl, below_box _ _⟩
    · have HF : Hid (txF op tx = nmB tx) := (by show txF op tx = _; unfold txF; rw [if_neg h4, if_neg h6, if_pos h19, decide_eq_false q0]; rfl)
      have t0 := emp_f q0
      clear h4 h6 h19 q0 HT
      go_enter Tryz.func91, Tryz.ntmps91
      go_wp2_with fail
      refine (HN.out _).mono ?_
      rintro e w2 ⟨rfl, rfl⟩
      clear HN
      go_wp2_with fail
      go_ret
      exact ⟨by rw [HF.out]; rfl, below_box _ _⟩
  have e19 : (op == 19) = false := beq_eq_false_iff_ne.2 h19
  by_cases h22 : op = 22
  · have e22 : (op == 22) = true := beq_iff_eq.2 h22
    have HF : Hid (txF op tx = tmB tx) := (by show txF op tx = _; unfold txF; rw [if_neg h4, if_neg h6, if_neg h19, if_pos h22])
    clear h4 h6 h19 h22 HN
    go_enter Tryz.func91, Tryz.ntmps91
    go_wp2_with fail
    refine (HT.out _).mono ?_
    rintro e w2 ⟨rfl, rfl⟩
    clear HT
    go_wp2_with fail
    go_ret
    exact ⟨by rw [HF.out]; rfl, below_box _ _⟩
  have e22 : (op == 22) = false := beq_eq_false_iff_ne.2 h22
  by_cases q0 : tx.size = 0
  · have HF : Hid (txF op tx = true) := (by show txF op tx = _; unfold txF; rw [if_neg h4, if_neg h6, if_neg h19, if_neg h22, decide_eq_true q0])
    have t0 := emp_t q0
    clear h4 h6 h19 h22 q0 HN HT
    go_enter Tryz.func91, Tryz.ntmps91
    go_wp2_with fail
    go_ret
    exact ⟨by rw [HF.out]; rfl, below_box _ _⟩
  · have HF : Hid (txF op tx = false) := (by show txF op tx = _; unfold txF; rw [if_neg h4, if_neg h6, if_neg h19, if_neg h22, decide_eq_false q0])
    have t0 := emp_f q0
    clear h4 h6 h19 h22 q0 HN HT
    go_enter Tryz.func91, Tryz.ntmps91
    go_wp2_with fail
    go_ret
    exact ⟨by rw [HF.out]; rfl, below_box _ _⟩

set_option maxRecDepth 100000 in
set_option maxHeartbeats 4000000 in
theorem alone_any (n : Nd) (hs : n.tx.size ≤ 140737488355328) (w : World) : Calls Tryz.prog 67 #[ndG n] w fun e w' => e = .returned (.int .i64 (alE n)) ∧ Below w.heap.size w w' := by
  obtain ⟨op, nn, tx, a, b, c, d⟩ := n
  have HA : Hid (∀ w, Calls Tryz.prog 68 #[.int .i64 op] w fun e w' => e = .returned (.int .i64 (ar op)) ∧ w' = w) := fun w => arity_any op w
  have HT : Hid (∀ w, Calls Tryz.prog 91 #[.agg #[.int .i64 op, .int .i64 nn, .string tx, .int .u64 a, .int .u64 b, .int .u64 c, .int .u64 d]] w fun e w' => e = .returned (.bool (txF op tx)) ∧ Below w.heap.size w w') := fun w => textFits_any op nn tx a b c d hs w
  have HN : Hid (∀ w, Calls Tryz.prog 92 #[.agg #[.int .i64 op, .int .i64 nn, .string tx, .int .u64 a, .int .u64 b, .int .u64 c, .int .u64 d]] w fun e w' => e = .returned (.bool (nuF op nn)) ∧ Below w.heap.size w w') := fun w => numberFits_any op nn tx a b c d w
  have HS : Hid (∀ w, Calls Tryz.prog 93 #[.agg #[.int .i64 op, .int .i64 nn, .string tx, .int .u64 a, .int .u64 b, .int .u64 c, .int .u64 d]] w fun e w' => e = .returned (.bool (seF op a b c d)) ∧ Below w.heap.size w w') := fun w => setFits_any op nn tx a b c d w
  by_cases h0 : ar op < 0
  · have HE : Hid (alE ⟨op, nn, tx, a, b, c, d⟩ = 40) := (by show alE _ = _; unfold alE; rw [if_pos h0])
    go_enter Tryz.func67, Tryz.ntmps67
    go_wp2_with fail
    refine (HA.out _).mono ?_
    rintro e w2 ⟨rfl, rfl⟩
    clear HA HT HN HS
    generalize ar op = k at *
    go_wp2_with fail
    go_ret
    exact ⟨by rw [HE.out]; rfl, below_box _ _⟩
  have HE : Hid (alE ⟨op, nn, tx, a, b, c, d⟩ = if txF op tx && nuF op nn && seF op a b c d then 0 else 41) := (by show alE _ = _; unfold alE; rw [if_neg h0]; rfl)
  go_enter Tryz.func67, Tryz.ntmps67
  go_wp2_with fail
  refine (HA.out _).mono ?_
  rintro e w2 ⟨rfl, rfl⟩
  clear HA
  generalize ar op = k at *
  go_wp2_with fail
  refine (HT.out _).mono ?_
  rintro e w3 ⟨rfl, b3⟩
  have HB : Hid (NB w3 w.heap.size 0 ⟨op, nn, tx, a, b, c, d⟩) := (nb_new w ⟨op, nn, tx, a, b, c, d⟩).below b3
  have HW : Hid (Below w.heap.size w w3) := (below_box _ _).trans (b3.mono (below_box _ _).size)
  clear b3 HT
  obtain ⟨c0, c1, c2, c3, c4, c5, c6⟩ := HB.out
  simp only [Nat.zero_add] at c0 c1 c2 c3 c4 c5 c6
  generalize txF op tx = t1 at *
  cases t1 with
  | false =>
    clear HN HS
    go_wp2_with fail
    go_ret
    exact ⟨by rw [HE.out]; rfl, HW.out⟩
  | true =>
    go_wp2_with fail
    refine (HN.out _).mono ?_
    rintro e w4 ⟨rfl, b4⟩
    clear HN c0 c1 c2 c3 c4 c5 c6
    have HB4 : Hid (NB w4 w.heap.size 0 ⟨op, nn, tx, a, b, c, d⟩) := HB.out.below b4
    have HW4 : Hid (Below w.heap.size w w4) := HW.out.trans (b4.mono HW.out.size)
    clear b4 HB HW
    obtain ⟨c0, c1, c2, c3, c4, c5, c6⟩ := HB4.out
    simp only [Nat.zero_add] at c0 c1 c2 c3 c4 c5 c6
    generalize nuF op nn = t2 at *
    cases t2 with
    | false =>
      clear HS
      go_wp2_with fail
      go_ret
      exact ⟨by rw [HE.out]; rfl, HW4.out⟩
    | true =>
      go_wp2_with fail
      refine (HS.out _).mono ?_
      rintro e w5 ⟨rfl, b5⟩
      clear HS c0 c1 c2 c3 c4 c5 c6
      have HW5 : Hid (Below w.heap.size w w5) := HW4.out.trans (b5.mono HW4.out.size)
      clear b5 HW4 HB4
      generalize seF op a b c d = t3 at *
      cases t3 with
      | false =>
        go_wp2_with fail
        go_ret
        exact ⟨by rw [HE.out]; rfl, HW5.out⟩
      | true =>
        go_wp2_with fail
        go_ret
        exact ⟨by rw [HE.out]; rfl, HW5.out⟩
end Go.Proofs.YtnpifgcgjgddoaaGreatDoor.T
