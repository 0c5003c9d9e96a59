/- DERIVED. Plain mathematics and walks, laid together (2). -/
import Derived.WalkKit
import Derived.ProofKit
import Derived.BigQuiet
import Derived.Test.YtkihfkcmcdiajaaGreatDoorPk01
namespace Go.Proofs.YtkihfkcmcdiajaaGreatDoor
open Go.RowKit
def dgB (c : Int) : Bool := decide (48 ≤ c) && decide (c ≤ 57)
def hdB (c : Int) : Bool := (decide (97 ≤ c) && decide (c ≤ 122)) || (decide (65 ≤ c) && decide (c ≤ 90)) || c == 95
def nmB (c : Int) : Bool := hdB c || dgB c
/-- Behind the bytes at a place that a test lets by. -/
def spGo (P : Int → Bool) (s : ByteArray) : Nat → Nat → Nat
  | 0, i => i
  | m + 1, i => if P (chr s i) then spGo P s m (i + 1) else i
def spN (P : Int → Bool) (s : ByteArray) (i : Nat) : Nat := spGo P s (s.size - i) i
theorem spN_stop {P : Int → Bool} {s : ByteArray} {i : Nat} (h : P (chr s i) = false) : spN P s i = i := by
  unfold spN
  cases s.size - i with
  | zero => rfl
  | succ m => rw [spGo, h]; rfl
theorem spN_next {P : Int → Bool} {s : ByteArray} {i : Nat} (hn : P (-1) = false) (h : P (chr s i) = true) : i < s.size ∧ spN P s i = spN P s (i + 1) := by
  have hi : i < s.size := by
    by_cases q : i < s.size
    · exact q
    · rw [chr_out (by omega), hn] at h; cases h
  refine ⟨hi, ?_⟩
  unfold spN
  rw [show s.size - i = (s.size - (i + 1)) + 1 from by omega, spGo, h]
  rfl
theorem spN_spec (P : Int → Bool) (s : ByteArray) (hn : P (-1) = false) : ∀ d i, s.size - i = d → i ≤ spN P s i ∧ (i ≤ s.size → spN P s i ≤ s.size) ∧ P (chr s (spN P s i)) = false ∧ ∀ k, i ≤ k → k < spN P s i → P (chr s k) = true := by
  intro d
  induction d with
  | zero =>
    intro i hi
    have h : P (chr s i) = false := by rw [chr_out (by omega)]; exact hn
    rw [spN_stop h]
    exact ⟨Nat.le_refl _, fun q => q, h, fun k h1 h2 => by omega⟩
  | succ d ih =>
    intro i hi
    cases h : P (chr s i) with
    | false => rw [spN_stop h]; exact ⟨Nat.le_refl _, fun q => q, h, fun k h1 h2 => by omega⟩
    | true =>
      obtain ⟨h1, h2⟩ := spN_next hn h
      obtain ⟨i1, i2, i3, i4⟩ := ih (i + 1) (by omega)
      rw [h2]
      refine ⟨by omega, fun _ => i2 (by omega), i3, fun k k1 k2 => ?_⟩
      by_cases e : k = i
      · subst e; exact h
      · exact i4 k (by omega) k2
theorem spN_ge (P : Int → Bool) (s : ByteArray) (hn : P (-1) = false) (i : Nat) : i ≤ spN P s i := (spN_spec P s hn _ i rfl).1
theorem spN_le (P : Int → Bool) (s : ByteArray) (hn : P (-1) = false) (i : Nat) (h : i ≤ s.size) : spN P s i ≤ s.size := (spN_spec P s hn _ i rfl).2.1 h
/-- The number that k digits to a base tell, from a place on. -/
def wthR (s : ByteArray) (i : Nat) (base : Int) : Nat → Int
  | 0 => 0
  | k + 1 => wthR s i base k * base + hexV (chr s (i + k))
theorem wthR_bd (s : ByteArray) (i : Nat) (base : Int) (hb : 0 ≤ base ∧ base ≤ 16) : ∀ k, -(16 ^ k : Int) ≤ wthR s i base k - 1 ∧ wthR s i base k + 1 ≤ (16 ^ k : Int) := by
  intro k
  induction k with
  | zero => simp [wthR]
  | succ k ih =>
    have h := hexV_bd (chr s (i + k))
    have h16 : (16 : Int) ^ (k + 1) = 16 ^ k * 16 := by rw [Int.pow_succ]
    rw [wthR, h16]
    generalize wthR s i base k = x at *
    generalize (16 : Int) ^ k = p at *
    have hp : (1 : Int) ≤ p := by omega
    constructor
    · by_cases hx : 0 ≤ x
      · have : 0 ≤ x * base := Int.mul_nonneg hx hb.1
        omega
      · have h1 : x * base ≥ x * 16 := by
          have : (-x) * base ≤ (-x) * 16 := Int.mul_le_mul_of_nonneg_left hb.2 (by omega)
          rw [Int.neg_mul, Int.neg_mul] at this
          omega
        omega
    · by_cases hx : 0 ≤ x
      · have h1 : x * base ≤ x * 16 := Int.mul_le_mul_of_nonneg_left hb.2 hx
        omega
      · have h1 : x * base ≤ 0 := by
          have : 0 ≤ (-x) * base := Int.mul_nonneg (by omega) hb.1
          rw [Int.neg_mul] at this
          omega
        omega
theorem chr_ext {s : ByteArray} {a b k : Nat} (h : a + k < b) (hb : b ≤ s.size) : chr (s.extract a b) k = chr s (a + k) := by
  have h1 : k < (s.extract a b).size := by rw [ByteArray.size_extract]; omega
  rw [chr_in h1, chr_in (show a + k < s.size by omega)]
  congr 2
  exact ByteArray.getElem_extract h1
theorem wthR_ext {s : ByteArray} {a b : Nat} {base : Int} (hb : b ≤ s.size) : ∀ k, a + k ≤ b → wthR (s.extract a b) 0 base k = wthR s a base k := by
  intro k
  induction k with
  | zero => intro _; rfl
  | succ k ih =>
    intro h
    rw [wthR, wthR, ih (by omega), Nat.zero_add, chr_ext (by omega) hb]
/-- A number, or what is wrong. -/
def numR (s : ByteArray) (i : Nat) (most : Int) : Sum Int Int :=
  if spN dgB s i - i = 0 ∨ (1 < spN dgB s i - i ∧ chr s i = 48) then .inr 50
  else if 6 < spN dgB s i - i ∨ most < wthR s i 10 (spN dgB s i - i) then .inr 1
  else .inl (wthR s i 10 (spN dgB s i - i))
/-- A token. -/
structure Tk where
  kd : Int
  nn : Int
  fr : Int
  en : Int
  tx : ByteArray
  s0 : Int
  s1 : Int
  s2 : Int
  s3 : Int
abbrev tkG (t : Tk) : Value := .agg #[.int .i64 t.kd, .int .i64 t.nn, .int .i64 t.fr, .int .i64 t.en, .string t.tx, .int .u64 t.s0, .int .u64 t.s1, .int .u64 t.s2, .int .u64 t.s3]
def tk0 : Tk := ⟨0, 0, 0, 0, ⟨#[]⟩, 0, 0, 0, 0⟩
/-- A byte behind a backslash in a literal. -/
def escT (s : ByteArray) (i : Nat) : Option (Nat × Nat) :=
  if chr s (i + 1) = 110 then some (10, i + 2) else if chr s (i + 1) = 114 then some (13, i + 2) else if chr s (i + 1) = 116 then some (9, i + 2)
  else if chr s (i + 1) = 92 ∨ chr s (i + 1) = 39 ∨ chr s (i + 1) = 34 then some ((chr s (i + 1)).toNat, i + 2)
  else if chr s (i + 1) = 120 ∧ 0 ≤ hexV (chr s (i + 2)) ∧ 0 ≤ hexV (chr s (i + 3)) then some ((16 * hexV (chr s (i + 2)) + hexV (chr s (i + 3))).toNat, i + 4)
  else none
def litGo (s : ByteArray) (q : Int) (b : Nat) : Nat → List Int → Nat → Sum Tk (Nat × Int)
  | 0, _, _ => .inr (b, 52)
  | f + 1, out, i =>
    if chr s i < 0 then .inr (b, 52) else if chr s i = q then (if 255 < out.length then .inr (b, 2) else .inl ⟨2, 0, b, i + 1, asText out, 0, 0, 0, 0⟩)
    else if chr s i < 32 ∨ chr s i = 127 then .inr (i, 50) else if chr s i ≠ 92 then litGo s q b f (out ++ [chr s i]) (i + 1)
    else match escT s i with
      | none => .inr (i, 51)
      | some (c, n) => litGo s q b f (out ++ [(c : Int)]) n
def litR (s : ByteArray) (b : Nat) : Sum Tk (Nat × Int) := litGo s (chr s b) b (s.size + 1) [] (b + 1)
end Go.Proofs.YtkihfkcmcdiajaaGreatDoor

namespace Go.Proofs.YtkihfkcmcdiajaaGreatDoor.T
open Go.RowKit
def dgB (c : Int) : Bool := decide (48 ≤ c) && decide (c ≤ 57)
def ltB (c : Int) : Bool := (decide (97 ≤ c) && decide (c ≤ 122)) || (decide (65 ≤ c) && decide (c ≤ 90))
def nmC (c : Int) : Bool := dgB c || ltB c || c == 95

def NmP (s : ByteArray) : Prop := 0 < s.size ∧ s.size ≤ 32 ∧ (∀ h : 0 < s.size, dgB (s[0].toNat : Int) = false) ∧ ∀ (j : Nat) (h : j < s.size), nmC (s[j].toNat : Int) = true
def decNm (s:ByteArray):Decidable (NmP s):=by unfold NmP;exact inferInstance
def nmB (s:ByteArray):Bool:=@decide (NmP s) (decNm s)
theorem nmB_t {s : ByteArray} (h : NmP s) : nmB s = true := by unfold nmB; exact @decide_eq_true _ (decNm _) h
theorem nmB_f {s : ByteArray} (h : ¬ NmP s) : nmB s = false := by unfold nmB; exact @decide_eq_false _ (decNm _) h

def tmGo (s : ByteArray) : Nat → Nat → Bool
  | 0, _ => true
  | m + 1, i => if h : i < s.size then (if (s[i].toNat : Int) = 37 then (if h2 : i + 1 < s.size then (if (s[i + 1].toNat : Int) = 37 ∨ dgB (s[i + 1].toNat : Int) = true then tmGo s m (i + 2) else false) else false) else tmGo s m (i + 1)) else true
def tmB (s : ByteArray) : Bool := if s.size ≤ 255 then tmGo s s.size 0 else false

/-- A node of a pattern. -/
structure Nd where
  op : Int
  nn : Int
  tx : ByteArray
  s0 : Int
  s1 : Int
  s2 : Int
  s3 : Int

def ar (op : Int) : Int := if op < 1 ∨ 23 < op then -1 else if op ≤ 6 ∨ op = 17 then 0 else if op = 7 ∨ op = 8 then 2 else 1
theorem ar_hi (op : Int) : ar op ≤ 2 := by
  unfold ar; split
  · omega
  · split
    · omega
    · split <;> omega

def txF (op : Int) (tx : ByteArray) : Bool := if op = 4 then decide (1 ≤ tx.size ∧ tx.size ≤ 255) else if op = 6 then nmB tx else if op = 19 then decide (tx.size = 0) || nmB tx else if op = 22 then tmB tx else decide (tx.size = 0)
def nuF (op nn : Int) : Bool := if op = 14 ∨ op = 15 ∨ op = 16 ∨ op = 23 then decide (0 ≤ nn ∧ nn ≤ 50) else decide (nn = 0)
def seF (op a b c d : Int) : Bool := if op = 5 then true else decide (a = 0 ∧ b = 0 ∧ c = 0 ∧ d = 0)
def fdF (n : Nd) : Bool := txF n.op n.tx && nuF n.op n.nn && seF n.op n.s0 n.s1 n.s2 n.s3
def alE (n : Nd) : Int := if ar n.op < 0 then 40 else if fdF n then 0 else 41

abbrev ndG (n : Nd) : Value := .agg #[.int .i64 n.op, .int .i64 n.nn, .string n.tx, .int .u64 n.s0, .int .u64 n.s1, .int .u64 n.s2, .int .u64 n.s3]
def ndV (n : Nd) : List Value := [.int .i64 n.op, .int .i64 n.nn, .string n.tx, .int .u64 n.s0, .int .u64 n.s1, .int .u64 n.s2, .int .u64 n.s3]
def ndc (l : List Nd) : List Value := l.flatMap ndV
theorem ndc_append (a b : List Nd) : ndc (a ++ b) = ndc a ++ ndc b := List.flatMap_append
theorem ndc_one (n : Nd) : ndc [n] = ndV n := by unfold ndc; rw [List.flatMap_cons, List.flatMap_nil, List.append_nil]
theorem ndc_len (l : List Nd) : (ndc l).length = l.length * 7 := by
  induction l with
  | nil => rfl
  | cons a l ih => show (ndV a ++ ndc l).length = _; rw [List.length_append, ih, List.length_cons]; show 7 + _ = _; omega

theorem emp_t {s : ByteArray} (h : s.size = 0) : s.toList.isEmpty = true := by
  obtain ⟨d⟩ := s
  have h2 : d.size = 0 := h
  rw [ByteArray.toList_eq, Array.eq_empty_of_size_eq_zero h2]; rfl
theorem emp_f {s : ByteArray} (h : ¬ s.size = 0) : s.toList.isEmpty = false := by
  obtain ⟨d⟩ := s
  have h2 : ¬ d.toList.length = 0 := h
  rw [ByteArray.toList_eq]
  show d.toList.isEmpty = false
  cases hd : d.toList with
  | nil => rw [hd] at h2; exact absurd rfl h2
  | cons a b => rfl
theorem ret_bool {a b : Bool} (h : a = b) : Ending.returned (.bool a) = .returned (.bool b) := by rw [h]
theorem ret_int {a b : Int} (h : a = b) : Ending.returned (.int .i64 a) = .returned (.int .i64 b) := by rw [h]
end Go.Proofs.YtkihfkcmcdiajaaGreatDoor.T

namespace Go.Proofs.YtkihfkcmcdiajaaGreatDoor.N
open Go.RowKit
abbrev Nd := T.Nd
def nd0 (op : Int) : Nd := ⟨op, 0, ⟨#[]⟩, 0, 0, 0, 0⟩
/-- The tokens; the pattern of code points; what a template is. -/
structure PE where
  l : List Tk
  rn : Int → Int → List Nd
  tm : ByteArray → Bool
def kdA (E : PE) (i : Nat) : Int := match E.l[i]? with
  | some t => t.kd
  | none => 0
def tkA (E : PE) (i : Nat) : Tk := (E.l[i]?).getD tk0
def bgK (k : Int) : Bool := k == 8 || k == 9 || k == 2 || k == 3 || k == 28 || k == 5 || k == 18 || k == 29 || k == 30 || k == 16 || k == 19 || k == 21 || k == 23 || k == 25
def bgn (E : PE) (i : Nat) : Bool := bgK (kdA E i) || (kdA E i == 1 && !(kdA E (i + 1) == 6))
abbrev PR := Sum (Nat × List Nd) (Nat × Int)
def bnd (r : PR) (f : Nat → List Nd → PR) : PR := match r with
  | .inl p => f p.1 p.2
  | .inr q => .inr q
def ahd (ns : List Nd) (r : PR) : PR := match r with
  | .inl p => .inl (p.1, ns ++ p.2)
  | .inr q => .inr q
/-- A suffix: its node and how many tokens; none; or what is wrong, one token on. -/
def sufK (tm : ByteArray → Bool) (t u : Tk) (k k2 : Int) : Sum (Nd × Nat) (Option Int) :=
  if k = 10 then .inl (nd0 11, 1) else if k = 11 then .inl (nd0 9, 1) else if k = 12 then .inl (nd0 10, 1)
  else if k = 13 then .inl (⟨14, t.nn, ⟨#[]⟩, 0, 0, 0, 0⟩, 1) else if k = 14 then .inl (⟨15, t.nn, ⟨#[]⟩, 0, 0, 0, 0⟩, 1)
  else if k = 15 then .inl (⟨16, t.nn, ⟨#[]⟩, 0, 0, 0, 0⟩, 1)
  else if k = 27 then
    (if k2 = 2 then (if tm u.tx then .inl (⟨22, 0, u.tx, 0, 0, 0, 0⟩, 2) else .inr (some 61))
     else if k2 = 4 then (if 50 < u.nn then .inr (some 1) else .inl (⟨23, u.nn, ⟨#[]⟩, 0, 0, 0, 0⟩, 2))
     else .inr (some 60))
  else .inr none
def sufN (E : PE) (i : Nat) : Sum (Nd × Nat) (Option Int) := sufK E.tm (tkA E i) (tkA E (i + 1)) (kdA E i) (kdA E (i + 1))
/-- A primary: a leaf's nodes and how many tokens; or the sign that closes it, and the node around. -/
def primK (rn : Int → Int → List Nd) (t : Tk) (k2 : Int) : Sum (List Nd × Nat) (Int × List Nd) :=
  if t.kd = 2 then .inl (if t.tx.size = 0 then [nd0 1] else [⟨4, 0, t.tx, 0, 0, 0, 0⟩], 1)
  else if t.kd = 3 ∨ t.kd = 28 then .inl ([⟨5, 0, ⟨#[]⟩, t.s0, t.s1, t.s2, t.s3⟩], 1)
  else if t.kd = 5 then .inl (rn t.nn t.s0, 1)
  else if t.kd = 18 then .inl ([nd0 3], 1) else if t.kd = 29 then .inl ([nd0 1], 1) else if t.kd = 30 then .inl ([nd0 2], 1)
  else if t.kd = 1 then .inl ([⟨6, 0, t.tx, 0, 0, 0, 0⟩], 1)
  else if t.kd = 16 then .inr (17, [])
  else if t.kd = 19 then (if k2 = 20 then .inl ([nd0 17], 2) else .inr (20, [nd0 18]))
  else if t.kd = 21 then .inr (22, [⟨19, 0, t.tx, 0, 0, 0, 0⟩])
  else if t.kd = 23 then .inr (24, [nd0 20]) else .inr (26, [nd0 21])
def primL (E : PE) (i : Nat) : Sum (List Nd × Nat) (Int × List Nd) := primK E.rn (tkA E i) (kdA E (i + 1))
/-- 0: exp; 1: what stands behind a seq; 2: seq; 3: behind a pre; 4: pre; 5: a primary; 6: behind a primary. -/
def PF (E : PE) : Nat → Nat → Nat → Nat → PR
  | 0, _, _, _ => .inr (0, -1)
  | f + 1, m, i, d =>
    if m = 0 then bnd (PF E f 2 i d) fun a ns => ahd ns (PF E f 1 a d)
    else if m = 1 then (if kdA E i = 7 then bnd (PF E f 2 (i + 1) d) fun a ns => ahd (ns ++ [nd0 8]) (PF E f 1 a d) else .inl (i, []))
    else if m = 2 then bnd (PF E f 4 i d) fun a ns => ahd ns (PF E f 3 a d)
    else if m = 3 then (if bgn E i = true then bnd (PF E f 4 i d) fun a ns => ahd (ns ++ [nd0 7]) (PF E f 3 a d) else .inl (i, []))
    else if m = 4 then
      (if bgn E i = true then
        (if kdA E i = 8 ∨ kdA E i = 9 then (if 240 ≤ d then .inr (i, 4) else bnd (PF E f 4 (i + 1) (d + 1)) fun a ns => .inl (a, ns ++ [nd0 (if kdA E i = 8 then 12 else 13)]))
         else bnd (PF E f 5 i d) fun a ns => ahd ns (PF E f 6 a d))
       else .inr (i, 60))
    else if m = 5 then
      (match primL E i with
       | .inl p => .inl (i + p.2, p.1)
       | .inr p => if 240 ≤ d then .inr (i, 4) else bnd (PF E f 0 (i + 1) (d + 1)) fun a ms => if kdA E a = p.1 then .inl (a + 1, ms ++ p.2) else .inr (a, 60))
    else (match sufN E i with
       | .inr none => .inl (i, [])
       | .inr (some c) => .inr (i + 1, c)
       | .inl p => ahd [p.1] (PF E f 6 (i + p.2) d))
theorem kd_lt {E : PE} {i : Nat} (h : ¬ kdA E i = 0) : i < E.l.length := by
  unfold kdA at h
  by_cases q : i < E.l.length
  · exact q
  · rw [List.getElem?_eq_none (by omega)] at h; exact absurd rfl h
theorem bgn_lt {E : PE} {i : Nat} (h : bgn E i = true) : i < E.l.length := by
  apply kd_lt
  intro q
  unfold bgn bgK at h
  rw [q] at h
  simp at h
theorem bnd_inl {r : PR} {f : Nat → List Nd → PR} {x : Nat × List Nd} (h : bnd r f = .inl x) : ∃ a ns, r = .inl (a, ns) ∧ f a ns = .inl x := by
  cases r with
  | inl p => exact ⟨p.1, p.2, rfl, h⟩
  | inr q => cases h
theorem ahd_inl {ns : List Nd} {r : PR} {x : Nat × List Nd} (h : ahd ns r = .inl x) : ∃ ms, r = .inl (x.1, ms) ∧ x.2 = ns ++ ms := by
  cases r with
  | inl p => cases h; exact ⟨p.2, rfl, rfl⟩
  | inr q => cases h
theorem sufK_n {tm : ByteArray → Bool} {t u : Tk} {k k2 : Int} {p : Nd × Nat} (h : sufK tm t u k k2 = .inl p) : (p.2 = 1 ∧ ¬ k = 0) ∨ (p.2 = 2 ∧ ¬ k2 = 0) := by
  unfold sufK at h
  by_cases h0 : k = 10
  · rw [if_pos h0] at h; cases h; exact .inl ⟨rfl, by omega⟩
  rw [if_neg h0] at h
  by_cases h1 : k = 11
  · rw [if_pos h1] at h; cases h; exact .inl ⟨rfl, by omega⟩
  rw [if_neg h1] at h
  by_cases h2 : k = 12
  · rw [if_pos h2] at h; cases h; exact .inl ⟨rfl, by omega⟩
  rw [if_neg h2] at h
  by_cases h3 : k = 13
  · rw [if_pos h3] at h; cases h; exact .inl ⟨rfl, by omega⟩
  rw [if_neg h3] at h
  by_cases h4 : k = 14
  · rw [if_pos h4] at h; cases h; exact .inl ⟨rfl, by omega⟩
  rw [if_neg h4] at h
  by_cases h5 : k = 15
  · rw [if_pos h5] at h; cases h; exact .inl ⟨rfl, by omega⟩
  rw [if_neg h5] at h
  by_cases h7 : k = 27
  · rw [if_pos h7] at h
    by_cases h8 : k2 = 2
    · rw [if_pos h8] at h
      split at h
      · cases h; exact .inr ⟨rfl, by omega⟩
      · cases h
    · rw [if_neg h8] at h
      by_cases h9 : k2 = 4
      · rw [if_pos h9] at h
        split at h
        · cases h
        · cases h; exact .inr ⟨rfl, by omega⟩
      · rw [if_neg h9] at h; cases h
  · rw [if_neg h7] at h; cases h
theorem suf_lt {E : PE} {i : Nat} {p : Nd × Nat} (h : sufN E i = .inl p) : 0 < p.2 ∧ i + p.2 ≤ E.l.length := by
  rcases sufK_n h with ⟨h1, h2⟩ | ⟨h1, h2⟩
  · have := kd_lt h2; omega
  · have := kd_lt h2; omega
theorem primK_n {rn : Int → Int → List Nd} {t : Tk} {k2 : Int} {p : List Nd × Nat} (h : primK rn t k2 = .inl p) : p.2 = 1 ∨ (p.2 = 2 ∧ k2 = 20) := by
  unfold primK at h
  by_cases c0 : t.kd = 2
  · rw [if_pos c0] at h
    cases h; exact .inl rfl
  rw [if_neg c0] at h
  by_cases c1 : t.kd = 3 ∨ t.kd = 28
  · rw [if_pos c1] at h
    cases h; exact .inl rfl
  rw [if_neg c1] at h
  by_cases c2 : t.kd = 5
  · rw [if_pos c2] at h
    cases h; exact .inl rfl
  rw [if_neg c2] at h
  by_cases c3 : t.kd = 18
  · rw [if_pos c3] at h
    cases h; exact .inl rfl
  rw [if_neg c3] at h
  by_cases c4 : t.kd = 29
  · rw [if_pos c4] at h
    cases h; exact .inl rfl
  rw [if_neg c4] at h
  by_cases c5 : t.kd = 30
  · rw [if_pos c5] at h
    cases h; exact .inl rfl
  rw [if_neg c5] at h
  by_cases c6 : t.kd = 1
  · rw [if_pos c6] at h
    cases h; exact .inl rfl
  rw [if_neg c6] at h
  by_cases c7 : t.kd = 16
  · rw [if_pos c7] at h
    cases h
  rw [if_neg c7] at h
  by_cases c8 : t.kd = 19
  · rw [if_pos c8] at h
    by_cases d : k2 = 20
    · rw [if_pos d] at h
      cases h; exact .inr ⟨rfl, d⟩
    · rw [if_neg d] at h
      cases h
  rw [if_neg c8] at h
  by_cases c9 : t.kd = 21
  · rw [if_pos c9] at h
    cases h
  rw [if_neg c9] at h
  by_cases c10 : t.kd = 23
  · rw [if_pos c10] at h
    cases h
  rw [if_neg c10] at h
  cases h
theorem primK_c {rn : Int → Int → List Nd} {t : Tk} {k2 : Int} {p : Int × List Nd} (h : primK rn t k2 = .inr p) : p.1 = 17 ∨ p.1 = 20 ∨ p.1 = 22 ∨ p.1 = 24 ∨ p.1 = 26 := by
  unfold primK at h
  by_cases c0 : t.kd = 2
  · rw [if_pos c0] at h
    cases h
  rw [if_neg c0] at h
  by_cases c1 : t.kd = 3 ∨ t.kd = 28
  · rw [if_pos c1] at h
    cases h
  rw [if_neg c1] at h
  by_cases c2 : t.kd = 5
  · rw [if_pos c2] at h
    cases h
  rw [if_neg c2] at h
  by_cases c3 : t.kd = 18
  · rw [if_pos c3] at h
    cases h
  rw [if_neg c3] at h
  by_cases c4 : t.kd = 29
  · rw [if_pos c4] at h
    cases h
  rw [if_neg c4] at h
  by_cases c5 : t.kd = 30
  · rw [if_pos c5] at h
    cases h
  rw [if_neg c5] at h
  by_cases c6 : t.kd = 1
  · rw [if_pos c6] at h
    cases h
  rw [if_neg c6] at h
  by_cases c7 : t.kd = 16
  · rw [if_pos c7] at h
    cases h; simp
  rw [if_neg c7] at h
  by_cases c8 : t.kd = 19
  · rw [if_pos c8] at h
    by_cases d : k2 = 20
    · rw [if_pos d] at h
      cases h
    · rw [if_neg d] at h
      cases h; simp
  rw [if_neg c8] at h
  by_cases c9 : t.kd = 21
  · rw [if_pos c9] at h
    cases h; simp
  rw [if_neg c9] at h
  by_cases c10 : t.kd = 23
  · rw [if_pos c10] at h
    cases h; simp
  rw [if_neg c10] at h
  cases h; simp
theorem prim_lt {E : PE} {i : Nat} {p : List Nd × Nat} (hi : i < E.l.length) (h : primL E i = .inl p) : 0 < p.2 ∧ i + p.2 ≤ E.l.length := by
  rcases primK_n h with h1 | ⟨h1, h2⟩
  · omega
  · have := kd_lt (E := E) (i := i + 1) (by omega)
    omega
/-- What is read lies ahead, and within. -/
theorem PF_adv (E : PE) : ∀ (f m i d a : Nat) (ns : List Nd), i ≤ E.l.length → (m = 5 → i < E.l.length) → PF E f m i d = .inl (a, ns) → i ≤ a ∧ a ≤ E.l.length ∧ (m = 0 ∨ m = 2 ∨ m = 4 ∨ m = 5 → i < a) := by
  intro f
  induction f with
  | zero => intro m i d a ns _ _ h; cases h
  | succ f ih =>
    intro m i d a ns hi h5 h
    rw [PF] at h
    by_cases m0 : m = 0
    · rw [if_pos m0] at h
      obtain ⟨a1, n1, r1, h⟩ := bnd_inl h
      obtain ⟨n2, r2, _⟩ := ahd_inl h
      obtain ⟨x1, x2, x3⟩ := ih _ _ _ _ _ hi (by omega) r1
      obtain ⟨y1, y2, _⟩ := ih _ _ _ _ _ x2 (by omega) r2
      have := x3 (by omega)
      dsimp only at y1 y2
      exact ⟨by omega, y2, fun _ => by omega⟩
    rw [if_neg m0] at h
    by_cases m1 : m = 1
    · rw [if_pos m1] at h
      by_cases k7 : kdA E i = 7
      · have hlt := kd_lt (E := E) (i := i) (by omega)
        rw [if_pos k7] at h
        obtain ⟨a1, n1, r1, h⟩ := bnd_inl h
        obtain ⟨n2, r2, _⟩ := ahd_inl h
        obtain ⟨x1, x2, x3⟩ := ih _ _ _ _ _ (by omega) (by omega) r1
        obtain ⟨y1, y2, _⟩ := ih _ _ _ _ _ x2 (by omega) r2
        dsimp only at y1 y2
        exact ⟨by omega, y2, fun q => by omega⟩
      · rw [if_neg k7] at h
        cases h
        exact ⟨Nat.le_refl _, hi, fun q => by omega⟩
    rw [if_neg m1] at h
    by_cases m2 : m = 2
    · rw [if_pos m2] at h
      obtain ⟨a1, n1, r1, h⟩ := bnd_inl h
      obtain ⟨n2, r2, _⟩ := ahd_inl h
      obtain ⟨x1, x2, x3⟩ := ih _ _ _ _ _ hi (by omega) r1
      obtain ⟨y1, y2, _⟩ := ih _ _ _ _ _ x2 (by omega) r2
      have := x3 (by omega)
      dsimp only at y1 y2
      exact ⟨by omega, y2, fun _ => by omega⟩
    rw [if_neg m2] at h
    by_cases m3 : m = 3
    · rw [if_pos m3] at h
      by_cases kb : bgn E i = true
      · have hlt := bgn_lt kb
        rw [if_pos kb] at h
        obtain ⟨a1, n1, r1, h⟩ := bnd_inl h
        obtain ⟨n2, r2, _⟩ := ahd_inl h
        obtain ⟨x1, x2, x3⟩ := ih _ _ _ _ _ (by omega) (by omega) r1
        obtain ⟨y1, y2, _⟩ := ih _ _ _ _ _ x2 (by omega) r2
        dsimp only at y1 y2
        exact ⟨by omega, y2, fun q => by omega⟩
      · rw [if_neg kb] at h
        cases h
        exact ⟨Nat.le_refl _, hi, fun q => by omega⟩
    rw [if_neg m3] at h
    by_cases m4 : m = 4
    · rw [if_pos m4] at h
      by_cases kb : bgn E i = true
      · have hlt := bgn_lt kb
        rw [if_pos kb] at h
        by_cases k8 : kdA E i = 8 ∨ kdA E i = 9
        · rw [if_pos k8] at h
          split at h
          · cases h
          · obtain ⟨a1, n1, r1, h⟩ := bnd_inl h
            cases h
            obtain ⟨x1, x2, x3⟩ := ih _ _ _ _ _ (by omega) (by omega) r1
            exact ⟨by omega, x2, fun _ => by omega⟩
        · rw [if_neg k8] at h
          obtain ⟨a1, n1, r1, h⟩ := bnd_inl h
          obtain ⟨n2, r2, _⟩ := ahd_inl h
          obtain ⟨x1, x2, x3⟩ := ih _ _ _ _ _ (by omega) (fun _ => hlt) r1
          obtain ⟨y1, y2, _⟩ := ih _ _ _ _ _ x2 (by omega) r2
          have := x3 (by omega)
          dsimp only at y1 y2
          exact ⟨by omega, y2, fun _ => by omega⟩
      · rw [if_neg kb] at h; cases h
    rw [if_neg m4] at h
    by_cases m5 : m = 5
    · rw [if_pos m5] at h
      have hlt := h5 m5
      cases hp : primL E i with
      | inl p =>
        rw [hp] at h
        cases h
        have := prim_lt hlt hp
        exact ⟨by omega, this.2, fun _ => by omega⟩
      | inr p =>
        rw [hp] at h
        dsimp only at h
        split at h
        · cases h
        · obtain ⟨a1, n1, r1, h⟩ := bnd_inl h
          obtain ⟨x1, x2, x3⟩ := ih _ _ _ _ _ (by omega) (by omega) r1
          split at h
          · next hk =>
            cases h
            have : a1 < E.l.length := by
              apply kd_lt
              intro q
              have hc := primK_c hp
              omega
            exact ⟨by omega, by omega, fun _ => by omega⟩
          · cases h
    rw [if_neg m5] at h
    cases hs : sufN E i with
    | inl p =>
      rw [hs] at h
      obtain ⟨n2, r2, _⟩ := ahd_inl h
      obtain ⟨q1, q2⟩ := suf_lt hs
      obtain ⟨y1, y2, _⟩ := ih _ _ _ _ _ q2 (fun q => by cases q) r2
      dsimp only at y1 y2
      exact ⟨by omega, y2, fun q => by omega⟩
    | inr o =>
      rw [hs] at h
      cases o with
      | none => cases h; exact ⟨Nat.le_refl _, hi, fun q => by omega⟩
      | some q => cases h
end Go.Proofs.YtkihfkcmcdiajaaGreatDoor.N

namespace Go.Proofs.YtkihfkcmcdiajaaGreatDoor.N
open Go.RowKit
def rk (m : Nat) : Nat := if m = 0 then 4 else if m = 2 then 3 else if m = 3 then 3 else if m = 4 then 2 else if m = 5 then 1 else 0
def nee (E : PE) (m i : Nat) : Nat := 5 * (E.l.length - i) + rk m + 1
theorem bnd_congr {r r' : PR} {F G : Nat → List Nd → PR} (h : r = r') (h2 : ∀ a ns, r = .inl (a, ns) → F a ns = G a ns) : bnd r F = bnd r' G := by
  subst h
  cases r with
  | inl p => exact h2 p.1 p.2 rfl
  | inr q => rfl
theorem suf_rk (m : Nat) (h0 : ¬ m = 0) (h2 : ¬ m = 2) (h3 : ¬ m = 3) (h4 : ¬ m = 4) (h5 : ¬ m = 5) : rk m = 0 := by
  unfold rk
  rw [if_neg h0, if_neg h2, if_neg h3, if_neg h4, if_neg h5]
theorem rk0 : rk 0 = 4 := rfl
theorem rk1 : rk 1 = 0 := rfl
theorem rk2 : rk 2 = 3 := rfl
theorem rk3 : rk 3 = 3 := rfl
theorem rk4 : rk 4 = 2 := rfl
theorem rk5 : rk 5 = 1 := rfl
theorem rk6 : rk 6 = 0 := rfl
theorem PF_fuel (E : PE) : ∀ (f g m i d : Nat), i ≤ E.l.length → (m = 5 → i < E.l.length) → nee E m i ≤ f → nee E m i ≤ g → PF E f m i d = PF E g m i d := by
  intro f
  induction f with
  | zero => intro g m i d _ _ h; unfold nee at h; omega
  | succ f ih =>
    intro g m i d hi h5 hf hg
    cases g with
    | zero => unfold nee at hg; omega
    | succ g =>
      unfold nee at hf hg ih
      rw [PF, PF]
      by_cases m0 : m = 0
      · subst m0
        rw [rk0] at hf hg
        rw [if_pos rfl, if_pos rfl]
        refine bnd_congr (ih g 2 i d hi (by omega) (by rw [rk2]; omega) (by rw [rk2]; omega)) (fun a ns hr => ?_)
        obtain ⟨x1, x2, x3⟩ := PF_adv E _ _ _ _ _ _ hi (by omega) hr
        have := x3 (by omega)
        rw [ih g 1 a d x2 (by omega) (by rw [rk1]; omega) (by rw [rk1]; omega)]
      rw [if_neg m0, if_neg m0]
      by_cases m1 : m = 1
      · subst m1
        rw [rk1] at hf hg
        rw [if_pos rfl, if_pos rfl]
        by_cases k7 : kdA E i = 7
        · have hlt := kd_lt (E := E) (i := i) (by omega)
          rw [if_pos k7, if_pos k7]
          refine bnd_congr (ih g 2 (i + 1) d (by omega) (by omega) (by rw [rk2]; omega) (by rw [rk2]; omega)) (fun a ns hr => ?_)
          obtain ⟨x1, x2, x3⟩ := PF_adv E _ _ _ _ _ _ (by omega) (by omega) hr
          rw [ih g 1 a d x2 (by omega) (by rw [rk1]; omega) (by rw [rk1]; omega)]
        · rw [if_neg k7, if_neg k7]
      rw [if_neg m1, if_neg m1]
      by_cases m2 : m = 2
      · subst m2
        rw [rk2] at hf hg
        rw [if_pos rfl, if_pos rfl]
        refine bnd_congr (ih g 4 i d hi (by omega) (by rw [rk4]; omega) (by rw [rk4]; omega)) (fun a ns hr => ?_)
        obtain ⟨x1, x2, x3⟩ := PF_adv E _ _ _ _ _ _ hi (by omega) hr
        have := x3 (by omega)
        rw [ih g 3 a d x2 (by omega) (by rw [rk3]; omega) (by rw [rk3]; omega)]
      rw [if_neg m2, if_neg m2]
      by_cases m3 : m = 3
      · subst m3
        rw [rk3] at hf hg
        rw [if_pos rfl, if_pos rfl]
        by_cases kb : bgn E i = true
        · have hlt := bgn_lt kb
          rw [if_pos kb, if_pos kb]
          refine bnd_congr (ih g 4 i d (by omega) (by omega) (by rw [rk4]; omega) (by rw [rk4]; omega)) (fun a ns hr => ?_)
          obtain ⟨x1, x2, x3⟩ := PF_adv E _ _ _ _ _ _ (by omega) (by omega) hr
          have := x3 (by omega)
          rw [ih g 3 a d x2 (by omega) (by rw [rk3]; omega) (by rw [rk3]; omega)]
        · rw [if_neg kb, if_neg kb]
      rw [if_neg m3, if_neg m3]
      by_cases m4 : m = 4
      · subst m4
        rw [rk4] at hf hg
        rw [if_pos rfl, if_pos rfl]
        by_cases kb : bgn E i = true
        · have hlt := bgn_lt kb
          rw [if_pos kb, if_pos kb]
          by_cases k8 : kdA E i = 8 ∨ kdA E i = 9
          · rw [if_pos k8, if_pos k8]
            by_cases hd : 240 ≤ d
            · rw [if_pos hd, if_pos hd]
            · rw [if_neg hd, if_neg hd]
              exact bnd_congr (ih g 4 (i + 1) (d + 1) (by omega) (by omega) (by rw [rk4]; omega) (by rw [rk4]; omega)) (fun a ns hr => rfl)
          · rw [if_neg k8, if_neg k8]
            refine bnd_congr (ih g 5 i d (by omega) (fun _ => hlt) (by rw [rk5]; omega) (by rw [rk5]; omega)) (fun a ns hr => ?_)
            obtain ⟨x1, x2, x3⟩ := PF_adv E _ _ _ _ _ _ (by omega) (fun _ => hlt) hr
            have := x3 (by omega)
            rw [ih g 6 a d x2 (by omega) (by rw [rk6]; omega) (by rw [rk6]; omega)]
        · rw [if_neg kb, if_neg kb]
      rw [if_neg m4, if_neg m4]
      by_cases m5 : m = 5
      · have hlt := h5 m5
        subst m5
        rw [rk5] at hf hg
        rw [if_pos rfl, if_pos rfl]
        cases hp : primL E i with
        | inl p => rfl
        | inr p =>
          dsimp only
          by_cases hd : 240 ≤ d
          · rw [if_pos hd, if_pos hd]
          · rw [if_neg hd, if_neg hd]
            exact bnd_congr (ih g 0 (i + 1) (d + 1) (by omega) (by omega) (by rw [rk0]; omega) (by rw [rk0]; omega)) (fun a ns hr => rfl)
      rw [if_neg m5, if_neg m5]
      rw [suf_rk m m0 m2 m3 m4 m5] at hf hg
      cases hs : sufN E i with
      | inl p =>
        obtain ⟨q1, q2⟩ := suf_lt hs
        dsimp only
        rw [ih g 6 (i + p.2) d q2 (by omega) (by rw [rk6]; omega) (by rw [rk6]; omega)]
      | inr o => cases o <;> rfl
/-- All that a reading looks at. -/
structure Alk (E E' : PE) : Prop where
  rn : E'.rn = E.rn
  tm : E'.tm = E.tm
  k : ∀ i, kdA E' i = kdA E i
  t : ∀ i, (tkA E' i).kd = (tkA E i).kd ∧ (tkA E' i).nn = (tkA E i).nn ∧ (tkA E' i).tx = (tkA E i).tx ∧ (tkA E' i).s0 = (tkA E i).s0 ∧ (tkA E' i).s1 = (tkA E i).s1 ∧ (tkA E' i).s2 = (tkA E i).s2 ∧ (tkA E' i).s3 = (tkA E i).s3
theorem alk_bgn {E E' : PE} (h : Alk E E') (i : Nat) : bgn E' i = bgn E i := by unfold bgn; rw [h.k, h.k]
theorem alk_suf {E E' : PE} (h : Alk E E') (i : Nat) : sufN E' i = sufN E i := by
  obtain ⟨_, a1, _⟩ := h.t i
  obtain ⟨_, b1, b2, _⟩ := h.t (i + 1)
  unfold sufN sufK
  rw [h.k, h.k, h.tm, a1, b1, b2]
theorem alk_prim {E E' : PE} (h : Alk E E') (i : Nat) : primL E' i = primL E i := by
  obtain ⟨a0, a1, a2, a3, a4, a5, a6⟩ := h.t i
  unfold primL primK
  rw [h.k, h.rn, a0, a1, a2, a3, a4, a5, a6]
theorem PF_alk {E E' : PE} (h : Alk E E') : ∀ (f m i d : Nat), PF E' f m i d = PF E f m i d := by
  intro f
  induction f with
  | zero => intro m i d; rfl
  | succ f ih =>
    intro m i d
    rw [PF, PF]
    simp only [ih, h.k, alk_bgn h, alk_suf h, alk_prim h]
end Go.Proofs.YtkihfkcmcdiajaaGreatDoor.N

namespace Go.Proofs.YtkihfkcmcdiajaaGreatDoor.N
open Go.RowKit
theorem bnd_mk {r : PR} {f : Nat → List Nd → PR} {a : Nat} {ns : List Nd} (h : r = .inl (a, ns)) : bnd r f = f a ns := by rw [h]; rfl
theorem ahd_mk {ns ms : List Nd} {r : PR} {a : Nat} (h : r = .inl (a, ms)) : ahd ns r = .inl (a, ns ++ ms) := by rw [h]; rfl
/-- The tokens of E stand in E', from a place on; behind them nothing that goes on. -/
structure Wit (E E' : PE) (s : Nat) : Prop where
  rn : E'.rn = E.rn
  tm : E'.tm = E.tm
  t : ∀ i, i < E.l.length → E'.l[s + i]? = E.l[i]?
  e : kdA E' (s + E.l.length) = 0 ∨ kdA E' (s + E.l.length) = 17
theorem Wit.k {E E' : PE} {s : Nat} (h : Wit E E' s) {i : Nat} (hi : i < E.l.length) : kdA E' (s + i) = kdA E i := by unfold kdA; rw [h.t i hi]
theorem Wit.a {E E' : PE} {s : Nat} (h : Wit E E' s) {i : Nat} (hi : i < E.l.length) : tkA E' (s + i) = tkA E i := by unfold tkA; rw [h.t i hi]
theorem kd_end (E : PE) : kdA E E.l.length = 0 := by unfold kdA; rw [List.getElem?_eq_none (Nat.le_refl _)]
/-- A kind that only the tokens themselves may have. -/
theorem Wit.iff {E E' : PE} {s : Nat} (h : Wit E E' s) {i : Nat} (hi : i ≤ E.l.length) {c : Int} (hc : ¬ c = 0 ∧ ¬ c = 17) : kdA E' (s + i) = c ↔ kdA E i = c := by
  by_cases q : i < E.l.length
  · rw [h.k q]
  · obtain rfl : i = E.l.length := by omega
    rw [kd_end]
    have := h.e
    omega
theorem Wit.bgn {E E' : PE} {s : Nat} (h : Wit E E' s) {i : Nat} (hi : i ≤ E.l.length) : bgn E' (s + i) = bgn E i := by
  by_cases q : i < E.l.length
  · have h1 : (kdA E' (s + (i + 1)) == 6) = (kdA E (i + 1) == 6) := by
      rw [Bool.eq_iff_iff, beq_iff_eq, beq_iff_eq]
      exact h.iff (by omega) (by decide)
    unfold N.bgn
    rw [h.k q, show s + i + 1 = s + (i + 1) from by omega, h1]
  · obtain rfl : i = E.l.length := by omega
    unfold N.bgn bgK
    rw [kd_end]
    rcases h.e with e | e <;> (rw [e]; simp)
theorem sufK_no {tm : ByteArray → Bool} {t u u' : Tk} {k k2 k2' : Int} (a : ¬ k2 = 2) (b : ¬ k2 = 4) (a' : ¬ k2' = 2) (b' : ¬ k2' = 4) : sufK tm t u' k k2' = sufK tm t u k k2 := by
  unfold sufK
  rw [if_neg a, if_neg b, if_neg a', if_neg b']
theorem primK_no {rn : Int → Int → List Nd} {t : Tk} {k2 k2' : Int} (h : k2' = 20 ↔ k2 = 20) : primK rn t k2' = primK rn t k2 := by
  unfold primK
  by_cases q : k2 = 20
  · rw [if_pos q, if_pos (h.2 q)]
  · rw [if_neg q, if_neg (fun x => q (h.1 x))]
theorem Wit.prim {E E' : PE} {s : Nat} (h : Wit E E' s) {i : Nat} (hi : i < E.l.length) : primL E' (s + i) = primL E i := by
  unfold primL
  rw [h.rn, h.a hi, show s + i + 1 = s + (i + 1) from by omega]
  exact primK_no (h.iff (by omega) (by decide))
theorem Wit.suf {E E' : PE} {s : Nat} (h : Wit E E' s) {i : Nat} (hi : i ≤ E.l.length) : sufN E' (s + i) = sufN E i := by
  unfold sufN
  rw [h.tm, show s + i + 1 = s + (i + 1) from by omega]
  by_cases q : i < E.l.length
  · rw [h.a q, h.k q]
    by_cases q2 : i + 1 < E.l.length
    · rw [h.a q2, h.k q2]
    · have e0 : kdA E (i + 1) = 0 := by unfold kdA; rw [List.getElem?_eq_none (by omega)]
      have e2 : ¬ kdA E' (s + (i + 1)) = 2 := by rw [h.iff (by omega) (by decide)]; omega
      have e4 : ¬ kdA E' (s + (i + 1)) = 4 := by rw [h.iff (by omega) (by decide)]; omega
      exact sufK_no (by omega) (by omega) e2 e4
  · obtain rfl : i = E.l.length := by omega
    rw [kd_end]
    unfold sufK
    rcases h.e with e | e <;> (rw [e]; rfl)
/-- What is read alone is read there. -/
theorem PF_wit {E E' : PE} {s : Nat} (h : Wit E E' s) : ∀ (f m i d a : Nat) (ns : List Nd), i ≤ E.l.length → (m = 5 → i < E.l.length) → PF E f m i d = .inl (a, ns) → PF E' f m (s + i) d = .inl (s + a, ns) := by
  intro f
  induction f with
  | zero => intro m i d a ns _ _ q; cases q
  | succ f ih =>
    intro m i d a ns hi h5 hr
    rw [PF] at hr ⊢
    by_cases m0 : m = 0
    · rw [if_pos m0] at hr ⊢
      obtain ⟨a1, n1, r1, hr⟩ := bnd_inl hr
      obtain ⟨n2, r2, hn⟩ := ahd_inl hr
      obtain ⟨x1, x2, x3⟩ := PF_adv E _ _ _ _ _ _ hi (by omega) r1
      dsimp only at hn r2
      rw [bnd_mk (ih _ _ _ _ _ hi (by omega) r1), ahd_mk (ih _ _ _ _ _ x2 (by omega) r2), hn]
    rw [if_neg m0] at hr ⊢
    by_cases m1 : m = 1
    · rw [if_pos m1] at hr ⊢
      by_cases k7 : kdA E i = 7
      · have hlt := kd_lt (E := E) (i := i) (by omega)
        rw [if_pos k7] at hr
        rw [if_pos ((h.iff hi (by decide)).2 k7)]
        obtain ⟨a1, n1, r1, hr⟩ := bnd_inl hr
        obtain ⟨n2, r2, hn⟩ := ahd_inl hr
        obtain ⟨x1, x2, x3⟩ := PF_adv E _ _ _ _ _ _ (by omega) (by omega) r1
        dsimp only at hn r2
        rw [show s + i + 1 = s + (i + 1) from by omega, bnd_mk (ih _ _ _ _ _ (by omega) (by omega) r1), ahd_mk (ih _ _ _ _ _ x2 (by omega) r2), hn]
      · rw [if_neg k7] at hr
        rw [if_neg (fun q => k7 ((h.iff hi (by decide)).1 q))]
        cases hr; rfl
    rw [if_neg m1] at hr ⊢
    by_cases m2 : m = 2
    · rw [if_pos m2] at hr ⊢
      obtain ⟨a1, n1, r1, hr⟩ := bnd_inl hr
      obtain ⟨n2, r2, hn⟩ := ahd_inl hr
      obtain ⟨x1, x2, x3⟩ := PF_adv E _ _ _ _ _ _ hi (by omega) r1
      dsimp only at hn r2
      rw [bnd_mk (ih _ _ _ _ _ hi (by omega) r1), ahd_mk (ih _ _ _ _ _ x2 (by omega) r2), hn]
    rw [if_neg m2] at hr ⊢
    by_cases m3 : m = 3
    · rw [if_pos m3] at hr ⊢
      rw [h.bgn hi]
      by_cases kb : bgn E i = true
      · rw [if_pos kb] at hr ⊢
        obtain ⟨a1, n1, r1, hr⟩ := bnd_inl hr
        obtain ⟨n2, r2, hn⟩ := ahd_inl hr
        obtain ⟨x1, x2, x3⟩ := PF_adv E _ _ _ _ _ _ hi (by omega) r1
        dsimp only at hn r2
        rw [bnd_mk (ih _ _ _ _ _ hi (by omega) r1), ahd_mk (ih _ _ _ _ _ x2 (by omega) r2), hn]
      · rw [if_neg kb] at hr ⊢
        cases hr; rfl
    rw [if_neg m3] at hr ⊢
    by_cases m4 : m = 4
    · rw [if_pos m4] at hr ⊢
      rw [h.bgn hi]
      by_cases kb : bgn E i = true
      · have hlt := bgn_lt kb
        rw [if_pos kb] at hr ⊢
        rw [h.k hlt]
        by_cases k8 : kdA E i = 8 ∨ kdA E i = 9
        · rw [if_pos k8] at hr ⊢
          by_cases hd : 240 ≤ d
          · rw [if_pos hd] at hr; cases hr
          · rw [if_neg hd] at hr ⊢
            obtain ⟨a1, n1, r1, hr⟩ := bnd_inl hr
            rw [show s + i + 1 = s + (i + 1) from by omega, bnd_mk (ih _ _ _ _ _ (by omega) (by omega) r1)]
            cases hr; rfl
        · rw [if_neg k8] at hr ⊢
          obtain ⟨a1, n1, r1, hr⟩ := bnd_inl hr
          obtain ⟨n2, r2, hn⟩ := ahd_inl hr
          obtain ⟨x1, x2, x3⟩ := PF_adv E _ _ _ _ _ _ hi (fun _ => hlt) r1
          dsimp only at hn r2
          rw [bnd_mk (ih _ _ _ _ _ hi (fun _ => hlt) r1), ahd_mk (ih _ _ _ _ _ x2 (by omega) r2), hn]
      · rw [if_neg kb] at hr; cases hr
    rw [if_neg m4] at hr ⊢
    by_cases m5 : m = 5
    · have hlt := h5 m5
      rw [if_pos m5] at hr ⊢
      rw [h.prim hlt]
      cases hp : primL E i with
      | inl p =>
        rw [hp] at hr
        cases hr
        show Sum.inl (s + i + p.2, p.1) = Sum.inl (s + (i + p.2), p.1)
        rw [Nat.add_assoc]
      | inr p =>
        rw [hp] at hr
        dsimp only at hr ⊢
        by_cases hd : 240 ≤ d
        · rw [if_pos hd] at hr; cases hr
        · rw [if_neg hd] at hr ⊢
          obtain ⟨a1, n1, r1, hr⟩ := bnd_inl hr
          obtain ⟨x1, x2, x3⟩ := PF_adv E _ _ _ _ _ _ (by omega) (by omega) r1
          rw [show s + i + 1 = s + (i + 1) from by omega, bnd_mk (ih _ _ _ _ _ (by omega) (by omega) r1)]
          by_cases hk : kdA E a1 = p.1
          · have hc := primK_c hp
            have ha : a1 < E.l.length := kd_lt (by omega)
            rw [if_pos hk] at hr
            rw [h.k ha, if_pos hk]
            cases hr
            rfl
          · rw [if_neg hk] at hr; cases hr
    rw [if_neg m5] at hr ⊢
    rw [h.suf hi]
    cases hs : sufN E i with
    | inl p =>
      rw [hs] at hr
      obtain ⟨n2, r2, hn⟩ := ahd_inl hr
      obtain ⟨q1, q2⟩ := suf_lt hs
      dsimp only at hn r2 ⊢
      rw [show s + i + p.2 = s + (i + p.2) from by omega, ahd_mk (ih _ _ _ _ _ q2 (fun q => by cases q) r2), hn]
    | inr o =>
      rw [hs] at hr
      cases o with
      | none => cases hr; rfl
      | some c => cases hr
end Go.Proofs.YtkihfkcmcdiajaaGreatDoor.N

namespace Go.Proofs.YtkihfkcmcdiajaaGreatDoor.N
open Go.RowKit
theorem PF_deep (E : PE) : ∀ (f m i d a : Nat) (ns : List Nd), i ≤ E.l.length → (m = 5 → i < E.l.length) → PF E f m i d = .inl (a, ns) → PF E f m i (d + 1) = .inl (a, ns) ∨ ∃ j, PF E f m i (d + 1) = .inr (j, 4) ∧ i + 239 ≤ j + d ∧ j + 2 ≤ a := by
  intro f
  induction f with
  | zero => intro m i d a ns _ _ q; cases q
  | succ f ih =>
    intro m i d a ns hi h5 hr
    rw [PF] at hr ⊢
    by_cases m0 : m = 0
    · rw [if_pos m0] at hr ⊢
      obtain ⟨a1, n1, r1, hr⟩ := bnd_inl hr
      obtain ⟨n2, r2, hn⟩ := ahd_inl hr
      obtain ⟨x1, x2, x3⟩ := PF_adv E _ _ _ _ _ _ hi (by omega) r1
      dsimp only at hn r2
      obtain ⟨y1, y2, _⟩ := PF_adv E _ _ _ _ _ _ x2 (by omega) r2
      rcases ih _ _ _ _ _ hi (by omega) r1 with e1 | ⟨j, e1, j1, j2⟩
      · rcases ih _ _ _ _ _ x2 (by omega) r2 with e2 | ⟨j, e2, j1, j2⟩
        · left; rw [bnd_mk e1, ahd_mk e2, hn]
        · right; exact ⟨j, by rw [bnd_mk e1, e2]; rfl, by omega, by omega⟩
      · right; exact ⟨j, by rw [e1]; rfl, by omega, by omega⟩
    rw [if_neg m0] at hr ⊢
    by_cases m1 : m = 1
    · rw [if_pos m1] at hr ⊢
      by_cases k7 : kdA E i = 7
      · have hlt := kd_lt (E := E) (i := i) (by omega)
        rw [if_pos k7] at hr ⊢
        obtain ⟨a1, n1, r1, hr⟩ := bnd_inl hr
        obtain ⟨n2, r2, hn⟩ := ahd_inl hr
        obtain ⟨x1, x2, x3⟩ := PF_adv E _ _ _ _ _ _ (by omega) (by omega) r1
        dsimp only at hn r2
        obtain ⟨y1, y2, _⟩ := PF_adv E _ _ _ _ _ _ x2 (by omega) r2
        rcases ih _ _ _ _ _ (by omega) (by omega) r1 with e1 | ⟨j, e1, j1, j2⟩
        · rcases ih _ _ _ _ _ x2 (by omega) r2 with e2 | ⟨j, e2, j1, j2⟩
          · left; rw [bnd_mk e1, ahd_mk e2, hn]
          · right; exact ⟨j, by rw [bnd_mk e1, e2]; rfl, by omega, by omega⟩
        · right; exact ⟨j, by rw [e1]; rfl, by omega, by omega⟩
      · rw [if_neg k7] at hr ⊢
        exact .inl hr
    rw [if_neg m1] at hr ⊢
    by_cases m2 : m = 2
    · rw [if_pos m2] at hr ⊢
      obtain ⟨a1, n1, r1, hr⟩ := bnd_inl hr
      obtain ⟨n2, r2, hn⟩ := ahd_inl hr
      obtain ⟨x1, x2, x3⟩ := PF_adv E _ _ _ _ _ _ hi (by omega) r1
      dsimp only at hn r2
      obtain ⟨y1, y2, _⟩ := PF_adv E _ _ _ _ _ _ x2 (by omega) r2
      rcases ih _ _ _ _ _ hi (by omega) r1 with e1 | ⟨j, e1, j1, j2⟩
      · rcases ih _ _ _ _ _ x2 (by omega) r2 with e2 | ⟨j, e2, j1, j2⟩
        · left; rw [bnd_mk e1, ahd_mk e2, hn]
        · right; exact ⟨j, by rw [bnd_mk e1, e2]; rfl, by omega, by omega⟩
      · right; exact ⟨j, by rw [e1]; rfl, by omega, by omega⟩
    rw [if_neg m2] at hr ⊢
    by_cases m3 : m = 3
    · rw [if_pos m3] at hr ⊢
      by_cases kb : bgn E i = true
      · rw [if_pos kb] at hr ⊢
        obtain ⟨a1, n1, r1, hr⟩ := bnd_inl hr
        obtain ⟨n2, r2, hn⟩ := ahd_inl hr
        obtain ⟨x1, x2, x3⟩ := PF_adv E _ _ _ _ _ _ hi (by omega) r1
        dsimp only at hn r2
        obtain ⟨y1, y2, _⟩ := PF_adv E _ _ _ _ _ _ x2 (by omega) r2
        rcases ih _ _ _ _ _ hi (by omega) r1 with e1 | ⟨j, e1, j1, j2⟩
        · rcases ih _ _ _ _ _ x2 (by omega) r2 with e2 | ⟨j, e2, j1, j2⟩
          · left; rw [bnd_mk e1, ahd_mk e2, hn]
          · right; exact ⟨j, by rw [bnd_mk e1, e2]; rfl, by omega, by omega⟩
        · right; exact ⟨j, by rw [e1]; rfl, by omega, by omega⟩
      · rw [if_neg kb] at hr ⊢
        exact .inl hr
    rw [if_neg m3] at hr ⊢
    by_cases m4 : m = 4
    · rw [if_pos m4] at hr ⊢
      by_cases kb : bgn E i = true
      · have hlt := bgn_lt kb
        rw [if_pos kb] at hr ⊢
        by_cases k8 : kdA E i = 8 ∨ kdA E i = 9
        · rw [if_pos k8] at hr ⊢
          by_cases hd : 240 ≤ d
          · rw [if_pos hd] at hr; cases hr
          · rw [if_neg hd] at hr
            obtain ⟨a1, n1, r1, hr⟩ := bnd_inl hr
            obtain ⟨x1, x2, x3⟩ := PF_adv E _ _ _ _ _ _ (by omega) (by omega) r1
            have := x3 (by omega)
            cases hr
            by_cases hd2 : 240 ≤ d + 1
            · rw [if_pos hd2]
              right; exact ⟨i, rfl, by omega, by omega⟩
            · rw [if_neg hd2]
              rcases ih _ _ _ _ _ (by omega) (by omega) r1 with e1 | ⟨j, e1, j1, j2⟩
              · left; rw [bnd_mk e1]
              · right; exact ⟨j, by rw [e1]; rfl, by omega, by omega⟩
        · rw [if_neg k8] at hr ⊢
          obtain ⟨a1, n1, r1, hr⟩ := bnd_inl hr
          obtain ⟨n2, r2, hn⟩ := ahd_inl hr
          obtain ⟨x1, x2, x3⟩ := PF_adv E _ _ _ _ _ _ hi (fun _ => hlt) r1
          dsimp only at hn r2
          obtain ⟨y1, y2, _⟩ := PF_adv E _ _ _ _ _ _ x2 (by omega) r2
          rcases ih _ _ _ _ _ hi (fun _ => hlt) r1 with e1 | ⟨j, e1, j1, j2⟩
          · rcases ih _ _ _ _ _ x2 (by omega) r2 with e2 | ⟨j, e2, j1, j2⟩
            · left; rw [bnd_mk e1, ahd_mk e2, hn]
            · right; exact ⟨j, by rw [bnd_mk e1, e2]; rfl, by omega, by omega⟩
          · right; exact ⟨j, by rw [e1]; rfl, by omega, by omega⟩
      · rw [if_neg kb] at hr; cases hr
    rw [if_neg m4] at hr ⊢
    by_cases m5 : m = 5
    · have hlt := h5 m5
      rw [if_pos m5] at hr ⊢
      cases hp : primL E i with
      | inl p => rw [hp] at hr; exact .inl hr
      | inr p =>
        rw [hp] at hr
        dsimp only at hr ⊢
        by_cases hd : 240 ≤ d
        · rw [if_pos hd] at hr; cases hr
        · rw [if_neg hd] at hr
          obtain ⟨a1, n1, r1, hr⟩ := bnd_inl hr
          obtain ⟨x1, x2, x3⟩ := PF_adv E _ _ _ _ _ _ (by omega) (by omega) r1
          have := x3 (by omega)
          by_cases hk : kdA E a1 = p.1
          · rw [if_pos hk] at hr
            cases hr
            by_cases hd2 : 240 ≤ d + 1
            · rw [if_pos hd2]
              right; exact ⟨i, rfl, by omega, by omega⟩
            · rw [if_neg hd2]
              rcases ih _ _ _ _ _ (by omega) (by omega) r1 with e1 | ⟨j, e1, j1, j2⟩
              · left; rw [bnd_mk e1, if_pos hk]
              · right; exact ⟨j, by rw [e1]; rfl, by omega, by omega⟩
          · rw [if_neg hk] at hr; cases hr
    rw [if_neg m5] at hr ⊢
    cases hs : sufN E i with
    | inl p =>
      rw [hs] at hr
      obtain ⟨n2, r2, hn⟩ := ahd_inl hr
      obtain ⟨q1, q2⟩ := suf_lt hs
      dsimp only at hn r2 ⊢
      rcases ih _ _ _ _ _ q2 (fun q => by cases q) r2 with e2 | ⟨j, e2, j1, j2⟩
      · left; rw [ahd_mk e2, hn]
      · right; exact ⟨j, by rw [e2]; rfl, by omega, by omega⟩
    | inr o => rw [hs] at hr; cases o <;> exact .inl hr
end Go.Proofs.YtkihfkcmcdiajaaGreatDoor.N

namespace Go.Proofs.YtkihfkcmcdiajaaGreatDoor.N
open Go.RowKit
theorem bnd_inr {r : PR} {f : Nat → List Nd → PR} {q : Nat × Int} (h : bnd r f = .inr q) : r = .inr q ∨ ∃ a ns, r = .inl (a, ns) ∧ f a ns = .inr q := by
  cases r with
  | inl p => exact .inr ⟨p.1, p.2, rfl, h⟩
  | inr p => exact .inl h
theorem ahd_inr {ns : List Nd} {r : PR} {q : Nat × Int} (h : ahd ns r = .inr q) : r = .inr q := by
  cases r with
  | inl p => cases h
  | inr p => exact h
theorem sufK_e {tm : ByteArray → Bool} {t u : Tk} {k k2 c : Int} (h : sufK tm t u k k2 = .inr (some c)) : c = 60 ∨ c = 61 ∨ c = 1 := by
  unfold sufK at h
  by_cases h0 : k = 10
  · rw [if_pos h0] at h; cases h
  rw [if_neg h0] at h
  by_cases h1 : k = 11
  · rw [if_pos h1] at h; cases h
  rw [if_neg h1] at h
  by_cases h2 : k = 12
  · rw [if_pos h2] at h; cases h
  rw [if_neg h2] at h
  by_cases h3 : k = 13
  · rw [if_pos h3] at h; cases h
  rw [if_neg h3] at h
  by_cases h4 : k = 14
  · rw [if_pos h4] at h; cases h
  rw [if_neg h4] at h
  by_cases h5 : k = 15
  · rw [if_pos h5] at h; cases h
  rw [if_neg h5] at h
  by_cases h7 : k = 27
  · rw [if_pos h7] at h
    by_cases h8 : k2 = 2
    · rw [if_pos h8] at h
      split at h
      · cases h
      · cases h; exact .inr (.inl rfl)
    · rw [if_neg h8] at h
      by_cases h9 : k2 = 4
      · rw [if_pos h9] at h
        split at h
        · cases h; exact .inr (.inr rfl)
        · cases h
      · rw [if_neg h9] at h; cases h; exact .inl rfl
  · rw [if_neg h7] at h; cases h
theorem PF_wit4 {E E' : PE} {s : Nat} (h : Wit E E' s) : ∀ (f m i d j : Nat), i ≤ E.l.length → (m = 5 → i < E.l.length) → PF E f m i d = .inr (j, 4) → PF E' f m (s + i) d = .inr (s + j, 4) := by
  intro f
  induction f with
  | zero => intro m i d j _ _ q; cases q
  | succ f ih =>
    intro m i d j hi h5 hr
    rw [PF] at hr ⊢
    by_cases m0 : m = 0
    · rw [if_pos m0] at hr ⊢
      rcases bnd_inr hr with r1 | ⟨a1, n1, r1, hr⟩
      · rw [ih _ _ _ _ hi (by omega) r1]; rfl
      · obtain ⟨x1, x2, x3⟩ := PF_adv E _ _ _ _ _ _ hi (by omega) r1
        have r2 := ahd_inr hr
        rw [bnd_mk (PF_wit h _ _ _ _ _ _ hi (by omega) r1), ih _ _ _ _ x2 (by omega) r2]; rfl
    rw [if_neg m0] at hr ⊢
    by_cases m1 : m = 1
    · rw [if_pos m1] at hr ⊢
      by_cases k7 : kdA E i = 7
      · have hlt := kd_lt (E := E) (i := i) (by omega)
        rw [if_pos k7] at hr
        rw [if_pos ((h.iff hi (by decide)).2 k7)]
        rcases bnd_inr hr with r1 | ⟨a1, n1, r1, hr⟩
        · rw [show s + i + 1 = s + (i + 1) from by omega, ih _ _ _ _ (by omega) (by omega) r1]; rfl
        · obtain ⟨x1, x2, x3⟩ := PF_adv E _ _ _ _ _ _ (by omega) (by omega) r1
          have r2 := ahd_inr hr
          rw [show s + i + 1 = s + (i + 1) from by omega, bnd_mk (PF_wit h _ _ _ _ _ _ (by omega) (by omega) r1), ih _ _ _ _ x2 (by omega) r2]; rfl
      · rw [if_neg k7] at hr; cases hr
    rw [if_neg m1] at hr ⊢
    by_cases m2 : m = 2
    · rw [if_pos m2] at hr ⊢
      rcases bnd_inr hr with r1 | ⟨a1, n1, r1, hr⟩
      · rw [ih _ _ _ _ hi (by omega) r1]; rfl
      · obtain ⟨x1, x2, x3⟩ := PF_adv E _ _ _ _ _ _ hi (by omega) r1
        have r2 := ahd_inr hr
        rw [bnd_mk (PF_wit h _ _ _ _ _ _ hi (by omega) r1), ih _ _ _ _ x2 (by omega) r2]; rfl
    rw [if_neg m2] at hr ⊢
    by_cases m3 : m = 3
    · rw [if_pos m3] at hr ⊢
      rw [h.bgn hi]
      by_cases kb : bgn E i = true
      · rw [if_pos kb] at hr ⊢
        rcases bnd_inr hr with r1 | ⟨a1, n1, r1, hr⟩
        · rw [ih _ _ _ _ hi (by omega) r1]; rfl
        · obtain ⟨x1, x2, x3⟩ := PF_adv E _ _ _ _ _ _ hi (by omega) r1
          have r2 := ahd_inr hr
          rw [bnd_mk (PF_wit h _ _ _ _ _ _ hi (by omega) r1), ih _ _ _ _ x2 (by omega) r2]; rfl
      · rw [if_neg kb] at hr; cases hr
    rw [if_neg m3] at hr ⊢
    by_cases m4 : m = 4
    · rw [if_pos m4] at hr ⊢
      rw [h.bgn hi]
      by_cases kb : bgn E i = true
      · have hlt := bgn_lt kb
        rw [if_pos kb] at hr ⊢
        rw [h.k hlt]
        by_cases k8 : kdA E i = 8 ∨ kdA E i = 9
        · rw [if_pos k8] at hr ⊢
          by_cases hd : 240 ≤ d
          · rw [if_pos hd] at hr ⊢
            cases hr; rfl
          · rw [if_neg hd] at hr ⊢
            rcases bnd_inr hr with r1 | ⟨a1, n1, r1, hr⟩
            · rw [show s + i + 1 = s + (i + 1) from by omega, ih _ _ _ _ (by omega) (by omega) r1]; rfl
            · cases hr
        · rw [if_neg k8] at hr ⊢
          rcases bnd_inr hr with r1 | ⟨a1, n1, r1, hr⟩
          · rw [ih _ _ _ _ hi (fun _ => hlt) r1]; rfl
          · obtain ⟨x1, x2, x3⟩ := PF_adv E _ _ _ _ _ _ hi (fun _ => hlt) r1
            have r2 := ahd_inr hr
            rw [bnd_mk (PF_wit h _ _ _ _ _ _ hi (fun _ => hlt) r1), ih _ _ _ _ x2 (by omega) r2]; rfl
      · rw [if_neg kb] at hr; cases hr
    rw [if_neg m4] at hr ⊢
    by_cases m5 : m = 5
    · have hlt := h5 m5
      rw [if_pos m5] at hr ⊢
      rw [h.prim hlt]
      cases hp : primL E i with
      | inl p => rw [hp] at hr; cases hr
      | inr p =>
        rw [hp] at hr
        dsimp only at hr ⊢
        by_cases hd : 240 ≤ d
        · rw [if_pos hd] at hr ⊢
          cases hr; rfl
        · rw [if_neg hd] at hr ⊢
          rcases bnd_inr hr with r1 | ⟨a1, n1, r1, hr⟩
          · rw [show s + i + 1 = s + (i + 1) from by omega, ih _ _ _ _ (by omega) (by omega) r1]; rfl
          · split at hr <;> cases hr
    rw [if_neg m5] at hr ⊢
    rw [h.suf hi]
    cases hs : sufN E i with
    | inl p =>
      rw [hs] at hr
      have r2 := ahd_inr hr
      obtain ⟨q1, q2⟩ := suf_lt hs
      dsimp only at r2 ⊢
      rw [show s + i + p.2 = s + (i + p.2) from by omega, ih _ _ _ _ q2 (fun q => by cases q) r2]; rfl
    | inr o =>
      rw [hs] at hr
      cases o with
      | none => cases hr
      | some c =>
        have hc : c = 60 ∨ c = 61 ∨ c = 1 := sufK_e hs
        have : (i + 1, c) = (j, (4 : Int)) := Sum.inr.inj hr
        simp only [Prod.mk.injEq] at this
        omega
/-- The tokens of E in parentheses, from a place on. -/
structure Brk (E E' : PE) (s : Nat) : Prop where
  w : Wit E E' (s + 1)
  o : (tkA E' s).kd = 16
  k : kdA E' s = 16
  c : kdA E' (s + 1 + E.l.length) = 17
theorem Brk.pre {E E' : PE} {s : Nat} (h : Brk E E' s) {f d : Nat} {ns : List Nd} (hd : d < 240) (hr : PF E f 0 0 (d + 1) = .inl (E.l.length, ns)) (hk : sufN E' (s + E.l.length + 2) = .inr none) : PF E' (f + 2) 4 s d = .inl (s + E.l.length + 2, ns) := by
  have hb : bgn E' s = true := by unfold bgn; rw [h.k]; rfl
  have hp : primL E' s = .inr (17, []) := by
    unfold primL primK
    rw [h.o]
    rfl
  have h5 : PF E' (f + 1) 5 s d = .inl (s + E.l.length + 2, ns) := by
    rw [PF, if_neg (by decide), if_neg (by decide), if_neg (by decide), if_neg (by decide), if_neg (by decide), if_pos rfl, hp]
    dsimp only
    rw [if_neg (by omega), bnd_mk (PF_wit h.w _ _ _ _ _ _ (Nat.zero_le _) (by omega) hr), if_pos h.c, List.append_nil]
    congr 2
    omega
  have h6 : PF E' (f + 1) 6 (s + E.l.length + 2) d = .inl (s + E.l.length + 2, []) := by
    rw [PF, if_neg (by decide), if_neg (by decide), if_neg (by decide), if_neg (by decide), if_neg (by decide), if_neg (by decide), hk]
  rw [PF, if_neg (by decide), if_neg (by decide), if_neg (by decide), if_neg (by decide), if_pos rfl, if_pos hb, if_neg (by rw [h.k]; decide), bnd_mk h5, ahd_mk h6, List.append_nil]
theorem Brk.pre4 {E E' : PE} {s : Nat} (h : Brk E E' s) {f d j : Nat} (hd : d < 240) (hr : PF E f 0 0 (d + 1) = .inr (j, 4)) : PF E' (f + 2) 4 s d = .inr (s + 1 + j, 4) := by
  have hb : bgn E' s = true := by unfold bgn; rw [h.k]; rfl
  have hp : primL E' s = .inr (17, []) := by
    unfold primL primK
    rw [h.o]
    rfl
  have h5 : PF E' (f + 1) 5 s d = .inr (s + 1 + j, 4) := by
    rw [PF, if_neg (by decide), if_neg (by decide), if_neg (by decide), if_neg (by decide), if_neg (by decide), if_pos rfl, hp]
    dsimp only
    have h4 := PF_wit4 h.w _ _ _ _ _ (Nat.zero_le _) (by omega) hr
    rw [Nat.add_zero] at h4
    rw [if_neg (by omega), h4]
    rfl
  rw [PF, if_neg (by decide), if_neg (by decide), if_neg (by decide), if_neg (by decide), if_pos rfl, if_pos hb, if_neg (by rw [h.k]; decide), h5]
  rfl
theorem suf_none {E : PE} {i : Nat} {k : Int} (h : kdA E i = k) (hk : k = 0 ∨ k = 7 ∨ k = 16) : sufN E i = .inr none := by
  unfold sufN sufK
  rw [h]
  rcases hk with rfl | rfl | rfl <;> rfl
/-- Parentheses around: the same nodes, or too deep. -/
theorem round_ok {E E' : PE} (h : Brk E E' 0) (hl : E'.l.length = E.l.length + 2) {f : Nat} {ns : List Nd} (hr : PF E f 0 0 0 = .inl (E.l.length, ns)) : PF E' (f + 4) 0 0 0 = .inl (E.l.length + 2, ns) ∨ ∃ j, PF E' (f + 4) 0 0 0 = .inr (j + 1, 4) ∧ 241 ≤ E.l.length := by
  have he : kdA E' (0 + E.l.length + 2) = 0 := by unfold kdA; rw [List.getElem?_eq_none (by omega)]
  rcases PF_deep E f 0 0 0 _ _ (Nat.zero_le _) (by omega) hr with q | ⟨j, q, j1, j2⟩
  · left
    have h4 := h.pre (d := 0) (by omega) q (suf_none he (.inl rfl))
    have h3 : PF E' (f + 2) 3 (0 + E.l.length + 2) 0 = .inl (0 + E.l.length + 2, []) := by
      rw [PF, if_neg (by decide), if_neg (by decide), if_neg (by decide), if_pos rfl, if_neg (by unfold bgn bgK; rw [he]; simp)]
    have h2 : PF E' (f + 3) 2 0 0 = .inl (0 + E.l.length + 2, ns) := by
      rw [PF, if_neg (by decide), if_neg (by decide), if_pos rfl, bnd_mk h4, ahd_mk h3, List.append_nil]
    have h1 : PF E' (f + 3) 1 (0 + E.l.length + 2) 0 = .inl (0 + E.l.length + 2, []) := by
      rw [PF, if_neg (by decide), if_pos rfl, if_neg (by rw [he]; decide)]
    rw [PF, if_pos rfl, bnd_mk h2, ahd_mk h1, List.append_nil, Nat.zero_add]
  · right
    have h4 := h.pre4 (d := 0) (by omega) q
    refine ⟨j, ?_, by omega⟩
    rw [PF, if_pos rfl, PF, if_neg (by decide), if_neg (by decide), if_pos rfl, h4]
    show Sum.inr (0 + 1 + j, 4) = _
    rw [Nat.zero_add, Nat.add_comm]
end Go.Proofs.YtkihfkcmcdiajaaGreatDoor.N
