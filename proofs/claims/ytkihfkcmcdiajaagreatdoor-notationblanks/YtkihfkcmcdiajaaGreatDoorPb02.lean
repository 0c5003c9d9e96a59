/- DERIVED. Plain mathematics and walks, laid together (2). -/
import Derived.WalkKit
import Derived.ProofKit
import Derived.BigQuiet
import Derived.Lib.AtoiErrMem
import Derived.Test.YtkihfkcmcdiajaaGreatDoorPb01
set_option maxRecDepth 100000
set_option maxHeartbeats 8000000
namespace Go.Proofs.YtkihfkcmcdiajaaGreatDoor
def sml (n : Nat) : BitVec 256 × Int :=
 if n = 97 then (spn 65 90 ||| spn 97 122, 0) else
 if n = 99 then (spn 0 31 ||| bt 127, 0) else
 if n = 100 then (spn 48 57, 0) else
 if n = 103 then (spn 33 126, 0) else
 if n = 108 then (spn 97 122, 0) else
 if n = 112 then (spn 33 126 &&& ~~~ (spn 65 90 ||| spn 97 122 ||| spn 48 57), 0) else
 if n = 115 then (spn 9 13 ||| bt 32, 0) else
 if n = 117 then (spn 65 90, 0) else
 if n = 119 then (spn 65 90 ||| spn 97 122 ||| spn 48 57, 0) else
 if n = 120 then (spn 48 57 ||| spn 65 70 ||| spn 97 102, 0) else
 (0#256, 10)
theorem zoe : sml 97 = (spn 65 90 ||| spn 97 122, 0) := by unfold sml; rw [if_pos rfl]
theorem zof : sml 99 = (spn 0 31 ||| bt 127, 0) := by unfold sml; rw [if_neg (by omega), if_pos rfl]
theorem zjy : sml 100 = (spn 48 57, 0) := by unfold sml; rw [if_neg (by omega), if_neg (by omega), if_pos rfl]
theorem zjz : sml 103 = (spn 33 126, 0) := by unfold sml; rw [if_neg (by omega), if_neg (by omega), if_neg (by omega), if_pos rfl]
theorem zjA : sml 108 = (spn 97 122, 0) := by unfold sml; rw [if_neg (by omega), if_neg (by omega), if_neg (by omega), if_neg (by omega), if_pos rfl]
theorem zjB : sml 112 = (spn 33 126 &&& ~~~ (spn 65 90 ||| spn 97 122 ||| spn 48 57), 0) := by unfold sml; rw [if_neg (by omega), if_neg (by omega), if_neg (by omega), if_neg (by omega), if_neg (by omega), if_pos rfl]
theorem zjC : sml 115 = (spn 9 13 ||| bt 32, 0) := by unfold sml; rw [if_neg (by omega), if_neg (by omega), if_neg (by omega), if_neg (by omega), if_neg (by omega), if_neg (by omega), if_pos rfl]
theorem zjD : sml 117 = (spn 65 90, 0) := by unfold sml; rw [if_neg (by omega), if_neg (by omega), if_neg (by omega), if_neg (by omega), if_neg (by omega), if_neg (by omega), if_neg (by omega), if_pos rfl]
theorem zjE : sml 119 = (spn 65 90 ||| spn 97 122 ||| spn 48 57, 0) := by unfold sml; rw [if_neg (by omega), if_neg (by omega), if_neg (by omega), if_neg (by omega), if_neg (by omega), if_neg (by omega), if_neg (by omega), if_neg (by omega), if_pos rfl]
theorem zjF : sml 120 = (spn 48 57 ||| spn 65 70 ||| spn 97 102, 0) := by unfold sml; rw [if_neg (by omega), if_neg (by omega), if_neg (by omega), if_neg (by omega), if_neg (by omega), if_neg (by omega), if_neg (by omega), if_neg (by omega), if_neg (by omega), if_pos rfl]
theorem zfF (n : Nat) (h97 : n ≠ 97) (h99 : n ≠ 99) (h100 : n ≠ 100) (h103 : n ≠ 103) (h108 : n ≠ 108) (h112 : n ≠ 112) (h115 : n ≠ 115) (h117 : n ≠ 117) (h119 : n ≠ 119) (h120 : n ≠ 120) : sml n = (0#256, 10) := by unfold sml; rw [if_neg h97, if_neg h99, if_neg h100, if_neg h103, if_neg h108, if_neg h112, if_neg h115, if_neg h117, if_neg h119, if_neg h120]
def cls (n : Nat) : BitVec 256 × Int :=
 if 65 <= n /\ n <= 90 then (if (sml (n + 32)).2 = 0 then (~~~ (sml (n + 32)).1, 0) else (0#256, (sml (n + 32)).2)) else sml n
theorem zdW (n : Nat) : (sml n).2 = 0 ∨ (sml n).2 = 10 := by
 by_cases h97 : n = 97
 ·rw [h97, zoe]; exact .inl rfl
 by_cases h99 : n = 99
 ·rw [h99, zof]; exact .inl rfl
 by_cases h100 : n = 100
 ·rw [h100, zjy]; exact .inl rfl
 by_cases h103 : n = 103
 ·rw [h103, zjz]; exact .inl rfl
 by_cases h108 : n = 108
 ·rw [h108, zjA]; exact .inl rfl
 by_cases h112 : n = 112
 ·rw [h112, zjB]; exact .inl rfl
 by_cases h115 : n = 115
 ·rw [h115, zjC]; exact .inl rfl
 by_cases h117 : n = 117
 ·rw [h117, zjD]; exact .inl rfl
 by_cases h119 : n = 119
 ·rw [h119, zjE]; exact .inl rfl
 by_cases h120 : n = 120
 ·rw [h120, zjF]; exact .inl rfl
 rw [zfF n h97 h99 h100 h103 h108 h112 h115 h117 h119 h120]; exact .inr rfl
open Go.RowKit
def chr (s : ByteArray) (i : Nat) : Int := if h : i < s.size then (s[i].toNat : Int) else -1
theorem zal {s : ByteArray} {i : Nat} (h : i < s.size) : chr s i = (s[i].toNat : Int) := by unfold chr; rw [dif_pos h]
theorem zat {s : ByteArray} {i : Nat} (h : ¬ i < s.size) : chr s i = -1 := by unfold chr; rw [dif_neg h]
theorem zbg (s : ByteArray) (i : Nat) : -1 <= chr s i /\ chr s i <= 255 := by
 unfold chr
 split
 ·have := s[i].toNat_lt; omega
 ·omega
theorem zau {s : ByteArray} {i : Nat} (h : 0 <= chr s i) : i < s.size := by
 by_cases hi : i < s.size
 ·exact hi
 ·rw [zat hi] at h; omega
def zaH (c : Int) : Int := if 48 <= c /\ c <= 57 then c - 48 else if 97 <= c /\ c <= 102 then c - 87 else -1
def zaZ (s : ByteArray) (i : Nat) : Option (Nat × Nat) :=
 if 0 <= zaH (chr s (i + 2)) /\ 0 <= zaH (chr s (i + 3)) then some ((16 * zaH (chr s (i + 2)) + zaH (chr s (i + 3))).toNat, i + 4) else none
def zax (s : ByteArray) (i : Nat) : Option (Nat × Nat) :=
 if chr s (i + 1) = 110 then some (10, i + 2) else if chr s (i + 1) = 114 then some (13, i + 2) else if chr s (i + 1) = 116 then some (9, i + 2) else
 if chr s (i + 1) = 120 then zaZ s i else if zaC (chr s (i + 1)) then some ((chr s (i + 1)).toNat, i + 2) else none
def zag (s : ByteArray) (i : Nat) : Option (Nat × Nat) :=
 if chr s i = 92 then zax s i else if chr s i = 93 ∨ chr s i = 45 ∨ chr s i = 37 ∨ ze2 (chr s i) = false then none else some ((chr s i).toNat, i + 1)
abbrev Rd (α : Type) := Sum α (Nat × Int)
def zaR (s : ByteArray) (i : Nat) : Rd (BitVec 256 × Nat) :=
 if i + 1 < s.size /\ (cls (chr s (i + 1)).toNat).2 = 0 then .inl ((cls (chr s (i + 1)).toNat).1, i + 2) else .inr (i, 10)
def zab (s : ByteArray) (i : Nat) : Rd (BitVec 256 × Nat) :=
 if chr s i = 37 then zaR s i else
 match zag s i with
 | none => .inr (i, 6)
 | some (lo, n) =>
  if chr s n = 45 then
   match zag s (n + 1) with
   | none => .inr ((n + 1), 6)
   | some (hi, e) => if hi < lo then .inr (i, 1) else .inl (spn lo hi, e)
  else .inl (spn lo lo, n)
def zac (s : ByteArray) : Nat -> BitVec 256 -> Nat -> Rd (BitVec 256 × Nat)
 | 0, _, i => .inr (i, 6)
 | f + 1, x, i =>
  if chr s i = 93 then .inl (x, i) else
  match zab s i with
  | .inr (a, c) => .inr (a, c)
  | .inl (y, n) => zac s f (x ||| y) n
theorem zbh (c : Int) : -1 <= zaH c /\ zaH c <= 15 := by unfold zaH; split; omega; split <;> omega
theorem zel {s : ByteArray} {i : Nat} (h : 0 <= zaH (chr s i)) : i < s.size := by
 by_cases hi : i < s.size
 ·exact hi
 ·rw [zat hi] at h; simp [zaH] at h
theorem zfG {s : ByteArray} {i b n : Nat} (h : zaZ s i = some (b, n)) : b < 256 /\ i < n /\ n <= s.size := by
 unfold zaZ at h
 split at h
 ·rename_i hh
  have h1 := zbh (chr s (i + 2)); have h2 := zbh (chr s (i + 3)); have h3 := zel hh.2
  simp at h; omega
 ·simp at h
theorem zfH {s : ByteArray} {i b n : Nat} (h : zax s i = some (b, n)) : b < 256 /\ i < n /\ n <= s.size := by
 unfold zax at h
 have hc := zbg s (i + 1)
 by_cases hi : i + 1 < s.size
 ·split at h; (simp at h; omega)
  split at h; (simp at h; omega)
  split at h; (simp at h; omega)
  split at h; (exact zfG h)
  split at h
  ·simp at h; omega
  ·simp at h
 ·rw [zat hi] at h; simp [zaC] at h
theorem zaV {s : ByteArray} {i b n : Nat} (h : zag s i = some (b, n)) : b < 256 /\ i < n /\ n <= s.size := by
 unfold zag at h
 split at h
 ·exact zfH h
 ·split at h
  ·simp at h
  ·rename_i h1
   have hc := zbg s i
   have hi : i < s.size := by
    by_cases hi : i < s.size
    ·exact hi
    ·rw [zat hi] at h1; simp [ze2] at h1
   simp at h; omega
theorem zb4 {s : ByteArray} {i n : Nat} {y : BitVec 256} (h : zab s i = .inl (y, n)) : i < n /\ n <= s.size := by
 unfold zab at h
 split at h
 ·unfold zaR at h
  split at h
  ·simp at h; omega
  ·simp at h
 ·split at h
  ·simp at h
  ·rename_i lo m hm
   have b1 := zaV hm
   split at h
   ·split at h
    ·simp at h
    ·rename_i hi e he
     have b2 := zaV he
     split at h
     ·simp at h
     ·simp at h; omega
   ·simp at h; omega
def dgB (c : Int) : Bool := decide (48 <= c) && decide (c <= 57)
def hdB (c : Int) : Bool := (decide (97 <= c) && decide (c <= 122)) || (decide (65 <= c) && decide (c <= 90)) || c == 95
def nmB (c : Int) : Bool := hdB c || dgB c
def spGo (P : Int -> Bool) (s : ByteArray) : Nat -> Nat -> Nat
 | 0, i => i
 | m + 1, i => if P (chr s i) then spGo P s m (i + 1) else i
def spN (P : Int -> Bool) (s : ByteArray) (i : Nat) : Nat := spGo P s (s.size - i) i
theorem zbq {P : Int -> Bool} {s : ByteArray} {i : Nat} (h : P (chr s i) = false) : spN P s i = i := by
 unfold spN
 cases s.size - i with
 | zero => rfl
 | succ m => rw [spGo, h]; rfl
theorem za3 {P : Int -> Bool} {s : ByteArray} {i : Nat} (hn : P (-1) = false) (h : P (chr s i) = true) : i < s.size /\ spN P s i = spN P s (i + 1) := by
 have hi : i < s.size := by
  by_cases q : i < s.size
  ·exact q
  ·rw [zat (by omega), hn] at h; cases h
 refine ⟨hi, ?_⟩
 unfold spN
 rw [show s.size - i = (s.size - (i + 1)) + 1 from by omega, spGo, h]
 rfl
theorem zbd (P : Int -> Bool) (s : ByteArray) (hn : P (-1) = false) : ∀ d i, s.size - i = d -> i <= spN P s i /\ (i <= s.size -> spN P s i <= s.size) /\ P (chr s (spN P s i)) = false /\ ∀ k, i <= k -> k < spN P s i -> P (chr s k) = true := by
 intro d
 induction d with
 | zero =>
  intro i hi
  have h : P (chr s i) = false := by rw [zat (by omega)]; exact hn
  rw [zbq h]
  exact ⟨Nat.le_refl _, fun q => q, h, fun k h1 h2 => by omega⟩
 | succ d ih =>
  intro i hi
  cases h : P (chr s i) with
  | false => rw [zbq h]; exact ⟨Nat.le_refl _, fun q => q, h, fun k h1 h2 => by omega⟩
  | true =>
   obtain ⟨h1, h2⟩ := za3 hn h
   obtain ⟨i1, i2, i3, i4⟩ := ih (i + 1) (by omega)
   rw [h2]
   refine ⟨by omega, fun _ => i2 (by omega), i3, fun k k1 k2 => ?_⟩
   by_cases e : k = i
   ·subst e; exact h
   ·exact i4 k (by omega) k2
theorem za4 (P : Int -> Bool) (s : ByteArray) (hn : P (-1) = false) (i : Nat) : i <= spN P s i := (zbd P s hn _ i rfl).1
theorem zbC (P : Int -> Bool) (s : ByteArray) (hn : P (-1) = false) (i : Nat) (h : i <= s.size) : spN P s i <= s.size := (zbd P s hn _ i rfl).2.1 h
def zaB (s : ByteArray) (i : Nat) (base : Int) : Nat -> Int
 | 0 => 0
 | k + 1 => zaB s i base k * base + zaH (chr s (i + k))
theorem zjG (s : ByteArray) (i : Nat) (base : Int) (hb : 0 <= base /\ base <= 16) : ∀ k, -(16 ^ k : Int) <= zaB s i base k - 1 /\ zaB s i base k + 1 <= (16 ^ k : Int) := by
 intro k
 induction k with
 | zero => simp [zaB]
 | succ k ih =>
  have h := zbh (chr s (i + k))
  have h16 : (16 : Int) ^ (k + 1) = 16 ^ k * 16 := by rw [Int.pow_succ]
  rw [zaB, h16]
  generalize zaB s i base k = x at *
  generalize (16 : Int) ^ k = p at *
  have hp : (1 : Int) <= p := by omega
  constructor
  ·by_cases hx : 0 <= x
   ·have : 0 <= x * base := Int.mul_nonneg hx hb.1
    omega
   ·have h1 : x * base ≥ x * 16 := by
     have : (-x) * base <= (-x) * 16 := Int.mul_le_mul_of_nonneg_left hb.2 (by omega)
     rw [Int.neg_mul, Int.neg_mul] at this
     omega
    omega
  ·by_cases hx : 0 <= x
   ·have h1 : x * base <= x * 16 := Int.mul_le_mul_of_nonneg_left hb.2 hx
    omega
   ·have h1 : x * base <= 0 := by
     have : 0 <= (-x) * base := Int.mul_nonneg (by omega) hb.1
     rw [Int.neg_mul] at this
     omega
    omega
theorem zew {s : ByteArray} {a b k : Nat} (h : a + k < b) (hb : b <= s.size) : chr (s.extract a b) k = chr s (a + k) := by
 have h1 : k < (s.extract a b).size := by rw [ByteArray.size_extract]; omega
 rw [zal h1, zal (show a + k < s.size by omega)]
 congr 2
 exact ByteArray.getElem_extract h1
theorem zcF {s : ByteArray} {a b : Nat} {base : Int} (hb : b <= s.size) : ∀ k, a + k <= b -> zaB (s.extract a b) 0 base k = zaB s a base k := by
 intro k
 induction k with
 | zero => intro _; rfl
 | succ k ih =>
  intro h
  rw [zaB, zaB, ih (by omega), Nat.zero_add, zew (by omega) hb]
def zbx (s : ByteArray) (i : Nat) (most : Int) : Sum Int Int :=
 if spN dgB s i - i = 0 ∨ (1 < spN dgB s i - i /\ chr s i = 48) then .inr 50
 else if 6 < spN dgB s i - i ∨ most < zaB s i 10 (spN dgB s i - i) then .inr 1
 else .inl (zaB s i 10 (spN dgB s i - i))
structure Tk where
 kd : Int
 nn : Int
 fr : Int
 en : Int
 tx : ByteArray
 s0 : Int
 s1 : Int
 s2 : Int
 s3 : Int
abbrev tkG (t : Tk) : Value := .agg #[.int .i64 t.kd, .int .i64 t.nn, .int .i64 t.fr, .int .i64 t.en, .string t.tx, .int .u64 t.s0, .int .u64 t.s1, .int .u64 t.s2, .int .u64 t.s3]
def tk0 : Tk := ⟨0, 0, 0, 0, ⟨#[]⟩, 0, 0, 0, 0⟩
def zck (s : ByteArray) (i : Nat) : Option (Nat × Nat) :=
 if chr s (i + 1) = 110 then some (10, i + 2) else if chr s (i + 1) = 114 then some (13, i + 2) else if chr s (i + 1) = 116 then some (9, i + 2)
 else if chr s (i + 1) = 92 ∨ chr s (i + 1) = 39 ∨ chr s (i + 1) = 34 then some ((chr s (i + 1)).toNat, i + 2)
 else if chr s (i + 1) = 120 /\ 0 <= zaH (chr s (i + 2)) /\ 0 <= zaH (chr s (i + 3)) then some ((16 * zaH (chr s (i + 2)) + zaH (chr s (i + 3))).toNat, i + 4)
 else none
def zbs (s : ByteArray) (q : Int) (b : Nat) : Nat -> List Int -> Nat -> Sum Tk (Nat × Int)
 | 0, _, _ => .inr (b, 52)
 | f + 1, out, i =>
  if chr s i < 0 then .inr (b, 52) else if chr s i = q then (if 255 < out.length then .inr (b, 2) else .inl ⟨2, 0, b, i + 1, zaj out, 0, 0, 0, 0⟩)
  else if chr s i < 32 ∨ chr s i = 127 then .inr (i, 50) else if chr s i ≠ 92 then zbs s q b f (out ++ [chr s i]) (i + 1)
  else match zck s i with
   | none => .inr (i, 51)
   | some (c, n) => zbs s q b f (out ++ [(c : Int)]) n
def zbZ (s : ByteArray) (b : Nat) : Sum Tk (Nat × Int) := zbs s (chr s b) b (s.size + 1) [] (b + 1)
def hx7 (s : ByteArray) (i : Nat) : Nat -> Nat
 | 0 => i
 | k + 1 => if 0 <= zaH (chr s i) then hx7 s (i + 1) k else i
def zbT (s : ByteArray) (i : Nat) : Nat := hx7 s i 7
def zb5 (s : ByteArray) (b : Nat) : Sum Tk (Nat × Int) :=
 let f1 := b + 3
 let e1 := zbT s f1
 let f2 := if chr s e1 = 45 then e1 + 1 else f1
 let e2 := if chr s e1 = 45 then zbT s (e1 + 1) else e1
 if e1 = f1 ∨ f1 + 6 < e1 ∨ e2 = f2 ∨ f2 + 6 < e2 ∨ chr s e2 ≠ 125 then .inr (b, 30)
 else if zaB s f2 16 (e2 - f2) < zaB s f1 16 (e1 - f1) ∨ 1114111 < zaB s f2 16 (e2 - f2) then .inr (b, 30)
 else .inl ⟨5, zaB s f1 16 (e1 - f1), b, e2 + 1, ⟨#[]⟩, zaB s f2 16 (e2 - f2), 0, 0, 0⟩
def zdP (s : ByteArray) (b : Nat) : Sum Tk (Nat × Int) :=
 if chr s (b + 1) = 117 /\ chr s (b + 2) = 123 then zb5 s b else if chr s (b + 1) = 101 then .inl ⟨29, 0, b, b + 2, ⟨#[]⟩, 0, 0, 0, 0⟩ else if chr s (b + 1) = 102 then .inl ⟨30, 0, b, b + 2, ⟨#[]⟩, 0, 0, 0, 0⟩
 else if 0 <= chr s (b + 1) /\ (cls (chr s (b + 1)).toNat).2 = 0 then .inl ⟨28, 0, b, b + 2, s.extract (b + 1) (b + 2), wd (cls (chr s (b + 1)).toNat).1 0, wd (cls (chr s (b + 1)).toNat).1 1, wd (cls (chr s (b + 1)).toNat).1 2, wd (cls (chr s (b + 1)).toNat).1 3⟩ else .inr (b, 10)
def zeg (s : ByteArray) (b : Nat) : Sum Tk (Nat × Int) :=
 let k : Int := if chr s (b + 1) = 43 then 14 else if chr s (b + 1) = 45 then 15 else 13
 let f := if chr s (b + 1) = 43 ∨ chr s (b + 1) = 45 then b + 2 else b + 1
 match zbx s f 50 with
 | .inr e => .inr (b, e)
 | .inl n => .inl ⟨k, n, b, spN dgB s f, ⟨#[]⟩, 0, 0, 0, 0⟩
def zfi (s : ByteArray) (b : Nat) : Sum Tk (Nat × Int) :=
 if hdB (chr s (b + 2)) = true /\ chr s (spN nmB s (b + 2)) = 58 then
  (if 32 < spN nmB s (b + 2) - b - 2 then .inr (b + 2, 2) else .inl ⟨21, 0, b, spN nmB s (b + 2) + 1, s.extract (b + 2) (spN nmB s (b + 2)), 0, 0, 0, 0⟩)
 else .inl ⟨21, 0, b, b + 2, ⟨#[]⟩, 0, 0, 0, 0⟩
end Go.Proofs.YtkihfkcmcdiajaaGreatDoor
namespace Go.Proofs.YtkihfkcmcdiajaaGreatDoor.T
open Go.RowKit
def dgB (c : Int) : Bool := decide (48 <= c) && decide (c <= 57)
def ltB (c : Int) : Bool := (decide (97 <= c) && decide (c <= 122)) || (decide (65 <= c) && decide (c <= 90))
def nmC (c : Int) : Bool := dgB c || ltB c || c == 95
def NmP (s : ByteArray) : Prop := 0 < s.size /\ s.size <= 32 /\ (∀ h : 0 < s.size, dgB (s[0].toNat : Int) = false) /\ ∀ (j : Nat) (h : j < s.size), nmC (s[j].toNat : Int) = true
def decNm (s:ByteArray):Decidable (NmP s):=by unfold NmP;exact inferInstance
def nmB (s:ByteArray):Bool:=@decide (NmP s) (decNm s)
theorem nmB_t {s : ByteArray} (h : NmP s) : nmB s = true := by unfold nmB; exact @decide_eq_true _ (decNm _) h
theorem zl4 {s : ByteArray} (h : ¬ NmP s) : nmB s = false := by unfold nmB; exact @decide_eq_false _ (decNm _) h
def zfj (s : ByteArray) : Nat -> Nat -> Bool
 | 0, _ => true
 | m + 1, i => if h : i < s.size then (if (s[i].toNat : Int) = 37 then (if h2 : i + 1 < s.size then (if (s[i + 1].toNat : Int) = 37 ∨ dgB (s[i + 1].toNat : Int) = true then zfj s m (i + 2) else false) else false) else zfj s m (i + 1)) else true
def tmB (s : ByteArray) : Bool := if s.size <= 255 then zfj s s.size 0 else false
structure Nd where
 op : Int
 nn : Int
 tx : ByteArray
 s0 : Int
 s1 : Int
 s2 : Int
 s3 : Int
def ar (op : Int) : Int := if op < 1 ∨ 23 < op then -1 else if op <= 6 ∨ op = 17 then 0 else if op = 7 ∨ op = 8 then 2 else 1
theorem ar_hi (op : Int) : ar op <= 2 := by
 unfold ar; split
 ·omega
 ·split
  ·omega
  ·split <;> omega
def txF (op : Int) (tx : ByteArray) : Bool := if op = 4 then decide (1 <= tx.size /\ tx.size <= 255) else if op = 6 then nmB tx else if op = 19 then decide (tx.size = 0) || nmB tx else if op = 22 then tmB tx else decide (tx.size = 0)
def nuF (op nn : Int) : Bool := if op = 14 ∨ op = 15 ∨ op = 16 ∨ op = 23 then decide (0 <= nn /\ nn <= 50) else decide (nn = 0)
def seF (op a b c d : Int) : Bool := if op = 5 then true else decide (a = 0 /\ b = 0 /\ c = 0 /\ d = 0)
def fdF (n : Nd) : Bool := txF n.op n.tx && nuF n.op n.nn && seF n.op n.s0 n.s1 n.s2 n.s3
def alE (n : Nd) : Int := if ar n.op < 0 then 40 else if fdF n then 0 else 41
abbrev ndG (n : Nd) : Value := .agg #[.int .i64 n.op, .int .i64 n.nn, .string n.tx, .int .u64 n.s0, .int .u64 n.s1, .int .u64 n.s2, .int .u64 n.s3]
def ndV (n : Nd) : List Value := [.int .i64 n.op, .int .i64 n.nn, .string n.tx, .int .u64 n.s0, .int .u64 n.s1, .int .u64 n.s2, .int .u64 n.s3]
def ndc (l : List Nd) : List Value := l.flatMap ndV
theorem zdX (a b : List Nd) : ndc (a ++ b) = ndc a ++ ndc b := List.flatMap_append
theorem zex (n : Nd) : ndc [n] = ndV n := by unfold ndc; rw [List.flatMap_cons, List.flatMap_nil, List.append_nil]
theorem zjH (l : List Nd) : (ndc l).length = l.length * 7 := by
 induction l with
 | nil => rfl
 | cons a l ih => show (ndV a ++ ndc l).length = _; rw [List.length_append, ih, List.length_cons]; show 7 + _ = _; omega
theorem zl5 {s : ByteArray} (h : s.size = 0) : s.toList.isEmpty = true := by
 obtain ⟨d⟩ := s
 have h2 : d.size = 0 := h
 rw [ByteArray.toList_eq, Array.eq_empty_of_size_eq_zero h2]; rfl
theorem zjI {s : ByteArray} (h : ¬ s.size = 0) : s.toList.isEmpty = false := by
 obtain ⟨d⟩ := s
 have h2 : ¬ d.toList.length = 0 := h
 rw [ByteArray.toList_eq]
 show d.toList.isEmpty = false
 cases hd : d.toList with
 | nil => rw [hd] at h2; exact absurd rfl h2
 | cons a b => rfl
theorem zaF {a b : Bool} (h : a = b) : Ending.returned (.bool a) = .returned (.bool b) := by rw [h]
end Go.Proofs.YtkihfkcmcdiajaaGreatDoor.T
namespace Go.Proofs.YtkihfkcmcdiajaaGreatDoor.N
open Go.RowKit
abbrev Nd := T.Nd
def nd0 (op : Int) : Nd := ⟨op, 0, ⟨#[]⟩, 0, 0, 0, 0⟩
structure PE where
 l : List Tk
 rn : Int -> Int -> List Nd
 tm : ByteArray -> Bool
def kdA (E : PE) (i : Nat) : Int := match E.l[i]? with
 | some t => t.kd
 | none => 0
def tkA (E : PE) (i : Nat) : Tk := (E.l[i]?).getD tk0
def bgK (k : Int) : Bool := k == 8 || k == 9 || k == 2 || k == 3 || k == 28 || k == 5 || k == 18 || k == 29 || k == 30 || k == 16 || k == 19 || k == 21 || k == 23 || k == 25
def bgn (E : PE) (i : Nat) : Bool := bgK (kdA E i) || (kdA E i == 1 && !(kdA E (i + 1) == 6))
abbrev PR := Sum (Nat × List Nd) (Nat × Int)
def bnd (r : PR) (f : Nat -> List Nd -> PR) : PR := match r with
 | .inl p => f p.1 p.2
 | .inr q => .inr q
def ahd (ns : List Nd) (r : PR) : PR := match r with
 | .inl p => .inl (p.1, ns ++ p.2)
 | .inr q => .inr q
def znB (tm : ByteArray -> Bool) (t u : Tk) (k k2 : Int) : Sum (Nd × Nat) (Option Int) :=
  if k = 10 then .inl (nd0 11, 1) else if k = 11 then .inl (nd0 9, 1) else if k = 12 then .inl (nd0 10, 1)
  else if k = 13 then .inl (⟨14, t.nn, ⟨#[]⟩, 0, 0, 0, 0⟩, 1) else if k = 14 then .inl (⟨15, t.nn, ⟨#[]⟩, 0, 0, 0, 0⟩, 1)
  else if k = 15 then .inl (⟨16, t.nn, ⟨#[]⟩, 0, 0, 0, 0⟩, 1)
  else if k = 27 then
    (if k2 = 2 then (if tm u.tx then .inl (⟨22, 0, u.tx, 0, 0, 0, 0⟩, 2) else .inr (some 61))
     else if k2 = 4 then (if 50 < u.nn then .inr (some 1) else .inl (⟨23, u.nn, ⟨#[]⟩, 0, 0, 0, 0⟩, 2))
     else .inr (some 60))
  else .inr none
def zgh (E : PE) (i : Nat) : Sum (Nd × Nat) (Option Int) := znB E.tm (tkA E i) (tkA E (i + 1)) (kdA E i) (kdA E (i + 1))
def zcp (rn : Int -> Int -> List Nd) (t : Tk) (k2 : Int) : Sum (List Nd × Nat) (Int × List Nd) :=
 if t.kd = 2 then .inl (if t.tx.size = 0 then [nd0 1] else [⟨4, 0, t.tx, 0, 0, 0, 0⟩], 1)
 else if t.kd = 3 ∨ t.kd = 28 then .inl ([⟨5, 0, ⟨#[]⟩, t.s0, t.s1, t.s2, t.s3⟩], 1)
 else if t.kd = 5 then .inl (rn t.nn t.s0, 1)
 else if t.kd = 18 then .inl ([nd0 3], 1) else if t.kd = 29 then .inl ([nd0 1], 1) else if t.kd = 30 then .inl ([nd0 2], 1)
 else if t.kd = 1 then .inl ([⟨6, 0, t.tx, 0, 0, 0, 0⟩], 1)
 else if t.kd = 16 then .inr (17, [])
 else if t.kd = 19 then (if k2 = 20 then .inl ([nd0 17], 2) else .inr (20, [nd0 18]))
 else if t.kd = 21 then .inr (22, [⟨19, 0, t.tx, 0, 0, 0, 0⟩])
 else if t.kd = 23 then .inr (24, [nd0 20]) else .inr (26, [nd0 21])
def zbU (E : PE) (i : Nat) : Sum (List Nd × Nat) (Int × List Nd) := zcp E.rn (tkA E i) (kdA E (i + 1))
def PF (E : PE) : Nat -> Nat -> Nat -> Nat -> PR
  | 0, _, _, _ => .inr (0, -1)
  | f + 1, m, i, d =>
    if m = 0 then bnd (PF E f 2 i d) fun a ns => ahd ns (PF E f 1 a d)
    else if m = 1 then (if kdA E i = 7 then bnd (PF E f 2 (i + 1) d) fun a ns => ahd (ns ++ [nd0 8]) (PF E f 1 a d) else .inl (i, []))
    else if m = 2 then bnd (PF E f 4 i d) fun a ns => ahd ns (PF E f 3 a d)
    else if m = 3 then (if bgn E i = true then bnd (PF E f 4 i d) fun a ns => ahd (ns ++ [nd0 7]) (PF E f 3 a d) else .inl (i, []))
    else if m = 4 then
      (if bgn E i = true then
        (if kdA E i = 8 ∨ kdA E i = 9 then (if 240 <= d then .inr (i, 4) else bnd (PF E f 4 (i + 1) (d + 1)) fun a ns => .inl (a, ns ++ [nd0 (if kdA E i = 8 then 12 else 13)]))
         else bnd (PF E f 5 i d) fun a ns => ahd ns (PF E f 6 a d))
       else .inr (i, 60))
    else if m = 5 then
      (match zbU E i with
       | .inl p => .inl (i + p.2, p.1)
       | .inr p => if 240 <= d then .inr (i, 4) else bnd (PF E f 0 (i + 1) (d + 1)) fun a ms => if kdA E a = p.1 then .inl (a + 1, ms ++ p.2) else .inr (a, 60))
    else (match zgh E i with
       | .inr none => .inl (i, [])
       | .inr (some c) => .inr (i + 1, c)
       | .inl p => ahd [p.1] (PF E f 6 (i + p.2) d))
theorem zby {E : PE} {i : Nat} (h : ¬ kdA E i = 0) : i < E.l.length := by
 unfold kdA at h
 by_cases q : i < E.l.length
 ·exact q
 ·rw [List.getElem?_eq_none (by omega)] at h; exact absurd rfl h
theorem zd4 {E : PE} {i : Nat} (h : bgn E i = true) : i < E.l.length := by
 apply zby
 intro q
 unfold bgn bgK at h
 rw [q] at h
 simp at h
theorem zaL {r : PR} {f : Nat -> List Nd -> PR} {x : Nat × List Nd} (h : bnd r f = .inl x) : ∃ a ns, r = .inl (a, ns) /\ f a ns = .inl x := by
 cases r with
 | inl p => exact ⟨p.1, p.2, rfl, h⟩
 | inr q => cases h
theorem zaY {ns : List Nd} {r : PR} {x : Nat × List Nd} (h : ahd ns r = .inl x) : ∃ ms, r = .inl (x.1, ms) /\ x.2 = ns ++ ms := by
 cases r with
 | inl p => cases h; exact ⟨p.2, rfl, rfl⟩
 | inr q => cases h
theorem sufK_n {tm : ByteArray -> Bool} {t u : Tk} {k k2 : Int} {p : Nd × Nat} (h : znB tm t u k k2 = .inl p) : (p.2 = 1 /\ ¬ k = 0) ∨ (p.2 = 2 /\ ¬ k2 = 0) := by
 unfold znB at h
 by_cases h0 : k = 10
 ·rw [if_pos h0] at h; cases h; exact .inl ⟨rfl, by omega⟩
 rw [if_neg h0] at h
 by_cases h1 : k = 11
 ·rw [if_pos h1] at h; cases h; exact .inl ⟨rfl, by omega⟩
 rw [if_neg h1] at h
 by_cases h2 : k = 12
 ·rw [if_pos h2] at h; cases h; exact .inl ⟨rfl, by omega⟩
 rw [if_neg h2] at h
 by_cases h3 : k = 13
 ·rw [if_pos h3] at h; cases h; exact .inl ⟨rfl, by omega⟩
 rw [if_neg h3] at h
 by_cases h4 : k = 14
 ·rw [if_pos h4] at h; cases h; exact .inl ⟨rfl, by omega⟩
 rw [if_neg h4] at h
 by_cases h5 : k = 15
 ·rw [if_pos h5] at h; cases h; exact .inl ⟨rfl, by omega⟩
 rw [if_neg h5] at h
 by_cases h7 : k = 27
 ·rw [if_pos h7] at h
  by_cases h8 : k2 = 2
  ·rw [if_pos h8] at h
   split at h
   ·cases h; exact .inr ⟨rfl, by omega⟩
   ·cases h
  ·rw [if_neg h8] at h
   by_cases h9 : k2 = 4
   ·rw [if_pos h9] at h
    split at h
    ·cases h
    ·cases h; exact .inr ⟨rfl, by omega⟩
   ·rw [if_neg h9] at h; cases h
 ·rw [if_neg h7] at h; cases h
theorem zjJ {E : PE} {i : Nat} {p : Nd × Nat} (h : zgh E i = .inl p) : 0 < p.2 /\ i + p.2 <= E.l.length := by
 rcases sufK_n h with ⟨h1, h2⟩ | ⟨h1, h2⟩
 ·have := zby h2; omega
 ·have := zby h2; omega
theorem zog {rn : Int -> Int -> List Nd} {t : Tk} {k2 : Int} {p : List Nd × Nat} (h : zcp rn t k2 = .inl p) : p.2 = 1 ∨ (p.2 = 2 /\ k2 = 20) := by
 unfold zcp at h
 by_cases c0 : t.kd = 2
 ·rw [if_pos c0] at h
  cases h; exact .inl rfl
 rw [if_neg c0] at h
 by_cases c1 : t.kd = 3 ∨ t.kd = 28
 ·rw [if_pos c1] at h
  cases h; exact .inl rfl
 rw [if_neg c1] at h
 by_cases c2 : t.kd = 5
 ·rw [if_pos c2] at h
  cases h; exact .inl rfl
 rw [if_neg c2] at h
 by_cases c3 : t.kd = 18
 ·rw [if_pos c3] at h
  cases h; exact .inl rfl
 rw [if_neg c3] at h
 by_cases c4 : t.kd = 29
 ·rw [if_pos c4] at h
  cases h; exact .inl rfl
 rw [if_neg c4] at h
 by_cases c5 : t.kd = 30
 ·rw [if_pos c5] at h
  cases h; exact .inl rfl
 rw [if_neg c5] at h
 by_cases c6 : t.kd = 1
 ·rw [if_pos c6] at h
  cases h; exact .inl rfl
 rw [if_neg c6] at h
 by_cases c7 : t.kd = 16
 ·rw [if_pos c7] at h
  cases h
 rw [if_neg c7] at h
 by_cases c8 : t.kd = 19
 ·rw [if_pos c8] at h
  by_cases d : k2 = 20
  ·rw [if_pos d] at h
   cases h; exact .inr ⟨rfl, d⟩
  ·rw [if_neg d] at h
   cases h
 rw [if_neg c8] at h
 by_cases c9 : t.kd = 21
 ·rw [if_pos c9] at h
  cases h
 rw [if_neg c9] at h
 by_cases c10 : t.kd = 23
 ·rw [if_pos c10] at h
  cases h
 rw [if_neg c10] at h
 cases h
theorem zoh {rn : Int -> Int -> List Nd} {t : Tk} {k2 : Int} {p : Int × List Nd} (h : zcp rn t k2 = .inr p) : p.1 = 17 ∨ p.1 = 20 ∨ p.1 = 22 ∨ p.1 = 24 ∨ p.1 = 26 := by
 unfold zcp at h
 by_cases c0 : t.kd = 2
 ·rw [if_pos c0] at h
  cases h
 rw [if_neg c0] at h
 by_cases c1 : t.kd = 3 ∨ t.kd = 28
 ·rw [if_pos c1] at h
  cases h
 rw [if_neg c1] at h
 by_cases c2 : t.kd = 5
 ·rw [if_pos c2] at h
  cases h
 rw [if_neg c2] at h
 by_cases c3 : t.kd = 18
 ·rw [if_pos c3] at h
  cases h
 rw [if_neg c3] at h
 by_cases c4 : t.kd = 29
 ·rw [if_pos c4] at h
  cases h
 rw [if_neg c4] at h
 by_cases c5 : t.kd = 30
 ·rw [if_pos c5] at h
  cases h
 rw [if_neg c5] at h
 by_cases c6 : t.kd = 1
 ·rw [if_pos c6] at h
  cases h
 rw [if_neg c6] at h
 by_cases c7 : t.kd = 16
 ·rw [if_pos c7] at h
  cases h; simp
 rw [if_neg c7] at h
 by_cases c8 : t.kd = 19
 ·rw [if_pos c8] at h
  by_cases d : k2 = 20
  ·rw [if_pos d] at h
   cases h
  ·rw [if_neg d] at h
   cases h; simp
 rw [if_neg c8] at h
 by_cases c9 : t.kd = 21
 ·rw [if_pos c9] at h
  cases h; simp
 rw [if_neg c9] at h
 by_cases c10 : t.kd = 23
 ·rw [if_pos c10] at h
  cases h; simp
 rw [if_neg c10] at h
 cases h; simp
theorem zjK {E : PE} {i : Nat} {p : List Nd × Nat} (hi : i < E.l.length) (h : zbU E i = .inl p) : 0 < p.2 /\ i + p.2 <= E.l.length := by
 rcases zog h with h1 | ⟨h1, h2⟩
 ·omega
 ·have := zby (E := E) (i := i + 1) (by omega)
  omega
theorem zbt (E : PE) : ∀ (f m i d a : Nat) (ns : List Nd), i <= E.l.length -> (m = 5 -> i < E.l.length) -> PF E f m i d = .inl (a, ns) -> i <= a /\ a <= E.l.length /\ (m = 0 ∨ m = 2 ∨ m = 4 ∨ m = 5 -> i < a) := by
 intro f
 induction f with
 | zero => intro m i d a ns _ _ h; cases h
 | succ f ih =>
  intro m i d a ns hi h5 h
  rw [PF] at h
  by_cases m0 : m = 0
  ·rw [if_pos m0] at h
   obtain ⟨a1, n1, r1, h⟩ := zaL h
   obtain ⟨n2, r2, _⟩ := zaY h
   obtain ⟨x1, x2, x3⟩ := ih _ _ _ _ _ hi (by omega) r1
   obtain ⟨y1, y2, _⟩ := ih _ _ _ _ _ x2 (by omega) r2
   have := x3 (by omega)
   dsimp only at y1 y2
   exact ⟨by omega, y2, fun _ => by omega⟩
  rw [if_neg m0] at h
  by_cases m1 : m = 1
  ·rw [if_pos m1] at h
   by_cases k7 : kdA E i = 7
   ·have hlt := zby (E := E) (i := i) (by omega)
    rw [if_pos k7] at h
    obtain ⟨a1, n1, r1, h⟩ := zaL h
    obtain ⟨n2, r2, _⟩ := zaY h
    obtain ⟨x1, x2, x3⟩ := ih _ _ _ _ _ (by omega) (by omega) r1
    obtain ⟨y1, y2, _⟩ := ih _ _ _ _ _ x2 (by omega) r2
    dsimp only at y1 y2
    exact ⟨by omega, y2, fun q => by omega⟩
   ·rw [if_neg k7] at h
    cases h
    exact ⟨Nat.le_refl _, hi, fun q => by omega⟩
  rw [if_neg m1] at h
  by_cases m2 : m = 2
  ·rw [if_pos m2] at h
   obtain ⟨a1, n1, r1, h⟩ := zaL h
   obtain ⟨n2, r2, _⟩ := zaY h
   obtain ⟨x1, x2, x3⟩ := ih _ _ _ _ _ hi (by omega) r1
   obtain ⟨y1, y2, _⟩ := ih _ _ _ _ _ x2 (by omega) r2
   have := x3 (by omega)
   dsimp only at y1 y2
   exact ⟨by omega, y2, fun _ => by omega⟩
  rw [if_neg m2] at h
  by_cases m3 : m = 3
  ·rw [if_pos m3] at h
   by_cases kb : bgn E i = true
   ·have hlt := zd4 kb
    rw [if_pos kb] at h
    obtain ⟨a1, n1, r1, h⟩ := zaL h
    obtain ⟨n2, r2, _⟩ := zaY h
    obtain ⟨x1, x2, x3⟩ := ih _ _ _ _ _ (by omega) (by omega) r1
    obtain ⟨y1, y2, _⟩ := ih _ _ _ _ _ x2 (by omega) r2
    dsimp only at y1 y2
    exact ⟨by omega, y2, fun q => by omega⟩
   ·rw [if_neg kb] at h
    cases h
    exact ⟨Nat.le_refl _, hi, fun q => by omega⟩
  rw [if_neg m3] at h
  by_cases m4 : m = 4
  ·rw [if_pos m4] at h
   by_cases kb : bgn E i = true
   ·have hlt := zd4 kb
    rw [if_pos kb] at h
    by_cases k8 : kdA E i = 8 ∨ kdA E i = 9
    ·rw [if_pos k8] at h
     split at h
     ·cases h
     ·obtain ⟨a1, n1, r1, h⟩ := zaL h
      cases h
      obtain ⟨x1, x2, x3⟩ := ih _ _ _ _ _ (by omega) (by omega) r1
      exact ⟨by omega, x2, fun _ => by omega⟩
    ·rw [if_neg k8] at h
     obtain ⟨a1, n1, r1, h⟩ := zaL h
     obtain ⟨n2, r2, _⟩ := zaY h
     obtain ⟨x1, x2, x3⟩ := ih _ _ _ _ _ (by omega) (fun _ => hlt) r1
     obtain ⟨y1, y2, _⟩ := ih _ _ _ _ _ x2 (by omega) r2
     have := x3 (by omega)
     dsimp only at y1 y2
     exact ⟨by omega, y2, fun _ => by omega⟩
   ·rw [if_neg kb] at h; cases h
  rw [if_neg m4] at h
  by_cases m5 : m = 5
  ·rw [if_pos m5] at h
   have hlt := h5 m5
   cases hp : zbU E i with
   | inl p =>
    rw [hp] at h
    cases h
    have := zjK hlt hp
    exact ⟨by omega, this.2, fun _ => by omega⟩
   | inr p =>
    rw [hp] at h
    dsimp only at h
    split at h
    ·cases h
    ·obtain ⟨a1, n1, r1, h⟩ := zaL h
     obtain ⟨x1, x2, x3⟩ := ih _ _ _ _ _ (by omega) (by omega) r1
     split at h
     ·next hk =>
      cases h
      have : a1 < E.l.length := by
       apply zby
       intro q
       have hc := zoh hp
       omega
      exact ⟨by omega, by omega, fun _ => by omega⟩
     ·cases h
  rw [if_neg m5] at h
  cases hs : zgh E i with
  | inl p =>
   rw [hs] at h
   obtain ⟨n2, r2, _⟩ := zaY h
   obtain ⟨q1, q2⟩ := zjJ hs
   obtain ⟨y1, y2, _⟩ := ih _ _ _ _ _ q2 (fun q => by cases q) r2
   dsimp only at y1 y2
   exact ⟨by omega, y2, fun q => by omega⟩
  | inr o =>
   rw [hs] at h
   cases o with
   | none => cases h; exact ⟨Nat.le_refl _, hi, fun q => by omega⟩
   | some q => cases h
def rk (m : Nat) : Nat := if m = 0 then 4 else if m = 2 then 3 else if m = 3 then 3 else if m = 4 then 2 else if m = 5 then 1 else 0
def nee (E : PE) (m i : Nat) : Nat := 5 * (E.l.length - i) + rk m + 1
theorem zb6 {r r' : PR} {F G : Nat -> List Nd -> PR} (h : r = r') (h2 : ∀ a ns, r = .inl (a, ns) -> F a ns = G a ns) : bnd r F = bnd r' G := by
 subst h
 cases r with
 | inl p => exact h2 p.1 p.2 rfl
 | inr q => rfl
theorem suf_rk (m : Nat) (h0 : ¬ m = 0) (h2 : ¬ m = 2) (h3 : ¬ m = 3) (h4 : ¬ m = 4) (h5 : ¬ m = 5) : rk m = 0 := by
 unfold rk
 rw [if_neg h0, if_neg h2, if_neg h3, if_neg h4, if_neg h5]
theorem rk0 : rk 0 = 4 := rfl
theorem rk1 : rk 1 = 0 := rfl
theorem rk2 : rk 2 = 3 := rfl
theorem rk3 : rk 3 = 3 := rfl
theorem rk4 : rk 4 = 2 := rfl
theorem rk5 : rk 5 = 1 := rfl
theorem rk6 : rk 6 = 0 := rfl
theorem zoi (E : PE) : ∀ (f g m i d : Nat), i <= E.l.length -> (m = 5 -> i < E.l.length) -> nee E m i <= f -> nee E m i <= g -> PF E f m i d = PF E g m i d := by
 intro f
 induction f with
 | zero => intro g m i d _ _ h; unfold nee at h; omega
 | succ f ih =>
  intro g m i d hi h5 hf hg
  cases g with
  | zero => unfold nee at hg; omega
  | succ g =>
   unfold nee at hf hg ih
   rw [PF, PF]
   by_cases m0 : m = 0
   ·subst m0
    rw [rk0] at hf hg
    rw [if_pos rfl, if_pos rfl]
    refine zb6 (ih g 2 i d hi (by omega) (by rw [rk2]; omega) (by rw [rk2]; omega)) (fun a ns hr => ?_)
    obtain ⟨x1, x2, x3⟩ := zbt E _ _ _ _ _ _ hi (by omega) hr
    have := x3 (by omega)
    rw [ih g 1 a d x2 (by omega) (by rw [rk1]; omega) (by rw [rk1]; omega)]
   rw [if_neg m0, if_neg m0]
   by_cases m1 : m = 1
   ·subst m1
    rw [rk1] at hf hg
    rw [if_pos rfl, if_pos rfl]
    by_cases k7 : kdA E i = 7
    ·have hlt := zby (E := E) (i := i) (by omega)
     rw [if_pos k7, if_pos k7]
     refine zb6 (ih g 2 (i + 1) d (by omega) (by omega) (by rw [rk2]; omega) (by rw [rk2]; omega)) (fun a ns hr => ?_)
     obtain ⟨x1, x2, x3⟩ := zbt E _ _ _ _ _ _ (by omega) (by omega) hr
     rw [ih g 1 a d x2 (by omega) (by rw [rk1]; omega) (by rw [rk1]; omega)]
    ·rw [if_neg k7, if_neg k7]
   rw [if_neg m1, if_neg m1]
   by_cases m2 : m = 2
   ·subst m2
    rw [rk2] at hf hg
    rw [if_pos rfl, if_pos rfl]
    refine zb6 (ih g 4 i d hi (by omega) (by rw [rk4]; omega) (by rw [rk4]; omega)) (fun a ns hr => ?_)
    obtain ⟨x1, x2, x3⟩ := zbt E _ _ _ _ _ _ hi (by omega) hr
    have := x3 (by omega)
    rw [ih g 3 a d x2 (by omega) (by rw [rk3]; omega) (by rw [rk3]; omega)]
   rw [if_neg m2, if_neg m2]
   by_cases m3 : m = 3
   ·subst m3
    rw [rk3] at hf hg
    rw [if_pos rfl, if_pos rfl]
    by_cases kb : bgn E i = true
    ·have hlt := zd4 kb
     rw [if_pos kb, if_pos kb]
     refine zb6 (ih g 4 i d (by omega) (by omega) (by rw [rk4]; omega) (by rw [rk4]; omega)) (fun a ns hr => ?_)
     obtain ⟨x1, x2, x3⟩ := zbt E _ _ _ _ _ _ (by omega) (by omega) hr
     have := x3 (by omega)
     rw [ih g 3 a d x2 (by omega) (by rw [rk3]; omega) (by rw [rk3]; omega)]
    ·rw [if_neg kb, if_neg kb]
   rw [if_neg m3, if_neg m3]
   by_cases m4 : m = 4
   ·subst m4
    rw [rk4] at hf hg
    rw [if_pos rfl, if_pos rfl]
    by_cases kb : bgn E i = true
    ·have hlt := zd4 kb
     rw [if_pos kb, if_pos kb]
     by_cases k8 : kdA E i = 8 ∨ kdA E i = 9
     ·rw [if_pos k8, if_pos k8]
      by_cases hd : 240 <= d
      ·rw [if_pos hd, if_pos hd]
      ·rw [if_neg hd, if_neg hd]
       exact zb6 (ih g 4 (i + 1) (d + 1) (by omega) (by omega) (by rw [rk4]; omega) (by rw [rk4]; omega)) (fun a ns hr => rfl)
     ·rw [if_neg k8, if_neg k8]
      refine zb6 (ih g 5 i d (by omega) (fun _ => hlt) (by rw [rk5]; omega) (by rw [rk5]; omega)) (fun a ns hr => ?_)
      obtain ⟨x1, x2, x3⟩ := zbt E _ _ _ _ _ _ (by omega) (fun _ => hlt) hr
      have := x3 (by omega)
      rw [ih g 6 a d x2 (by omega) (by rw [rk6]; omega) (by rw [rk6]; omega)]
    ·rw [if_neg kb, if_neg kb]
   rw [if_neg m4, if_neg m4]
   by_cases m5 : m = 5
   ·have hlt := h5 m5
    subst m5
    rw [rk5] at hf hg
    rw [if_pos rfl, if_pos rfl]
    cases hp : zbU E i with
    | inl p => rfl
    | inr p =>
     dsimp only
     by_cases hd : 240 <= d
     ·rw [if_pos hd, if_pos hd]
     ·rw [if_neg hd, if_neg hd]
      exact zb6 (ih g 0 (i + 1) (d + 1) (by omega) (by omega) (by rw [rk0]; omega) (by rw [rk0]; omega)) (fun a ns hr => rfl)
   rw [if_neg m5, if_neg m5]
   rw [suf_rk m m0 m2 m3 m4 m5] at hf hg
   cases hs : zgh E i with
   | inl p =>
    obtain ⟨q1, q2⟩ := zjJ hs
    dsimp only
    rw [ih g 6 (i + p.2) d q2 (by omega) (by rw [rk6]; omega) (by rw [rk6]; omega)]
   | inr o => cases o <;> rfl
structure Alk (E E' : PE) : Prop where
 rn : E'.rn = E.rn
 tm : E'.tm = E.tm
 k : ∀ i, kdA E' i = kdA E i
 t : ∀ i, (tkA E' i).kd = (tkA E i).kd /\ (tkA E' i).nn = (tkA E i).nn /\ (tkA E' i).tx = (tkA E i).tx /\ (tkA E' i).s0 = (tkA E i).s0 /\ (tkA E' i).s1 = (tkA E i).s1 /\ (tkA E' i).s2 = (tkA E i).s2 /\ (tkA E' i).s3 = (tkA E i).s3
theorem zoj {E E' : PE} (h : Alk E E') (i : Nat) : bgn E' i = bgn E i := by unfold bgn; rw [h.k, h.k]
theorem zok {E E' : PE} (h : Alk E E') (i : Nat) : zgh E' i = zgh E i := by
 obtain ⟨_, a1, _⟩ := h.t i
 obtain ⟨_, b1, b2, _⟩ := h.t (i + 1)
 unfold zgh znB
 rw [h.k, h.k, h.tm, a1, b1, b2]
theorem zl6 {E E' : PE} (h : Alk E E') (i : Nat) : zbU E' i = zbU E i := by
 obtain ⟨a0, a1, a2, a3, a4, a5, a6⟩ := h.t i
 unfold zbU zcp
 rw [h.k, h.rn, a0, a1, a2, a3, a4, a5, a6]
theorem PF_alk {E E' : PE} (h : Alk E E') : ∀ (f m i d : Nat), PF E' f m i d = PF E f m i d := by
 intro f
 induction f with
 | zero => intro m i d; rfl
 | succ f ih =>
  intro m i d
  rw [PF, PF]
  simp only [ih, h.k, zoj h, zok h, zl6 h]
theorem zjL (E : PE) : kdA E E.l.length = 0 := by unfold kdA; rw [List.getElem?_eq_none (Nat.le_refl _)]
def fue (E : PE) : Nat := 5 * E.l.length + 5
def exN (E : PE) (i : Nat) : PR := PF E (fue E) 0 i 0
theorem zey {E : PE} {i a : Nat} {ns : List Nd} (hi : i <= E.l.length) (h : exN E i = .inl (a, ns)) : i < a /\ a <= E.l.length := by
 obtain ⟨_, h2, h3⟩ := zbt E _ _ _ _ _ _ hi (by omega) h
 exact ⟨h3 (.inl rfl), h2⟩
def ruB (E : PE) (i : Nat) : Bool := kdA E i == 1 && kdA E (i + 1) == 6
abbrev Rl := Nat × ByteArray × List Nd
def rlG (ex : Nat -> PR) (E : PE) : Nat -> Nat -> List Rl -> Sum (List Rl) (Nat × Int)
 | 0, _, out => .inl out
 | f + 1, i, out => if i < E.l.length then (if ruB E i = true then (match ex (i + 2) with
  | .inr q => .inr q
  | .inl p => rlG ex E f p.1 (out ++ [(i, (tkA E i).tx, p.2)])) else .inr (i, 60)) else .inl out
def rdN (E : PE) : Sum (List Rl) (Nat × Int) := if ruB E 0 = true then rlG (exN E) E (E.l.length + 1) 0 [] else (match exN E 0 with
 | .inr q => .inr q
 | .inl p => if p.1 < E.l.length then .inr (p.1, 60) else .inl [(0, ⟨#[]⟩, p.2)])
theorem zgV {E : PE} {i : Nat} (h : ruB E i = true) : i + 2 <= E.l.length := by
 unfold ruB at h
 simp only [Bool.and_eq_true, beq_iff_eq] at h
 have := zby (E := E) (i := i + 1) (by omega)
 omega
theorem zjM {E E' : PE} (h : Alk E E') (hl : E'.l.length = E.l.length) (i : Nat) : exN E' i = exN E i := by unfold exN fue; rw [hl, PF_alk h]
theorem zol {E E' : PE} (h : Alk E E') (hl : E'.l.length = E.l.length) : ∀ (f i : Nat) (out : List Rl), rlG (exN E') E' f i out = rlG (exN E) E f i out := by
 intro f
 induction f with
 | zero => intro i out; rw [rlG, rlG]
 | succ f ih =>
  intro i out
  rw [rlG, rlG]
  unfold ruB
  simp only [ih, h.k, hl, zjM h hl, (h.t i).2.2.1]
theorem zom {E E' : PE} (h : Alk E E') (hl : E'.l.length = E.l.length) : rdN E' = rdN E := by
 unfold rdN ruB
 rw [zol h hl, zjM h hl, h.k, h.k, hl]
def bare (t : Tk) : Tk := ⟨t.kd, t.nn, 0, 0, t.tx, t.s0, t.s1, t.s2, t.s3⟩
theorem alk_of {l l' : List Tk} (hm : l'.map bare = l.map bare) (rn : Int -> Int -> List Nd) (tm : ByteArray -> Bool) : Alk ⟨l, rn, tm⟩ ⟨l', rn, tm⟩ := by
 have key : ∀ i, (l'[i]?).map bare = (l[i]?).map bare := fun i => by
  rw [<- List.getElem?_map, <- List.getElem?_map, hm]
 refine ⟨rfl, rfl, fun i => ?_, fun i => ?_⟩
 ·have k := key i
  unfold kdA
  dsimp only
  cases h1 : l'[i]? with
  | none =>
   rw [h1] at k
   cases h2 : l[i]? with
   | none => rfl
   | some u => rw [h2] at k; cases k
  | some t =>
   rw [h1] at k
   cases h2 : l[i]? with
   | none => rw [h2] at k; cases k
   | some u =>
    rw [h2] at k
    have k : (⟨t.kd, t.nn, 0, 0, t.tx, t.s0, t.s1, t.s2, t.s3⟩ : Tk) = ⟨u.kd, u.nn, 0, 0, u.tx, u.s0, u.s1, u.s2, u.s3⟩ := Option.some.inj k
    injection k
 ·have k := key i
  unfold tkA
  dsimp only
  cases h1 : l'[i]? with
  | none =>
   rw [h1] at k
   cases h2 : l[i]? with
   | none => exact ⟨rfl, rfl, rfl, rfl, rfl, rfl, rfl⟩
   | some u => rw [h2] at k; cases k
  | some t =>
   rw [h1] at k
   cases h2 : l[i]? with
   | none => rw [h2] at k; cases k
   | some u =>
    rw [h2] at k
    have k : (⟨t.kd, t.nn, 0, 0, t.tx, t.s0, t.s1, t.s2, t.s3⟩ : Tk) = ⟨u.kd, u.nn, 0, 0, u.tx, u.s0, u.s1, u.s2, u.s3⟩ := Option.some.inj k
    injection k with k0 k1 k2 k3 k4 k5 k6 k7 k8
    exact ⟨k0, k1, k4, k5, k6, k7, k8⟩
def gN (E : PE) (m i d : Nat) : PR := PF E (5 * E.l.length + 5) m i d
theorem znC (E : PE) (m i : Nat) : nee E m i <= 5 * E.l.length + 5 := by
 unfold nee rk
 split
 ·omega
 ·split
  ·omega
  ·split
   ·omega
   ·split
    ·omega
    ·split <;> omega
theorem zdl (E : PE) (m i d : Nat) (hi : i <= E.l.length) (h5 : m = 5 -> i < E.l.length) : gN E m i d = PF E (5 * E.l.length + 5 + 1) m i d :=
 zoi E _ _ m i d hi h5 (znC E m i) (Nat.le_succ_of_le (znC E m i))
theorem gN_ex (E : PE) (i : Nat) : gN E 0 i 0 = exN E i := rfl
theorem zd5 {E : PE} {m i d a : Nat} {ns : List Nd} (hi : i <= E.l.length) (h5 : m = 5 -> i < E.l.length) (h : gN E m i d = .inl (a, ns)) : i <= a /\ a <= E.l.length /\ (m = 0 ∨ m = 2 ∨ m = 4 ∨ m = 5 -> i < a) := zbt E _ _ _ _ _ _ hi h5 h
theorem g0 (E : PE) (i d : Nat) (hi : i <= E.l.length) : gN E 0 i d = bnd (gN E 2 i d) fun a ns => ahd ns (gN E 1 a d) := by
 rw [zdl E 0 i d hi (by omega), PF, if_pos rfl]; rfl
theorem g1 (E : PE) (i d : Nat) (hi : i <= E.l.length) : gN E 1 i d = if kdA E i = 7 then bnd (gN E 2 (i + 1) d) fun a ns => ahd (ns ++ [nd0 8]) (gN E 1 a d) else .inl (i, []) := by
 rw [zdl E 1 i d hi (by omega), PF, if_neg (by decide), if_pos rfl]; rfl
theorem g2 (E : PE) (i d : Nat) (hi : i <= E.l.length) : gN E 2 i d = bnd (gN E 4 i d) fun a ns => ahd ns (gN E 3 a d) := by
 rw [zdl E 2 i d hi (by omega), PF, if_neg (by decide), if_neg (by decide), if_pos rfl]; rfl
theorem g3 (E : PE) (i d : Nat) (hi : i <= E.l.length) : gN E 3 i d = if bgn E i = true then bnd (gN E 4 i d) fun a ns => ahd (ns ++ [nd0 7]) (gN E 3 a d) else .inl (i, []) := by
 rw [zdl E 3 i d hi (by omega), PF, if_neg (by decide), if_neg (by decide), if_neg (by decide), if_pos rfl]; rfl
theorem g4 (E : PE) (i d : Nat) (hi : i <= E.l.length) : gN E 4 i d = if bgn E i = true then
        (if kdA E i = 8 ∨ kdA E i = 9 then (if 240 <= d then .inr (i, 4) else bnd (gN E 4 (i + 1) (d + 1)) fun a ns => .inl (a, ns ++ [nd0 (if kdA E i = 8 then 12 else 13)]))
         else bnd (gN E 5 i d) fun a ns => ahd ns (gN E 6 a d))
       else .inr (i, 60) := by
  rw [zdl E 4 i d hi (by omega), PF, if_neg (by decide), if_neg (by decide), if_neg (by decide), if_neg (by decide), if_pos rfl]; rfl
theorem g5 (E : PE) (i d : Nat) (hi : i < E.l.length) : gN E 5 i d = match zbU E i with
       | .inl p => .inl (i + p.2, p.1)
       | .inr p => if 240 <= d then .inr (i, 4) else bnd (gN E 0 (i + 1) (d + 1)) fun a ms => if kdA E a = p.1 then .inl (a + 1, ms ++ p.2) else .inr (a, 60) := by
  rw [zdl E 5 i d (by omega) (fun _ => hi), PF, if_neg (by decide), if_neg (by decide), if_neg (by decide), if_neg (by decide), if_neg (by decide), if_pos rfl]; rfl
theorem g6 (E : PE) (i d : Nat) (hi : i <= E.l.length) : gN E 6 i d = match zgh E i with
       | .inr none => .inl (i, [])
       | .inr (some c) => .inr (i + 1, c)
       | .inl p => ahd [p.1] (gN E 6 (i + p.2) d) := by
  rw [zdl E 6 i d hi (by omega), PF, if_neg (by decide), if_neg (by decide), if_neg (by decide), if_neg (by decide), if_neg (by decide), if_neg (by decide)]; rfl
theorem zfI (a b : List Nd) (r : PR) : ahd a (ahd b r) = ahd (a ++ b) r := by
 cases r with
 | inl p => show Sum.inl _ = Sum.inl _; rw [List.append_assoc]
 | inr q => rfl
end Go.Proofs.YtkihfkcmcdiajaaGreatDoor.N
namespace Go.Proofs.YtkihfkcmcdiajaaGreatDoor
open Go.RowKit
theorem zan (s : ByteArray) (i : Nat) (c : Int) (hc : 0 <= c) (w : World) :
  Calls Tryz.prog 148 #[.string s, .int .i64 i, .int .u8 c] w fun e w' => e = .returned (.bool (chr s i == c)) /\ w' = w := by
 by_cases h : i < s.size
 ·have HE := hO (zal h)
  have h0 : (0 : Int) <= (i : Int) := by omega
  have h1 : (i : Int) < (s.size : Int) := by omega
  go_enter Tryz.func148, Tryz.ntmps148
  go_wp2
  go_ret
  exact ⟨by rw [HE.out]; rfl, rfl⟩
 ·have HE : Hid ((chr s i == c) = false) := (by show (chr s i == c) = false; rw [zat h]; exact bF (by omega))
  have h1 : ¬ (i : Int) < (s.size : Int) := by omega
  go_enter Tryz.func148, Tryz.ntmps148
  go_wp2
  go_ret
  exact ⟨zaF HE.out.symm, rfl⟩
abbrev digs : ByteArray := ⟨#[48, 49, 50, 51, 52, 53, 54, 55, 56, 57, 97, 98, 99, 100, 101, 102]⟩
theorem zgW (c : UInt8) : Lib.indexByte digs.data.toList c = zaH (c.toNat : Int) := by
 have key : ∀ n, n < 256 -> Lib.indexByte digs.data.toList (UInt8.ofNat n) = zaH (n : Int) := by decide +kernel
 have := key c.toNat c.toNat_lt
 rw [UInt8.ofNat_toNat] at this
 exact this
theorem zcq (c : UInt8) (w : World) : Calls Tryz.prog 144 #[.string digs, .int .u8 (c.toNat : Int)] w fun e w' => e = .returned (.int .i64 (zaH (c.toNat : Int))) /\ w' = w := by
 refine (Tryz.strings_IndexByte digs (c.toNat : Int) w).mono ?_
 rintro e w' ⟨rfl, rfl⟩
 refine ⟨?_, rfl⟩
 rw [<- zgW]
 simp
def itV : Option (Nat × Nat) -> Value
 | none => .tuple #[.int .i64 0, .int .i64 0, .bool false]
 | some (b, n) => .tuple #[.int .i64 b, .int .i64 n, .bool true]
theorem zfk {b n : Nat} {b' n' : Int} (hb : b' = b) (hn : n' = n) : Ending.returned (.tuple #[.int .i64 b', .int .i64 n', .bool true]) = .returned (itV (some (b, n))) := by rw [hb, hn]; rfl
theorem zdm (s : ByteArray) (i : Nat) (hi : i + 1 < s.size) (hs : s.size <= 140737488355328) (w : World) :
  Calls Tryz.prog 193 #[.string s, .int .i64 i] w fun e w' => e = .returned (itV (zaZ s i)) /\ w' = w := by
 by_cases h : i + 3 < s.size
 ·have h2 : i + 2 < s.size := by omega
  have hb1 := zbh (s[i + 2].toNat : Int)
  have hb2 := zbh (s[i + 3].toNat : Int)
  have HE : Hid (zaZ s i = if 0 <= zaH (s[i + 2].toNat : Int) /\ 0 <= zaH (s[i + 3].toNat : Int) then some ((16 * zaH (s[i + 2].toNat : Int) + zaH (s[i + 3].toNat : Int)).toNat, i + 4) else none) := (by show zaZ s i = _; unfold zaZ; rw [zal h, zal h2])
  have HI : Hid (∀ w, Calls Tryz.prog 144 #[.string digs, .int .u8 (s[i + 2].toNat : Int)] w fun e w' => e = .returned (.int .i64 (zaH (s[i + 2].toNat : Int))) /\ w' = w) := fun w => zcq _ w
  have HJ : Hid (∀ w, Calls Tryz.prog 144 #[.string digs, .int .u8 (s[i + 3].toNat : Int)] w fun e w' => e = .returned (.int .i64 (zaH (s[i + 3].toNat : Int))) /\ w' = w) := fun w => zcq _ w
  go_enter Tryz.func193, Tryz.ntmps193
  go_wp2_with fail
  refine (HI.out _).mono ?_
  rintro e w' ⟨rfl, rfl⟩
  clear HI
  go_wp2_with fail
  refine (HJ.out _).mono ?_
  rintro e w' ⟨rfl, rfl⟩
  clear HJ
  generalize zaH (s[i + 2].toNat : Int) = a at *
  generalize zaH (s[i + 3].toNat : Int) = b at *
  by_cases ha : 0 <= a
  ·by_cases hb : 0 <= b
   ·go_wp2
    go_ret3
    exact ⟨by rw [HE.out, if_pos ⟨ha, hb⟩]; exact zfk (by omega) (by omega), rfl⟩
   ·go_wp2
    go_ret3
    exact ⟨by rw [HE.out, if_neg (fun h => by omega)]; rfl, rfl⟩
  ·go_wp2
   go_ret3
   exact ⟨by rw [HE.out, if_neg (fun h => by omega)]; rfl, rfl⟩
 ·have h1 : ¬ (i : Int) + 3 < (s.size : Int) := by omega
  have HE : Hid (zaZ s i = none) := (by show zaZ s i = none; unfold zaZ; rw [zat h]; rw [if_neg]; rintro ⟨_, h2⟩; simp [zaH] at h2)
  go_enter Tryz.func193, Tryz.ntmps193
  go_wp2
  go_ret3
  exact ⟨by rw [HE.out]; rfl, rfl⟩
theorem zdn (s : ByteArray) (i : Nat) (hi : i < s.size) (hs : s.size <= 140737488355328) (w : World) :
  Calls Tryz.prog 189 #[.string s, .int .i64 i] w fun e w' => e = .returned (itV (zax s i)) /\ w' = w := by
 by_cases h : i + 1 < s.size
 ·have HX : Hid (∀ w, Calls Tryz.prog 193 #[.string s, .int .i64 i] w fun e w' => e = .returned (itV (zaZ s i)) /\ w' = w) := fun w => zdm s i h hs w
  have hb : (0 : Int) <= (s[i + 1].toNat : Int) /\ (s[i + 1].toNat : Int) <= 255 := by have := s[i + 1].toNat_lt; omega
  have hw8 : IntKind.i64.wrap (s[i + 1].toNat : Int) = (s[i + 1].toNat : Int) := by rw [IntKind.wrap_i64]; omega
  have HE : Hid (zax s i = if (s[i + 1].toNat : Int) = 110 then some (10, i + 2) else if (s[i + 1].toNat : Int) = 114 then some (13, i + 2) else if (s[i + 1].toNat : Int) = 116 then some (9, i + 2) else
 if (s[i + 1].toNat : Int) = 120 then zaZ s i else if zaC (s[i + 1].toNat : Int) then some ((s[i + 1].toNat : Int).toNat, i + 2) else none) := (by show zax s i = _; unfold zax; rw [zal h])
  by_cases h110 : (s[i + 1].toNat : Int) = 110
  ·have HF : Hid (zax s i = some (10, i + 2)) := (by show zax s i = _; rw [HE.out]; rw [if_pos h110])
   clear HE HX
   have e110 : ((s[i + 1].toNat : Int) == 110) = true := beq_iff_eq.2 h110
   clear h110
   go_enter Tryz.func189, Tryz.ntmps189
   go_wp2
   go_ret3
   exact ⟨by rw [HF.out]; exact zfk rfl (by omega), rfl⟩
  have e110 : ((s[i + 1].toNat : Int) == 110) = false := bF h110
  by_cases h114 : (s[i + 1].toNat : Int) = 114
  ·have HF : Hid (zax s i = some (13, i + 2)) := (by show zax s i = _; rw [HE.out]; rw [if_neg h110, if_pos h114])
   clear HE HX
   have e114 : ((s[i + 1].toNat : Int) == 114) = true := beq_iff_eq.2 h114
   clear h114
   go_enter Tryz.func189, Tryz.ntmps189
   go_wp2
   go_ret3
   exact ⟨by rw [HF.out]; exact zfk rfl (by omega), rfl⟩
  have e114 : ((s[i + 1].toNat : Int) == 114) = false := bF h114
  by_cases h116 : (s[i + 1].toNat : Int) = 116
  ·have HF : Hid (zax s i = some (9, i + 2)) := (by show zax s i = _; rw [HE.out]; rw [if_neg h110, if_neg h114, if_pos h116])
   clear HE HX
   have e116 : ((s[i + 1].toNat : Int) == 116) = true := beq_iff_eq.2 h116
   clear h116
   go_enter Tryz.func189, Tryz.ntmps189
   go_wp2
   go_ret3
   exact ⟨by rw [HF.out]; exact zfk rfl (by omega), rfl⟩
  have e116 : ((s[i + 1].toNat : Int) == 116) = false := bF h116
  by_cases h120 : (s[i + 1].toNat : Int) = 120
  ·have HF : Hid (zax s i = zaZ s i) := (by show zax s i = _; rw [HE.out]; rw [if_neg h110, if_neg h114, if_neg h116, if_pos h120])
   have e120 : ((s[i + 1].toNat : Int) == 120) = true := beq_iff_eq.2 h120
   clear HE h110 h114 h116 h120
   go_enter Tryz.func189, Tryz.ntmps189
   go_wp2_with fail
   refine (HX.out _).mono ?_
   rintro e w' ⟨rfl, rfl⟩
   cases hq : zaZ s i with
   | none =>
    rw [hq] at HF
    clear HX hq
    dsimp only [itV]
    go_wp2
    go_ret3
    exact ⟨by rw [HF.out]; rfl, rfl⟩
   | some q =>
    obtain ⟨qb, qn⟩ := q
    rw [hq] at HF
    clear HX hq
    dsimp only [itV]
    go_wp2
    go_ret3
    exact ⟨by rw [HF.out]; rfl, rfl⟩
  have e120 : ((s[i + 1].toNat : Int) == 120) = false := bF h120
  cases hg : zaC (s[i + 1].toNat : Int)
  ·have HF : Hid (zax s i = none) := (by show zax s i = _; rw [HE.out]; rw [if_neg h110, if_neg h114, if_neg h116, if_neg h120, if_neg (by rw [hg]; simp)])
   clear HE HX h110 h114 h116 h120
   go_enter Tryz.func189, Tryz.ntmps189
   go_wp2_with fail
   refine (zfh _ _).mono ?_
   rintro e w' ⟨rfl, rfl⟩
   go_wp2
   go_ret3
   exact ⟨by rw [HF.out]; rfl, rfl⟩
  ·have HF : Hid (zax s i = some ((s[i + 1].toNat : Int).toNat, i + 2)) := (by show zax s i = _; rw [HE.out]; rw [if_neg h110, if_neg h114, if_neg h116, if_neg h120, if_pos (by rw [hg])])
   clear HE HX h110 h114 h116 h120
   go_enter Tryz.func189, Tryz.ntmps189
   go_wp2_with fail
   refine (zfh _ _).mono ?_
   rintro e w' ⟨rfl, rfl⟩
   go_wp2
   go_ret3
   exact ⟨by rw [HF.out]; exact zfk (by omega) (by omega), rfl⟩
 ·have HE : Hid (zax s i = none) := (by show zax s i = none; unfold zax; rw [zat h]; rfl)
  have h1 : ¬ (i : Int) + 1 < (s.size : Int) := by omega
  go_enter Tryz.func189, Tryz.ntmps189
  go_wp2
  go_ret3
  exact ⟨by rw [HE.out]; rfl, rfl⟩
theorem za6 (s : ByteArray) (i : Nat) (hs : s.size <= 140737488355328) (w : World) :
  Calls Tryz.prog 179 #[.string s, .int .i64 i] w fun e w' => e = .returned (itV (zag s i)) /\ w' = w := by
 by_cases h : i < s.size
 ·have HX : Hid (∀ w, Calls Tryz.prog 189 #[.string s, .int .i64 i] w fun e w' => e = .returned (itV (zax s i)) /\ w' = w) := fun w => zdn s i h hs w
  have hb : (0 : Int) <= (s[i].toNat : Int) /\ (s[i].toNat : Int) <= 255 := by have := s[i].toNat_lt; omega
  have hw8 : IntKind.i64.wrap (s[i].toNat : Int) = (s[i].toNat : Int) := by rw [IntKind.wrap_i64]; omega
  have HE : Hid (zag s i = if (s[i].toNat : Int) = 92 then zax s i else if (s[i].toNat : Int) = 93 ∨ (s[i].toNat : Int) = 45 ∨ (s[i].toNat : Int) = 37 ∨ ze2 (s[i].toNat : Int) = false then none else some ((s[i].toNat : Int).toNat, i + 1)) := (by show zag s i = _; unfold zag; rw [zal h])
  by_cases h92 : (s[i].toNat : Int) = 92
  ·have HF : Hid (zag s i = zax s i) := (by show zag s i = _; rw [HE.out]; rw [if_pos h92])
   have e92 : ((s[i].toNat : Int) == 92) = true := beq_iff_eq.2 h92
   clear HE h92
   go_enter Tryz.func179, Tryz.ntmps179
   go_wp2_with fail
   refine (HX.out _).mono ?_
   rintro e w' ⟨rfl, rfl⟩
   cases hq : zax s i with
   | none =>
    rw [hq] at HF
    clear HX hq
    dsimp only [itV]
    go_wp2
    go_ret3
    exact ⟨by rw [HF.out]; rfl, rfl⟩
   | some q =>
    obtain ⟨qb, qn⟩ := q
    rw [hq] at HF
    clear HX hq
    dsimp only [itV]
    go_wp2
    go_ret3
    exact ⟨by rw [HF.out]; rfl, rfl⟩
  have e92 : ((s[i].toNat : Int) == 92) = false := bF h92
  clear HX
  by_cases h93 : (s[i].toNat : Int) = 93
  ·have HF : Hid (zag s i = none) := (by show zag s i = _; rw [HE.out, if_neg h92, if_pos (.inl h93)])
   have e93 : ((s[i].toNat : Int) == 93) = true := beq_iff_eq.2 h93
   clear HE h92 h93
   go_enter Tryz.func179, Tryz.ntmps179
   go_wp2
   go_ret3
   exact ⟨by rw [HF.out]; rfl, rfl⟩
  have e93 : ((s[i].toNat : Int) == 93) = false := bF h93
  by_cases h45 : (s[i].toNat : Int) = 45
  ·have HF : Hid (zag s i = none) := (by show zag s i = _; rw [HE.out, if_neg h92, if_pos (.inr (.inl h45))])
   have e45 : ((s[i].toNat : Int) == 45) = true := beq_iff_eq.2 h45
   clear HE h92 h93 h45
   go_enter Tryz.func179, Tryz.ntmps179
   go_wp2
   go_ret3
   exact ⟨by rw [HF.out]; rfl, rfl⟩
  have e45 : ((s[i].toNat : Int) == 45) = false := bF h45
  by_cases h37 : (s[i].toNat : Int) = 37
  ·have HF : Hid (zag s i = none) := (by show zag s i = _; rw [HE.out, if_neg h92, if_pos (.inr (.inr (.inl h37)))])
   have e37 : ((s[i].toNat : Int) == 37) = true := beq_iff_eq.2 h37
   clear HE h92 h93 h45 h37
   go_enter Tryz.func179, Tryz.ntmps179
   go_wp2
   go_ret3
   exact ⟨by rw [HF.out]; rfl, rfl⟩
  have e37 : ((s[i].toNat : Int) == 37) = false := bF h37
  cases hg : ze2 (s[i].toNat : Int)
  ·have HF : Hid (zag s i = none) := (by show zag s i = _; rw [HE.out, if_neg h92, if_pos (.inr (.inr (.inr hg)))])
   clear HE h92 h93 h45 h37
   go_enter Tryz.func179, Tryz.ntmps179
   go_wp2_with fail
   refine (zcP _ _).mono ?_
   rintro e w' ⟨rfl, rfl⟩
   go_wp2
   go_ret3
   exact ⟨by rw [HF.out]; rfl, rfl⟩
  ·have HF : Hid (zag s i = some ((s[i].toNat : Int).toNat, i + 1)) := (by show zag s i = _; rw [HE.out, if_neg h92, if_neg (by rw [hg]; simp; omega)])
   clear HE h92 h93 h45 h37
   go_enter Tryz.func179, Tryz.ntmps179
   go_wp2_with fail
   refine (zcP _ _).mono ?_
   rintro e w' ⟨rfl, rfl⟩
   go_wp2
   go_ret3
   exact ⟨by rw [HF.out]; exact zfk (by omega) (by omega), rfl⟩
 ·have HE : Hid (zag s i = none) := (by show zag s i = none; unfold zag; rw [zat h]; rfl)
  have h1 : ¬ (i : Int) < (s.size : Int) := by omega
  go_enter Tryz.func179, Tryz.ntmps179
  go_wp2
  go_ret3
  exact ⟨by rw [HE.out]; rfl, rfl⟩
theorem za0 (s : ByteArray) (i : Nat) (w : World) :
  Calls Tryz.prog 55 #[.string s, .int .i64 i] w fun e w' => e = .returned (.int .i64 (chr s i)) /\ w' = w := by
 by_cases h : i < s.size
 ·have HE := hO (zal h)
  have h0 : (0 : Int) <= (i : Int) := by omega
  have h1 : (i : Int) < (s.size : Int) := by omega
  have hb : (s[i].toNat : Int) <= 255 := by have := s[i].toNat_lt; omega
  have hw8 : IntKind.i64.wrap (s[i].toNat : Int) = (s[i].toNat : Int) := by rw [IntKind.wrap_i64]; omega
  go_enter Tryz.func55, Tryz.ntmps55
  go_wp2
  go_ret
  exact ⟨by rw [HE.out]; rfl, rfl⟩
 ·have HE := hO (zat h)
  have h0 : (0 : Int) <= (i : Int) := by omega
  have h1 : ¬ (i : Int) < (s.size : Int) := by omega
  go_enter Tryz.func55, Tryz.ntmps55
  go_wp2
  go_ret
  exact ⟨by rw [HE.out]; rfl, rfl⟩
theorem za1 (b : Int) (w : World) :
  Calls Tryz.prog 119 #[.int .i64 b] w fun e w' => e = .returned (.bool (zaC b)) /\ w' = w := by
 cases e92 : (b == 92)
 ·
  cases e93 : (b == 93)
  ·
   cases e91 : (b == 91)
   ·
    cases e94 : (b == 94)
    ·
     cases e45 : (b == 45)
     ·
      cases e37 : (b == 37)
      ·
       have HE : Hid (zaC b = false) := (by show zaC b = _; simp [zaC, e92, e93, e91, e94, e45, e37])
       go_enter Tryz.func119, Tryz.ntmps119
       go_wp2
       go_ret
       exact ⟨zaF HE.out.symm, rfl⟩
      ·
       have HE : Hid (zaC b = true) := (by show zaC b = _; simp [zaC, e92, e93, e91, e94, e45, e37])
       go_enter Tryz.func119, Tryz.ntmps119
       go_wp2
       go_ret
       exact ⟨zaF HE.out.symm, rfl⟩
     ·
      have HE : Hid (zaC b = true) := (by show zaC b = _; simp [zaC, e92, e93, e91, e94, e45])
      go_enter Tryz.func119, Tryz.ntmps119
      go_wp2
      go_ret
      exact ⟨zaF HE.out.symm, rfl⟩
    ·
     have HE : Hid (zaC b = true) := (by show zaC b = _; simp [zaC, e92, e93, e91, e94])
     go_enter Tryz.func119, Tryz.ntmps119
     go_wp2
     go_ret
     exact ⟨zaF HE.out.symm, rfl⟩
   ·
    have HE : Hid (zaC b = true) := (by show zaC b = _; simp [zaC, e92, e93, e91])
    go_enter Tryz.func119, Tryz.ntmps119
    go_wp2
    go_ret
    exact ⟨zaF HE.out.symm, rfl⟩
  ·
   have HE : Hid (zaC b = true) := (by show zaC b = _; simp [zaC, e92, e93])
   go_enter Tryz.func119, Tryz.ntmps119
   go_wp2
   go_ret
   exact ⟨zaF HE.out.symm, rfl⟩
 ·
  have HE : Hid (zaC b = true) := (by show zaC b = _; simp [zaC, e92])
  go_enter Tryz.func119, Tryz.ntmps119
  go_wp2
  go_ret
  exact ⟨zaF HE.out.symm, rfl⟩
theorem zbN (c : UInt8) (w : World) :
  Calls Tryz.prog 115 #[.int .u8 (c.toNat : Int)] w fun e w' => e = .returned (.int .i64 (zaH (c.toNat : Int))) /\ w' = w := by
 have hc : (0 : Int) <= (c.toNat : Int) /\ (c.toNat : Int) <= 255 := by have := c.toNat_lt; omega
 generalize (c.toNat : Int) = n at *
 obtain ⟨n0, n1⟩ := hc
 by_cases h1 : 48 <= n
 ·by_cases h2 : n <= 57
  ·have HE : Hid (zaH n = n - 48) := (by show zaH n = _; unfold zaH; rw [if_pos ⟨h1, h2⟩])
   have q1 : IntKind.u8.wrap (n - 48) = n - 48 := by rw [IntKind.wrap_u8]; omega
   have q2 : IntKind.i64.wrap (n - 48) = n - 48 := by rw [IntKind.wrap_i64]; omega
   go_enter Tryz.func115, Tryz.ntmps115
   go_wp2
   go_ret
   exact ⟨by rw [HE.out]; rfl, rfl⟩
  ·by_cases h3 : 97 <= n
   ·by_cases h4 : n <= 102
    ·have HE : Hid (zaH n = n - 87) := (by show zaH n = _; unfold zaH; rw [if_neg (by omega), if_pos ⟨h3, h4⟩])
     have q1 : IntKind.u8.wrap (n - 97) = n - 97 := by rw [IntKind.wrap_u8]; omega
     have q2 : IntKind.i64.wrap (n - 97) = n - 97 := by rw [IntKind.wrap_i64]; omega
     have q3 : IntKind.i64.wrap (n - 97 + 10) = n - 97 + 10 := by rw [IntKind.wrap_i64]; omega
     go_enter Tryz.func115, Tryz.ntmps115
     go_wp2
     go_ret
     exact ⟨by rw [HE.out]; exact zgS (by omega), rfl⟩
    ·have HE : Hid (zaH n = -1) := (by show zaH n = _; unfold zaH; rw [if_neg (by omega), if_neg (by omega)])
     go_enter Tryz.func115, Tryz.ntmps115
     go_wp2
     go_ret
     exact ⟨by rw [HE.out]; rfl, rfl⟩
   ·have HE : Hid (zaH n = -1) := (by show zaH n = _; unfold zaH; rw [if_neg (by omega), if_neg (by omega)])
    go_enter Tryz.func115, Tryz.ntmps115
    go_wp2
    go_ret
    exact ⟨by rw [HE.out]; rfl, rfl⟩
 ·have h3 : ¬ 97 <= n := by omega
  have HE : Hid (zaH n = -1) := (by show zaH n = _; unfold zaH; rw [if_neg (by omega), if_neg (by omega)])
  go_enter Tryz.func115, Tryz.ntmps115
  go_wp2
  go_ret
  exact ⟨by rw [HE.out]; rfl, rfl⟩
theorem zem (c : Int) (w : World) : Calls Tryz.prog 56 #[.int .i64 c] w fun e w' => e = .returned (.bool (hdB c)) /\ w' = w := by
 by_cases a1 : 97 <= c <;> by_cases a2 : c <= 122 <;> by_cases a3 : 65 <= c <;> by_cases a4 : c <= 90 <;> by_cases a5 : c = 95 <;> first
  | (exfalso; omega)
  | (subst a5; go_enter Tryz.func56, Tryz.ntmps56; go_wp2_with fail; go_ret; exact ⟨rfl, rfl⟩)
  | (have a6 : (c == 95) = false := bF a5; go_enter Tryz.func56, Tryz.ntmps56; go_wp2_with fail; go_ret; exact ⟨by simp [hdB, *], rfl⟩)
theorem zez (c : Int) (w : World) : Calls Tryz.prog 59 #[.int .i64 c] w fun e w' => e = .returned (.bool (dgB c)) /\ w' = w := by
 by_cases a1 : 48 <= c <;> by_cases a2 : c <= 57 <;> first
  | (exfalso; omega)
  | (go_enter Tryz.func59, Tryz.ntmps59; go_wp2_with fail; go_ret; exact ⟨by simp [dgB, *], rfl⟩)
theorem zcr (s : ByteArray) (i : Nat) (hs : s.size <= 140737488355328) (hi : i <= 140737488355500) (w : World) : Calls Tryz.prog 61 #[.string s, .int .i64 i] w fun e w' => e = .returned (.int .i64 (spN dgB s i)) /\ w' = w := by
 have HA : Hid (∀ k w, Calls Tryz.prog 55 #[.string s, .int .i64 ((k : Nat) : Int)] w fun e w' => e = .returned (.int .i64 (chr s k)) /\ w' = w) := fun k w => za0 s k w
 have HD : Hid (∀ c w, Calls Tryz.prog 59 #[.int .i64 c] w fun e w' => e = .returned (.bool (dgB c)) /\ w' = w) := fun c w => zez c w
 have HN : Hid (∀ k, dgB (chr s k) = true -> k < s.size /\ spN dgB s k = spN dgB s (k + 1)) := fun k h => za3 (by decide) h
 have HS : Hid (∀ k, dgB (chr s k) = false -> spN dgB s k = k) := fun k h => zbq h
 go_enter Tryz.func61, Tryz.ntmps61
 go_wp2_with fail
 go_loopw [1] (fun t wr => ∃ k : Nat, k <= 140737488355500 /\ t = .int .i64 k /\ wr = w /\ Hid (spN dgB s k = spN dgB s i)) (fun t _ => s.size - (intOf t).toNat)
 case atStart => exact ⟨i, hi, rfl, rfl, rfl⟩
 case round =>
  obtain ⟨k, hk, rfl, rfl, HI⟩ := hrel
  go_wp2_with fail
  refine (HA.out _ _).mono ?_
  rintro e w ⟨rfl, rfl⟩
  go_wp2_with fail
  refine (HD.out _ _).mono ?_
  rintro e w ⟨rfl, rfl⟩
  cases hd : dgB (chr s k) with
  | true =>
   obtain ⟨h1, h2⟩ := HN.out k hd
   have HI2 : Hid (spN dgB s (k + 1) = spN dgB s i) := h2.symm.trans HI.out
   clear HA HD HN HS hd h2 HI
   go_wp2_with fail
   go_roundw
   case rel => exact ⟨k + 1, by omega, by go_num, trivial, HI2⟩
   case measure => simp [intOf]; omega
  | false =>
   have HI2 : Hid (spN dgB s i = k) := HI.out.symm.trans (HS.out k hd)
   clear HA HD HN HS hd HI
   go_wp2_with fail
   go_ret
   exact ⟨by rw [HI2.out]; rfl, rfl⟩
theorem zgX (s : ByteArray) (i : Nat) (hs : s.size <= 140737488355328) (hi : i <= 140737488355500) (w : World) : Calls Tryz.prog 57 #[.string s, .int .i64 i] w fun e w' => e = .returned (.int .i64 (spN nmB s i)) /\ w' = w := by
 have HA : Hid (∀ k w, Calls Tryz.prog 55 #[.string s, .int .i64 ((k : Nat) : Int)] w fun e w' => e = .returned (.int .i64 (chr s k)) /\ w' = w) := fun k w => za0 s k w
 have HD : Hid (∀ c w, Calls Tryz.prog 59 #[.int .i64 c] w fun e w' => e = .returned (.bool (dgB c)) /\ w' = w) := fun c w => zez c w
 have HH : Hid (∀ c w, Calls Tryz.prog 56 #[.int .i64 c] w fun e w' => e = .returned (.bool (hdB c)) /\ w' = w) := fun c w => zem c w
 have HN : Hid (∀ k, nmB (chr s k) = true -> k < s.size /\ spN nmB s k = spN nmB s (k + 1)) := fun k h => za3 (by decide) h
 have HS : Hid (∀ k, nmB (chr s k) = false -> spN nmB s k = k) := fun k h => zbq h
 go_enter Tryz.func57, Tryz.ntmps57
 go_wp2_with fail
 go_loopw [1] (fun t wr => ∃ k : Nat, k <= 140737488355500 /\ t = .int .i64 k /\ wr = w /\ Hid (spN nmB s k = spN nmB s i)) (fun t _ => s.size - (intOf t).toNat)
 case atStart => exact ⟨i, hi, rfl, rfl, rfl⟩
 case round =>
  obtain ⟨k, hk, rfl, rfl, HI⟩ := hrel
  go_wp2_with fail
  refine (HA.out _ _).mono ?_
  rintro e w ⟨rfl, rfl⟩
  go_wp2_with fail
  refine (HH.out _ _).mono ?_
  rintro e w ⟨rfl, rfl⟩
  cases hh : hdB (chr s k) with
  | true =>
   obtain ⟨h1, h2⟩ := HN.out k (by unfold nmB; rw [hh]; rfl)
   have HI2 : Hid (spN nmB s (k + 1) = spN nmB s i) := h2.symm.trans HI.out
   clear HA HD HH HN HS hh h2 HI
   go_wp2_with fail
   go_roundw
   case rel => exact ⟨k + 1, by omega, by go_num, trivial, HI2⟩
   case measure => simp [intOf]; omega
  | false =>
   go_wp2_with fail
   refine (HA.out _ _).mono ?_
   rintro e w ⟨rfl, rfl⟩
   go_wp2_with fail
   refine (HD.out _ _).mono ?_
   rintro e w ⟨rfl, rfl⟩
   cases hd : dgB (chr s k) with
   | true =>
    obtain ⟨h1, h2⟩ := HN.out k (by unfold nmB; rw [hh, hd]; rfl)
    have HI2 : Hid (spN nmB s (k + 1) = spN nmB s i) := h2.symm.trans HI.out
    clear HA HD HH HN HS hh hd h2 HI
    go_wp2_with fail
    go_roundw
    case rel => exact ⟨k + 1, by omega, by go_num, trivial, HI2⟩
    case measure => simp [intOf]; omega
   | false =>
    have HI2 : Hid (spN nmB s i = k) := HI.out.symm.trans (HS.out k (by unfold nmB; rw [hh, hd]; rfl))
    clear HA HD HH HN HS hh hd HI
    go_wp2_with fail
    go_ret
    exact ⟨by rw [HI2.out]; rfl, rfl⟩
theorem zdt (s : ByteArray) (base : Int) (hb : 0 <= base /\ base <= 16) (hs : s.size <= 7) (w : World) : Calls Tryz.prog 85 #[.string s, .int .i64 base] w fun e w' => e = .returned (.int .i64 (zaB s 0 base s.size)) /\ w' = w := by
 have HX : Hid (∀ k (h : k < s.size) w, Calls Tryz.prog 115 #[.int .u8 (s[k].toNat : Int)] w fun e w' => e = .returned (.int .i64 (zaH (chr s k))) /\ w' = w) := fun k h w => by
  have := zbN s[k] w
  rw [<- zal h] at this
  rw [<- zal h]
  exact this
 have HB : Hid (∀ k, k <= 7 -> -268435456 <= zaB s 0 base k /\ zaB s 0 base k <= 268435456) := fun k hk => by
  have h1 := zjG s 0 base hb k
  have h2 : (16 : Int) ^ k <= 16 ^ 7 := by
   have : (16 : Nat) ^ k <= 16 ^ 7 := Nat.pow_le_pow_right (by omega) hk
   exact_mod_cast this
  omega
 go_enter Tryz.func85, Tryz.ntmps85
 go_wp2_with fail
 go_loopw [5, 6] (fun v t wr => ∃ k : Nat, k <= s.size /\ t = .int .i64 k /\ v = .int .i64 (zaB s 0 base k) /\ wr = w) (fun _ t _ => s.size - (intOf t).toNat)
 case atStart => exact ⟨0, by omega, by go_num, rfl, rfl⟩
 case round =>
  obtain ⟨k, hk, rfl, rfl, rfl⟩ := hrel
  by_cases hlt : k < s.size
  ·have z0 : (0 : Int) <= (k : Int) := by omega
   have z1 : (k : Int) < (s.size : Int) := by omega
   have h1 := HB.out k (by omega)
   have h2 := HB.out (k + 1) (by omega)
   have HE : Hid (zaB s 0 base (k + 1) = zaB s 0 base k * base + zaH (chr s k)) := by show zaB s 0 base (k + 1) = _; rw [zaB, Nat.zero_add]
   have hx := zbh (chr s k)
   have h3 : -4294967296 <= zaB s 0 base k * base /\ zaB s 0 base k * base <= 4294967296 := by
    rw [HE.out] at h2
    omega
   have u1 : IntKind.i64.wrap (zaB s 0 base k * base) = zaB s 0 base k * base := by rw [IntKind.wrap_i64]; omega
   have u2 : IntKind.i64.wrap (zaB s 0 base k * base + zaH (chr s k)) = zaB s 0 base (k + 1) := by rw [HE.out, IntKind.wrap_i64]; omega
   have HXk : Hid (∀ w, Calls Tryz.prog 115 #[.int .u8 (s[k].toNat : Int)] w fun e w' => e = .returned (.int .i64 (zaH (chr s k))) /\ w' = w) := HX.out k hlt
   clear HX HB HE h1 h2 h3
   go_wp2_with fail
   refine (HXk.out _).mono ?_
   rintro e w ⟨rfl, rfl⟩
   clear HXk
   go_wp2_with fail
   go_roundw
   case rel => exact ⟨k + 1, by omega, by go_num, rfl, trivial⟩
   case measure => simp [intOf]; omega
  ·obtain rfl : k = s.size := by omega
   clear HX HB
   go_wp2_with fail
   go_ret
   exact ⟨rfl, rfl⟩
theorem zaa (w : World) (o : Obj) : Below w.heap.size w (w.alloc o) := Below.alloc (Below.refl _ _) (Nat.le_refl _) o
abbrev tkC (t : Tk) : Array Value := #[.int .i64 t.kd, .int .i64 t.nn, .int .i64 t.fr, .int .i64 t.en, .string t.tx, .int .u64 t.s0, .int .u64 t.s1, .int .u64 t.s2, .int .u64 t.s3]
abbrev tkO (t : Tk) : Obj := .cells #[.int .i64 t.kd, .int .i64 t.nn, .int .i64 t.fr, .int .i64 t.en, .string t.tx, .int .u64 t.s0, .int .u64 t.s1, .int .u64 t.s2, .int .u64 t.s3] 79
structure TX (W : World) (b : Nat) (t : Tk) : Prop where
 heap : W.heap[b]? = some (.cells (tkC t) 79 (0, 0))
theorem TX.lt {W : World} {b : Nat} {t : Tk} (h : TX W b t) : b < W.heap.size := (Array.getElem?_eq_some_iff.1 h.heap).1
theorem TX.same {W W' : World} {b : Nat} {t : Tk} (h : TX W b t) (hb : W'.heap[b]? = W.heap[b]?) : TX W' b t := ⟨hb.trans h.heap⟩
theorem TX.below {W W' : World} {b : Nat} {t : Tk} (h : TX W b t) (hb : Below W.heap.size W W') : TX W' b t := h.same (hb.block b h.lt)
theorem TX.new (W : World) (t : Tk) : TX (W.alloc (tkO t)) W.heap.size t := ⟨heap_alloc_new W _⟩
structure TC (W : World) (b : Nat) (t : Tk) : Prop where
 c0 : W.cell? ⟨b, 0, none⟩ = some (.int .i64 t.kd)
 c1 : W.cell? ⟨b, 1, none⟩ = some (.int .i64 t.nn)
 c2 : W.cell? ⟨b, 2, none⟩ = some (.int .i64 t.fr)
 c3 : W.cell? ⟨b, 3, none⟩ = some (.int .i64 t.en)
 c4 : W.cell? ⟨b, 4, none⟩ = some (.string t.tx)
 c5 : W.cell? ⟨b, 5, none⟩ = some (.int .u64 t.s0)
 c6 : W.cell? ⟨b, 6, none⟩ = some (.int .u64 t.s1)
 c7 : W.cell? ⟨b, 7, none⟩ = some (.int .u64 t.s2)
 c8 : W.cell? ⟨b, 8, none⟩ = some (.int .u64 t.s3)
structure TF (W : World) (b : Nat) : Prop where
 f0 : W.frozen? ⟨b, 0, none⟩ = false
 f1 : W.frozen? ⟨b, 1, none⟩ = false
 f2 : W.frozen? ⟨b, 2, none⟩ = false
 f3 : W.frozen? ⟨b, 3, none⟩ = false
 f4 : W.frozen? ⟨b, 4, none⟩ = false
 f5 : W.frozen? ⟨b, 5, none⟩ = false
 f6 : W.frozen? ⟨b, 6, none⟩ = false
 f7 : W.frozen? ⟨b, 7, none⟩ = false
 f8 : W.frozen? ⟨b, 8, none⟩ = false
theorem TX.cells {W : World} {b : Nat} {t : Tk} (h : TX W b t) : TC W b t := by
 have key : ∀ (j : Nat) u, (tkC t)[j]? = some u -> W.cell? ⟨b, j, none⟩ = some u := fun j u hu => by
  rw [cell_of_row W b j _ 79 (0, 0) h.heap]; exact hu
 exact ⟨key 0 _ rfl, key 1 _ rfl, key 2 _ rfl, key 3 _ rfl, key 4 _ rfl, key 5 _ rfl, key 6 _ rfl, key 7 _ rfl, key 8 _ rfl⟩
theorem TX.fz {W : World} {b : Nat} {t : Tk} (h : TX W b t) : TF W b := ⟨frozen_of_row W b 0 _ 79 h.heap, frozen_of_row W b 1 _ 79 h.heap, frozen_of_row W b 2 _ 79 h.heap, frozen_of_row W b 3 _ 79 h.heap, frozen_of_row W b 4 _ 79 h.heap, frozen_of_row W b 5 _ 79 h.heap, frozen_of_row W b 6 _ 79 h.heap, frozen_of_row W b 7 _ 79 h.heap, frozen_of_row W b 8 _ 79 h.heap⟩
abbrev st9 (W : World) (b : Nat) (t : Tk) : World := ((((((((W.setCell ⟨b, 0, none⟩ (.int .i64 t.kd)).setCell ⟨b, 1, none⟩ (.int .i64 t.nn)).setCell ⟨b, 2, none⟩ (.int .i64 t.fr)).setCell ⟨b, 3, none⟩ (.int .i64 t.en)).setCell ⟨b, 4, none⟩ (.string t.tx)).setCell ⟨b, 5, none⟩ (.int .u64 t.s0)).setCell ⟨b, 6, none⟩ (.int .u64 t.s1)).setCell ⟨b, 7, none⟩ (.int .u64 t.s2)).setCell ⟨b, 8, none⟩ (.int .u64 t.s3)
theorem zar {W : World} {b : Nat} {t0 : Tk} (h : TX W b t0) (t : Tk) : TX (st9 W b t) b t := by
 have h := h.heap
 have h0 := heap_setCell_same _ b 0 _ 79 (.int .i64 t.kd) h
 have h1 := heap_setCell_same _ b 1 _ 79 (.int .i64 t.nn) h0
 have h2 := heap_setCell_same _ b 2 _ 79 (.int .i64 t.fr) h1
 have h3 := heap_setCell_same _ b 3 _ 79 (.int .i64 t.en) h2
 have h4 := heap_setCell_same _ b 4 _ 79 (.string t.tx) h3
 have h5 := heap_setCell_same _ b 5 _ 79 (.int .u64 t.s0) h4
 have h6 := heap_setCell_same _ b 6 _ 79 (.int .u64 t.s1) h5
 have h7 := heap_setCell_same _ b 7 _ 79 (.int .u64 t.s2) h6
 have h8 := heap_setCell_same _ b 8 _ 79 (.int .u64 t.s3) h7
 refine ⟨?_⟩
 rw [h8]
 simp
theorem zad {B : Nat} {w W : World} {b : Nat} (h : Below B w W) (hb : B <= b) (t : Tk) : Below B w (st9 W b t) := ((((((((h.setCell (p := ⟨b, 0, none⟩) hb _).setCell (p := ⟨b, 1, none⟩) hb _).setCell (p := ⟨b, 2, none⟩) hb _).setCell (p := ⟨b, 3, none⟩) hb _).setCell (p := ⟨b, 4, none⟩) hb _).setCell (p := ⟨b, 5, none⟩) hb _).setCell (p := ⟨b, 6, none⟩) hb _).setCell (p := ⟨b, 7, none⟩) hb _).setCell (p := ⟨b, 8, none⟩) hb _
theorem zah {fn : Func} {R : Ending -> World -> Prop} {a : Act} {W : World} {b : Nat} {t : Tk} {p e : Int} (hF : fn.results = #[.cell 4 79, .tmp 5, .tmp 6]) (hd : a.defers = []) (h4 : a.tmps.getD 4 undef = .pointer (some ⟨b, 0, none⟩)) (h5 : a.tmps.getD 5 undef = .int .i64 p) (h6 : a.tmps.getD 6 undef = .int .i64 e) (hT : TX W b t) (hR : R (.returned (.tuple #[tkG t, .int .i64 p, .int .i64 e])) W) : bodyPost Tryz.prog fn R .ret a W := by
 obtain ⟨c0, c1, c2, c3, c4, c5, c6, c7, c8⟩ := hT.cells
 refine bodyPost_ret (v := .tuple #[tkG t, .int .i64 p, .int .i64 e]) ?_ hd hR
 simp only [Array.getD_eq_getD_getElem?] at h4 h5 h6
 simp [results, hF, go_sem, h4, h5, h6, c0, c1, c2, c3, c4, c5, c6, c7, c8]
theorem zbO (i e0 : Int) (w : World) : Calls Tryz.prog 58 #[.int .i64 i, .int .i64 e0] w fun e w' => e = .returned (.tuple #[tkG tk0, .int .i64 i, .int .i64 e0]) /\ Below w.heap.size w w' := by
 have HX : Hid (TX (w.alloc (tkO tk0)) w.heap.size tk0) := TX.new w tk0
 have HB : Hid (Below w.heap.size w (w.alloc (tkO tk0))) := zaa w _
 go_enter Tryz.func58, Tryz.ntmps58
 go_wp2_with fail
 exact zah rfl rfl rfl rfl rfl HX.out ⟨rfl, HB.out⟩
def nuV : Sum Int Int -> Value
 | .inl n => .tuple #[.int .i64 n, .int .i64 0]
 | .inr e => .tuple #[.int .i64 0, .int .i64 e]
theorem zbu (s : ByteArray) (a i : Nat) (most : Int) (hs : s.size <= 140737488355328) (hi : i <= s.size) (w : World) : Calls Tryz.prog 60 #[.string s, .int .i64 a, .int .i64 i, .int .i64 most] w fun e w' => e = .returned (nuV (zbx s i most)) /\ w' = w := by
 have HD : Hid (∀ w, Calls Tryz.prog 61 #[.string s, .int .i64 i] w fun e w' => e = .returned (.int .i64 (spN dgB s i)) /\ w' = w) := fun w => zcr s i hs (by omega) w
 have hge := za4 dgB s (by decide) i
 have hle := zbC dgB s (by decide) i hi
 obtain ⟨n, hn⟩ : ∃ n, n = spN dgB s i := ⟨_, rfl⟩
 have HW : Hid (n - i <= 6 -> ∀ w, Calls Tryz.prog 85 #[.string (s.extract i n), .int .i64 10] w fun e w' => e = .returned (.int .i64 (zaB s i 10 (n - i))) /\ w' = w) := fun h6 w => by
  have hsz : (s.extract i n).size = n - i := by rw [ByteArray.size_extract]; omega
  have h := zdt (s.extract i n) 10 (by omega) (by omega) w
  rw [hsz, zcF (by omega) (n - i) (by omega)] at h
  exact h
 have HN : Hid (zbx s i most = if n - i = 0 ∨ (1 < n - i /\ chr s i = 48) then .inr 50 else if 6 < n - i ∨ most < zaB s i 10 (n - i) then .inr 1 else .inl (zaB s i 10 (n - i))) := by show zbx s i most = _; unfold zbx; rw [<- hn]
 rw [<- hn] at HD hge hle
 clear hn
 have u1 : IntKind.i64.wrap ((n : Int) - (i : Int)) = ((n - i : Nat) : Int) := by rw [IntKind.wrap_i64]; omega
 go_enter Tryz.func60, Tryz.ntmps60
 go_wp2_with fail
 refine (HD.out _).mono ?_
 rintro e w ⟨rfl, rfl⟩
 clear HD
 obtain ⟨m, hm⟩ : ∃ m, m = n - i := ⟨_, rfl⟩
 rw [<- hm] at HW HN u1
 have hmn : i + m = n := by omega
 have z0 : (0 : Int) <= (i : Int) := by omega
 have z1 : (i : Int) <= (n : Int) := by omega
 have z2 : (n : Int) <= (s.size : Int) := by omega
 clear hm
 by_cases h0 : m = 0
 ·have HE : Hid (zbx s i most = .inr 50) := by show zbx s i most = _; rw [HN.out, if_pos (.inl h0)]
  have t0 : ((m : Int) == 0) = true := by rw [h0]; rfl
  clear HN HW h0 hmn
  go_wp2_with fail
  go_ret2
  exact ⟨by rw [HE.out]; rfl, rfl⟩
 have t0 : ((m : Int) == 0) = false := by rw [beq_eq_false_iff_ne]; omega
 have hi2 : i < s.size := by omega
 have z3 : (i : Int) < (s.size : Int) := by omega
 have hci := zal hi2
 have tail : ∀ (hq : ¬ (m = 0 ∨ (1 < m /\ chr s i = 48))), zbx s i most = if 6 < m ∨ most < zaB s i 10 m then .inr 1 else .inl (zaB s i 10 m) := fun hq => by rw [HN.out, if_neg hq]
 by_cases h1 : 1 < m
 ·have t1 : decide (1 < m) = true := decide_eq_true h1
  by_cases h48 : chr s i = 48
  ·have HE : Hid (zbx s i most = .inr 50) := by show zbx s i most = _; rw [HN.out, if_pos (.inr ⟨h1, h48⟩)]
   have t2 : ((s[i].toNat : Int) == 48) = true := by rw [<- hci, h48]; rfl
   clear HN HW h0 hmn tail h48 hci
   go_wp2_with fail
   go_ret2
   exact ⟨by rw [HE.out]; rfl, rfl⟩
  ·have t2 : ((s[i].toNat : Int) == 48) = false := by rw [<- hci]; exact bF h48
   have HT : Hid (zbx s i most = if 6 < m ∨ most < zaB s i 10 m then .inr 1 else .inl (zaB s i 10 m)) := tail (by omega)
   clear HN tail h48 hci hmn
   by_cases h6 : 6 < m
   ·have t3 : decide (6 < m) = true := decide_eq_true h6
    have HE : Hid (zbx s i most = .inr 1) := by show zbx s i most = _; rw [HT.out, if_pos (.inl h6)]
    clear HT HW
    go_wp2_with fail
    go_ret2
    exact ⟨by rw [HE.out]; rfl, rfl⟩
   ·have t3 : decide (6 < m) = false := decide_eq_false h6
    have HW2 := hO (HW.out (by omega))
    by_cases hx : most < zaB s i 10 m
    ·have HE : Hid (zbx s i most = .inr 1) := by show zbx s i most = _; rw [HT.out, if_pos (.inr hx)]
     clear HT HW
     go_wp2_with fail
     refine (HW2.out _).mono ?_
     rintro e w ⟨rfl, rfl⟩
     clear HW2
     go_wp2_with fail
     go_ret2
     exact ⟨by rw [HE.out]; rfl, rfl⟩
    ·have HE : Hid (zbx s i most = .inl (zaB s i 10 m)) := by show zbx s i most = _; rw [HT.out, if_neg (by omega)]
     clear HT HW
     go_wp2_with fail
     refine (HW2.out _).mono ?_
     rintro e w ⟨rfl, rfl⟩
     go_wp2_with fail
     refine (HW2.out _).mono ?_
     rintro e w ⟨rfl, rfl⟩
     clear HW2
     go_wp2_with fail
     go_ret2
     exact ⟨by rw [HE.out]; rfl, rfl⟩
 ·have t1 : decide (1 < m) = false := decide_eq_false h1
  have HT : Hid (zbx s i most = if 6 < m ∨ most < zaB s i 10 m then .inr 1 else .inl (zaB s i 10 m)) := tail (by omega)
  clear HN tail hci hmn
  have t3 : decide (6 < m) = false := decide_eq_false (by omega)
  have HW2 := hO (HW.out (by omega))
  by_cases hx : most < zaB s i 10 m
  ·have HE : Hid (zbx s i most = .inr 1) := by show zbx s i most = _; rw [HT.out, if_pos (.inr hx)]
   clear HT HW
   go_wp2_with fail
   refine (HW2.out _).mono ?_
   rintro e w ⟨rfl, rfl⟩
   clear HW2
   go_wp2_with fail
   go_ret2
   exact ⟨by rw [HE.out]; rfl, rfl⟩
  ·have HE : Hid (zbx s i most = .inl (zaB s i 10 m)) := by show zbx s i most = _; rw [HT.out, if_neg (by omega)]
   clear HT HW
   go_wp2_with fail
   refine (HW2.out _).mono ?_
   rintro e w ⟨rfl, rfl⟩
   go_wp2_with fail
   refine (HW2.out _).mono ?_
   rintro e w ⟨rfl, rfl⟩
   clear HW2
   go_wp2_with fail
   go_ret2
   exact ⟨by rw [HE.out]; rfl, rfl⟩
theorem zfJ {s : ByteArray} {i : Nat} {m e : Int} (h : zbx s i m = .inr e) : e ≠ 0 := by
 unfold zbx at h
 split at h
 ·cases h; decide
 ·split at h
  ·cases h; decide
  ·cases h
def zcG : Sum Tk (Nat × Int) -> Value
 | .inl t => .tuple #[tkG t, .int .i64 0, .int .i64 0]
 | .inr p => .tuple #[tkG tk0, .int .i64 p.1, .int .i64 p.2]
def lnB (c : Int) : Bool := decide (0 <= c) && !(c == 10)
def zfl (s : ByteArray) : Nat -> Nat -> Nat
 | 0, i => i
 | f + 1, i => if i < s.size then (if chr s i = 45 /\ chr s (i + 1) = 45 then zfl s f (spN lnB s i) else if chr s i = 9 ∨ chr s i = 10 ∨ chr s i = 13 ∨ chr s i = 32 then zfl s f (i + 1) else i) else i
def zbm (s : ByteArray) (i : Nat) : Nat := zfl s (s.size + 1) i
def sgn (k : Nat) : List UInt8 :=
 if k = 6 then [60, 45] else if k = 27 then [45, 62] else if k = 7 then [47] else if k = 8 then [38] else if k = 9 then [33] else if k = 10 then [63] else if k = 11 then [42] else if k = 12 then [43] else if k = 16 then [40] else if k = 17 then [41]
 else if k = 18 then [46] else if k = 22 then [58, 125] else if k = 23 then [123, 124] else if k = 24 then [124, 125] else if k = 25 then [123, 126] else if k = 26 then [126, 125] else if k = 19 then [123] else if k = 20 then [125] else []
end Go.Proofs.YtkihfkcmcdiajaaGreatDoor
