/- DERIVED. Plain mathematics and walks, laid together (10). -/
import Derived.WalkKit
import Derived.Test.YtbnihflihelimaaGreatRows
import Derived.WalkSpells
import Derived.WalkLawsBesides
import Derived.Deep.QuietTactic
import Derived.BigQuiet
import Derived.Deep.RegionHeld3
import Derived.Lib.SliceRun
import Derived.LoopN
import Derived.Test.YtbnihflihelimaaGreatHa09
namespace Go.Proofs.YtbnihflihelimaaGreat.N
open Go.RowKit
open Go.Proofs.YtbnihflihelimaaGreat.T
/-- What is known of a beginning: the bytes, may it match nothing, does it fail at its first byte or not at all. -/
structure Fs where
  st : BitVec 256
  em : Bool
  hf : Bool
def f0 : Fs := ⟨0#256, false, false⟩
/-- The first byte of a text. -/
def hdB (s : ByteArray) : BitVec 256 := 1#256 <<< ((s.data.toList[0]?).getD 0).toNat
/-- The chapter's table. cf: can the second part fail? se: the node's set. -/
def faN (n : Nd) (se : BitVec 256) (x y : Fs) (cf : Bool) (r : ByteArray → Fs) : Fs :=
  if n.op = 1 ∨ n.op = 17 then ⟨0#256, true, false⟩
  else if n.op = 2 then ⟨0#256, false, true⟩
  else if n.op = 3 then ⟨~~~ 0#256, false, true⟩
  else if n.op = 4 then ⟨hdB n.tx, false, decide (n.tx.size = 1)⟩
  else if n.op = 5 then ⟨se, false, true⟩
  else if n.op = 6 then r n.tx
  else if n.op = 7 then ⟨if x.em then x.st ||| y.st else x.st, x.em && y.em, x.hf && !cf⟩
  else if n.op = 8 then ⟨x.st ||| y.st, x.em || y.em, x.hf && y.hf⟩
  else if n.op = 13 ∨ ((n.op = 14 ∨ n.op = 16) ∧ n.nn = 0) then ⟨0#256, true, false⟩
  else if n.op = 9 ∨ n.op = 11 ∨ n.op = 16 ∨ (n.op = 15 ∧ n.nn = 0) then ⟨x.st, true, false⟩
  else if (n.op = 14 ∨ n.op = 15) ∧ ¬ n.nn = 1 then ⟨x.st, x.em, false⟩
  else x
/-- Of each of the first nodes. -/
def faL (kd : Nat → List Nat) (se : Nd → BitVec 256) (cf : Nat → Bool) (r : ByteArray → Fs) (L : List Nd) : Nat → List Fs
  | 0 => []
  | k + 1 => match L[k]? with
    | none => faL kd se cf r L k
    | some n => faL kd se cf r L k ++ [faN n (se n) (((faL kd se cf r L k)[((kd k)[0]?).getD k]?).getD f0) (((faL kd se cf r L k)[((kd k)[1]?).getD k]?).getD f0) (cf (((kd k)[1]?).getD k)) r]
theorem faL_succ {kd : Nat → List Nat} {se : Nd → BitVec 256} {cf : Nat → Bool} {r : ByteArray → Fs} {L : List Nd} {k : Nat} {n : Nd} (h : L[k]? = some n) : faL kd se cf r L (k + 1) = faL kd se cf r L k ++ [faN n (se n) (((faL kd se cf r L k)[((kd k)[0]?).getD k]?).getD f0) (((faL kd se cf r L k)[((kd k)[1]?).getD k]?).getD f0) (cf (((kd k)[1]?).getD k)) r] := by rw [faL, h]
theorem faL_len {kd : Nat → List Nat} {se : Nd → BitVec 256} {cf : Nat → Bool} {r : ByteArray → Fs} {L : List Nd} : ∀ k, k ≤ L.length → (faL kd se cf r L k).length = k := by
  intro k
  induction k with
  | zero => intro _; rfl
  | succ k ih =>
    intro h
    rw [faL_succ (List.getElem?_eq_getElem (by omega)), List.length_append, ih (by omega)]
    rfl
theorem faL_pre {kd : Nat → List Nat} {se : Nd → BitVec 256} {cf : Nat → Bool} {r : ByteArray → Fs} {L : List Nd} : ∀ (m k : Nat), k + m ≤ L.length → ∀ (j : Nat), j < k → (faL kd se cf r L (k + m))[j]? = (faL kd se cf r L k)[j]? := by
  intro m
  induction m with
  | zero => intro k _ j _; rfl
  | succ m ih =>
    intro k h j hj
    rw [show k + (m + 1) = k + m + 1 from rfl, faL_succ (List.getElem?_eq_getElem (by omega)), List.getElem?_append_left (by rw [faL_len _ (by omega)]; omega)]
    exact ih k (by omega) j hj
/-- Of the part that ends with a node. -/
def faA (kd : Nat → List Nat) (se : Nd → BitVec 256) (cf : Nat → Bool) (r : ByteArray → Fs) (L : List Nd) (k : Nat) : Fs := ((faL kd se cf r L L.length)[k]?).getD f0
theorem faA_at {kd : Nat → List Nat} {se : Nd → BitVec 256} {cf : Nat → Bool} {r : ByteArray → Fs} {L : List Nd} {k j : Nat} (hk : k ≤ L.length) (hj : j < k) : ((faL kd se cf r L k)[j]?).getD f0 = faA kd se cf r L j := by
  have e := faL_pre (kd := kd) (se := se) (cf := cf) (r := r) (L := L) (L.length - k) k (by omega) j hj
  rw [show k + (L.length - k) = L.length from by omega] at e
  unfold faA
  rw [e]
theorem faN_8 {n : Nd} {se : BitVec 256} {x y : Fs} {cf cf2 : Bool} {r : ByteArray → Fs} (h7 : ¬ n.op = 7) : faN n se x y cf r = faN n se x y cf2 r := by
  unfold faN
  simp only [if_neg h7]
/-- By the parts that are told ahead. -/
theorem faA_step {kd : Nat → List Nat} {se : Nd → BitVec 256} {cf : Nat → Bool} {r : ByteArray → Fs} {L : List Nd} (hk : Kds kd L) {k : Nat} {n : Nd} (hn : L[k]? = some n) : faA kd se cf r L k = faN n (se n) ((((kd k).map (faA kd se cf r L))[0]?).getD f0) ((((kd k).map (faA kd se cf r L))[1]?).getD f0) ((((kd k).map cf)[1]?).getD (cf k)) r := by
  have hlt := (List.getElem?_eq_some_iff.1 hn).1
  have hl := faL_len (kd := kd) (se := se) (cf := cf) (r := r) (L := L) k (by omega)
  have e := faA_at (kd := kd) (se := se) (cf := cf) (r := r) (L := L) (k := k + 1) (j := k) (by omega) (Nat.lt_succ_self k)
  rw [← e, faL_succ hn, List.getElem?_append_right (by omega), hl, Nat.sub_self]
  have key : ∀ (i : Nat), ((faL kd se cf r L k)[((kd k)[i]?).getD k]?).getD f0 = (((kd k).map (faA kd se cf r L))[i]?).getD f0 := fun i => by
    rw [List.getElem?_map]
    cases q : (kd k)[i]? with
    | none =>
      rw [Option.getD_none, List.getElem?_eq_none (by omega)]
      rfl
    | some j =>
      show ((faL kd se cf r L k)[j]?).getD f0 = faA kd se cf r L j
      exact faA_at (by omega) (hk.lt k _ hlt (List.mem_of_getElem? q))
  have kc : cf (((kd k)[1]?).getD k) = (((kd k).map cf)[1]?).getD (cf k) := by
    rw [List.getElem?_map]
    cases (kd k)[1]? <;> rfl
  show faN n (se n) _ _ _ r = _
  rw [key 0, key 1, kc]
/-- Less is known. -/
structure LeF (a b : Fs) : Prop where
  st : ∀ i, a.st.getLsbD i = true → b.st.getLsbD i = true
  em : a.em = true → b.em = true
  hf : a.hf = true → b.hf = true
theorem LeF.refl (a : Fs) : LeF a a := ⟨fun _ h => h, id, id⟩
theorem LeF.trans {a b c : Fs} (h : LeF a b) (g : LeF b c) : LeF a c := ⟨fun i q => g.st i (h.st i q), fun q => g.em (h.em q), fun q => g.hf (h.hf q)⟩
theorem LeF.bot (a : Fs) : LeF f0 a := ⟨(fun i h => by simp [f0] at h), (fun h => by cases h), (fun h => by cases h)⟩
theorem bool_anti {a b : Bool} (h : a = true → b = true) (g : b = true → a = true) : a = b := by
  cases a <;> cases b
  · rfl
  · exact (g rfl).symm ▸ rfl
  · exact absurd (h rfl) (by decide)
  · rfl
theorem LeF.anti {a b : Fs} (h : LeF a b) (g : LeF b a) : a = b := by
  obtain ⟨a1, a2, a3⟩ := a
  obtain ⟨b1, b2, b3⟩ := b
  have e1 : a1 = b1 := BitVec.eq_of_getLsbD_eq fun i _ => bool_anti (h.st i) (g.st i)
  have e2 : a2 = b2 := bool_anti h.em g.em
  have e3 : a3 = b3 := bool_anti h.hf g.hf
  rw [e1, e2, e3]
theorem and_mono {a b c d : Bool} (h : a = true → c = true) (g : b = true → d = true) : (a && b) = true → (c && d) = true := by
  intro q
  rw [Bool.and_eq_true] at q ⊢
  exact ⟨h q.1, g q.2⟩
theorem or_mono {a b c d : Bool} (h : a = true → c = true) (g : b = true → d = true) : (a || b) = true → (c || d) = true := by
  intro q
  rw [Bool.or_eq_true] at q ⊢
  exact q.imp h g
theorem st_or {a b : BitVec 256} (i : Nat) : (a ||| b).getLsbD i = (a.getLsbD i || b.getLsbD i) := BitVec.getLsbD_or
theorem faN_mono {n : Nd} {se : BitVec 256} {x y x2 y2 : Fs} {cf : Bool} {r r2 : ByteArray → Fs} (hx : LeF x x2) (hy : LeF y y2) (hr : LeF (r n.tx) (r2 n.tx)) : LeF (faN n se x y cf r) (faN n se x2 y2 cf r2) := by
  unfold faN
  by_cases h1 : n.op = 1 ∨ n.op = 17
  · rw [if_pos h1, if_pos h1]; exact LeF.refl _
  rw [if_neg h1, if_neg h1]
  by_cases h2 : n.op = 2
  · rw [if_pos h2, if_pos h2]; exact LeF.refl _
  rw [if_neg h2, if_neg h2]
  by_cases h3 : n.op = 3
  · rw [if_pos h3, if_pos h3]; exact LeF.refl _
  rw [if_neg h3, if_neg h3]
  by_cases h4 : n.op = 4
  · rw [if_pos h4, if_pos h4]; exact LeF.refl _
  rw [if_neg h4, if_neg h4]
  by_cases h5 : n.op = 5
  · rw [if_pos h5, if_pos h5]; exact LeF.refl _
  rw [if_neg h5, if_neg h5]
  by_cases h6 : n.op = 6
  · rw [if_pos h6, if_pos h6]; exact hr
  rw [if_neg h6, if_neg h6]
  by_cases h7 : n.op = 7
  · rw [if_pos h7, if_pos h7]
    refine ⟨fun i h => ?_, and_mono hx.em hy.em, and_mono hx.hf id⟩
    show (if x2.em = true then x2.st ||| y2.st else x2.st).getLsbD i = true
    have h : (if x.em = true then x.st ||| y.st else x.st).getLsbD i = true := h
    by_cases e : x.em = true
    · rw [if_pos (hx.em e), st_or]
      rw [if_pos e, st_or] at h
      exact or_mono (hx.st i) (hy.st i) h
    · rw [if_neg e] at h
      split
      · rw [st_or, hx.st i h]; rfl
      · exact hx.st i h
  rw [if_neg h7, if_neg h7]
  by_cases h8 : n.op = 8
  · rw [if_pos h8, if_pos h8]
    refine ⟨fun i h => ?_, or_mono hx.em hy.em, and_mono hx.hf hy.hf⟩
    show (x2.st ||| y2.st).getLsbD i = true
    have h : (x.st ||| y.st).getLsbD i = true := h
    rw [st_or] at h ⊢
    exact or_mono (hx.st i) (hy.st i) h
  rw [if_neg h8, if_neg h8]
  by_cases h9 : n.op = 13 ∨ ((n.op = 14 ∨ n.op = 16) ∧ n.nn = 0)
  · rw [if_pos h9, if_pos h9]; exact LeF.refl _
  rw [if_neg h9, if_neg h9]
  by_cases h10 : n.op = 9 ∨ n.op = 11 ∨ n.op = 16 ∨ (n.op = 15 ∧ n.nn = 0)
  · rw [if_pos h10, if_pos h10]; exact ⟨hx.st, id, id⟩
  rw [if_neg h10, if_neg h10]
  by_cases h11 : (n.op = 14 ∨ n.op = 15) ∧ ¬ n.nn = 1
  · rw [if_pos h11, if_pos h11]; exact ⟨hx.st, hx.em, id⟩
  rw [if_neg h11, if_neg h11]
  exact hx
theorem faL_mono {kd : Nat → List Nat} {se : Nd → BitVec 256} {cf : Nat → Bool} {r r2 : ByteArray → Fs} {L : List Nd} (hr : ∀ n ∈ L, LeF (r n.tx) (r2 n.tx)) : ∀ (k : Nat), k ≤ L.length → ∀ (j : Nat), LeF (((faL kd se cf r L k)[j]?).getD f0) (((faL kd se cf r2 L k)[j]?).getD f0) := by
  intro k
  induction k with
  | zero => intro _ j; exact LeF.refl _
  | succ k ih =>
    intro h j
    have hn : L[k]? = some L[k] := List.getElem?_eq_getElem (by omega)
    have l1 := faL_len (kd := kd) (se := se) (cf := cf) (r := r) (L := L) k (by omega)
    have l2 := faL_len (kd := kd) (se := se) (cf := cf) (r := r2) (L := L) k (by omega)
    rw [faL_succ hn, faL_succ hn]
    by_cases q : j < k
    · rw [List.getElem?_append_left (by omega), List.getElem?_append_left (by omega)]
      exact ih (by omega) j
    · by_cases q2 : j = k
      · subst q2
        rw [List.getElem?_append_right (by omega), List.getElem?_append_right (by omega), l1, l2, Nat.sub_self]
        exact faN_mono (ih (by omega) _) (ih (by omega) _) (hr _ (List.getElem_mem _))
      · rw [List.getElem?_eq_none (by rw [List.length_append, List.length_singleton]; omega), List.getElem?_eq_none (by rw [List.length_append, List.length_singleton]; omega)]
        exact LeF.refl _
theorem faA_mono {kd : Nat → List Nat} {se : Nd → BitVec 256} {cf : Nat → Bool} {r r2 : ByteArray → Fs} {L : List Nd} (hr : ∀ n ∈ L, LeF (r n.tx) (r2 n.tx)) (j : Nat) : LeF (faA kd se cf r L j) (faA kd se cf r2 L j) := faL_mono hr _ (Nat.le_refl _) j
/-- What fails at its head is not empty. -/
def NeF (a : Fs) : Prop := a.hf = true → a.em = false
theorem faN_ne {n : Nd} {se : BitVec 256} {x y : Fs} {cf : Bool} {r : ByteArray → Fs} (hx : NeF x) (hy : NeF y) (hr : NeF (r n.tx)) : NeF (faN n se x y cf r) := by
  unfold faN
  by_cases h1 : n.op = 1 ∨ n.op = 17
  · rw [if_pos h1]; exact fun h => by cases h
  rw [if_neg h1]
  by_cases h2 : n.op = 2
  · rw [if_pos h2]; exact fun _ => rfl
  rw [if_neg h2]
  by_cases h3 : n.op = 3
  · rw [if_pos h3]; exact fun _ => rfl
  rw [if_neg h3]
  by_cases h4 : n.op = 4
  · rw [if_pos h4]; exact fun _ => rfl
  rw [if_neg h4]
  by_cases h5 : n.op = 5
  · rw [if_pos h5]; exact fun _ => rfl
  rw [if_neg h5]
  by_cases h6 : n.op = 6
  · rw [if_pos h6]; exact hr
  rw [if_neg h6]
  by_cases h7 : n.op = 7
  · rw [if_pos h7]
    intro h
    have h : (x.hf && !cf) = true := h
    rw [Bool.and_eq_true] at h
    show (x.em && y.em) = false
    rw [hx h.1]; rfl
  rw [if_neg h7]
  by_cases h8 : n.op = 8
  · rw [if_pos h8]
    intro h
    have h : (x.hf && y.hf) = true := h
    rw [Bool.and_eq_true] at h
    show (x.em || y.em) = false
    rw [hx h.1, hy h.2]; rfl
  rw [if_neg h8]
  by_cases h9 : n.op = 13 ∨ ((n.op = 14 ∨ n.op = 16) ∧ n.nn = 0)
  · rw [if_pos h9]; exact fun h => by cases h
  rw [if_neg h9]
  by_cases h10 : n.op = 9 ∨ n.op = 11 ∨ n.op = 16 ∨ (n.op = 15 ∧ n.nn = 0)
  · rw [if_pos h10]; exact fun h => by cases h
  rw [if_neg h10]
  by_cases h11 : (n.op = 14 ∨ n.op = 15) ∧ ¬ n.nn = 1
  · rw [if_pos h11]; exact fun h => by cases h
  rw [if_neg h11]
  exact hx
theorem ne_f0 : NeF f0 := fun h => by cases h
theorem faL_ne {kd : Nat → List Nat} {se : Nd → BitVec 256} {cf : Nat → Bool} {r : ByteArray → Fs} {L : List Nd} (hr : ∀ n ∈ L, NeF (r n.tx)) : ∀ (k : Nat), k ≤ L.length → ∀ (j : Nat), NeF (((faL kd se cf r L k)[j]?).getD f0) := by
  intro k
  induction k with
  | zero => intro _ j; exact ne_f0
  | succ k ih =>
    intro h j
    have hn : L[k]? = some L[k] := List.getElem?_eq_getElem (by omega)
    have l1 := faL_len (kd := kd) (se := se) (cf := cf) (r := r) (L := L) k (by omega)
    rw [faL_succ hn]
    by_cases q : j < k
    · rw [List.getElem?_append_left (by omega)]
      exact ih (by omega) j
    · by_cases q2 : j = k
      · subst q2
        rw [List.getElem?_append_right (by omega), l1, Nat.sub_self]
        exact faN_ne (ih (by omega) _) (ih (by omega) _) (hr _ (List.getElem_mem _))
      · rw [List.getElem?_eq_none (by rw [List.length_append, List.length_singleton]; omega)]
        exact ne_f0
theorem faA_ne {kd : Nat → List Nat} {se : Nd → BitVec 256} {cf : Nat → Bool} {r : ByteArray → Fs} {L : List Nd} (hr : ∀ n ∈ L, NeF (r n.tx)) (j : Nat) : NeF (faA kd se cf r L j) := faL_ne hr _ (Nat.le_refl _) j
end Go.Proofs.YtbnihflihelimaaGreat.N

namespace Go.Proofs.YtbnihflihelimaaGreat
open Go.RowKit
/-- Word i of a set. -/
def wd (x : BitVec 256) (i : Nat) : Int := ((x.extractLsb' (64 * i) 64).toNat : Int)

/-- The set of one byte. -/
def bt (b : Nat) : BitVec 256 := 1#256 <<< b

theorem wd_lo (x : BitVec 256) (i : Nat) : 0 ≤ wd x i := by unfold wd; omega
theorem wd_hi (x : BitVec 256) (i : Nat) : wd x i < 18446744073709551616 := by
  unfold wd; have := (x.extractLsb' (64 * i) 64).isLt; omega
theorem wd_toNat (x : BitVec 256) (i : Nat) : (wd x i).toNat = (x.extractLsb' (64 * i) 64).toNat := by unfold wd; omega
theorem wd_testBit (x : BitVec 256) (i j : Nat) : (wd x i).toNat.testBit j = (decide (j < 64) && x.getLsbD (64 * i + j)) := by
  rw [wd_toNat, BitVec.testBit_toNat, BitVec.getLsbD_extractLsb']

theorem wd_of_testBit (x : BitVec 256) (i : Nat) (n : Int) (h0 : 0 ≤ n) (h : ∀ j, n.toNat.testBit j = (decide (j < 64) && x.getLsbD (64 * i + j))) : n = wd x i := by
  have : n.toNat = (wd x i).toNat := Nat.eq_of_testBit_eq fun j => by rw [h j, wd_testBit]
  have := wd_lo x i
  omega

theorem wd_or (x y : BitVec 256) (i : Nat) : bits .or .u64 (wd x i) (wd y i) = wd (x ||| y) i := by
  rw [u64_or _ _ (wd_lo _ _) (wd_hi _ _) (wd_lo _ _) (wd_hi _ _)]
  refine wd_of_testBit _ _ _ (by omega) fun j => ?_
  rw [Int.toNat_natCast, Nat.testBit_or, wd_testBit, wd_testBit, BitVec.getLsbD_or]
  cases decide (j < 64) <;> simp
theorem wd_and (x y : BitVec 256) (i : Nat) : bits .and .u64 (wd x i) (wd y i) = wd (x &&& y) i := by
  rw [u64_and _ _ (wd_lo _ _) (wd_hi _ _) (wd_lo _ _) (wd_hi _ _)]
  refine wd_of_testBit _ _ _ (by omega) fun j => ?_
  rw [Int.toNat_natCast, Nat.testBit_and, wd_testBit, wd_testBit, BitVec.getLsbD_and]
  cases decide (j < 64) <;> simp

theorem bt_get (b j : Nat) (hb : b < 256) : (bt b).getLsbD j = decide (j = b) := by
  unfold bt
  rw [BitVec.getLsbD_shiftLeft]
  by_cases h : j = b
  · subst h; simp [hb]
  · by_cases h1 : j < b
    · simp [h1, h]
    · by_cases h2 : j < 256
      · have : j - b ≠ 0 := by omega
        simp [h, h2, BitVec.getLsbD_one, this]
      · simp [h, h2]

/-- The word of one bit, as the walk writes it. -/
theorem pow_wrap (k : Nat) (h : k < 64) : IntKind.u64.wrap (2 ^ k) = ((2 ^ k : Nat) : Int) := by
  rw [IntKind.wrap_u64]
  have h1 : 2 ^ k < 2 ^ 64 := Nat.pow_lt_pow_right (by omega) h
  have h2 : ((2 ^ k : Nat) : Int) = (2 : Int) ^ k := by simp
  rw [← h2]
  generalize 2 ^ k = n at *
  omega

theorem wd_bt_same (b i : Nat) (hb : b < 256) (hi : b / 64 = i) : wd (bt b) i = ((2 ^ (b % 64) : Nat) : Int) := by
  refine (wd_of_testBit _ _ _ (Int.natCast_nonneg _) fun j => ?_).symm
  rw [Int.toNat_natCast, Nat.testBit_two_pow, bt_get _ _ hb]
  by_cases h : b % 64 = j
  · have : j < 64 := by omega
    have h2 : 64 * i + j = b := by omega
    simp [h, this, h2]
  · by_cases h3 : j < 64
    · have h2 : ¬ 64 * i + j = b := by omega
      simp [h, h2]
    · simp [h, h3]
theorem wd_bt_other (b i : Nat) (hb : b < 256) (hi : b / 64 ≠ i) : wd (bt b) i = 0 := by
  refine (wd_of_testBit _ _ _ (by omega) fun j => ?_).symm
  rw [bt_get _ _ hb]
  by_cases h3 : j < 64
  · have h2 : ¬ 64 * i + j = b := by omega
    simp [h2]
  · simp [h3]

theorem bits_or_zero (x : BitVec 256) (i : Nat) : bits .or .u64 (wd x i) 0 = wd x i := by
  rw [u64_or _ _ (wd_lo _ _) (wd_hi _ _) (by omega) (by omega)]
  have := wd_lo x i
  simp; omega

/-- The word in which the byte lies. -/
theorem wd_with_same (x : BitVec 256) (b i : Nat) (hb : b < 256) (hi : b / 64 = i) : bits .or .u64 (wd x i) (((2 ^ (b % 64) : Nat) : Int)) = wd (x ||| bt b) i := by
  rw [← wd_bt_same b i hb hi, wd_or]
theorem wd_with_other (x : BitVec 256) (b i : Nat) (hb : b < 256) (hi : b / 64 ≠ i) : wd (x ||| bt b) i = wd x i := by
  rw [← wd_or, wd_bt_other b i hb hi, bits_or_zero]

theorem set_ext (x y : BitVec 256) (h0 : wd x 0 = wd y 0) (h1 : wd x 1 = wd y 1) (h2 : wd x 2 = wd y 2) (h3 : wd x 3 = wd y 3) : x = y := by
  apply BitVec.eq_of_getLsbD_eq
  intro j hj
  have key : ∀ i, wd x i = wd y i → j / 64 = i → x.getLsbD j = y.getLsbD j := fun i e hi => by
    have a := wd_testBit x i (j % 64)
    rw [e, wd_testBit] at a
    have e1 : 64 * i + j % 64 = j := by omega
    have e2 : j % 64 < 64 := by omega
    rw [e1] at a
    simpa [e2] using a.symm
  have : j / 64 = 0 ∨ j / 64 = 1 ∨ j / 64 = 2 ∨ j / 64 = 3 := by omega
  rcases this with e | e | e | e
  · exact key 0 h0 e
  · exact key 1 h1 e
  · exact key 2 h2 e
  · exact key 3 h3 e

/-- The word of one bit. -/
def pw (n : Nat) : Int := ((2 ^ (n % 64) : Nat) : Int)
theorem pw_of (b : Int) (h0 : 0 ≤ b) : IntKind.u64.wrap (2 ^ (b % 64).toNat) = pw b.toNat := by
  rw [pow_wrap _ (by omega), show (b % 64).toNat = b.toNat % 64 from by omega]; rfl
/-- One byte more, word by word. -/
theorem wds_with (x : BitVec 256) (b : Int) (h0 : 0 ≤ b) (h1 : b ≤ 255) (i : Nat) (hi : b / 64 = (i : Int)) :
    bits .or .u64 (wd x i) (pw b.toNat) = wd (x ||| bt b.toNat) i ∧ ∀ j, j ≠ i → wd x j = wd (x ||| bt b.toNat) j :=
  ⟨wd_with_same x _ i (by omega) (by omega), fun j hj => (wd_with_other x _ j (by omega) (by omega)).symm⟩
theorem wrap_quo (b : Int) (h0 : 0 ≤ b) (h1 : b ≤ 255) : IntKind.i64.wrap (b.tdiv 64) = b / 64 := by
  rw [Int.tdiv_eq_ediv_of_nonneg h0, IntKind.wrap_i64]; omega
end Go.Proofs.YtbnihflihelimaaGreat

namespace Go.Proofs.YtbnihflihelimaaGreat
open Go.RowKit
abbrev sv (x : BitVec 256) : Value := .agg #[.int .u64 (wd x 0), .int .u64 (wd x 1), .int .u64 (wd x 2), .int .u64 (wd x 3)]

theorem ret_int {k : IntKind} {a b : Int} (h : a = b) : Ending.returned (.int k a) = .returned (.int k b) := by rw [h]

set_option maxHeartbeats 400000 in
theorem bit_any (b : Int) (w : World) (h0 : 0 ≤ b) (h1 : b ≤ 255) :
    Calls Tryz.prog 64 #[.int .i64 b] w fun e w' => e = .returned (.int .u64 (pw b.toNat)) ∧ w' = w := by
  go_enter Tryz.func64, Tryz.ntmps64
  go_wp2
  go_ret
  exact ⟨ret_int (pw_of b h0), rfl⟩

theorem ret_sv {a b c d : Int} {y : BitVec 256} (h0 : a = wd y 0) (h1 : b = wd y 1) (h2 : c = wd y 2) (h3 : d = wd y 3) : Ending.returned (.agg #[.int .u64 a, .int .u64 b, .int .u64 c, .int .u64 d]) = .returned (sv y) := by
  rw [h0, h1, h2, h3]

set_option maxHeartbeats 1000000 in
theorem with_any (x : BitVec 256) (b : Int) (w : World) (h0 : 0 ≤ b) (h1 : b ≤ 255) :
    Calls Tryz.prog 46 #[sv x, .int .i64 b] w fun e w' => e = .returned (sv (x ||| bt b.toNat)) ∧ Below w.heap.size w w' := by
  have hq : b / 64 = 0 ∨ b / 64 = 1 ∨ b / 64 = 2 ∨ b / 64 = 3 := by omega
  rcases hq with hq | hq | hq | hq
  · have hs := (show Hid _ from wds_with x b h0 h1 0 hq)
    have t1 : IntKind.i64.wrap (b.tdiv 64) = 0 := by rw [wrap_quo b h0 h1]; exact hq
    go_enter Tryz.func46, Tryz.ntmps46
    go_wp2
    go_region_with ((go_at_call 64; refine (bit_any _ _ (by omega) (by omega)).mono ?_; rintro e w' ⟨rfl, rfl⟩))
    all_goals
      go_wp2
      replace hs := hs.out
      exact bodyPost_ret (v := .agg #[.int .u64 (bits BinOp.or IntKind.u64 (wd x 0) (pw b.toNat)), .int .u64 (wd x 1), .int .u64 (wd x 2), .int .u64 (wd x 3)]) (by simp [results, Tryz.results46, go_sem]) rfl ⟨ret_sv hs.1 (hs.2 1 (by omega)) (hs.2 2 (by omega)) (hs.2 3 (by omega)), (((Below.refl _ _).alloc (Nat.le_refl _) _).alloc (by simp) _).drew⟩
  · have hs := (show Hid _ from wds_with x b h0 h1 1 hq)
    have t1 : IntKind.i64.wrap (b.tdiv 64) = 1 := by rw [wrap_quo b h0 h1]; exact hq
    go_enter Tryz.func46, Tryz.ntmps46
    go_wp2
    go_region_with ((go_at_call 64; refine (bit_any _ _ (by omega) (by omega)).mono ?_; rintro e w' ⟨rfl, rfl⟩))
    all_goals
      go_wp2
      replace hs := hs.out
      exact bodyPost_ret (v := .agg #[.int .u64 (wd x 0), .int .u64 (bits BinOp.or IntKind.u64 (wd x 1) (pw b.toNat)), .int .u64 (wd x 2), .int .u64 (wd x 3)]) (by simp [results, Tryz.results46, go_sem]) rfl ⟨ret_sv (hs.2 0 (by omega)) hs.1 (hs.2 2 (by omega)) (hs.2 3 (by omega)), (((Below.refl _ _).alloc (Nat.le_refl _) _).alloc (by simp) _).drew⟩
  · have hs := (show Hid _ from wds_with x b h0 h1 2 hq)
    have t1 : IntKind.i64.wrap (b.tdiv 64) = 2 := by rw [wrap_quo b h0 h1]; exact hq
    go_enter Tryz.func46, Tryz.ntmps46
    go_wp2
    go_region_with ((go_at_call 64; refine (bit_any _ _ (by omega) (by omega)).mono ?_; rintro e w' ⟨rfl, rfl⟩))
    all_goals
      go_wp2
      replace hs := hs.out
      exact bodyPost_ret (v := .agg #[.int .u64 (wd x 0), .int .u64 (wd x 1), .int .u64 (bits BinOp.or IntKind.u64 (wd x 2) (pw b.toNat)), .int .u64 (wd x 3)]) (by simp [results, Tryz.results46, go_sem]) rfl ⟨ret_sv (hs.2 0 (by omega)) (hs.2 1 (by omega)) hs.1 (hs.2 3 (by omega)), (((Below.refl _ _).alloc (Nat.le_refl _) _).alloc (by simp) _).drew⟩
  · have hs := (show Hid _ from wds_with x b h0 h1 3 hq)
    have t1 : IntKind.i64.wrap (b.tdiv 64) = 3 := by rw [wrap_quo b h0 h1]; exact hq
    go_enter Tryz.func46, Tryz.ntmps46
    go_wp2
    go_region_with ((go_at_call 64; refine (bit_any _ _ (by omega) (by omega)).mono ?_; rintro e w' ⟨rfl, rfl⟩))
    all_goals
      go_wp2
      replace hs := hs.out
      exact bodyPost_ret (v := .agg #[.int .u64 (wd x 0), .int .u64 (wd x 1), .int .u64 (wd x 2), .int .u64 (bits BinOp.or IntKind.u64 (wd x 3) (pw b.toNat))]) (by simp [results, Tryz.results46, go_sem]) rfl ⟨ret_sv (hs.2 0 (by omega)) (hs.2 1 (by omega)) (hs.2 2 (by omega)) hs.1, (((Below.refl _ _).alloc (Nat.le_refl _) _).alloc (by simp) _).drew⟩
end Go.Proofs.YtbnihflihelimaaGreat

namespace Go.Proofs.YtbnihflihelimaaGreat.N
open Go.RowKit Go.Maps
open Go.Proofs.YtbnihflihelimaaGreat.T
/-- A node's set. -/
def seV (n : Nd) : BitVec 256 := BitVec.ofNat 256 (n.s0.toNat + 2 ^ 64 * (n.s1.toNat + 2 ^ 64 * (n.s2.toNat + 2 ^ 64 * n.s3.toNat)))
theorem seV_wd {n : Nd} (h : NdW n) : wd (seV n) 0 = n.s0 ∧ wd (seV n) 1 = n.s1 ∧ wd (seV n) 2 = n.s2 ∧ wd (seV n) 3 = n.s3 := by
  obtain ⟨ha, hb, hc, hd⟩ := h
  unfold seV
  generalize n.s0 = a at *
  generalize n.s1 = b at *
  generalize n.s2 = c at *
  generalize n.s3 = d at *
  simp only [wd, BitVec.extractLsb'_toNat, BitVec.toNat_ofNat, Nat.shiftRight_eq_div_pow]
  refine ⟨?_, ?_, ?_, ?_⟩ <;> omega
/-- Can the part that ends with a node fail, as chapter 9 has it? -/
def cfR (gs : GL) (now : List Em) (L : List Nd) (j : Nat) : Bool := (((emL (kdR L) (lkE gs now) L L.length)[j]?).getD e0).cf
/-- What is known of a name's rule. -/
def lkF (gs : GL) (fs : List Fs) (s : ByteArray) : Fs := match fdG gs s with
  | none => f0
  | some k => (fs[k]?).getD f0
def faR (gs : GL) (now : List Em) (fs : List Fs) (L : List Nd) (j : Nat) : Fs := faA (kdR L) seV (cfR gs now L) (lkF gs fs) L j
/-- What the table makes of a rule. -/
def spF (gs : GL) (now : List Em) (fs : List Fs) (i : Nat) : Fs := match gs[i]? with
  | none => f0
  | some g => faR gs now fs g.2 (g.2.length - 1)
theorem spF_of {gs : GL} {now : List Em} {fs : List Fs} {i : Nat} {g : ByteArray × List Nd} (h : gs[i]? = some g) : spF gs now fs i = faR gs now fs g.2 (g.2.length - 1) := by unfold spF; rw [h]
def LeL (a b : List Fs) : Prop := ∀ i : Nat, LeF ((a[i]?).getD f0) ((b[i]?).getD f0)
theorem lkF_mono {gs : GL} {a b : List Fs} (h : LeL a b) (s : ByteArray) : LeF (lkF gs a s) (lkF gs b s) := by
  unfold lkF
  cases fdG gs s with
  | none => exact LeF.refl _
  | some k => exact h k
theorem faR_mono {gs : GL} {now : List Em} {a b : List Fs} (h : LeL a b) (L : List Nd) (j : Nat) : LeF (faR gs now a L j) (faR gs now b L j) := faA_mono (fun n _ => lkF_mono h n.tx) j
theorem spF_mono {gs : GL} {now : List Em} {a b : List Fs} (h : LeL a b) (i : Nat) : LeF (spF gs now a i) (spF gs now b i) := by
  unfold spF
  cases gs[i]? with
  | none => exact LeF.refl _
  | some g => exact faR_mono h _ _
theorem lkF_ne {gs : GL} {a : List Fs} (h : ∀ (i : Nat) x, a[i]? = some x → NeF x) (s : ByteArray) : NeF (lkF gs a s) := by
  unfold lkF
  cases fdG gs s with
  | none => exact ne_f0
  | some k =>
    show NeF ((a[k]?).getD f0)
    cases e : a[k]? with
    | none => exact ne_f0
    | some x => exact h k x e
theorem faR_ne {gs : GL} {now : List Em} {a : List Fs} (h : ∀ (i : Nat) x, a[i]? = some x → NeF x) (L : List Nd) (j : Nat) : NeF (faR gs now a L j) := faA_ne (fun n _ => lkF_ne h n.tx) j
/-- While what is known grows. -/
structure FxI (gs : GL) (now : List Em) (fs : List Fs) : Prop where
  l : fs.length = gs.length
  up : ∀ (i : Nat) a, fs[i]? = some a → LeF a (spF gs now fs i)
  lo : ∀ ks : List Fs, ks.length = gs.length → (∀ (i : Nat) b, ks[i]? = some b → LeF (spF gs now ks i) b) → LeL fs ks
  ne : ∀ (i : Nat) a, fs[i]? = some a → NeF a
theorem FxI.start (gs : GL) (now : List Em) : FxI gs now (List.replicate gs.length f0) := by
  have h : ∀ (i : Nat) a, (List.replicate gs.length f0)[i]? = some a → a = f0 := fun i a ha => (List.mem_replicate.1 (List.mem_of_getElem? ha)).2
  refine ⟨List.length_replicate, fun i a ha => by rw [h i a ha]; exact LeF.bot _, fun ks _ _ i => ?_, fun i a ha => by rw [h i a ha]; exact ne_f0⟩
  cases e : (List.replicate gs.length f0)[i]? with
  | none => exact LeF.bot _
  | some a => rw [h i a e]; exact LeF.bot _
theorem getD_set {fs : List Fs} {r : Nat} {x : Fs} (h : r < fs.length) (i : Nat) : ((fs.set r x)[i]?).getD f0 = if i = r then x else (fs[i]?).getD f0 := by
  by_cases e : i = r
  · subst e
    rw [if_pos rfl, List.getElem?_set_self h]
    rfl
  · rw [if_neg e, List.getElem?_set_ne (Ne.symm e)]
theorem FxI.le {gs : GL} {now : List Em} {fs : List Fs} (h : FxI gs now fs) {r : Nat} (hr : r < gs.length) : LeL fs (fs.set r (spF gs now fs r)) := fun i => by
  rw [getD_set (by rw [h.l]; exact hr)]
  split
  · next e =>
    subst e
    obtain ⟨a, ha⟩ : ∃ a, fs[i]? = some a := ⟨_, List.getElem?_eq_getElem (by rw [h.l]; exact hr)⟩
    rw [ha]
    exact h.up i a ha
  · exact LeF.refl _
theorem FxI.step {gs : GL} {now : List Em} {fs : List Fs} (h : FxI gs now fs) {r : Nat} (hr : r < gs.length) : FxI gs now (fs.set r (spF gs now fs r)) := by
  have hl := h.l
  have hle := h.le hr
  refine ⟨by rw [List.length_set]; exact h.l, fun i a ha => ?_, fun ks hk hc i => ?_, fun i a ha => ?_⟩
  · refine LeF.trans ?_ (spF_mono hle i)
    by_cases e : i = r
    · subst e
      rw [List.getElem?_set_self (by omega)] at ha
      cases ha
      exact LeF.refl _
    · rw [List.getElem?_set_ne (Ne.symm e)] at ha
      exact h.up i a ha
  · rw [getD_set (by omega)]
    split
    · next e =>
      subst e
      obtain ⟨b, hb⟩ : ∃ b, ks[i]? = some b := ⟨_, List.getElem?_eq_getElem (by omega)⟩
      rw [hb]
      exact LeF.trans (spF_mono (h.lo ks hk hc) i) (hc i b hb)
    · exact h.lo ks hk hc i
  · by_cases e : i = r
    · subst e
      rw [List.getElem?_set_self (by omega)] at ha
      cases ha
      unfold spF
      cases gs[i]? with
      | none => exact ne_f0
      | some g => exact faR_ne h.ne _ _
    · rw [List.getElem?_set_ne (Ne.symm e)] at ha
      exact h.ne i a ha
/-- What is known in the end. -/
structure FxR (gs : GL) (now : List Em) (fs : List Fs) : Prop where
  i : FxI gs now fs
  x : ∀ i : Nat, i < gs.length → fs[i]? = some (spF gs now fs i)
theorem FxR.one {gs : GL} {now : List Em} {a b : List Fs} (h : FxR gs now a) (g : FxR gs now b) : a = b := by
  have key : ∀ {a b : List Fs}, FxR gs now a → FxR gs now b → LeL a b := fun {a b} h g => h.i.lo b g.i.l (fun i c hc => by
    have hi : i < gs.length := by have := (List.getElem?_eq_some_iff.1 hc).1; rw [g.i.l] at this; exact this
    have e := g.x i hi
    rw [hc] at e
    rw [← Option.some.inj e]
    exact LeF.refl _)
  apply List.ext_getElem?
  intro i
  by_cases hi : i < gs.length
  · obtain ⟨x, hx⟩ : ∃ x, a[i]? = some x := ⟨_, List.getElem?_eq_getElem (by rw [h.i.l]; exact hi)⟩
    obtain ⟨y, hy⟩ : ∃ x, b[i]? = some x := ⟨_, List.getElem?_eq_getElem (by rw [g.i.l]; exact hi)⟩
    have h1 := key h g i
    have h2 := key g h i
    rw [hx, hy] at h1 h2
    rw [hx, hy]
    exact congrArg some (LeF.anti h1 h2)
  · rw [List.getElem?_eq_none (by rw [h.i.l]; omega), List.getElem?_eq_none (by rw [g.i.l]; omega)]
/-- How much is known. -/
def cnB (f : Nat → Bool) : Nat → Nat
  | 0 => 0
  | n + 1 => cnB f n + if f n then 1 else 0
theorem cnB_top (f : Nat → Bool) : ∀ n, cnB f n ≤ n := by
  intro n
  induction n with
  | zero => exact Nat.le_refl _
  | succ n ih => rw [cnB]; split <;> omega
theorem cnB_le {f g : Nat → Bool} (h : ∀ i, f i = true → g i = true) : ∀ n, cnB f n ≤ cnB g n := by
  intro n
  induction n with
  | zero => exact Nat.le_refl _
  | succ n ih =>
    rw [cnB, cnB]
    by_cases e : f n = true
    · rw [if_pos e, if_pos (h n e)]; omega
    · rw [if_neg e]; omega
theorem cnB_eq {f g : Nat → Bool} (h : ∀ i, f i = true → g i = true) : ∀ n, cnB f n = cnB g n → ∀ i, i < n → f i = g i := by
  intro n
  induction n with
  | zero => intro _ i hi; omega
  | succ n ih =>
    intro he i hi
    have hle := cnB_le h n
    rw [cnB, cnB] at he
    have hn : f n = g n ∧ cnB f n = cnB g n := by
      cases e : f n with
      | true => rw [e] at he; rw [h n e] at he ⊢; simp only [if_pos] at he; exact ⟨rfl, by omega⟩
      | false =>
        cases e2 : g n with
        | false => rw [e, e2] at he; exact ⟨rfl, by simpa using he⟩
        | true => rw [e, e2] at he; simp at he; omega
    by_cases q : i = n
    · rw [q]; exact hn.1
    · exact ih hn.2 i (by omega)
def szF (a : Fs) : Nat := cnB a.st.getLsbD 256 + (if a.em then 1 else 0) + (if a.hf then 1 else 0)
theorem szF_top (a : Fs) : szF a ≤ 258 := by
  unfold szF
  have := cnB_top a.st.getLsbD 256
  split <;> split <;> omega
theorem szF_lt {a b : Fs} (h : LeF a b) (hne : a ≠ b) : szF a < szF b := by
  apply Nat.lt_of_not_le
  intro hle
  apply hne
  have h1 := cnB_le h.st 256
  have h2 : (if a.em then 1 else 0) ≤ (if b.em then 1 else 0) := by
    cases e : a.em with
    | false => simp
    | true => rw [h.em e]; exact Nat.le_refl _
  have h3 : (if a.hf then 1 else 0) ≤ (if b.hf then 1 else 0) := by
    cases e : a.hf with
    | false => simp
    | true => rw [h.hf e]; exact Nat.le_refl _
  unfold szF at hle
  have e1 := cnB_eq h.st 256 (by omega)
  refine LeF.anti h ⟨fun i q => ?_, fun q => ?_, fun q => ?_⟩
  · by_cases hi : i < 256
    · rw [e1 i hi]; exact q
    · rw [BitVec.getLsbD_of_ge _ _ (by omega)] at q; cases q
  · cases e : a.em with
    | true => rfl
    | false => rw [e, q] at h2 hle; simp at hle; omega
  · cases e : a.hf with
    | true => rfl
    | false => rw [e, q] at h3 hle; simp at hle; omega
def toF (fs : List Fs) : Nat := (fs.map szF).sum
theorem toF_top : ∀ fs : List Fs, toF fs ≤ 258 * fs.length := by
  intro fs
  induction fs with
  | nil => exact Nat.le_refl _
  | cons a l ih =>
    unfold toF at ih ⊢
    rw [List.map_cons, List.sum_cons, List.length_cons]
    have := szF_top a
    omega
theorem toF_set : ∀ (fs : List Fs) (r : Nat) (a b : Fs), fs[r]? = some a → szF a < szF b → toF fs < toF (fs.set r b) := by
  intro fs
  induction fs with
  | nil => intro r a b h; cases h
  | cons x l ih =>
    intro r a b h hlt
    unfold toF at ih ⊢
    cases r with
    | zero =>
      cases h
      rw [List.set_cons_zero, List.map_cons, List.map_cons, List.sum_cons, List.sum_cons]
      omega
    | succ r =>
      have h : l[r]? = some a := by simpa using h
      rw [List.set_cons_succ, List.map_cons, List.map_cons, List.sum_cons, List.sum_cons]
      have := ih r a b h hlt
      omega
theorem FxI.grow {gs : GL} {now : List Em} {fs : List Fs} (h : FxI gs now fs) {r : Nat} {a : Fs} (ha : fs[r]? = some a) (hne : spF gs now fs r ≠ a) : toF fs < toF (fs.set r (spF gs now fs r)) := toF_set fs r a _ ha (szF_lt (h.up r a ha) (Ne.symm hne))
end Go.Proofs.YtbnihflihelimaaGreat.N

namespace Go.Proofs.YtbnihflihelimaaGreat.N
open Go.RowKit Go.Maps
open Go.Proofs.YtbnihflihelimaaGreat.T
/-- Whether a part can fail hangs on nothing but whether its parts can. -/
theorem emN_cf {n : Nd} {x y x2 y2 : Em} {r r2 : ByteArray → Em} {nu : ByteArray → Bool} (hx : x.cf = x2.cf) (hy : y.cf = y2.cf) (hr : n.op = 6 → (r2 n.tx).cf = !nu n.tx) : (emN (seN nu n) x y r).cf = (emN n x2 y2 r2).cf := by
  by_cases h6 : n.op = 6
  · have e : emN n x2 y2 r2 = r2 n.tx := by
      unfold emN
      rw [if_neg (by omega), if_neg (by omega), if_neg (by omega), if_neg (by omega), if_neg (by omega), if_pos h6]
    rw [e, hr h6]
    unfold seN
    rw [if_pos h6]
    cases nu n.tx <;> rfl
  rw [seN_6 h6]
  unfold emN
  by_cases a1 : n.op = 1 ∨ n.op = 17 ∨ ((n.op = 14 ∨ n.op = 16) ∧ n.nn = 0)
  · rw [if_pos a1, if_pos a1]
  rw [if_neg a1, if_neg a1]
  by_cases a2 : n.op = 9 ∨ (n.op = 15 ∧ n.nn = 0)
  · rw [if_pos a2, if_pos a2]
  rw [if_neg a2, if_neg a2]
  by_cases a3 : n.op = 2
  · rw [if_pos a3, if_pos a3]
  rw [if_neg a3, if_neg a3]
  by_cases a4 : n.op = 3 ∨ n.op = 5
  · rw [if_pos a4, if_pos a4]
  rw [if_neg a4, if_neg a4]
  by_cases a5 : n.op = 4
  · rw [if_pos a5, if_pos a5]
  rw [if_neg a5, if_neg a5, if_neg h6, if_neg h6]
  by_cases a7 : n.op = 7
  · rw [if_pos a7, if_pos a7]
    show (x.cf || y.cf) = (x2.cf || y2.cf)
    rw [hx, hy]
  rw [if_neg a7, if_neg a7]
  by_cases a8 : n.op = 8
  · rw [if_pos a8, if_pos a8]
    show (x.cf && y.cf) = (x2.cf && y2.cf)
    rw [hx, hy]
  rw [if_neg a8, if_neg a8]
  by_cases b0 : n.op = 10
  · rw [if_pos b0, if_pos b0]; exact hx
  rw [if_neg b0, if_neg b0]
  by_cases b1 : n.op = 11
  · rw [if_pos b1, if_pos b1]
  rw [if_neg b1, if_neg b1]
  by_cases b2 : n.op = 12
  · rw [if_pos b2, if_pos b2]; exact hx
  rw [if_neg b2, if_neg b2]
  by_cases b3 : n.op = 13
  · rw [if_pos b3, if_pos b3]
  rw [if_neg b3, if_neg b3]
  by_cases b4 : n.op = 14
  · rw [if_pos b4, if_pos b4]; exact hx
  rw [if_neg b4, if_neg b4]
  by_cases b5 : n.op = 15
  · rw [if_pos b5, if_pos b5]; exact hx
  rw [if_neg b5, if_neg b5]
  by_cases b6 : n.op = 16
  · rw [if_pos b6, if_pos b6]
  rw [if_neg b6, if_neg b6]
  exact hx
theorem emL_cf {L : List Nd} {r r2 : ByteArray → Em} {nu : ByteArray → Bool} (hr : ∀ n ∈ L, n.op = 6 → (r2 n.tx).cf = !nu n.tx) : ∀ k, k ≤ L.length → (emL (kdR (seL nu L)) r (seL nu L) k).map Em.cf = (emL (kdR L) r2 L k).map Em.cf := by
  intro k
  induction k with
  | zero => intro _; rfl
  | succ k ih =>
    intro hk
    have hn : L[k]? = some L[k] := List.getElem?_eq_getElem (by omega)
    have hs : (seL nu L)[k]? = some (seN nu L[k]) := by unfold seL; rw [List.getElem?_map, hn]; rfl
    have i := ih (by omega)
    have at2 : ∀ (j : Nat) (d d2 : Em), d.cf = d2.cf → (((emL (kdR (seL nu L)) r (seL nu L) k)[j]?).getD d).cf = (((emL (kdR L) r2 L k)[j]?).getD d2).cf := fun j d d2 hd => by
      have h := congrArg (fun l : List Bool => l[j]?) i
      simp only [List.getElem?_map] at h
      cases e : (emL (kdR (seL nu L)) r (seL nu L) k)[j]? with
      | none =>
        rw [e] at h
        cases e2 : (emL (kdR L) r2 L k)[j]? with
        | none => exact hd
        | some b => rw [e2] at h; cases h
      | some a =>
        rw [e] at h
        cases e2 : (emL (kdR L) r2 L k)[j]? with
        | none => rw [e2] at h; cases h
        | some b => rw [e2] at h; exact Option.some.inj h
    rw [emL_succ hn, emL_succ hs, List.map_append, List.map_append, i, kdR_se]
    congr 1
    show [_] = [_]
    congr 1
    have kk : ∀ i, (kE (emL (kdR (seL nu L)) r (seL nu L) k) (kdR L k) i).cf = (kE (emL (kdR L) r2 L k) (kdR L k) i).cf := fun i => by
      unfold kE
      cases (kdR L k)[i]? with
      | none => rfl
      | some j => exact at2 j _ _ rfl
    exact emN_cf (kk 0) (kk 1) (hr _ (List.getElem_mem _))
/-- What layer 9 says of the parts of a pattern whose calls gave way: which can fail. -/
theorem se_cf {L : List Nd} {gs : GL} {now : List Em} {r : ByteArray → Em} {nu : ByteArray → Bool} (hr : ∀ n ∈ L, n.op = 6 → (lkE gs now n.tx).cf = !nu n.tx) (j : Nat) : (EE r (seL nu L) j).cf = cfR gs now L j := by
  have h := emL_cf (r := r) (r2 := lkE gs now) hr L.length (Nat.le_refl _)
  have h2 := congrArg (fun l : List Bool => l[j]?) h
  simp only [List.getElem?_map] at h2
  unfold EE cfR
  rw [seL_len]
  cases e : (emL (kdR (seL nu L)) r (seL nu L) L.length)[j]? with
  | none =>
    rw [e] at h2
    cases e2 : (emL (kdR L) (lkE gs now) L L.length)[j]? with
    | none => rfl
    | some b => rw [e2] at h2; cases h2
  | some a =>
    rw [e] at h2
    cases e2 : (emL (kdR L) (lkE gs now) L L.length)[j]? with
    | none => rw [e2] at h2; cases h2
    | some b => rw [e2] at h2; exact Option.some.inj h2
/-- What Parts answers of such a pattern as a grammar alone. -/
theorem pa_cf {gs : GL} {now0 : List Em} {nu : ByteArray → Bool} {L : List Nd} (h : Rt L) (hr : ∀ n ∈ L, n.op = 6 → (lkE gs now0 n.tx).cf = !nu n.tx) {l : List Em} {cd : Int} (hp : PaR [(⟨#[]⟩, seL nu L)] 0 l cd) : cd = 0 ∧ l.length = L.length ∧ l.map Em.cf = (List.range L.length).map (cfR gs now0 L) := by
  obtain ⟨_, h2⟩ := hp
  have hz := ckG_ok.2 (rtG_se (nu := nu) h)
  obtain ⟨_, h3⟩ := h2 hz
  obtain ⟨e1, now, _, e2⟩ := h3 0 (⟨#[]⟩, seL nu L) rfl rfl
  have e2 : l = (List.range (seL nu L).length).map (EE (lkE [(⟨#[]⟩, seL nu L)] now) (seL nu L)) := e2
  rw [seL_len] at e2
  refine ⟨e1, by rw [e2, List.length_map, List.length_range], ?_⟩
  rw [e2, List.map_map]
  congr 1
  funext j
  exact se_cf hr j
end Go.Proofs.YtbnihflihelimaaGreat.N

namespace Go.Proofs.YtbnihflihelimaaGreat.N
open Go.RowKit Go.Maps
open Go.Proofs.YtbnihflihelimaaGreat.T

open U (below_grown)
set_option maxRecDepth 100000 in
set_option maxHeartbeats 4000000 in
/-- slices.Clone of a pattern. -/
theorem clone_any (ad : Addr) (c : Nat) (L : List Nd) (w : World) (h0 : L ≠ []) (hl : L.length * 64 ≤ 140737488351232) (hc : ∀ (j : Nat) u, (ndc L)[j]? = some u → w.cell? (ad.add j) = some u) :
    Calls Tryz.prog 85 #[.slice (some ad) L.length c] w fun e w' => (∃ g cap, e = .returned (.slice (some ⟨g, 0, none⟩) L.length cap) ∧ w'.ownsRow w.heap.size 70 7 (.slice (some ⟨g, 0, none⟩) L.length cap) L.length (ndc L)) ∧ Below w.heap.size w w' := by
  obtain ⟨i0, hinf, hz0, hz1, hz2⟩ := info_parts Tryz.info43
  have hq : ∀ (W : World) (a : Option Addr) (n c n2 c2 : Nat), (binOp .eql 41 (.slice a n c) (.slice none n2 c2)).run Tryz.prog W = .ok (.bool a.isNone) W := fun W a n c n2 c2 => Lib.run_eql_slice_nil W _ _ a n c n2 c2 Tryz.underlying41
  have hO := own_empty w
  have HB := (show Hid (Below w.heap.size w (w.alloc (.cells #[] 70))) from below_box _ _)
  have HC := (show Hid (∀ (j : Nat) u, (ndc L)[j]? = some u → (w.alloc (.cells #[] 70)).cell? (ad.add j) = some u) from fun j u hj => by
    have h1 := hc j u hj
    have h2 := World.block_lt_of_cell? w _ h1
    exact ((below_box w (.cells #[] 70)).cell (p := ad.add j) h2).trans h1)
  have HI := (show Hid ((ndc L).length = L.length * 7 ∧ ∀ u ∈ ndc L, u.oneCell' = true) from ⟨ndc_len L, ndc_cell L⟩)
  have H0 := (show Hid (0 < L.length) from List.length_pos_iff.2 h0)
  clear hc h0
  go_enter Tryz.func85, Tryz.ntmps85
  go_wp2_with (at_builtin; refine wpList_append_own _ rfl _ _ 41 rfl w.heap.size 70 i0 zA 7 64 Tryz.underlying41 hinf hz0 hz1 hz2 rfl (by decide) _ _ _ rfl hO ad L.length c (ndc L) rfl HI.out.1 HC.out HI.out.2 ?c3 ?c4 ?c5 ?_)
  case c3 => unfold maxLen; omega
  case c4 => omega
  case c5 => simp
  intro v1 w1 hown hgrow _
  have HB1 := (show Hid (Below w.heap.size w w1) from HB.out.grown hgrow (by simp) (fun k e => (hO.lt k e).1))
  obtain ⟨g, cap, rfl, _⟩ := hown.form H0.out
  have HO := (show Hid (w1.ownsRow w.heap.size 70 7 (.slice (some ⟨g, 0, none⟩) L.length cap) L.length (ndc L)) from hown)
  clear hown hgrow HB HC HI hO
  go_wp2_with fail
  go_ret
  exact ⟨⟨g, cap, rfl, HO.out⟩, HB1.out⟩
/-- A node written over another in a row. -/
def nw7 (W : World) (g o : Nat) (n : Nd) : World := (((((((W.setCell ⟨g, o, none⟩ (.int .i64 n.op)).setCell ⟨g, o + 1, none⟩ (.int .i64 n.nn)).setCell ⟨g, o + 2, none⟩ (.string n.tx)).setCell ⟨g, o + 3, none⟩ (.int .u64 n.s0)).setCell ⟨g, o + 4, none⟩ (.int .u64 n.s1)).setCell ⟨g, o + 5, none⟩ (.int .u64 n.s2)).setCell ⟨g, o + 6, none⟩ (.int .u64 n.s3))
def ls7 (l : List Value) (o : Nat) (n : Nd) : List Value := ((((((l.set o (.int .i64 n.op)).set (o + 1) (.int .i64 n.nn)).set (o + 2) (.string n.tx)).set (o + 3) (.int .u64 n.s0)).set (o + 4) (.int .u64 n.s1)).set (o + 5) (.int .u64 n.s2)).set (o + 6) (.int .u64 n.s3)
theorem ls7_ndc (n : Nd) : ∀ (M : List Nd) (k : Nat), k < M.length → ls7 (ndc M) (k * 7) n = ndc (M.set k n) := by
  intro M
  induction M with
  | nil => intro k h; exact absurd h (Nat.not_lt_zero _)
  | cons a M ih =>
    intro k h
    cases k with
    | zero => rfl
    | succ k =>
      have h2 : k < M.length := by simpa using h
      rw [List.set_cons_succ, show ndc (a :: M.set k n) = ndV a ++ ndc (M.set k n) from rfl, ← ih k h2, show ndc (a :: M) = ndV a ++ ndc M from rfl, show (k + 1) * 7 = k * 7 + 7 from by omega]
      unfold ls7 ndV
      rw [show k * 7 + 7 + 1 = (k * 7 + 1) + 7 from by omega, show k * 7 + 7 + 2 = (k * 7 + 2) + 7 from by omega, show k * 7 + 7 + 3 = (k * 7 + 3) + 7 from by omega, show k * 7 + 7 + 4 = (k * 7 + 4) + 7 from by omega, show k * 7 + 7 + 5 = (k * 7 + 5) + 7 from by omega, show k * 7 + 7 + 6 = (k * 7 + 6) + 7 from by omega]
      simp only [List.cons_append, List.nil_append, List.set_cons_succ]
theorem nw7_own {W : World} {B g m cap k : Nat} {M : List Nd} (n : Nd) (h : W.ownsRow B 70 7 (.slice (some ⟨g, 0, none⟩) m cap) m (ndc M)) (hk : k < M.length) : (nw7 W g (k * 7) n).ownsRow B 70 7 (.slice (some ⟨g, 0, none⟩) m cap) m (ndc (M.set k n)) ∧ W.grownBy (nw7 W g (k * 7) n) (some g) := by
  rw [← ls7_ndc n M k hk]
  obtain ⟨a1, b1⟩ := h.stored (k * 7) (.int .i64 n.op)
  obtain ⟨a2, b2⟩ := a1.stored (k * 7 + 1) (.int .i64 n.nn)
  obtain ⟨a3, b3⟩ := a2.stored (k * 7 + 2) (.string n.tx)
  obtain ⟨a4, b4⟩ := a3.stored (k * 7 + 3) (.int .u64 n.s0)
  obtain ⟨a5, b5⟩ := a4.stored (k * 7 + 4) (.int .u64 n.s1)
  obtain ⟨a6, b6⟩ := a5.stored (k * 7 + 5) (.int .u64 n.s2)
  obtain ⟨a7, b7⟩ := a6.stored (k * 7 + 6) (.int .u64 n.s3)
  exact ⟨a7, (((((b1.trans b2).trans b3).trans b4).trans b5).trans b6).trans b7⟩
end Go.Proofs.YtbnihflihelimaaGreat.N

namespace Go.Proofs.YtbnihflihelimaaGreat
open Go.RowKit
theorem wd_not (x : BitVec 256) (i : Nat) (hi : i < 4) : bits .xor .u64 IntKind.u64.max (wd x i) = wd (~~~ x) i := by
  have hm : IntKind.u64.max = 18446744073709551615 := rfl
  rw [hm, u64_xor _ _ (by omega) (by omega) (wd_lo _ _) (wd_hi _ _)]
  refine wd_of_testBit _ _ _ (Int.natCast_nonneg _) fun j => ?_
  rw [Int.toNat_natCast, Nat.testBit_xor, wd_testBit, BitVec.getLsbD_not]
  have e : (18446744073709551615 : Int).toNat = 2 ^ 64 - 1 := rfl
  rw [e, Nat.testBit_two_pow_sub_one]
  by_cases h : j < 64
  · have : 64 * i + j < 256 := by omega
    simp [h, this]
  · simp [h]

set_option maxHeartbeats 2000000 in
theorem not_any (x : BitVec 256) (w : World) :
    Calls Tryz.prog 60 #[sv x] w fun e w' => e = .returned (sv (~~~ x)) ∧ Below w.heap.size w w' := by
  have hsg : IntKind.u64.signed = false := rfl
  go_enter Tryz.func60, Tryz.ntmps60
  go_wp2
  refine wp_loop_rounds 5 ?_
  iterate 5
    rw [rounds_succ]
    go_wp2
  exact bodyPost_ret (v := .agg #[.int .u64 (bits BinOp.xor IntKind.u64 IntKind.u64.max (wd x 0)), .int .u64 (bits BinOp.xor IntKind.u64 IntKind.u64.max (wd x 1)), .int .u64 (bits BinOp.xor IntKind.u64 IntKind.u64.max (wd x 2)), .int .u64 (bits BinOp.xor IntKind.u64 IntKind.u64.max (wd x 3))]) (by simp [results, Tryz.results60, go_sem]) rfl ⟨ret_sv (wd_not x 0 (by omega)) (wd_not x 1 (by omega)) (wd_not x 2 (by omega)) (wd_not x 3 (by omega)), (((Below.refl _ _).alloc (Nat.le_refl _) _).alloc (by simp) _)⟩

set_option maxHeartbeats 2000000 in
theorem union_any (x y : BitVec 256) (w : World) :
    Calls Tryz.prog 80 #[sv x, sv y] w fun e w' => e = .returned (sv (x ||| y)) ∧ Below w.heap.size w w' := by
  go_enter Tryz.func80, Tryz.ntmps80
  go_wp2
  refine wp_loop_rounds 5 ?_
  iterate 4
    rw [rounds_succ]
    go_wp2
    go_region
    go_wp2
  rw [rounds_succ]
  go_wp2
  exact bodyPost_ret (v := .agg #[.int .u64 (bits BinOp.or IntKind.u64 (wd x 0) (wd y 0)), .int .u64 (bits BinOp.or IntKind.u64 (wd x 1) (wd y 1)), .int .u64 (bits BinOp.or IntKind.u64 (wd x 2) (wd y 2)), .int .u64 (bits BinOp.or IntKind.u64 (wd x 3) (wd y 3))]) (by simp [results, Tryz.results80, go_sem]) rfl ⟨ret_sv (wd_or x y 0) (wd_or x y 1) (wd_or x y 2) (wd_or x y 3), (Below.drew (Below.drew (Below.drew (Below.drew ((((Below.refl _ _).alloc (Nat.le_refl _) _).alloc (by simp) _).alloc (by simp; omega) _)))))⟩

set_option maxHeartbeats 2000000 in
theorem meet_any (x y : BitVec 256) (w : World) :
    Calls Tryz.prog 33 #[sv x, sv y] w fun e w' => e = .returned (sv (x &&& y)) ∧ Below w.heap.size w w' := by
  go_enter Tryz.func33, Tryz.ntmps33
  go_wp2
  refine wp_loop_rounds 5 ?_
  iterate 4
    rw [rounds_succ]
    go_wp2
    go_region
    go_wp2
  rw [rounds_succ]
  go_wp2
  exact bodyPost_ret (v := .agg #[.int .u64 (bits BinOp.and IntKind.u64 (wd x 0) (wd y 0)), .int .u64 (bits BinOp.and IntKind.u64 (wd x 1) (wd y 1)), .int .u64 (bits BinOp.and IntKind.u64 (wd x 2) (wd y 2)), .int .u64 (bits BinOp.and IntKind.u64 (wd x 3) (wd y 3))]) (by simp [results, Tryz.results33, go_sem]) rfl ⟨ret_sv (wd_and x y 0) (wd_and x y 1) (wd_and x y 2) (wd_and x y 3), (Below.drew (Below.drew (Below.drew (Below.drew ((((Below.refl _ _).alloc (Nat.le_refl _) _).alloc (by simp) _).alloc (by simp; omega) _)))))⟩
end Go.Proofs.YtbnihflihelimaaGreat

namespace Go.Proofs.YtbnihflihelimaaGreat
open Go.RowKit
/-- Block b holds the set x, and may be written. -/
structure Holds (w : World) (b : Nat) (x : BitVec 256) : Prop where
  lt : b < w.heap.size
  c0 : w.cell? ⟨b, 0, none⟩ = some (.int .u64 (wd x 0))
  c1 : w.cell? ⟨b, 1, none⟩ = some (.int .u64 (wd x 1))
  c2 : w.cell? ⟨b, 2, none⟩ = some (.int .u64 (wd x 2))
  c3 : w.cell? ⟨b, 3, none⟩ = some (.int .u64 (wd x 3))
  f0 : w.frozen? ⟨b, 0, none⟩ = false
  f1 : w.frozen? ⟨b, 1, none⟩ = false
  f2 : w.frozen? ⟨b, 2, none⟩ = false
  f3 : w.frozen? ⟨b, 3, none⟩ = false

theorem Holds.below {B : Nat} {w w' : World} {b : Nat} {x : BitVec 256} (h : Holds w b x) (hb : Below B w w') (hB : b < B) : Holds w' b x :=
  ⟨Nat.lt_of_lt_of_le h.lt hb.size, (hb.cell (p := ⟨b, 0, none⟩) hB).trans h.c0, (hb.cell (p := ⟨b, 1, none⟩) hB).trans h.c1, (hb.cell (p := ⟨b, 2, none⟩) hB).trans h.c2, (hb.cell (p := ⟨b, 3, none⟩) hB).trans h.c3, (hb.frozen (p := ⟨b, 0, none⟩) hB).trans h.f0, (hb.frozen (p := ⟨b, 1, none⟩) hB).trans h.f1, (hb.frozen (p := ⟨b, 2, none⟩) hB).trans h.f2, (hb.frozen (p := ⟨b, 3, none⟩) hB).trans h.f3⟩
theorem Holds.drew {w : World} {b : Nat} {x : BitVec 256} (h : Holds w b x) : Holds w.drew b x := h.below (Below.refl w.heap.size w).drew h.lt
theorem Holds.alloc {w : World} {b : Nat} {x : BitVec 256} (h : Holds w b x) (o : Obj) : Holds (w.alloc o) b x := h.below ((Below.refl w.heap.size w).alloc (Nat.le_refl _) o) h.lt
theorem Holds.new (w : World) (x : BitVec 256) : Holds (w.alloc (.cells #[.int .u64 (wd x 0), .int .u64 (wd x 1), .int .u64 (wd x 2), .int .u64 (wd x 3)] 34)) w.heap.size x := by
  constructor <;> simp [go_sem]

theorem wd_zero (i : Nat) : wd 0#256 i = 0 := by unfold wd; simp
theorem Holds.zero (w : World) : Holds (w.alloc (.cells #[.int .u64 0, .int .u64 0, .int .u64 0, .int .u64 0] 34)) w.heap.size 0#256 := by
  have h := Holds.new w 0#256
  rw [wd_zero, wd_zero, wd_zero, wd_zero] at h
  exact h
theorem Holds.zero' (w : World) (o : Obj) : Holds ((w.alloc o).alloc (.cells #[.int .u64 0, .int .u64 0, .int .u64 0, .int .u64 0] 34)) (w.heap.size + 1) 0#256 := by
  have h := Holds.zero (w.alloc o)
  rw [show (w.alloc o).heap.size = w.heap.size + 1 from by simp] at h
  exact h

/-- The four stores of a set into block b. -/
abbrev put4 (w : World) (b : Nat) (y : BitVec 256) : World := (((w.setCell ⟨b, 0, none⟩ (.int .u64 (wd y 0))).setCell ⟨b, 1, none⟩ (.int .u64 (wd y 1))).setCell ⟨b, 2, none⟩ (.int .u64 (wd y 2))).setCell ⟨b, 3, none⟩ (.int .u64 (wd y 3))

theorem Holds.put {w : World} {b : Nat} {x : BitVec 256} (h : Holds w b x) (y : BitVec 256) : Holds (put4 w b y) b y := by
  obtain ⟨lt, c0, c1, c2, c3, f0, f1, f2, f3⟩ := h
  constructor <;> simp [go_sem, *]
theorem Holds.put_other {w : World} {b c : Nat} {x : BitVec 256} (h : Holds w c x) (hne : c ≠ b) (y : BitVec 256) : Holds (put4 w b y) c x := by
  obtain ⟨lt, c0, c1, c2, c3, f0, f1, f2, f3⟩ := h
  constructor <;> simp [go_sem, *]
end Go.Proofs.YtbnihflihelimaaGreat

namespace Go.Proofs.YtbnihflihelimaaGreat
open Go.RowKit
theorem eqW (x y : BitVec 256) : (x == y) = (wd x 0 == wd y 0 && (wd x 1 == wd y 1 && (wd x 2 == wd y 2 && wd x 3 == wd y 3))) := by
  rw [Bool.eq_iff_iff]
  simp only [Bool.and_eq_true, beq_iff_eq]
  exact ⟨fun h => by rw [h]; simp, fun ⟨a, b, c, d⟩ => set_ext x y a b c d⟩
theorem eq24w (a b c d a' b' c' d' : Int) (w : World) : (Op.equalIn 10000 34 (.agg #[.int .u64 a, .int .u64 b, .int .u64 c, .int .u64 d]) (.agg #[.int .u64 a', .int .u64 b', .int .u64 c', .int .u64 d'])).run Tryz.prog w = .ok (a == a' && (b == b' && (c == c' && d == d'))) w := by
  have u3 := Tryz.underlying32
  have a3 := Tryz.isAgg32
  have z3 := Tryz.sizeOf32
  rw [show (10000 : Nat) = 9999 + 1 from rfl, Op.equalIn]
  simp only [Sem.run_bind, run_underlying Tryz.underlying34, Result.andThen_ok]
  simp only [Std.Legacy.Range.forIn_eq_forIn_range', Std.Legacy.Range.size, Nat.sub_zero, Nat.add_sub_cancel, Nat.div_one, List.range'_succ, List.range'_zero, List.forIn_cons, List.forIn_nil]
  go_simp
  by_cases h1 : a = a' <;> by_cases h2 : b = b' <;> by_cases h3 : c = c' <;> by_cases h4 : d = d' <;> simp [h1, h2, h3, h4]
theorem eq24 (x y : BitVec 256) (w : World) : (Op.equalIn 10000 34 (.agg #[.int .u64 (wd x 0), .int .u64 (wd x 1), .int .u64 (wd x 2), .int .u64 (wd x 3)]) (.agg #[.int .u64 (wd y 0), .int .u64 (wd y 1), .int .u64 (wd y 2), .int .u64 (wd y 3)])).run Tryz.prog w = .ok (x == y) w := by
  rw [eq24w, eqW]
end Go.Proofs.YtbnihflihelimaaGreat

namespace Go.Proofs.YtbnihflihelimaaGreat.N
open Go.RowKit Go.Maps
open Go.Proofs.YtbnihflihelimaaGreat.T

open U (below_grown)
/-- What is known, as a value; in a box of its own. -/
abbrev fG (a : Fs) : Value := .agg #[.int .u64 (wd a.st 0), .int .u64 (wd a.st 1), .int .u64 (wd a.st 2), .int .u64 (wd a.st 3), .bool a.em, .bool a.hf]
structure FX (W : World) (b : Nat) (a : Fs) : Prop where
  heap : W.heap[b]? = some (.cells #[.int .u64 (wd a.st 0), .int .u64 (wd a.st 1), .int .u64 (wd a.st 2), .int .u64 (wd a.st 3), .bool a.em, .bool a.hf] 36 (0, 0))
theorem FX.lt {W : World} {b : Nat} {a : Fs} (h : FX W b a) : b < W.heap.size := (Array.getElem?_eq_some_iff.1 h.heap).1
theorem FX.same {W W' : World} {b : Nat} {a : Fs} (h : FX W b a) (hb : W'.heap[b]? = W.heap[b]?) : FX W' b a := ⟨hb.trans h.heap⟩
theorem FX.below {W W' : World} {b : Nat} {a : Fs} (h : FX W b a) (hb : Below W.heap.size W W') : FX W' b a := h.same (hb.block b h.lt)
theorem FX.c0 {W : World} {b : Nat} {a : Fs} (h : FX W b a) : W.cell? ⟨b, 0, none⟩ = some (.int .u64 (wd a.st 0)) := by rw [cell_of_row W b 0 _ 36 (0, 0) h.heap]; rfl
theorem FX.c1 {W : World} {b : Nat} {a : Fs} (h : FX W b a) : W.cell? ⟨b, 1, none⟩ = some (.int .u64 (wd a.st 1)) := by rw [cell_of_row W b 1 _ 36 (0, 0) h.heap]; rfl
theorem FX.c2 {W : World} {b : Nat} {a : Fs} (h : FX W b a) : W.cell? ⟨b, 2, none⟩ = some (.int .u64 (wd a.st 2)) := by rw [cell_of_row W b 2 _ 36 (0, 0) h.heap]; rfl
theorem FX.c3 {W : World} {b : Nat} {a : Fs} (h : FX W b a) : W.cell? ⟨b, 3, none⟩ = some (.int .u64 (wd a.st 3)) := by rw [cell_of_row W b 3 _ 36 (0, 0) h.heap]; rfl
theorem FX.c4 {W : World} {b : Nat} {a : Fs} (h : FX W b a) : W.cell? ⟨b, 4, none⟩ = some (.bool a.em) := by rw [cell_of_row W b 4 _ 36 (0, 0) h.heap]; rfl
theorem FX.c5 {W : World} {b : Nat} {a : Fs} (h : FX W b a) : W.cell? ⟨b, 5, none⟩ = some (.bool a.hf) := by rw [cell_of_row W b 5 _ 36 (0, 0) h.heap]; rfl
theorem FX.fz {W : World} {b : Nat} {a : Fs} (h : FX W b a) (j : Nat) : W.frozen? ⟨b, j, none⟩ = false := frozen_of_row W b j _ 36 h.heap
theorem FX.new (W : World) (a : Fs) : FX (W.alloc (.cells #[.int .u64 (wd a.st 0), .int .u64 (wd a.st 1), .int .u64 (wd a.st 2), .int .u64 (wd a.st 3), .bool a.em, .bool a.hf] 36)) W.heap.size a := ⟨heap_alloc_new W _⟩
set_option maxHeartbeats 2000000 in
theorem emptyS_any (x : BitVec 256) (w : World) : Calls Tryz.prog 32 #[sv x] w fun e w' => e = .returned (.bool (x == 0#256)) ∧ Below w.heap.size w w' := by
  have h := eq24 x 0#256
  rw [wd_zero, wd_zero, wd_zero, wd_zero] at h
  have HB := (show Hid (Below w.heap.size w (w.alloc (.cells #[.int .u64 (wd x 0), .int .u64 (wd x 1), .int .u64 (wd x 2), .int .u64 (wd x 3)] 34))) from (Below.refl _ _).alloc (Nat.le_refl _) _)
  go_enter Tryz.func32, Tryz.ntmps32
  go_wp2_with fail
  go_ret
  exact ⟨rfl, HB.out⟩
end Go.Proofs.YtbnihflihelimaaGreat.N

namespace Go.Proofs.YtbnihflihelimaaGreat.N
open Go.RowKit Go.Maps
open Go.Proofs.YtbnihflihelimaaGreat.T

open U (below_grown)
/-- Which kind a node is as. -/
def lkK (op nn : Int) : Int := if nn = 0 ∧ (op = 14 ∨ op = 16) then 1 else if nn = 0 ∧ op = 15 then 9 else if nn = 1 ∧ (op = 14 ∨ op = 15) then 10 else op
set_option maxRecDepth 100000 in
set_option maxHeartbeats 4000000 in
theorem like_raw (op nn : Int) (tx : ByteArray) (s0 s1 s2 s3 : Int) (w : World) : Calls Tryz.prog 81 #[.agg #[.int .i64 op, .int .i64 nn, .string tx, .int .u64 s0, .int .u64 s1, .int .u64 s2, .int .u64 s3]] w fun e w' => e = .returned (.int .i64 (lkK op nn)) ∧ Below w.heap.size w w' := by
  obtain ⟨w1, hw1⟩ : ∃ w1, w1 = w.alloc (.cells #[.int .i64 op, .int .i64 nn, .string tx, .int .u64 s0, .int .u64 s1, .int .u64 s2, .int .u64 s3] 70) := ⟨_, rfl⟩
  have HE := (show Hid (w.alloc (.cells #[.int .i64 op, .int .i64 nn, .string tx, .int .u64 s0, .int .u64 s1, .int .u64 s2, .int .u64 s3] 70) = w1) from hw1.symm)
  have HB := (show Hid (Below w.heap.size w w1) from by rw [hw1]; exact below_box w _)
  have HX := (show Hid (NX w1 w.heap.size ⟨op, nn, tx, s0, s1, s2, s3⟩) from by rw [hw1]; exact ⟨heap_alloc_new w _⟩)
  have c0 : w1.cell? ⟨w.heap.size, 0, none⟩ = some (.int .i64 op) := HX.out.nb.c0
  have c1 : w1.cell? ⟨w.heap.size, 1, none⟩ = some (.int .i64 nn) := HX.out.nb.c1
  clear hw1 HX
  have key : ∀ v : Int, lkK op nn = v → (Ending.returned (.int .i64 v) = Ending.returned (.int .i64 (lkK op nn))) := fun v h => by rw [h]
  by_cases h0 : nn = 0
  · subst h0
    by_cases a : op = 14
    · subst a
      go_enter Tryz.func81, Tryz.ntmps81
      go_wp2_with (rw [HE.out])
      go_ret
      exact ⟨rfl, HB.out⟩
    by_cases b : op = 16
    · subst b
      go_enter Tryz.func81, Tryz.ntmps81
      go_wp2_with (rw [HE.out])
      go_ret
      exact ⟨rfl, HB.out⟩
    by_cases c : op = 15
    · subst c
      go_enter Tryz.func81, Tryz.ntmps81
      go_wp2_with (rw [HE.out])
      go_ret
      exact ⟨rfl, HB.out⟩
    · have hv : lkK op 0 = op := by unfold lkK; rw [if_neg (by omega), if_neg (by omega), if_neg (by omega)]
      have t1 : (op == 14) = false := by rw [beq_eq_false_iff_ne]; exact a
      have t2 : (op == 16) = false := by rw [beq_eq_false_iff_ne]; exact b
      have t3 : (op == 15) = false := by rw [beq_eq_false_iff_ne]; exact c
      rw [hv]
      clear hv key
      go_enter Tryz.func81, Tryz.ntmps81
      go_wp2_with (rw [HE.out])
      go_ret
      exact ⟨rfl, HB.out⟩
  · have n0 : (nn == 0) = false := by rw [beq_eq_false_iff_ne]; exact h0
    by_cases h1 : nn = 1
    · subst h1
      by_cases a : op = 14
      · subst a
        go_enter Tryz.func81, Tryz.ntmps81
        go_wp2_with (rw [HE.out])
        go_ret
        exact ⟨rfl, HB.out⟩
      by_cases c : op = 15
      · subst c
        go_enter Tryz.func81, Tryz.ntmps81
        go_wp2_with (rw [HE.out])
        go_ret
        exact ⟨rfl, HB.out⟩
      · have hv : lkK op 1 = op := by unfold lkK; rw [if_neg (by omega), if_neg (by omega), if_neg (by omega)]
        have t1 : (op == 14) = false := by rw [beq_eq_false_iff_ne]; exact a
        have t3 : (op == 15) = false := by rw [beq_eq_false_iff_ne]; exact c
        rw [hv]
        clear hv key
        go_enter Tryz.func81, Tryz.ntmps81
        go_wp2_with (rw [HE.out])
        go_ret
        exact ⟨rfl, HB.out⟩
    · have n1 : (nn == 1) = false := by rw [beq_eq_false_iff_ne]; exact h1
      have hv : lkK op nn = op := by unfold lkK; rw [if_neg (by omega), if_neg (by omega), if_neg (by omega)]
      rw [hv]
      clear hv key
      go_enter Tryz.func81, Tryz.ntmps81
      go_wp2_with (rw [HE.out])
      go_ret
      exact ⟨rfl, HB.out⟩
theorem like_any (n : Nd) (w : World) : Calls Tryz.prog 81 #[ndG n] w fun e w' => e = .returned (.int .i64 (lkK n.op n.nn)) ∧ Below w.heap.size w w' := like_raw n.op n.nn n.tx n.s0 n.s1 n.s2 n.s3 w
end Go.Proofs.YtbnihflihelimaaGreat.N

namespace Go.Proofs.YtbnihflihelimaaGreat.N
open Go.RowKit Go.Maps
open Go.Proofs.YtbnihflihelimaaGreat.T

open U (below_grown)
set_option maxHeartbeats 2000000 in
theorem apartS_any (x y : BitVec 256) (w : World) : Calls Tryz.prog 20 #[sv x, sv y] w fun e w' => e = .returned (.bool ((x &&& y) == 0#256)) ∧ Below w.heap.size w w' := by
  obtain ⟨w1, hw1⟩ : ∃ w1, w1 = (w.alloc (.cells #[.int .u64 (wd x 0), .int .u64 (wd x 1), .int .u64 (wd x 2), .int .u64 (wd x 3)] 34)).alloc (.cells #[.int .u64 (wd y 0), .int .u64 (wd y 1), .int .u64 (wd y 2), .int .u64 (wd y 3)] 34) := ⟨_, rfl⟩
  have HB := (show Hid (Below w.heap.size w w1) from by rw [hw1]; exact ((Below.refl _ _).alloc (Nat.le_refl _) _).alloc (by simp) _)
  clear hw1
  have HM := (show Hid (∀ W, Calls Tryz.prog 33 #[sv x, sv y] W fun e w' => e = .returned (sv (x &&& y)) ∧ Below W.heap.size W w') from fun W => meet_any x y W)
  have HZ := (show Hid (∀ W, Calls Tryz.prog 32 #[sv (x &&& y)] W fun e w' => e = .returned (.bool ((x &&& y) == 0#256)) ∧ Below W.heap.size W w') from fun W => emptyS_any _ W)
  go_enter Tryz.func20, Tryz.ntmps20
  go_wp2_with fail
  refine (HM.out _).mono ?_
  rintro e w2 ⟨rfl, b2⟩
  have HB2 := (show Hid (Below w.heap.size w w2) from (((Below.refl _ _).alloc (Nat.le_refl _) _).alloc (by simp) _).trans (b2.mono (by simp; omega)))
  clear b2 HM
  go_wp2_with fail
  refine (HZ.out _).mono ?_
  rintro e w3 ⟨rfl, b3⟩
  have HF := (show Hid (Below w.heap.size w w3) from HB2.out.trans (b3.mono HB2.out.size))
  clear b3 HZ
  go_wp2_with fail
  go_ret
  exact ⟨rfl, HF.out⟩
/-- Does the next byte decide a choice of both? -/
def dcF (x y : Fs) : Bool := !x.em && (x.hf || (!y.em && ((x.st &&& y.st) == 0#256)))
set_option maxRecDepth 100000 in
set_option maxHeartbeats 4000000 in
theorem decided_any (x y : Fs) (w : World) : Calls Tryz.prog 29 #[fG x, fG y] w fun e w' => e = .returned (.bool (dcF x y)) ∧ Below w.heap.size w w' := by
  obtain ⟨w1, hw1⟩ : ∃ w1, w1 = (w.alloc (.cells #[.int .u64 (wd x.st 0), .int .u64 (wd x.st 1), .int .u64 (wd x.st 2), .int .u64 (wd x.st 3), .bool x.em, .bool x.hf] 36)).alloc (.cells #[.int .u64 (wd y.st 0), .int .u64 (wd y.st 1), .int .u64 (wd y.st 2), .int .u64 (wd y.st 3), .bool y.em, .bool y.hf] 36) := ⟨_, rfl⟩
  have HE := (show Hid ((w.alloc (.cells #[.int .u64 (wd x.st 0), .int .u64 (wd x.st 1), .int .u64 (wd x.st 2), .int .u64 (wd x.st 3), .bool x.em, .bool x.hf] 36)).alloc (.cells #[.int .u64 (wd y.st 0), .int .u64 (wd y.st 1), .int .u64 (wd y.st 2), .int .u64 (wd y.st 3), .bool y.em, .bool y.hf] 36) = w1) from hw1.symm)
  have HB := (show Hid (Below w.heap.size w w1) from by rw [hw1]; exact ((Below.refl _ _).alloc (Nat.le_refl _) _).alloc (by simp) _)
  have hx : FX w1 w.heap.size x := by rw [hw1]; exact (FX.new w x).below (below_box _ _)
  have hy : FX w1 (w.heap.size + 1) y := by
    have h := FX.new (w.alloc (.cells #[.int .u64 (wd x.st 0), .int .u64 (wd x.st 1), .int .u64 (wd x.st 2), .int .u64 (wd x.st 3), .bool x.em, .bool x.hf] 36)) y
    rw [World.size_alloc] at h
    rw [hw1]
    exact h
  have HA := (show Hid (∀ W, Calls Tryz.prog 20 #[sv x.st, sv y.st] W fun e w' => e = .returned (.bool ((x.st &&& y.st) == 0#256)) ∧ Below W.heap.size W w') from fun W => apartS_any _ _ W)
  have x0 := hx.c0
  have x1 := hx.c1
  have x2 := hx.c2
  have x3 := hx.c3
  have x4 := hx.c4
  have x5 := hx.c5
  have y0 := hy.c0
  have y1 := hy.c1
  have y2 := hy.c2
  have y3 := hy.c3
  have y4 := hy.c4
  clear hw1 hx hy
  obtain ⟨xs, xe, xh⟩ := x
  obtain ⟨ys, ye, yh⟩ := y
  simp only at *
  cases xe with
  | true =>
    go_enter Tryz.func29, Tryz.ntmps29
    go_wp2_with (rw [HE.out])
    go_ret
    exact ⟨rfl, HB.out⟩
  | false =>
    cases xh with
    | true =>
      go_enter Tryz.func29, Tryz.ntmps29
      go_wp2_with (rw [HE.out])
      go_ret
      exact ⟨rfl, HB.out⟩
    | false =>
      cases ye with
      | true =>
        go_enter Tryz.func29, Tryz.ntmps29
        go_wp2_with (rw [HE.out])
        go_ret
        exact ⟨rfl, HB.out⟩
      | false =>
        go_enter Tryz.func29, Tryz.ntmps29
        go_wp2_with (rw [HE.out])
        refine (HA.out _).mono ?_
        rintro e w3 ⟨rfl, b3⟩
        have HF := (show Hid (Below w.heap.size w w3) from HB.out.trans (b3.mono HB.out.size))
        clear b3 HA
        go_wp2_with fail
        go_ret
        exact ⟨rfl, HF.out⟩
end Go.Proofs.YtbnihflihelimaaGreat.N

namespace Go.Proofs.YtbnihflihelimaaGreat.N
open Go.RowKit Go.Maps
open Go.Proofs.YtbnihflihelimaaGreat.T

open U (below_grown)
/-- What is known is written. -/
def sF (W : World) (b : Nat) (a : Fs) : World := (((((W.setCell ⟨b, 0, none⟩ (.int .u64 (wd a.st 0))).setCell ⟨b, 1, none⟩ (.int .u64 (wd a.st 1))).setCell ⟨b, 2, none⟩ (.int .u64 (wd a.st 2))).setCell ⟨b, 3, none⟩ (.int .u64 (wd a.st 3))).setCell ⟨b, 4, none⟩ (.bool a.em)).setCell ⟨b, 5, none⟩ (.bool a.hf)
theorem sF_other (W : World) (b : Nat) (a : Fs) {j : Nat} (h : j ≠ b) : (sF W b a).heap[j]? = W.heap[j]? := by
  unfold sF
  exact (((((heap_setCell_other _ ⟨b, _, none⟩ j _ h).trans (heap_setCell_other _ ⟨b, _, none⟩ j _ h)).trans (heap_setCell_other _ ⟨b, _, none⟩ j _ h)).trans (heap_setCell_other _ ⟨b, _, none⟩ j _ h)).trans (heap_setCell_other _ ⟨b, _, none⟩ j _ h)).trans (heap_setCell_other _ ⟨b, _, none⟩ j _ h)
theorem sF_below {B : Nat} {W0 W : World} (b : Nat) (a : Fs) (h : Below B W0 W) (hb : B ≤ b) : Below B W0 (sF W b a) := by
  unfold sF
  exact (((((h.setCell (p := ⟨b, 0, none⟩) hb _).setCell (p := ⟨b, 1, none⟩) hb _).setCell (p := ⟨b, 2, none⟩) hb _).setCell (p := ⟨b, 3, none⟩) hb _).setCell (p := ⟨b, 4, none⟩) hb _).setCell (p := ⟨b, 5, none⟩) hb _
theorem sF_fx {W : World} {b : Nat} {x : Fs} (h : FX W b x) (a : Fs) : FX (sF W b a) b a := by
  have e0 := heap_setCell_same W b 0 _ 36 (.int .u64 (wd a.st 0)) h.heap
  have e1 := heap_setCell_same _ b 1 _ 36 (.int .u64 (wd a.st 1)) e0
  have e2 := heap_setCell_same _ b 2 _ 36 (.int .u64 (wd a.st 2)) e1
  have e3 := heap_setCell_same _ b 3 _ 36 (.int .u64 (wd a.st 3)) e2
  have e4 := heap_setCell_same _ b 4 _ 36 (.bool a.em) e3
  have e5 := heap_setCell_same _ b 5 _ 36 (.bool a.hf) e4
  exact ⟨by unfold sF; rw [e5]; rfl⟩
theorem ret_f {fn : Func} {R : Ending → World → Prop} {act : Act} {W : World} {k b : Nat} {a : Fs} (hF : fn.results = #[.cell k 36]) (hd : act.defers = []) (h2 : act.tmps.getD k undef = .pointer (some ⟨b, 0, none⟩)) (hT : FX W b a) (hR : R (.returned (fG a)) W) : bodyPost Tryz.prog fn R .ret act W := by
  have c0 := hT.c0
  have c1 := hT.c1
  have c2 := hT.c2
  have c3 := hT.c3
  have c4 := hT.c4
  have c5 := hT.c5
  refine bodyPost_ret (v := fG a) ?_ hd hR
  simp only [Array.getD_eq_getD_getElem?] at h2
  simp [results, hF, go_sem, h2, c0, c1, c2, c3, c4, c5]
/-- The table's rows of nodes with one part. -/
def abF (v : Int) (x : Fs) : Fs := if v = 1 ∨ v = 13 then ⟨0#256, true, false⟩ else if v = 9 ∨ v = 11 ∨ v = 16 then ⟨x.st, true, false⟩ else if v = 14 ∨ v = 15 then ⟨x.st, x.em, false⟩ else x
theorem faN_ab {n : Nd} {se : BitVec 256} {x y : Fs} {cf : Bool} {r : ByteArray → Fs} (h : 9 ≤ n.op ∧ n.op ≠ 17) : faN n se x y cf r = abF (lkK n.op n.nn) x := by
  obtain ⟨h9, h17⟩ := h
  unfold faN
  rw [if_neg (by omega), if_neg (by omega), if_neg (by omega), if_neg (by omega), if_neg (by omega), if_neg (by omega), if_neg (by omega), if_neg (by omega)]
  unfold lkK
  by_cases a : n.op = 13 ∨ ((n.op = 14 ∨ n.op = 16) ∧ n.nn = 0)
  · rw [if_pos a]
    by_cases e : n.op = 13
    · rw [if_neg (by omega), if_neg (by omega), if_neg (by omega)]
      unfold abF
      rw [if_pos (by omega)]
    · rw [if_pos (by omega)]
      rfl
  rw [if_neg a]
  by_cases b : n.op = 9 ∨ n.op = 11 ∨ n.op = 16 ∨ (n.op = 15 ∧ n.nn = 0)
  · rw [if_pos b, if_neg (by omega)]
    by_cases e : n.nn = 0 ∧ n.op = 15
    · rw [if_pos e]
      rfl
    · rw [if_neg e, if_neg (by omega)]
      unfold abF
      rw [if_neg (by omega), if_pos (by omega)]
  rw [if_neg b]
  by_cases c : (n.op = 14 ∨ n.op = 15) ∧ ¬ n.nn = 1
  · rw [if_pos c, if_neg (by omega), if_neg (by omega), if_neg (by omega)]
    unfold abF
    rw [if_neg (by omega), if_neg (by omega), if_pos (by omega)]
  rw [if_neg c, if_neg (by omega), if_neg (by omega)]
  by_cases e : n.nn = 1 ∧ (n.op = 14 ∨ n.op = 15)
  · rw [if_pos e]
    rfl
  · rw [if_neg e]
    unfold abF
    rw [if_neg (by omega), if_neg (by omega), if_neg (by omega)]
theorem nx_later {W W' : World} {b : Nat} {n : Nd} (h : NX W b n) (hb : Below W.heap.size W W') : NX W' b n := h.same (hb.block b (Array.getElem?_eq_some_iff.1 h.heap).1)
end Go.Proofs.YtbnihflihelimaaGreat.N

namespace Go.Proofs.YtbnihflihelimaaGreat.N
open Go.RowKit Go.Maps
open Go.Proofs.YtbnihflihelimaaGreat.T

open U (below_grown)
/-- A part: what is known of it, and whether it can fail. -/
abbrev qG (a : Fs) (c : Bool) : Value := .agg #[.int .u64 (wd a.st 0), .int .u64 (wd a.st 1), .int .u64 (wd a.st 2), .int .u64 (wd a.st 3), .bool a.em, .bool a.hf, .bool c]
structure QX (W : World) (b : Nat) (a : Fs) (c : Bool) : Prop where
  heap : W.heap[b]? = some (.cells #[.int .u64 (wd a.st 0), .int .u64 (wd a.st 1), .int .u64 (wd a.st 2), .int .u64 (wd a.st 3), .bool a.em, .bool a.hf, .bool c] 96 (0, 0))
theorem QX.lt {W : World} {b : Nat} {a : Fs} {c : Bool} (h : QX W b a c) : b < W.heap.size := (Array.getElem?_eq_some_iff.1 h.heap).1
theorem QX.same {W W' : World} {b : Nat} {a : Fs} {c : Bool} (h : QX W b a c) (hb : W'.heap[b]? = W.heap[b]?) : QX W' b a c := ⟨hb.trans h.heap⟩
theorem QX.below {W W' : World} {b : Nat} {a : Fs} {c : Bool} (h : QX W b a c) (hb : Below W.heap.size W W') : QX W' b a c := h.same (hb.block b h.lt)
theorem QX.c0 {W : World} {b : Nat} {a : Fs} {c : Bool} (h : QX W b a c) : W.cell? ⟨b, 0, none⟩ = some (.int .u64 (wd a.st 0)) := by rw [cell_of_row W b 0 _ 96 (0, 0) h.heap]; rfl
theorem QX.c1 {W : World} {b : Nat} {a : Fs} {c : Bool} (h : QX W b a c) : W.cell? ⟨b, 1, none⟩ = some (.int .u64 (wd a.st 1)) := by rw [cell_of_row W b 1 _ 96 (0, 0) h.heap]; rfl
theorem QX.c2 {W : World} {b : Nat} {a : Fs} {c : Bool} (h : QX W b a c) : W.cell? ⟨b, 2, none⟩ = some (.int .u64 (wd a.st 2)) := by rw [cell_of_row W b 2 _ 96 (0, 0) h.heap]; rfl
theorem QX.c3 {W : World} {b : Nat} {a : Fs} {c : Bool} (h : QX W b a c) : W.cell? ⟨b, 3, none⟩ = some (.int .u64 (wd a.st 3)) := by rw [cell_of_row W b 3 _ 96 (0, 0) h.heap]; rfl
theorem QX.c4 {W : World} {b : Nat} {a : Fs} {c : Bool} (h : QX W b a c) : W.cell? ⟨b, 4, none⟩ = some (.bool a.em) := by rw [cell_of_row W b 4 _ 96 (0, 0) h.heap]; rfl
theorem QX.c5 {W : World} {b : Nat} {a : Fs} {c : Bool} (h : QX W b a c) : W.cell? ⟨b, 5, none⟩ = some (.bool a.hf) := by rw [cell_of_row W b 5 _ 96 (0, 0) h.heap]; rfl
theorem QX.c6 {W : World} {b : Nat} {a : Fs} {c : Bool} (h : QX W b a c) : W.cell? ⟨b, 6, none⟩ = some (.bool c) := by rw [cell_of_row W b 6 _ 96 (0, 0) h.heap]; rfl
/-- Boxes of two parts, and of the answer. -/
structure SqS (w wr : World) (x y : Fs) (cx cy : Bool) (z : Fs) : Prop where
  b : Below w.heap.size w wr
  x : QX wr w.heap.size x cx
  y : QX wr (w.heap.size + 1) y cy
  z : FX wr (w.heap.size + 2) z
theorem SqS.later {w wr w2 : World} {x y z : Fs} {cx cy : Bool} (h : SqS w wr x y cx cy z) (hb : Below wr.heap.size wr w2) : SqS w w2 x y cx cy z := ⟨h.b.trans (hb.mono h.b.size), h.x.below hb, h.y.below hb, h.z.below hb⟩
theorem SqS.new (w : World) (x y : Fs) (cx cy : Bool) : SqS w (((w.alloc (.cells #[.int .u64 (wd x.st 0), .int .u64 (wd x.st 1), .int .u64 (wd x.st 2), .int .u64 (wd x.st 3), .bool x.em, .bool x.hf, .bool cx] 96)).alloc (.cells #[.int .u64 (wd y.st 0), .int .u64 (wd y.st 1), .int .u64 (wd y.st 2), .int .u64 (wd y.st 3), .bool y.em, .bool y.hf, .bool cy] 96)).alloc (.cells #[.int .u64 0, .int .u64 0, .int .u64 0, .int .u64 0, .bool false, .bool false] 36)) x y cx cy f0 := by
  have e1 := World.size_alloc w (.cells #[.int .u64 (wd x.st 0), .int .u64 (wd x.st 1), .int .u64 (wd x.st 2), .int .u64 (wd x.st 3), .bool x.em, .bool x.hf, .bool cx] 96)
  have e2 := World.size_alloc (w.alloc (.cells #[.int .u64 (wd x.st 0), .int .u64 (wd x.st 1), .int .u64 (wd x.st 2), .int .u64 (wd x.st 3), .bool x.em, .bool x.hf, .bool cx] 96)) (.cells #[.int .u64 (wd y.st 0), .int .u64 (wd y.st 1), .int .u64 (wd y.st 2), .int .u64 (wd y.st 3), .bool y.em, .bool y.hf, .bool cy] 96)
  have hz := FX.new ((w.alloc (.cells #[.int .u64 (wd x.st 0), .int .u64 (wd x.st 1), .int .u64 (wd x.st 2), .int .u64 (wd x.st 3), .bool x.em, .bool x.hf, .bool cx] 96)).alloc (.cells #[.int .u64 (wd y.st 0), .int .u64 (wd y.st 1), .int .u64 (wd y.st 2), .int .u64 (wd y.st 3), .bool y.em, .bool y.hf, .bool cy] 96)) f0
  have z0 : ∀ i, wd f0.st i = 0 := fun i => wd_zero i
  rw [z0, z0, z0, z0] at hz
  have hx : QX (w.alloc (.cells #[.int .u64 (wd x.st 0), .int .u64 (wd x.st 1), .int .u64 (wd x.st 2), .int .u64 (wd x.st 3), .bool x.em, .bool x.hf, .bool cx] 96)) w.heap.size x cx := ⟨heap_alloc_new w _⟩
  have hy : QX ((w.alloc (.cells #[.int .u64 (wd x.st 0), .int .u64 (wd x.st 1), .int .u64 (wd x.st 2), .int .u64 (wd x.st 3), .bool x.em, .bool x.hf, .bool cx] 96)).alloc (.cells #[.int .u64 (wd y.st 0), .int .u64 (wd y.st 1), .int .u64 (wd y.st 2), .int .u64 (wd y.st 3), .bool y.em, .bool y.hf, .bool cy] 96)) (w.alloc (.cells #[.int .u64 (wd x.st 0), .int .u64 (wd x.st 1), .int .u64 (wd x.st 2), .int .u64 (wd x.st 3), .bool x.em, .bool x.hf, .bool cx] 96)).heap.size y cy := ⟨heap_alloc_new _ _⟩
  refine ⟨((below_box w _).trans ((below_box _ _).mono (by omega))).trans ((below_box _ _).mono (by omega)), (hx.below (below_box _ _)).below (below_box _ _), ?_, ?_⟩
  · rw [e1] at hy
    exact hy.below (below_box _ _)
  · rw [e2, e1] at hz
    exact hz
/-- One behind the other; one or the other. -/
def sqF (x y : Fs) (c : Bool) : Fs := ⟨if x.em then x.st ||| y.st else x.st, x.em && y.em, x.hf && !c⟩
def chF (x y : Fs) : Fs := ⟨x.st ||| y.st, x.em || y.em, x.hf && y.hf⟩
end Go.Proofs.YtbnihflihelimaaGreat.N
