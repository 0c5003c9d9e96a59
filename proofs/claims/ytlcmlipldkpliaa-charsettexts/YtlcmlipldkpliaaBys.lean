/- Plain: the bytes of a set, rising, as a list and as a text; how many they are. -/
import Derived.Test.YtlcmlipldkpliaaPop
import Derived.Test.YtlcmlipldkpliaaHasA
namespace Go.Proofs.Ytlcmlipldkpliaa
open Go.RowKit

/-- The bytes of x below k, rising. -/
def bysTo (x : BitVec 256) : Nat → List Int
  | 0 => []
  | n + 1 => if x.getLsbD n then bysTo x n ++ [(n : Int)] else bysTo x n
abbrev bys (x : BitVec 256) : List Int := bysTo x 256
/-- A list of numbers as a text. -/
def asText (l : List Int) : ByteArray := l.foldl (fun r n => r.push (UInt8.ofNat n.toNat)) ByteArray.empty
def cnt (x : BitVec 256) : Nat := cntTo x.getLsbD 256

theorem bysTo_succ (x : BitVec 256) (n : Nat) : bysTo x (n + 1) = if x.getLsbD n then bysTo x n ++ [(n : Int)] else bysTo x n := rfl
theorem bysTo_len (x : BitVec 256) (k : Nat) : (bysTo x k).length = cntTo x.getLsbD k := by
  induction k with
  | zero => rfl
  | succ n ih =>
    rw [bysTo_succ, cntTo_succ]
    cases h : x.getLsbD n <;> simp [ih]
theorem bys_len (x : BitVec 256) : (bys x).length = cnt x := bysTo_len x 256
theorem cnt_le (x : BitVec 256) : cnt x ≤ 256 := cntTo_le _ _
theorem bysTo_mem (x : BitVec 256) (k : Nat) (b : Int) : b ∈ bysTo x k ↔ 0 ≤ b ∧ b < k ∧ x.getLsbD b.toNat = true := by
  induction k with
  | zero => simp [bysTo]; omega
  | succ n ih =>
    rw [bysTo_succ]
    cases h : x.getLsbD n
    · simp only [Bool.false_eq_true, if_false, ih]
      constructor
      · rintro ⟨a, b1, c⟩; exact ⟨a, by omega, c⟩
      · rintro ⟨a, b1, c⟩
        refine ⟨a, ?_, c⟩
        have : b ≠ n := fun e => by rw [e, Int.toNat_natCast, h] at c; cases c
        omega
    · simp only [if_true, List.mem_append, ih, List.mem_singleton]
      constructor
      · rintro (⟨a, b1, c⟩ | e)
        · exact ⟨a, by omega, c⟩
        · subst e; exact ⟨by omega, by omega, by rw [Int.toNat_natCast]; exact h⟩
      · rintro ⟨a, b1, c⟩
        by_cases e : b = n
        · exact .inr e
        · exact .inl ⟨a, by omega, c⟩
theorem bysTo_bd (x : BitVec 256) (k : Nat) (b : Int) (h : b ∈ bysTo x k) : 0 ≤ b ∧ b < k := ⟨((bysTo_mem x k b).1 h).1, ((bysTo_mem x k b).1 h).2.1⟩

theorem asText_push (l : List Int) (b : Int) : asText (l ++ [b]) = (asText l).push (UInt8.ofNat b.toNat) := by
  unfold asText; rw [List.foldl_append]; rfl
theorem asText_data (l : List Int) : (asText l).data.toList = l.map (fun n => UInt8.ofNat n.toNat) := by
  have key : ∀ (l : List Int) (s : ByteArray), (l.foldl (fun r n => r.push (UInt8.ofNat n.toNat)) s).data.toList = s.data.toList ++ l.map (fun n => UInt8.ofNat n.toNat) := by
    intro l
    induction l with
    | nil => intro s; simp
    | cons b l ih => intro s; rw [List.foldl_cons, ih]; simp [ByteArray.push]
  have := key l ByteArray.empty
  simpa [asText] using this
theorem asText_size (l : List Int) : (asText l).size = l.length := by
  have h := congrArg List.length (asText_data l)
  simpa using h
theorem asText_get (l : List Int) (i : Nat) (h : i < (asText l).size) (hl : ∀ b ∈ l, 0 ≤ b ∧ b < 256) : ((asText l)[i].toNat : Int) = l[i]'(by rw [asText_size] at h; exact h) := by
  have hi : i < l.length := by rw [asText_size] at h; exact h
  have e : (asText l)[i] = UInt8.ofNat (l[i]).toNat := by
    have h2 : (asText l)[i] = (asText l).data.toList[i]'(by simpa using h) := rfl
    rw [h2]
    simp only [asText_data, List.getElem_map]
  have hb := hl _ (List.getElem_mem hi)
  rw [e, UInt8.toNat_ofNat']
  omega

theorem cnt_words (x : BitVec 256) : cnt x = pop64 (wd x 0).toNat + pop64 (wd x 1).toNat + pop64 (wd x 2).toNat + pop64 (wd x 3).toNat := by
  have key : ∀ i, i < 4 → pop64 (wd x i).toNat = cntTo (fun j => x.getLsbD (64 * i + j)) 64 := fun i hi => by
    rw [pop64_eq _ (by have := wd_hi x i; have := wd_lo x i; omega)]
    exact cntTo_congr _ _ _ fun j hj => by rw [wd_testBit]; simp [hj]
  rw [key 0 (by omega), key 1 (by omega), key 2 (by omega), key 3 (by omega)]
  have key2 : ∀ f : Nat → Bool, cntTo f 256 = cntTo f (64 + (64 + (64 + 64))) := fun _ => rfl
  unfold cnt
  rw [key2, cntTo_add, cntTo_add, cntTo_add]
  simp only [Nat.mul_zero, Nat.zero_add, Nat.mul_one, ← Nat.add_assoc, Nat.reduceMul, Nat.reduceAdd]

end Go.Proofs.Ytlcmlipldkpliaa
