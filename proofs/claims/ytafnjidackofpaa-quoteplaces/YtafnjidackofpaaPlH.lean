/- Plain: lines; the spots of a line. -/
import Derived.Test.YtafnjidackofpaaPlG
import Derived.Test.YtafnjidackofpaaPlF
namespace Go.Proofs.Ytafnjidackofpaa
open Go.RowKit

/-- The line and the column behind the byte at a place. -/
def lnN (s : ByteArray) (p l : Nat) : Nat := if chr s p = 10 then l + 1 else l
def coN (s : ByteArray) (p c : Nat) : Nat := if chr s p = 10 then 1 else c + 1
theorem spF_next {s : ByteArray} {f p l c : Nat} (h : p < s.size) : spF s (f + 1) p l c = (p, l, c) :: spF s f (p + chW s p) (lnN s p l) (coN s p c) := by
  rw [spF_step h, dec_w s p h]
  have ht := dec_ten s p h
  unfold lnB coB lnN coN
  simp only [ht]
theorem spF_same {s : ByteArray} {f g p l c : Nat} (hf : s.size ≤ f + p) (hg : s.size ≤ g + p) : spF s f p l c = spF s g p l c := by
  induction f generalizing g p l c with
  | zero => rw [spF_end (by omega), spF_end (by omega)]
  | succ f ih =>
    by_cases h : p < s.size
    · obtain ⟨g', rfl⟩ : ∃ g', g = g' + 1 := ⟨g - 1, by omega⟩
      have := chW_bd s p
      rw [spF_next h, spF_next h, ih (g := g') (by omega) (by omega)]
    · rw [spF_end h, spF_end h]
/-- The spots from a place on. -/
def spC (s : ByteArray) (p l c : Nat) : List Spot := spF s (s.size + 1) p l c
theorem spC_next {s : ByteArray} {p l c : Nat} (h : p < s.size) : spC s p l c = (p, l, c) :: spC s (p + chW s p) (lnN s p l) (coN s p c) := by
  unfold spC
  rw [spF_next h, spF_same (f := s.size) (g := s.size + 1) (by omega) (by omega)]
theorem spC_end {s : ByteArray} {p l c : Nat} (h : ¬ p < s.size) : spC s p l c = [(s.size, l, c)] := spF_end h
theorem spC_head {s : ByteArray} {p l c : Nat} (h : p ≤ s.size) : ∃ r, spC s p l c = (p, l, c) :: r := by
  by_cases q : p < s.size
  · exact ⟨_, spC_next q⟩
  · exact ⟨[], by rw [spC_end q, show p = s.size from by omega]⟩
theorem spots_eq (s : ByteArray) : spots s = spC s 0 1 1 := rfl

/-- Where the line ends that a place is in, sought so many bytes on. -/
def lnF (s : ByteArray) : Nat → Nat → Nat
  | 0, p => p
  | f + 1, p => if p < s.size ∧ chr s p ≠ 10 then lnF s f (p + 1) else p
/-- Where the line ends that a place is in. -/
def lnE (s : ByteArray) (p : Nat) : Nat := lnF s (s.size - p) p
theorem lnE_go {s : ByteArray} {p : Nat} (h : p < s.size) (h2 : chr s p ≠ 10) : lnE s p = lnE s (p + 1) := by
  unfold lnE
  rw [show s.size - p = s.size - (p + 1) + 1 from by omega, lnF, if_pos ⟨h, h2⟩]
theorem lnE_here {s : ByteArray} {p : Nat} (h : ¬ (p < s.size ∧ chr s p ≠ 10)) : lnE s p = p := by
  unfold lnE
  cases s.size - p with
  | zero => rfl
  | succ f => rw [lnF, if_neg h]
theorem lnE_all (s : ByteArray) (d p : Nat) (hd : s.size - p = d) (hp : p ≤ s.size) : p ≤ lnE s p ∧ lnE s p ≤ s.size ∧ (lnE s p < s.size → chr s (lnE s p) = 10) ∧ (∀ k, p ≤ k → k < lnE s p → chr s k ≠ 10) ∧ (∀ q, p ≤ q → q ≤ lnE s p → lnE s q = lnE s p) := by
  induction d generalizing p with
  | zero =>
    rw [lnE_here (by omega)]
    exact ⟨Nat.le_refl _, hp, fun h => by omega, fun k a b => by omega, fun q a b => by rw [show q = p from by omega, lnE_here (by omega)]⟩
  | succ d ih =>
    by_cases h : chr s p = 10
    · rw [lnE_here (fun q => q.2 h)]
      exact ⟨Nat.le_refl _, hp, fun _ => h, fun k a b => by omega, fun q a b => by rw [show q = p from by omega, lnE_here (fun q => q.2 h)]⟩
    · have hlt : p < s.size := by omega
      obtain ⟨i1, i2, i3, i4, i5⟩ := ih (p + 1) (by omega) (by omega)
      rw [lnE_go hlt h]
      refine ⟨by omega, i2, i3, fun k a b => ?_, fun q a b => ?_⟩
      · by_cases e : k = p
        · rw [e]; exact h
        · exact i4 k (by omega) b
      · by_cases e : q = p
        · rw [e, lnE_go hlt h]
        · exact i5 q (by omega) b
theorem lnE_ge {s : ByteArray} {p : Nat} (hp : p ≤ s.size) : p ≤ lnE s p := (lnE_all s _ p rfl hp).1
theorem lnE_le {s : ByteArray} {p : Nat} (hp : p ≤ s.size) : lnE s p ≤ s.size := (lnE_all s _ p rfl hp).2.1
theorem lnE_ten {s : ByteArray} {p : Nat} (hp : p ≤ s.size) (h : lnE s p < s.size) : chr s (lnE s p) = 10 := (lnE_all s _ p rfl hp).2.2.1 h
theorem lnE_in {s : ByteArray} {p k : Nat} (hp : p ≤ s.size) (h1 : p ≤ k) (h2 : k < lnE s p) : chr s k ≠ 10 := (lnE_all s _ p rfl hp).2.2.2.1 k h1 h2
theorem lnE_mid {s : ByteArray} {p q : Nat} (hp : p ≤ s.size) (h1 : p ≤ q) (h2 : q ≤ lnE s p) : lnE s q = lnE s p := (lnE_all s _ p rfl hp).2.2.2.2 q h1 h2
theorem lnE_step {s : ByteArray} {p : Nat} (hp : p ≤ s.size) (h : p < lnE s p) : p < s.size ∧ p + chW s p ≤ lnE s p ∧ chr s p ≠ 10 := by
  have hle := lnE_le hp
  have hlt : p < s.size := by omega
  refine ⟨hlt, ?_, lnE_in hp (Nat.le_refl _) h⟩
  have h1 := chW_le hlt
  by_cases q : lnE s p < p + chW s p
  · have h2 := chW_tail h q
    by_cases e : lnE s p < s.size
    · have := lnE_ten hp e; omega
    · omega
  · omega
/-- Within a line. -/
theorem spC_line {s : ByteArray} {p l c : Nat} (hp : p ≤ s.size) (h : p < lnE s p) : spC s p l c = (p, l, c) :: spC s (p + chW s p) l (c + 1) ∧ lnE s (p + chW s p) = lnE s p ∧ p + chW s p ≤ lnE s p ∧ p + chW s p ≤ s.size ∧ 1 ≤ chW s p := by
  obtain ⟨h1, h2, h3⟩ := lnE_step hp h
  have hle := lnE_le hp
  refine ⟨?_, lnE_mid hp (by omega) h2, h2, by omega, (chW_bd s p).1⟩
  rw [spC_next h1]
  unfold lnN coN
  rw [if_neg h3, if_neg h3]
/-- At a line's end. -/
theorem spC_stop {s : ByteArray} {p l c : Nat} (hp : p ≤ s.size) (h : lnE s p = p) : (p < s.size → spC s p l c = (p, l, c) :: spC s (p + 1) (l + 1) 1) ∧ (¬ p < s.size → spC s p l c = [(p, l, c)]) := by
  refine ⟨fun q => ?_, fun q => ?_⟩
  · have h10 := lnE_ten hp (by omega)
    rw [h] at h10
    rw [spC_next q, chW_ten h10]
    unfold lnN coN
    rw [if_pos h10, if_pos h10]
  · rw [spC_end q, show p = s.size from by omega]

/-- How many bytes 10 stand ahead of a place. -/
def cnt10 (s : ByteArray) : Nat → Nat
  | 0 => 0
  | k + 1 => if chr s k = 10 then cnt10 s k + 1 else cnt10 s k
theorem cnt10_le (s : ByteArray) (k : Nat) : cnt10 s k ≤ k := by
  induction k with
  | zero => exact Nat.le_refl _
  | succ k ih => rw [cnt10]; split <;> omega
theorem cnt10_mono (s : ByteArray) {a b : Nat} (h : a ≤ b) : cnt10 s a ≤ cnt10 s b := by
  induction b with
  | zero => rw [show a = 0 from by omega]; exact Nat.le_refl _
  | succ b ih =>
    by_cases e : a = b + 1
    · rw [e]; exact Nat.le_refl _
    · have := ih (by omega); rw [cnt10]; split <;> omega
theorem cnt10_flat (s : ByteArray) {a b : Nat} (h : a ≤ b) (hn : ∀ k, a ≤ k → k < b → chr s k ≠ 10) : cnt10 s b = cnt10 s a := by
  induction b with
  | zero => rw [show a = 0 from by omega]
  | succ b ih =>
    by_cases e : a = b + 1
    · rw [e]
    · rw [cnt10, if_neg (hn b (by omega) (by omega))]; exact ih (by omega) (fun k x y => hn k x (by omega))
theorem cnt10_line {s : ByteArray} {p m : Nat} (hp : p ≤ s.size) (h : p ≤ m) (hm : m ≤ lnE s p) : cnt10 s m = cnt10 s p :=
  cnt10_flat s h (fun k a b => lnE_in hp a (by omega))
theorem cnt10_next {s : ByteArray} {p : Nat} (hp : p ≤ s.size) (h : lnE s p < s.size) : cnt10 s (lnE s p + 1) = cnt10 s p + 1 := by
  rw [cnt10, if_pos (lnE_ten hp h), cnt10_line hp (lnE_ge hp) (Nat.le_refl _)]

/-- Where a line begins and ends, sought from a place on, so many bytes. -/
def bgG (s : ByteArray) (ln : Int) : Nat → Nat → Nat → Nat → Option (Nat × Nat)
  | 0, _, _, _ => none
  | d + 1, i, fr, n => if i < s.size ∧ chr s i ≠ 10 then bgG s ln d (i + 1) fr n else if (n : Int) = ln then some (fr, i) else bgG s ln d (i + 1) (i + 1) (n + 1)
/-- Where a line begins and ends, sought from a place on. -/
def bgF (s : ByteArray) (ln : Int) (i fr n : Nat) : Option (Nat × Nat) := bgG s ln (s.size + 1 - i) i fr n
theorem bgF_out {s : ByteArray} {ln : Int} {i fr n : Nat} (h : ¬ i ≤ s.size) : bgF s ln i fr n = none := by
  unfold bgF
  rw [show s.size + 1 - i = 0 from by omega]
  rfl
theorem bgF_in {s : ByteArray} {ln : Int} {i fr n : Nat} (h : i ≤ s.size) : bgF s ln i fr n = if i < s.size ∧ chr s i ≠ 10 then bgF s ln (i + 1) fr n else if (n : Int) = ln then some (fr, i) else bgF s ln (i + 1) (i + 1) (n + 1) := by
  unfold bgF
  rw [show s.size + 1 - i = s.size + 1 - (i + 1) + 1 from by omega, bgG]
theorem bgF_go {s : ByteArray} {ln : Int} {i fr n : Nat} (h : i < s.size) (h2 : chr s i ≠ 10) : bgF s ln i fr n = bgF s ln (i + 1) fr n := by rw [bgF_in (by omega), if_pos ⟨h, h2⟩]
theorem bgF_at {s : ByteArray} {ln : Int} {i fr n : Nat} (h : i ≤ s.size) (h2 : ¬ (i < s.size ∧ chr s i ≠ 10)) (h3 : (n : Int) = ln) : bgF s ln i fr n = some (fr, i) := by rw [bgF_in h, if_neg h2, if_pos h3]
theorem bgF_past {s : ByteArray} {ln : Int} {i fr n : Nat} (h : i ≤ s.size) (h2 : ¬ (i < s.size ∧ chr s i ≠ 10)) (h3 : (n : Int) ≠ ln) : bgF s ln i fr n = bgF s ln (i + 1) (i + 1) (n + 1) := by rw [bgF_in h, if_neg h2, if_neg h3]
theorem bgF_end (s : ByteArray) (ln : Int) (fr n d i : Nat) (hd : lnE s i - i = d) (hi : i ≤ s.size) : bgF s ln i fr n = bgF s ln (lnE s i) fr n := by
  induction d generalizing i with
  | zero => rw [show lnE s i = i from by have := lnE_ge hi; omega]
  | succ d ih =>
    have hle := lnE_le hi
    have hne := lnE_in hi (Nat.le_refl _) (by omega)
    rw [bgF_go (by omega) hne, lnE_go (by omega) hne]
    exact ih (i + 1) (by rw [← lnE_go (by omega) hne]; omega) (by omega)
theorem lnE_no {s : ByteArray} {i : Nat} (hi : i ≤ s.size) : ¬ (lnE s i < s.size ∧ chr s (lnE s i) ≠ 10) := fun h => h.2 (lnE_ten hi h.1)
theorem bgF_yes {s : ByteArray} {ln : Int} {i fr n : Nat} (hi : i ≤ s.size) (h : (n : Int) = ln) : bgF s ln i fr n = some (fr, lnE s i) := by
  rw [bgF_end s ln fr n _ i rfl hi, bgF_at (lnE_le hi) (lnE_no hi) h]
theorem bgF_no {s : ByteArray} {ln : Int} {i fr n : Nat} (hi : i ≤ s.size) (h : (n : Int) ≠ ln) : bgF s ln i fr n = if lnE s i < s.size then bgF s ln (lnE s i + 1) (lnE s i + 1) (n + 1) else none := by
  rw [bgF_end s ln fr n _ i rfl hi, bgF_past (lnE_le hi) (lnE_no hi) h]
  split
  · rfl
  · rw [bgF_out (by omega)]
def begins (s : ByteArray) (ln : Int) : Option (Nat × Nat) := bgF s ln 0 0 1
end Go.Proofs.Ytafnjidackofpaa
