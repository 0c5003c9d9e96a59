/- Plain: what the document says of places, lines and columns is what the spots say. -/
import Derived.Test.YtafnjidackofpabPlH
namespace Go.Proofs.Ytafnjidackofpab
open Go.RowKit

abbrev tw (m : Nat) (l : List Spot) : List Spot := l.takeWhile fun x => decide (x.1 ≤ m)
theorem tw_yes {m : Nat} {x : Spot} {l : List Spot} (h : x.1 ≤ m) : tw m (x :: l) = x :: tw m l := List.takeWhile_cons_of_pos (by simpa using h)
theorem tw_no {m : Nat} {x : Spot} {l : List Spot} (h : ¬ x.1 ≤ m) : tw m (x :: l) = [] := List.takeWhile_cons_of_neg (by simpa using h)
theorem lastOf_one (x : Spot) : lastOf [x] = x := rfl
theorem lastOf_more (x y : Spot) (l : List Spot) : lastOf (x :: y :: l) = lastOf (y :: l) := by unfold lastOf; simp
theorem tw_head {m p l c : Nat} {s : ByteArray} (h : p ≤ s.size) (hm : p ≤ m) : ∃ r, tw m (spC s p l c) = (p, l, c) :: r := by
  obtain ⟨r, hr⟩ := spC_head (l := l) (c := c) h
  exact ⟨tw m r, by rw [hr, tw_yes hm]⟩
theorem tw_none {m p l c : Nat} {s : ByteArray} (h : p ≤ s.size) (hm : m < p) : tw m (spC s p l c) = [] := by
  obtain ⟨r, hr⟩ := spC_head (l := l) (c := c) h
  rw [hr, tw_no (show ¬ p ≤ m by omega)]

/-- The column of a place, counted from a place of its line on, over so many bytes. -/
def rcG (s : ByteArray) (to m : Nat) : Nat → Nat → Nat → Nat
  | 0, _, col => col
  | d + 1, i, col => if i < to then rcG s to m d (i + chW s i) (if i + chW s i ≤ m then col + 1 else col) else col
theorem rcG_same {s : ByteArray} {to m f g i col : Nat} (hf : to ≤ f + i) (hg : to ≤ g + i) : rcG s to m f i col = rcG s to m g i col := by
  induction f generalizing g i col with
  | zero =>
    cases g with
    | zero => rfl
    | succ g => rw [rcG, rcG, if_neg (by omega)]
  | succ f ih =>
    have := chW_bd s i
    cases g with
    | zero => rw [rcG, rcG, if_neg (by omega)]
    | succ g =>
      rw [rcG, rcG]
      by_cases q : i < to
      · rw [if_pos q, if_pos q]; exact ih (by omega) (by omega)
      · rw [if_neg q, if_neg q]
/-- The column of a place, counted from a place of its line on. -/
def rcF (s : ByteArray) (to m i col : Nat) : Nat := rcG s to m (to - i) i col
theorem rcF_go {s : ByteArray} {to m i col : Nat} (h : i < to) : rcF s to m i col = rcF s to m (i + chW s i) (if i + chW s i ≤ m then col + 1 else col) := by
  have := chW_bd s i
  unfold rcF
  rw [show to - i = to - i - 1 + 1 from by omega, rcG, if_pos h]
  exact rcG_same (by omega) (by omega)
theorem rcF_end {s : ByteArray} {to m i col : Nat} (h : ¬ i < to) : rcF s to m i col = col := by
  unfold rcF
  rw [show to - i = 0 from by omega]
  rfl
theorem rcF_past (s : ByteArray) (to m col d i : Nat) (hd : to - i ≤ d) (h : m < i) : rcF s to m i col = col := by
  induction d generalizing i with
  | zero => exact rcF_end (by omega)
  | succ d ih =>
    by_cases q : i < to
    · have := chW_bd s i
      rw [rcF_go q, if_neg (by omega)]
      exact ih _ (by omega) (by omega)
    · exact rcF_end q

theorem place_line (s : ByteArray) (m l d p c : Nat) (hd : lnE s p - p ≤ d) (hp : p ≤ s.size) (h1 : p ≤ m) (h2 : m ≤ lnE s p) : ∃ q, lastOf (tw m (spC s p l c)) = (q, l, rcF s (lnE s p) m p c) := by
  induction d generalizing p c with
  | zero =>
    have hge := lnE_ge hp
    have he : lnE s p = p := by omega
    obtain ⟨a, b⟩ := spC_stop (l := l) (c := c) hp he
    rw [rcF_end (by omega)]
    by_cases q : p < s.size
    · rw [a q, tw_yes h1, tw_none (by omega) (by omega)]
      exact ⟨p, lastOf_one _⟩
    · rw [b q, tw_yes h1]
      exact ⟨p, rfl⟩
  | succ d ih =>
    by_cases q : p < lnE s p
    · obtain ⟨e1, e2, e3, e4, e5⟩ := spC_line (l := l) (c := c) hp q
      rw [rcF_go q, e1, tw_yes h1]
      by_cases hm : p + chW s p ≤ m
      · rw [if_pos hm]
        obtain ⟨r, hr⟩ := tw_head (l := l) (c := c + 1) e4 hm
        obtain ⟨x, hx⟩ := ih (p + chW s p) (c + 1) (by omega) e4 hm (by omega)
        refine ⟨x, ?_⟩
        rw [hr, lastOf_more, ← hr, hx, e2]
      · rw [if_neg hm, tw_none e4 (by omega), rcF_past s _ m c _ _ (Nat.le_refl _) (by omega)]
        exact ⟨p, lastOf_one _⟩
    · have hge := lnE_ge hp
      have he : lnE s p = p := by omega
      obtain ⟨a, b⟩ := spC_stop (l := l) (c := c) hp he
      rw [rcF_end (by omega)]
      by_cases q : p < s.size
      · rw [a q, tw_yes h1, tw_none (by omega) (by omega)]
        exact ⟨p, lastOf_one _⟩
      · rw [b q, tw_yes h1]
        exact ⟨p, rfl⟩
theorem place_skip (s : ByteArray) (m l d p c : Nat) (hd : lnE s p - p ≤ d) (hp : p ≤ s.size) (h2 : lnE s p < m) (h3 : lnE s p < s.size) : lastOf (tw m (spC s p l c)) = lastOf (tw m (spC s (lnE s p + 1) (l + 1) 1)) := by
  have hge := lnE_ge hp
  induction d generalizing p c with
  | zero =>
    have he : lnE s p = p := by omega
    rw [(spC_stop (l := l) (c := c) hp he).1 (by omega), tw_yes (show p ≤ m by omega), he]
    obtain ⟨r, hr⟩ := tw_head (m := m) (p := p + 1) (l := l + 1) (c := 1) (s := s) (by omega) (by omega)
    rw [hr, lastOf_more]
  | succ d ih =>
    by_cases q : p < lnE s p
    · obtain ⟨e1, e2, e3, e4, e5⟩ := spC_line (l := l) (c := c) hp q
      rw [e1, tw_yes (show p ≤ m by omega)]
      obtain ⟨r, hr⟩ := tw_head (m := m) (l := l) (c := c + 1) e4 (by omega)
      have := ih (p + chW s p) (c + 1) (by omega) e4 (by omega) (by omega) (by omega)
      rw [hr, lastOf_more, ← hr, this, e2]
    · have he : lnE s p = p := by omega
      rw [(spC_stop (l := l) (c := c) hp he).1 (by omega), tw_yes (show p ≤ m by omega), he]
      obtain ⟨r, hr⟩ := tw_head (m := m) (p := p + 1) (l := l + 1) (c := 1) (s := s) (by omega) (by omega)
      rw [hr, lastOf_more]
theorem place_from (s : ByteArray) (m ln d fr n : Nat) (hd : s.size - fr ≤ d) (hf : fr ≤ m) (hm : m ≤ s.size) (hl : ln + cnt10 s fr = n + cnt10 s m) :
    ∃ f t q, bgF s (ln : Int) fr fr n = some (f, t) ∧ f ≤ m ∧ t ≤ s.size ∧ lnE s f = t ∧ lastOf (tw m (spC s fr n 1)) = (q, ln, rcF s t m f 1) := by
  induction d generalizing fr n with
  | zero =>
    have he : lnE s fr = fr := by have := lnE_ge (s := s) (p := fr) (by omega); have := lnE_le (s := s) (p := fr) (by omega); omega
    have e : m = fr := by omega
    subst e
    have hn : ln = n := by omega
    subst hn
    obtain ⟨q, hq⟩ := place_line s m ln 0 m 1 (by omega) (by omega) (Nat.le_refl _) (by omega)
    exact ⟨m, lnE s m, q, bgF_yes (by omega) rfl, by omega, by omega, rfl, hq⟩
  | succ d ih =>
    have hfs : fr ≤ s.size := by omega
    by_cases h : m ≤ lnE s fr
    · have := cnt10_line hfs hf h
      have hn : ln = n := by omega
      subst hn
      obtain ⟨q, hq⟩ := place_line s m ln _ fr 1 (Nat.le_refl _) hfs hf h
      exact ⟨fr, lnE s fr, q, bgF_yes hfs rfl, hf, lnE_le hfs, rfl, hq⟩
    · have hge := lnE_ge hfs
      have hlt : lnE s fr < s.size := by omega
      have h2 := cnt10_next hfs hlt
      have h3 := cnt10_mono s (a := lnE s fr + 1) (b := m) (by omega)
      obtain ⟨f, t, q, i1, i2, i3, i4, i5⟩ := ih (lnE s fr + 1) (n + 1) (by omega) (by omega) (by omega)
      refine ⟨f, t, q, ?_, i2, i3, i4, ?_⟩
      · rw [bgF_no hfs (by omega), if_pos hlt]; exact i1
      · rw [place_skip s m n _ fr 1 (Nat.le_refl _) hfs (by omega) hlt]; exact i5
/-- Place, by the document. -/
theorem plP_ref (s : ByteArray) (m : Nat) (hm : m ≤ s.size) : ∃ f t q, begins s ((1 + cnt10 s m : Nat) : Int) = some (f, t) ∧ f ≤ m ∧ t ≤ s.size ∧ lnE s f = t ∧ plP s m = (q, 1 + cnt10 s m, rcF s t m f 1) :=
  place_from s m (1 + cnt10 s m) _ 0 1 (Nat.le_refl _) (Nat.zero_le _) hm (by show _ + 0 = _; omega)

/-- The place of a column, sought from a place of its line on, over so many bytes. -/
def raG (s : ByteArray) (to : Nat) (co : Int) : Nat → Nat → Nat → Option Nat
  | 0, _, n => if (n : Int) = co then some to else none
  | d + 1, i, n => if i < to then (if (n : Int) = co then some i else raG s to co d (i + chW s i) (n + 1)) else if (n : Int) = co then some to else none
theorem raG_same {s : ByteArray} {to : Nat} {co : Int} {f g i n : Nat} (hf : to ≤ f + i) (hg : to ≤ g + i) : raG s to co f i n = raG s to co g i n := by
  induction f generalizing g i n with
  | zero =>
    cases g with
    | zero => rfl
    | succ g => rw [raG, raG]; exact (if_neg (by omega)).symm
  | succ f ih =>
    have := chW_bd s i
    cases g with
    | zero => rw [raG, raG]; exact if_neg (by omega)
    | succ g =>
      rw [raG, raG]
      by_cases q : i < to
      · rw [if_pos q, if_pos q, ih (g := g) (by omega) (by omega)]
      · rw [if_neg q, if_neg q]
/-- The place of a column, sought from a place of its line on. -/
def raF (s : ByteArray) (to : Nat) (co : Int) (i n : Nat) : Option Nat := raG s to co (to - i) i n
theorem raF_end {s : ByteArray} {to : Nat} {co : Int} {i n : Nat} (h : ¬ i < to) : raF s to co i n = if (n : Int) = co then some to else none := by
  unfold raF
  rw [show to - i = 0 from by omega]
  rfl
theorem raF_go {s : ByteArray} {to : Nat} {co : Int} {i n : Nat} (h : i < to) : raF s to co i n = if (n : Int) = co then some i else raF s to co (i + chW s i) (n + 1) := by
  have := chW_bd s i
  unfold raF
  rw [show to - i = to - i - 1 + 1 from by omega, raG, if_pos h, raG_same (g := to - (i + chW s i)) (by omega) (by omega)]
theorem raF_low (s : ByteArray) (to : Nat) (co : Int) (d i n : Nat) (hd : to - i ≤ d) (h : co < (n : Int)) : raF s to co i n = none := by
  induction d generalizing i n with
  | zero => rw [raF_end (by omega), if_neg (by omega)]
  | succ d ih =>
    by_cases q : i < to
    · have := chW_bd s i
      rw [raF_go q, if_neg (by omega)]
      exact ih _ _ (by omega) (by omega)
    · rw [raF_end q, if_neg (by omega)]
theorem find_yes {ln co : Int} {x : Spot} {l : List Spot} (h : atB ln co x = true) : (x :: l).find? (atB ln co) = some x := List.find?_cons_of_pos h
theorem find_no {ln co : Int} {x : Spot} {l : List Spot} (h : atB ln co x = false) : (x :: l).find? (atB ln co) = l.find? (atB ln co) := List.find?_cons_of_neg (by rw [h]; simp)
/-- No spot has a line below the first one's. -/
theorem find_above (s : ByteArray) (ln co : Int) (d p l c : Nat) (hd : s.size - p ≤ d) (hl : ln < (l : Int)) : (spC s p l c).find? (atB ln co) = none := by
  induction d generalizing p l c with
  | zero =>
    rw [spC_end (by omega), find_no (decide_eq_false (fun q => by have := q.1; dsimp only at this; omega))]; rfl
  | succ d ih =>
    by_cases h : p < s.size
    · have := chW_bd s p
      rw [spC_next h, find_no (decide_eq_false (fun q => by have := q.1; dsimp only at this; omega))]
      exact ih _ _ _ (by omega) (by unfold lnN; split <;> omega)
    · rw [spC_end h, find_no (decide_eq_false (fun q => by have := q.1; dsimp only at this; omega))]; rfl
/-- The rest behind a line. -/
def spR (s : ByteArray) (t l : Nat) : List Spot := if t < s.size then spC s (t + 1) (l + 1) 1 else []
theorem find_stop (s : ByteArray) (ln co : Int) (p l c : Nat) (hp : p ≤ s.size) (he : lnE s p = p) : (spC s p l c).find? (atB ln co) = if atB ln co (p, l, c) = true then some (p, l, c) else (spR s p l).find? (atB ln co) := by
  have hc : spC s p l c = (p, l, c) :: spR s p l := by
    unfold spR
    by_cases q : p < s.size
    · rw [if_pos q]; exact (spC_stop hp he).1 q
    · rw [if_neg q]; exact (spC_stop hp he).2 q
  rw [hc]
  cases h : atB ln co (p, l, c)
  · rw [find_no h, if_neg (by simp)]
  · rw [find_yes h, if_pos rfl]
theorem find_other (s : ByteArray) (ln co : Int) (l d p c : Nat) (hd : lnE s p - p ≤ d) (hp : p ≤ s.size) (hl : (l : Int) ≠ ln) : (spC s p l c).find? (atB ln co) = (spR s (lnE s p) l).find? (atB ln co) := by
  induction d generalizing p c with
  | zero =>
    have hge := lnE_ge hp
    have he : lnE s p = p := by omega
    rw [find_stop s ln co p l c hp he, if_neg (by rw [show atB ln co (p, l, c) = false from decide_eq_false (fun q => hl q.1)]; simp), he]
  | succ d ih =>
    by_cases q : p < lnE s p
    · obtain ⟨e1, e2, e3, e4, e5⟩ := spC_line (l := l) (c := c) hp q
      rw [e1, find_no (decide_eq_false (fun q => hl q.1)), ih _ _ (by omega) e4, e2]
    · have hge := lnE_ge hp
      have he : lnE s p = p := by omega
      rw [find_stop s ln co p l c hp he, if_neg (by rw [show atB ln co (p, l, c) = false from decide_eq_false (fun q => hl q.1)]; simp), he]
theorem spR_none (s : ByteArray) (ln co : Int) (t l : Nat) (hl : (l : Int) = ln) : (spR s t l).find? (atB ln co) = none := by
  unfold spR
  split
  · exact find_above s ln co _ _ _ _ (Nat.le_refl _) (by omega)
  · rfl
theorem find_this (s : ByteArray) (ln co : Int) (l d p c : Nat) (hd : lnE s p - p ≤ d) (hp : p ≤ s.size) (hl : (l : Int) = ln) : ((spC s p l c).find? (atB ln co)).map (·.1) = raF s (lnE s p) co p c := by
  have hat : ∀ p c : Nat, atB ln co (p, l, c) = decide ((c : Int) = co) := fun p c => by
    unfold atB; rw [decide_eq_decide]; exact ⟨fun q => q.2, fun q => ⟨hl, q⟩⟩
  have stop : ∀ p c : Nat, p ≤ s.size → lnE s p = p → ((spC s p l c).find? (atB ln co)).map (·.1) = raF s (lnE s p) co p c := fun p c hp he => by
    rw [find_stop s ln co p l c hp he, raF_end (by omega), hat p c, spR_none s ln co p l hl]
    by_cases q : (c : Int) = co
    · rw [if_pos (decide_eq_true q), if_pos q, he]; rfl
    · rw [if_neg (by rw [decide_eq_false q]; simp), if_neg q]; rfl
  induction d generalizing p c with
  | zero =>
    have hge := lnE_ge hp
    exact stop p c hp (by omega)
  | succ d ih =>
    by_cases q : p < lnE s p
    · obtain ⟨e1, e2, e3, e4, e5⟩ := spC_line (l := l) (c := c) hp q
      rw [e1, raF_go q]
      by_cases hc : (c : Int) = co
      · rw [find_yes (by rw [hat]; exact decide_eq_true hc), if_pos hc]; rfl
      · rw [find_no (by rw [hat]; exact decide_eq_false hc), if_neg hc, ih _ _ (by omega) e4, e2]
    · have hge := lnE_ge hp
      exact stop p c hp (by omega)
/-- What the document's At tells. -/
def raP (s : ByteArray) (co : Int) : Option (Nat × Nat) → Option Nat
  | some (f, t) => raF s t co f 1
  | none => none
theorem at_from (s : ByteArray) (ln co : Int) (d fr n : Nat) (hd : s.size - fr ≤ d) (hf : fr ≤ s.size) : ((spC s fr n 1).find? (atB ln co)).map (·.1) = raP s co (bgF s ln fr fr n) := by
  induction d generalizing fr n with
  | zero =>
    by_cases h : (n : Int) = ln
    · rw [bgF_yes hf h]; exact find_this s ln co n _ fr 1 (Nat.le_refl _) hf h
    · have hle := lnE_le hf
      have hge := lnE_ge hf
      rw [bgF_no hf h, if_neg (by omega), find_other s ln co n _ fr 1 (Nat.le_refl _) hf h]
      unfold spR
      rw [if_neg (by omega)]
      rfl
  | succ d ih =>
    by_cases h : (n : Int) = ln
    · rw [bgF_yes hf h]; exact find_this s ln co n _ fr 1 (Nat.le_refl _) hf h
    · have hle := lnE_le hf
      have hge := lnE_ge hf
      rw [bgF_no hf h, find_other s ln co n _ fr 1 (Nat.le_refl _) hf h]
      unfold spR
      by_cases q : lnE s fr < s.size
      · rw [if_pos q, if_pos q]; exact ih _ _ (by omega) (by omega)
      · rw [if_neg q, if_neg q]; rfl
theorem atP_ref (s : ByteArray) (ln co : Int) : (atP s ln co).map (·.1) = raP s co (begins s ln) := at_from s ln co _ 0 1 (Nat.le_refl _) (Nat.zero_le _)
end Go.Proofs.Ytafnjidackofpab
