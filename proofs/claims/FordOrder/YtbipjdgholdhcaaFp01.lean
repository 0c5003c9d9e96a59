/- DERIVED. Plain mathematics and walks, laid together (1). -/
import Derived.WalkKit
import Derived.ProofKit
import Derived.BigQuiet
namespace Go.Proofs.Ytbipjdgholdhcaa.N
open Go.RowKit
/-- Which calls which. -/
abbrev Mx := Nat → Nat → Bool
def stpM (n : Nat) (c : Mx) : Mx := fun i j => c i j || (List.range n).any fun k => c i k && c k j
def rcF (n : Nat) (c : Mx) : Nat → Mx
  | 0 => c
  | m + 1 => stpM n (rcF n c m)
/-- Comes to, by one call at least. -/
def Rc (n : Nat) (c : Mx) (i j : Nat) : Prop := ∃ m, rcF n c m i j = true
theorem rcF_up {n : Nat} {c : Mx} {m i j : Nat} (h : rcF n c m i j = true) : ∀ k, rcF n c (m + k) i j = true := by
  intro k
  induction k with
  | zero => exact h
  | succ k ih =>
    show stpM n (rcF n c (m + k)) i j = true
    unfold stpM
    rw [ih]
    rfl
theorem rcF_le {n : Nat} {c : Mx} {m k i j : Nat} (h : rcF n c m i j = true) (hk : m ≤ k) : rcF n c k i j = true := by
  have := rcF_up h (k - m)
  rwa [Nat.add_sub_cancel' hk] at this
theorem Rc.of {n : Nat} {c : Mx} {i j : Nat} (h : c i j = true) : Rc n c i j := ⟨0, h⟩
theorem Rc.trans {n : Nat} {c : Mx} {i k j : Nat} (hk : k < n) (h : Rc n c i k) (g : Rc n c k j) : Rc n c i j := by
  obtain ⟨a, h⟩ := h
  obtain ⟨b, g⟩ := g
  refine ⟨max a b + 1, ?_⟩
  show stpM n (rcF n c (max a b)) i j = true
  unfold stpM
  rw [Bool.or_eq_true, List.any_eq_true]
  exact .inr ⟨k, List.mem_range.2 hk, by rw [rcF_le h (Nat.le_max_left _ _), rcF_le g (Nat.le_max_right _ _)]; rfl⟩
/-- The least: whatever holds the calls and is closed holds it. -/
theorem Rc.least {n : Nat} {c : Mx} {d : Nat → Nat → Prop} (h1 : ∀ i j, c i j = true → d i j) (h2 : ∀ i k j, k < n → d i k → d k j → d i j) : ∀ {i j : Nat}, Rc n c i j → d i j := by
  intro i j h
  obtain ⟨m, h⟩ := h
  induction m generalizing i j with
  | zero => exact h1 i j h
  | succ m ih =>
    have h : stpM n (rcF n c m) i j = true := h
    unfold stpM at h
    rw [Bool.or_eq_true, List.any_eq_true] at h
    rcases h with h | ⟨k, hk, h⟩
    · exact ih h
    · rw [Bool.and_eq_true] at h
      exact h2 i k j (List.mem_range.1 hk) (ih h.1) (ih h.2)
/-- Numbers below n, none twice: no more than n. -/
theorem few_below : ∀ (n : Nat) (l : List Nat), l.Nodup → (∀ x ∈ l, x < n) → l.length ≤ n := by
  intro n
  induction n with
  | zero =>
    intro l _ h
    cases l with
    | nil => exact Nat.le_refl _
    | cons x l => exact absurd (h x (List.mem_cons_self)) (by omega)
  | succ n ih =>
    intro l hl h
    by_cases hn : n ∈ l
    · have h1 := ih (l.erase n) (hl.erase n) (fun x hx => by
        have a := h x (List.mem_of_mem_erase hx)
        have b : x ≠ n := fun e => by rw [e] at hx; exact hl.not_mem_erase hx
        omega)
      rw [List.length_erase_of_mem hn] at h1
      omega
    · have := ih l hl (fun x hx => by
        have a := h x hx
        have b : x ≠ n := fun e => hn (by rw [← e]; exact hx)
        omega)
      omega
end Go.Proofs.Ytbipjdgholdhcaa.N

namespace Go.Proofs.Ytbipjdgholdhcaa.N
open Go.RowKit
/-- A walk of so many steps. -/
def St (c : Mx) (to : Nat) : Nat → Nat → Prop
  | 0, i => i = to
  | t + 1, i => ∃ k, c i k = true ∧ St c to t k
theorem St.trans {c : Mx} {k to b : Nat} (h2 : St c to b k) : ∀ {a i : Nat}, St c k a i → St c to (a + b) i := by
  intro a
  induction a with
  | zero => intro i h; have h : i = k := h; rw [h, Nat.zero_add]; exact h2
  | succ a ih =>
    intro i h
    obtain ⟨q, h1, h3⟩ := h
    rw [show a + 1 + b = (a + b) + 1 from by omega]
    exact ⟨q, h1, ih h3⟩
theorem St.one {c : Mx} {to i : Nat} : St c to 1 i ↔ c i to = true := by
  constructor
  · rintro ⟨k, h, e⟩
    have e : k = to := e
    rw [← e]; exact h
  · intro h
    exact ⟨to, h, rfl⟩
theorem St.rc {n : Nat} {c : Mx} (hc : ∀ i j, c i j = true → i < n ∧ j < n) {to : Nat} : ∀ (t : Nat) {i : Nat}, St c to (t + 1) i → Rc n c i to := by
  intro t
  induction t with
  | zero => intro i h; exact Rc.of (St.one.1 h)
  | succ t ih =>
    intro i h
    obtain ⟨k, h1, h2⟩ := h
    exact Rc.trans (hc i k h1).2 (Rc.of h1) (ih h2)
theorem St.of_rc {n : Nat} {c : Mx} {i j : Nat} (h : Rc n c i j) : ∃ t, St c j (t + 1) i := by
  refine Rc.least (d := fun i j => ∃ t, St c j (t + 1) i) (fun i j h => ⟨0, St.one.2 h⟩) (fun i k j _ h1 h2 => ?_) h
  obtain ⟨a, h1⟩ := h1
  obtain ⟨b, h2⟩ := h2
  exact ⟨a + 1 + b, St.trans h2 h1⟩
/-- The shortest walk has so many steps (one at least). -/
def Ds (c : Mx) (to t i : Nat) : Prop := 0 < t ∧ St c to t i ∧ ∀ s, 0 < s → s < t → ¬ St c to s i
theorem Ds.one {c : Mx} {to a b i : Nat} (h : Ds c to a i) (g : Ds c to b i) : a = b := by
  rcases Nat.lt_trichotomy a b with q | q | q
  · exact absurd h.2.1 (g.2.2 a h.1 q)
  · exact q
  · exact absurd g.2.1 (h.2.2 b g.1 q)
theorem Ds.of {c : Mx} {to i : Nat} : ∀ (m t : Nat), t ≤ m → 0 < t → St c to t i → ∃ s, s ≤ t ∧ Ds c to s i := by
  intro m
  induction m with
  | zero => intro t h h0; omega
  | succ m ih =>
    intro t h h0 hs
    by_cases q : ∃ s, 0 < s ∧ s < t ∧ St c to s i
    · obtain ⟨s, q1, q2, q3⟩ := q
      obtain ⟨u, u1, u2⟩ := ih s (by omega) q1 q3
      exact ⟨u, by omega, u2⟩
    · exact ⟨t, Nat.le_refl _, h0, hs, fun s q1 q2 q3 => q ⟨s, q1, q2, q3⟩⟩
theorem Ds.up {c : Mx} {to t i k : Nat} (h : c i k = true) (hd : Ds c to t k) : ∃ s, s ≤ t + 1 ∧ Ds c to s i := Ds.of (t + 1) (t + 1) (Nat.le_refl _) (by omega) ⟨k, h, hd.2.1⟩
theorem Ds.next {c : Mx} {to t i : Nat} (h : Ds c to (t + 1) i) (h0 : 0 < t) : ∃ k, c i k = true ∧ Ds c to t k := by
  obtain ⟨k, h1, h2⟩ := h.2.1
  obtain ⟨s, s1, s2⟩ := Ds.of t t (Nat.le_refl _) h0 h2
  by_cases e : s = t
  · subst e; exact ⟨k, h1, s2⟩
  · exact absurd ⟨k, h1, s2.2.1⟩ (h.2.2 (s + 1) (by omega) (by omega))
theorem Ds.first {c : Mx} {to i : Nat} : Ds c to 1 i ↔ c i to = true := by
  constructor
  · intro h; exact St.one.1 h.2.1
  · intro h; exact ⟨by omega, St.one.2 h, fun s _ _ => by omega⟩
theorem Ds.lt {n : Nat} {c : Mx} (hc : ∀ i j, c i j = true → i < n ∧ j < n) {to t i : Nat} (h : Ds c to t i) : i < n ∧ to < n := by
  have h0 := h.1
  obtain ⟨s, rfl⟩ : ∃ s, t = s + 1 := ⟨t - 1, by omega⟩
  have := St.rc hc s h.2.1
  exact Rc.least (d := fun i j => i < n ∧ j < n) hc (fun _ _ _ _ a b => ⟨a.1, b.2⟩) this
theorem Ds.chain {n : Nat} {c : Mx} (hc : ∀ i j, c i j = true → i < n ∧ j < n) {to : Nat} : ∀ (t : Nat) {i : Nat}, Ds c to (t + 1) i → ∃ l : List Nat, l.length = t + 1 ∧ l.Nodup ∧ ∀ x ∈ l, x < n ∧ ∃ s, s ≤ t + 1 ∧ Ds c to s x := by
  intro t
  induction t with
  | zero => intro i h; exact ⟨[i], rfl, List.nodup_cons.2 ⟨by simp, List.nodup_nil⟩, fun x hx => by rw [List.mem_singleton.1 hx]; exact ⟨(h.lt hc).1, 1, Nat.le_refl _, h⟩⟩
  | succ t ih =>
    intro i h
    obtain ⟨k, _, h2⟩ := h.next (by omega)
    obtain ⟨l, l1, l2, l3⟩ := ih h2
    refine ⟨i :: l, by rw [List.length_cons, l1], List.nodup_cons.2 ⟨fun q => ?_, l2⟩, fun x hx => ?_⟩
    · obtain ⟨_, s, s1, s2⟩ := l3 i q
      have := s2.one h
      omega
    · rcases List.mem_cons.1 hx with e | e
      · rw [e]; exact ⟨(h.lt hc).1, t + 1 + 1, Nat.le_refl _, h⟩
      · obtain ⟨a, s, s1, s2⟩ := l3 x e
        exact ⟨a, s, by omega, s2⟩
theorem Ds.few {n : Nat} {c : Mx} (hc : ∀ i j, c i j = true → i < n ∧ j < n) {to t i : Nat} (h : Ds c to t i) : t ≤ n := by
  have h0 := h.1
  obtain ⟨s, rfl⟩ : ∃ s, t = s + 1 := ⟨t - 1, by omega⟩
  obtain ⟨l, l1, l2, l3⟩ := Ds.chain hc s h
  rw [← l1]
  exact few_below n l l2 (fun x hx => (l3 x hx).1)
theorem Ds.of_rc {n : Nat} {c : Mx} {i j : Nat} (h : Rc n c i j) : ∃ t, Ds c j t i := by
  obtain ⟨t, ht⟩ := St.of_rc h
  obtain ⟨s, _, hs⟩ := Ds.of (t + 1) (t + 1) (Nat.le_refl _) (by omega) ht
  exact ⟨s, hs⟩
theorem Ds.rc {n : Nat} {c : Mx} (hc : ∀ i j, c i j = true → i < n ∧ j < n) {to t i : Nat} (h : Ds c to t i) : Rc n c i to := by
  have h0 := h.1
  obtain ⟨s, rfl⟩ : ∃ s, t = s + 1 := ⟨t - 1, by omega⟩
  exact St.rc hc s h.2.1
/-- The way back: at each place the least rule from which what is left is so much. -/
structure PtI (c : Mx) (r m : Nat) (l : List Nat) : Prop where
  n : l.length = m
  h : l[0]? = some r
  s : ∀ (i : Nat) x y, l[i]? = some x → l[i + 1]? = some y → c x y = true ∧ Ds c r (m - (i + 1)) y ∧ ∀ k, c x k = true → Ds c r (m - (i + 1)) k → y ≤ k
theorem least_of {p : Nat → Prop} : ∀ (n k : Nat), k < n → p k → ∃ y, p y ∧ ∀ k, p k → y ≤ k := by
  intro n
  induction n with
  | zero => intro k h; omega
  | succ n ih =>
    intro k h hp
    by_cases q : ∃ j, j < k ∧ p j
    · obtain ⟨j, q1, q2⟩ := q
      exact ih j (by omega) q2
    · exact ⟨k, hp, fun j hj => Nat.le_of_not_lt fun e => q ⟨j, e, hj⟩⟩
theorem ptI_ex {c : Mx} {r : Nat} : ∀ (t m x : Nat), Ds c r (t + 1) x → t < m → ∃ l : List Nat, l.length = t + 1 ∧ l[0]? = some x ∧ ∀ (i : Nat) x y, l[i]? = some x → l[i + 1]? = some y → c x y = true ∧ Ds c r (t - i) y ∧ ∀ k, c x k = true → Ds c r (t - i) k → y ≤ k := by
  intro t
  induction t with
  | zero =>
    intro m x _ _
    exact ⟨[x], rfl, rfl, fun i a b _ h => by
      have := (List.getElem?_eq_some_iff.1 h).1
      simp at this⟩
  | succ t ih =>
    intro m x hd hm
    obtain ⟨k, k1, k2⟩ := hd.next (by omega)
    obtain ⟨y, ⟨y1, y2⟩, y3⟩ := least_of (p := fun k => c x k = true ∧ Ds c r (t + 1) k) (k + 1) k (by omega) ⟨k1, k2⟩
    obtain ⟨l, l1, l2, l3⟩ := ih m y y2 (by omega)
    refine ⟨x :: l, by rw [List.length_cons, l1], rfl, fun i a b ha hb => ?_⟩
    cases i with
    | zero =>
      have ha : some x = some a := ha
      cases ha
      have hb : l[0]? = some b := hb
      rw [l2] at hb
      cases hb
      exact ⟨y1, y2, fun k q1 q2 => y3 k ⟨q1, q2⟩⟩
    | succ i =>
      have ha : l[i]? = some a := ha
      have hb : l[i + 1]? = some b := hb
      have := l3 i a b ha hb
      rw [show t + 1 - (i + 1) = t - i from by omega]
      exact this
theorem PtI.ex {c : Mx} {r m : Nat} (hd : Ds c r m r) : ∃ l, PtI c r m l := by
  have h0 := hd.1
  obtain ⟨t, rfl⟩ : ∃ t, m = t + 1 := ⟨m - 1, by omega⟩
  obtain ⟨l, l1, l2, l3⟩ := ptI_ex t (t + 1) r hd (by omega)
  refine ⟨l, l1, l2, fun i x y hx hy => ?_⟩
  rw [show t + 1 - (i + 1) = t - i from by omega]
  exact l3 i x y hx hy
theorem PtI.ds {c : Mx} {r m : Nat} {l : List Nat} (h : PtI c r m l) (hd : Ds c r m r) {i x : Nat} (hx : l[i]? = some x) : Ds c r (m - i) x := by
  cases i with
  | zero =>
    rw [h.h] at hx
    cases hx
    exact hd
  | succ i =>
    have hi := (List.getElem?_eq_some_iff.1 hx).1
    exact (h.s i l[i] x (List.getElem?_eq_getElem (by omega)) hx).2.1
theorem PtI.one {c : Mx} {r m : Nat} {l g : List Nat} (h : PtI c r m l) (k : PtI c r m g) : l = g := by
  have key : ∀ (i : Nat), i < m → l[i]? = g[i]? := fun i => by
    induction i with
    | zero => intro _; rw [h.h, k.h]
    | succ i ih =>
      intro hi
      have n1 := h.n
      have n2 := k.n
      have e1 : l[i]? = some l[i] := List.getElem?_eq_getElem (by rw [h.n]; omega)
      have e2 := e1
      rw [ih (by omega)] at e2
      have f1 : l[i + 1]? = some l[i + 1] := List.getElem?_eq_getElem (by rw [h.n]; omega)
      have f2 : g[i + 1]? = some g[i + 1] := List.getElem?_eq_getElem (by rw [k.n]; omega)
      have a := h.s i _ _ e1 f1
      have b := k.s i _ _ e2 f2
      have := a.2.2 _ b.1 b.2.1
      have := b.2.2 _ a.1 a.2.1
      rw [f1, f2]
      congr 1
      omega
  apply List.ext_getElem?
  intro i
  by_cases q : i < m
  · exact key i q
  · rw [List.getElem?_eq_none (by rw [h.n]; omega), List.getElem?_eq_none (by rw [k.n]; omega)]
/-- What a grammar's cycle is: of the least rule that comes back to itself. -/
def CyR (n : Nat) (c : Mx) (l : List Nat) : Prop := (l = [] ∧ ∀ r, ¬ Rc n c r r) ∨ ∃ r m, Ds c r m r ∧ (∀ q, q < r → ¬ Rc n c q q) ∧ PtI c r m l
theorem CyR.one {n : Nat} {c : Mx} (hc : ∀ i j, c i j = true → i < n ∧ j < n) {l g : List Nat} (h : CyR n c l) (k : CyR n c g) : l = g := by
  rcases h with ⟨h1, h2⟩ | ⟨r, m, h1, h2, h3⟩
  · rcases k with ⟨k1, _⟩ | ⟨s, o, k1, _, _⟩
    · rw [h1, k1]
    · exact absurd (k1.rc hc) (h2 s)
  · rcases k with ⟨_, k2⟩ | ⟨s, o, k1, k2, k3⟩
    · exact absurd (h1.rc hc) (k2 r)
    · rcases Nat.lt_trichotomy r s with q | q | q
      · exact absurd (h1.rc hc) (k2 r q)
      · subst q
        have e := h1.one k1
        subst e
        exact h3.one k3
      · exact absurd (k1.rc hc) (h2 s q)
theorem CyR.nil {n : Nat} {c : Mx} (hc : ∀ i j, c i j = true → i < n ∧ j < n) {l : List Nat} (h : CyR n c l) : l = [] ↔ ∀ r, ¬ Rc n c r r := by
  rcases h with ⟨h1, h2⟩ | ⟨r, m, h1, h2, h3⟩
  · exact ⟨fun _ => h2, fun _ => h1⟩
  · constructor
    · intro e
      have := h3.n
      have := h1.1
      rw [e] at *
      simp at *
      omega
    · intro q
      exact absurd (h1.rc hc) (q r)
/-- Rules are come to, shorter ways first. come: in their order; pi: by which place each was come to; of those ahead of place a all heads are looked at, of that one's those below b. -/
structure BfI (n : Nat) (c : Mx) (r : Nat) (come pi : List Nat) (a b : Nat) : Prop where
  z : come[0]? = some r
  lp : pi.length = come.length
  nd : come.Nodup
  lt : ∀ x ∈ come, x < n
  p : ∀ (j : Nat) x, 0 < j → come[j]? = some x → ∃ i y, pi[j]? = some i ∧ i < j ∧ come[i]? = some y ∧ c y x = true ∧ (i < a ∨ i = a ∧ x < b)
  mo : ∀ (j k i i2 : Nat), 0 < j → j < k → pi[j]? = some i → pi[k]? = some i2 → i ≤ i2 ∧ (i = i2 → ∀ x y, come[j]? = some x → come[k]? = some y → x < y)
  h : ∀ (i : Nat) y k, come[i]? = some y → c y k = true → (i < a ∨ i = a ∧ k < b) → k ≠ r ∧ ∃ j i2 : Nat, come[j]? = some k ∧ 0 < j ∧ pi[j]? = some i2 ∧ i2 ≤ i
theorem BfI.start {n : Nat} {c : Mx} {r : Nat} (hr : r < n) : BfI n c r [r] [0] 0 0 := by
  refine ⟨rfl, rfl, List.nodup_cons.2 ⟨by simp, List.nodup_nil⟩, fun x hx => by rw [List.mem_singleton.1 hx]; exact hr, fun j x h0 hx => ?_, fun j k i i2 h0 hj hi hk => ?_, fun i y k _ _ h => ?_⟩
  · have := (List.getElem?_eq_some_iff.1 hx).1
    simp at this
    omega
  · have := (List.getElem?_eq_some_iff.1 hk).1
    simp at this
    omega
  · omega
theorem BfI.few {n : Nat} {c : Mx} {r : Nat} {come pi : List Nat} {a b : Nat} (h : BfI n c r come pi a b) : come.length ≤ n := few_below n come h.nd h.lt
theorem BfI.skip {n : Nat} {c : Mx} {r : Nat} {come pi : List Nat} {a b b2 y : Nat} (h : BfI n c r come pi a b) (hy : come[a]? = some y) (hb : b ≤ b2) (hk : ∀ k, b ≤ k → k < b2 → c y k = false) : BfI n c r come pi a b2 := by
  refine ⟨h.z, h.lp, h.nd, h.lt, fun j x h0 hx => ?_, h.mo, fun i z k hz hc hi => ?_⟩
  · obtain ⟨i, y2, p1, p2, p3, p4, p5⟩ := h.p j x h0 hx
    exact ⟨i, y2, p1, p2, p3, p4, by omega⟩
  · refine h.h i z k hz hc ?_
    rcases hi with e | ⟨e, q⟩
    · exact .inl e
    · subst e
      rw [hy] at hz
      cases hz
      by_cases w : k < b
      · exact .inr ⟨rfl, w⟩
      · rw [hk k (by omega) q] at hc
        cases hc
theorem BfI.next {n : Nat} {c : Mx} {r : Nat} {come pi : List Nat} {a b y : Nat} (h : BfI n c r come pi a b) (hy : come[a]? = some y) (hk : ∀ k, b ≤ k → c y k = false) : BfI n c r come pi (a + 1) 0 := by
  refine ⟨h.z, h.lp, h.nd, h.lt, fun j x h0 hx => ?_, h.mo, fun i z k hz hc hi => ?_⟩
  · obtain ⟨i, y2, p1, p2, p3, p4, p5⟩ := h.p j x h0 hx
    exact ⟨i, y2, p1, p2, p3, p4, by omega⟩
  · refine h.h i z k hz hc ?_
    by_cases e : i = a
    · subst e
      rw [hy] at hz
      cases hz
      by_cases w : k < b
      · exact .inr ⟨rfl, w⟩
      · rw [hk k (by omega)] at hc
        cases hc
    · omega
theorem BfI.old {n : Nat} {c : Mx} {r : Nat} {come pi : List Nat} {a k y : Nat} (h : BfI n c r come pi a k) (hy : come[a]? = some y) (hr : k ≠ r) (hm : k ∈ come) : BfI n c r come pi a (k + 1) := by
  refine ⟨h.z, h.lp, h.nd, h.lt, fun j x h0 hx => ?_, h.mo, fun i z q hz hc hi => ?_⟩
  · obtain ⟨i, y2, p1, p2, p3, p4, p5⟩ := h.p j x h0 hx
    exact ⟨i, y2, p1, p2, p3, p4, by omega⟩
  · by_cases e : i = a ∧ q = k
    · obtain ⟨rfl, rfl⟩ := e
      refine ⟨hr, ?_⟩
      obtain ⟨j, hj⟩ := List.getElem?_of_mem hm
      have j0 : 0 < j := by
        rcases Nat.eq_zero_or_pos j with e | e
        · subst e
          rw [h.z] at hj
          cases hj
          exact absurd rfl hr
        · exact e
      obtain ⟨i2, y2, p1, p2, p3, p4, p5⟩ := h.p j q j0 hj
      exact ⟨j, i2, hj, j0, p1, by omega⟩
    · exact h.h i z q hz hc (by omega)
theorem BfI.push {n : Nat} {c : Mx} {r : Nat} {come pi : List Nat} {a k y : Nat} (hc : ∀ i j, c i j = true → i < n ∧ j < n) (h : BfI n c r come pi a k) (hy : come[a]? = some y) (hr : k ≠ r) (hk : c y k = true) (hm : k ∉ come) : BfI n c r (come ++ [k]) (pi ++ [a]) a (k + 1) := by
  have ha := (List.getElem?_eq_some_iff.1 hy).1
  have hlp := h.lp
  have old : ∀ (j : Nat) x, (come ++ [k])[j]? = some x → j < come.length → come[j]? = some x := fun j x hx hj => by rwa [List.getElem?_append_left hj] at hx
  have new : ∀ (j : Nat) x, (come ++ [k])[j]? = some x → ¬ j < come.length → j = come.length ∧ x = k := fun j x hx hj => by
    have := (List.getElem?_eq_some_iff.1 hx).1
    rw [List.length_append, List.length_singleton] at this
    have e : j = come.length := by omega
    subst e
    rw [List.getElem?_append_right (Nat.le_refl _), Nat.sub_self] at hx
    cases hx
    exact ⟨rfl, rfl⟩
  have oldp : ∀ (j : Nat) x, (pi ++ [a])[j]? = some x → j < come.length → pi[j]? = some x := fun j x hx hj => by rwa [List.getElem?_append_left (by omega)] at hx
  have newp : ∀ (j : Nat) x, (pi ++ [a])[j]? = some x → ¬ j < come.length → j = come.length ∧ x = a := fun j x hx hj => by
    have := (List.getElem?_eq_some_iff.1 hx).1
    rw [List.length_append, List.length_singleton] at this
    have e : j = pi.length := by omega
    subst e
    rw [List.getElem?_append_right (Nat.le_refl _), Nat.sub_self] at hx
    cases hx
    exact ⟨hlp, rfl⟩
  have up : ∀ (j : Nat) x, come[j]? = some x → (come ++ [k])[j]? = some x := fun j x hx => by
    rw [List.getElem?_append_left (List.getElem?_eq_some_iff.1 hx).1]; exact hx
  have upp : ∀ (j : Nat) x, pi[j]? = some x → (pi ++ [a])[j]? = some x := fun j x hx => by
    rw [List.getElem?_append_left (List.getElem?_eq_some_iff.1 hx).1]; exact hx
  refine ⟨up _ _ h.z, by rw [List.length_append, List.length_append, hlp]; rfl, ?_, fun x hx => ?_, fun j x h0 hx => ?_, fun j q i i2 h0 hj hi hq => ?_, fun i z q hz hcz hi => ?_⟩
  · rw [List.nodup_append]
    refine ⟨h.nd, List.nodup_cons.2 ⟨by simp, List.nodup_nil⟩, fun x hx z hz e => ?_⟩
    rw [List.mem_singleton.1 hz] at e
    subst e
    exact hm hx
  · rcases List.mem_append.1 hx with e | e
    · exact h.lt x e
    · rw [List.mem_singleton.1 e]; exact (hc y k hk).2
  · by_cases e : j < come.length
    · obtain ⟨i, y2, p1, p2, p3, p4, p5⟩ := h.p j x h0 (old j x hx e)
      exact ⟨i, y2, upp _ _ p1, p2, up _ _ p3, p4, by omega⟩
    · obtain ⟨rfl, rfl⟩ := new j x hx e
      exact ⟨a, y, by rw [← hlp, List.getElem?_append_right (Nat.le_refl _), Nat.sub_self]; rfl, ha, up _ _ hy, hk, .inr ⟨rfl, by omega⟩⟩
  · have hjl : j < come.length := by
      have := (List.getElem?_eq_some_iff.1 hq).1
      rw [List.length_append, List.length_singleton] at this
      omega
    have hi2 := oldp j i hi hjl
    by_cases e : q < come.length
    · obtain ⟨m1, m2⟩ := h.mo j q i i2 h0 hj hi2 (oldp q i2 hq e)
      exact ⟨m1, fun e2 x z hx hz => m2 e2 x z (old j x hx hjl) (old q z hz e)⟩
    · obtain ⟨rfl, rfl⟩ := newp q i2 hq e
      have ej : come[j]? = some come[j] := List.getElem?_eq_getElem hjl
      obtain ⟨i3, y2, p1, p2, p3, p4, p5⟩ := h.p j _ h0 ej
      rw [hi2] at p1
      cases p1
      refine ⟨by omega, fun e2 x z hx hz => ?_⟩
      obtain ⟨_, rfl⟩ := new _ z hz e
      have hx := old j x hx hjl
      rw [ej] at hx
      have hx : come[j] = x := Option.some.inj hx
      omega
  · have hzl : i < come.length := by omega
    have hz := old i z hz hzl
    by_cases e : i = a ∧ q = k
    · obtain ⟨rfl, rfl⟩ := e
      exact ⟨hr, come.length, i, by rw [List.getElem?_append_right (Nat.le_refl _), Nat.sub_self]; rfl, by omega, by rw [← hlp, List.getElem?_append_right (Nat.le_refl _), Nat.sub_self]; rfl, Nat.le_refl _⟩
    · obtain ⟨g1, j, i2, g2, g3, g4, g5⟩ := h.h i z q hz hcz (by omega)
      exact ⟨g1, j, i2, up _ _ g2, g3, upp _ _ g4, g5⟩
/-- None comes back. -/
theorem BfI.none {n : Nat} {c : Mx} {r : Nat} {come pi : List Nat} (_hc : ∀ i j, c i j = true → i < n ∧ j < n) (h : BfI n c r come pi come.length 0) : ¬ Rc n c r r := by
  have key : ∀ (t i x : Nat), come[i]? = some x → ¬ St c r (t + 1) x := by
    intro t
    induction t with
    | zero =>
      intro i x hx hs
      exact (h.h i x r hx (St.one.1 hs) (.inl (List.getElem?_eq_some_iff.1 hx).1)).1 rfl
    | succ t ih =>
      intro i x hx hs
      obtain ⟨k, k1, k2⟩ := hs
      obtain ⟨_, j, _, hj, _⟩ := h.h i x k hx k1 (.inl (List.getElem?_eq_some_iff.1 hx).1)
      exact ih j k hj k2
  intro q
  obtain ⟨t, ht⟩ := St.of_rc q
  exact key t 0 r h.z ht
/-- The first that comes back stands at the end of the way that the document tells; each stands ahead of the next on it. -/
theorem BfI.found {n : Nat} {c : Mx} {r m : Nat} {come pi l : List Nat} {a b y : Nat} (h : BfI n c r come pi a b) (hy : come[a]? = some y) (hyr : c y r = true) (hd : Ds c r m r) (hl : PtI c r m l) :
    l[m - 1]? = some y ∧ ∀ (i : Nat) x z, l[i]? = some x → l[i + 1]? = some z → z ≠ r ∧ ∃ j i2 : Nat, come[j]? = some z ∧ 0 < j ∧ pi[j]? = some i2 ∧ come[i2]? = some x := by
  have m0 := hd.1
  have key : ∀ (i : Nat), i < m → ∃ j x : Nat, l[i]? = some x ∧ come[j]? = some x ∧ j ≤ a ∧ (∀ (k : Nat) z s, come[k]? = some z → Ds c r s z → s ≤ m - i → j ≤ k) ∧ ∀ i0 x0, i = i0 + 1 → l[i0]? = some x0 → 0 < j ∧ ∃ i2 : Nat, pi[j]? = some i2 ∧ come[i2]? = some x0 := by
    intro i
    induction i with
    | zero =>
      intro _
      exact ⟨0, r, hl.h, h.z, Nat.zero_le _, fun _ _ _ _ _ _ => Nat.zero_le _, fun i0 x0 e => by omega⟩
    | succ i ih =>
      intro hi
      obtain ⟨j, x, x1, x2, x3, x4, _⟩ := ih (by omega)
      have hx := hl.ds hd x1
      have hja : j < a := by
        rcases Nat.lt_or_ge j a with q | q
        · exact q
        · have e : j = a := by omega
          subst e
          rw [hy] at x2
          cases x2
          have := hx.one (Ds.first.2 hyr)
          omega
      have n1 := hl.n
      have hz : l[i + 1]? = some l[i + 1] := List.getElem?_eq_getElem (by rw [hl.n]; exact hi)
      obtain ⟨z1, z2, z3⟩ := hl.s i x _ x1 hz
      obtain ⟨_, j2, i2, w1, w2, w3, w4⟩ := h.h j x _ x2 z1 (.inl hja)
      obtain ⟨i3, y3, p1, p2, p3, p4, _⟩ := h.p j2 _ w2 w1
      rw [w3] at p1
      cases p1
      obtain ⟨s, s1, s2⟩ := Ds.up p4 z2
      have := x4 i2 y3 s p3 s2 (by omega)
      have e : i2 = j := by omega
      subst e
      have least : ∀ (k : Nat) z s, come[k]? = some z → Ds c r s z → s ≤ m - (i + 1) → j2 ≤ k := by
        intro k z s hk hs hm
        have k0 : 0 < k := by
          rcases Nat.eq_zero_or_pos k with e | e
          · subst e
            rw [h.z] at hk
            cases hk
            have := hs.one hd
            omega
          · exact e
        obtain ⟨i4, y4, g1, g2, g3, g4, _⟩ := h.p k z k0 hk
        obtain ⟨u, u1, u2⟩ := Ds.up g4 hs
        have hge := x4 i4 y4 u g3 u2 (by omega)
        rcases Nat.lt_or_ge k j2 with q | q
        · obtain ⟨m1, m2⟩ := h.mo k j2 i4 i2 k0 q g1 w3
          have e : i4 = i2 := by omega
          subst e
          have hlt := m2 rfl z _ hk w1
          rw [x2] at g3
          cases g3
          have := u2.one hx
          have e2 : s = m - (i + 1) := by omega
          subst e2
          have := z3 z g4 hs
          omega
        · exact q
      have hle : j2 ≤ a := least a y 1 hy (Ds.first.2 hyr) (by omega)
      refine ⟨j2, _, hz, w1, hle, least, fun i0 x0 e hx0 => ?_⟩
      have : i = i0 := by omega
      subst this
      rw [x1] at hx0
      cases hx0
      exact ⟨w2, i2, w3, x2⟩
  refine ⟨?_, fun i x z hx hz => ?_⟩
  · obtain ⟨j, x, x1, x2, x3, x4, _⟩ := key (m - 1) (by omega)
    have hx := hl.ds hd x1
    rw [show m - (m - 1) = 1 from by omega] at hx
    rcases Nat.lt_or_ge j a with q | q
    · exact absurd rfl (h.h j x r x2 (Ds.first.1 hx) (.inl q)).1
    · have e : j = a := by omega
      subst e
      rw [hy] at x2
      cases x2
      exact x1
  · have hi := (List.getElem?_eq_some_iff.1 hz).1
    have hzd := hl.ds hd hz
    refine ⟨fun e => ?_, ?_⟩
    · subst e
      have := hzd.one hd
      rw [hl.n] at hi
      omega
    · obtain ⟨j, x2, x3, x4, _, _, x5⟩ := key (i + 1) (by rw [← hl.n]; exact hi)
      rw [hz] at x3
      cases x3
      obtain ⟨q1, i2, q2, q3⟩ := x5 i x rfl hx
      exact ⟨j, i2, x4, q1, q2, q3⟩
end Go.Proofs.Ytbipjdgholdhcaa.N

namespace Go.Proofs.Ytbipjdgholdhcaa.T
open Go.RowKit
def dgB (c : Int) : Bool := decide (48 ≤ c) && decide (c ≤ 57)
def ltB (c : Int) : Bool := (decide (97 ≤ c) && decide (c ≤ 122)) || (decide (65 ≤ c) && decide (c ≤ 90))
def nmC (c : Int) : Bool := dgB c || ltB c || c == 95

def NmP (s : ByteArray) : Prop := 0 < s.size ∧ s.size ≤ 32 ∧ (∀ h : 0 < s.size, dgB (s[0].toNat : Int) = false) ∧ ∀ (j : Nat) (h : j < s.size), nmC (s[j].toNat : Int) = true
def decNm (s:ByteArray):Decidable (NmP s):=by unfold NmP;exact inferInstance
def nmB (s:ByteArray):Bool:=@decide (NmP s) (decNm s)
theorem nmB_t {s : ByteArray} (h : NmP s) : nmB s = true := by unfold nmB; exact @decide_eq_true _ (decNm _) h
theorem nmB_f {s : ByteArray} (h : ¬ NmP s) : nmB s = false := by unfold nmB; exact @decide_eq_false _ (decNm _) h

def tmGo (s : ByteArray) : Nat → Nat → Bool
  | 0, _ => true
  | m + 1, i => if h : i < s.size then (if (s[i].toNat : Int) = 37 then (if h2 : i + 1 < s.size then (if (s[i + 1].toNat : Int) = 37 ∨ dgB (s[i + 1].toNat : Int) = true then tmGo s m (i + 2) else false) else false) else tmGo s m (i + 1)) else true
def tmB (s : ByteArray) : Bool := if s.size ≤ 255 then tmGo s s.size 0 else false

/-- A node of a pattern. -/
structure Nd where
  op : Int
  nn : Int
  tx : ByteArray
  s0 : Int
  s1 : Int
  s2 : Int
  s3 : Int

def ar (op : Int) : Int := if op < 1 ∨ 23 < op then -1 else if op ≤ 6 ∨ op = 17 then 0 else if op = 7 ∨ op = 8 then 2 else 1
theorem ar_hi (op : Int) : ar op ≤ 2 := by
  unfold ar; split
  · omega
  · split
    · omega
    · split <;> omega

def txF (op : Int) (tx : ByteArray) : Bool := if op = 4 then decide (1 ≤ tx.size ∧ tx.size ≤ 255) else if op = 6 then nmB tx else if op = 19 then decide (tx.size = 0) || nmB tx else if op = 22 then tmB tx else decide (tx.size = 0)
def nuF (op nn : Int) : Bool := if op = 14 ∨ op = 15 ∨ op = 16 ∨ op = 23 then decide (0 ≤ nn ∧ nn ≤ 50) else decide (nn = 0)
def seF (op a b c d : Int) : Bool := if op = 5 then true else decide (a = 0 ∧ b = 0 ∧ c = 0 ∧ d = 0)
def fdF (n : Nd) : Bool := txF n.op n.tx && nuF n.op n.nn && seF n.op n.s0 n.s1 n.s2 n.s3
def alE (n : Nd) : Int := if ar n.op < 0 then 40 else if fdF n then 0 else 41

abbrev ndG (n : Nd) : Value := .agg #[.int .i64 n.op, .int .i64 n.nn, .string n.tx, .int .u64 n.s0, .int .u64 n.s1, .int .u64 n.s2, .int .u64 n.s3]
def ndV (n : Nd) : List Value := [.int .i64 n.op, .int .i64 n.nn, .string n.tx, .int .u64 n.s0, .int .u64 n.s1, .int .u64 n.s2, .int .u64 n.s3]
def ndc (l : List Nd) : List Value := l.flatMap ndV
theorem ndc_len (l : List Nd) : (ndc l).length = l.length * 7 := by
  induction l with
  | nil => rfl
  | cons a l ih => show (ndV a ++ ndc l).length = _; rw [List.length_append, ih, List.length_cons]; show 7 + _ = _; omega

theorem emp_t {s : ByteArray} (h : s.size = 0) : s.toList.isEmpty = true := by
  obtain ⟨d⟩ := s
  have h2 : d.size = 0 := h
  rw [ByteArray.toList_eq, Array.eq_empty_of_size_eq_zero h2]; rfl
theorem emp_f {s : ByteArray} (h : ¬ s.size = 0) : s.toList.isEmpty = false := by
  obtain ⟨d⟩ := s
  have h2 : ¬ d.toList.length = 0 := h
  rw [ByteArray.toList_eq]
  show d.toList.isEmpty = false
  cases hd : d.toList with
  | nil => rw [hd] at h2; exact absurd rfl h2
  | cons a b => rfl
theorem ret_bool {a b : Bool} (h : a = b) : Ending.returned (.bool a) = .returned (.bool b) := by rw [h]
end Go.Proofs.Ytbipjdgholdhcaa.T

namespace Go.Proofs.Ytbipjdgholdhcaa.T
/-- A part: its first and its last node, its height. -/
abbrev Pt := Nat × Nat × Nat

def opAt (L : List Nd) (k : Nat) : Int := match L[k]? with
  | some n => n.op
  | none => 0
def arN (op : Int) : Nat := (ar op).toNat
/-- The part that ends with node k, by the parts that are free ahead of it (the last one first). -/
def mk (L : List Nd) (k : Nat) (op : Int) (st : List Pt) : Pt :=
  if arN op = 0 then (k, k, 1) else if arN op = 1 then (match st with
    | x :: _ => (x.1, k, max 1 (x.2.2 + 1))
    | [] => (k, k, 1)) else (match st with
    | y :: x :: _ => (x.1, k, max (max 1 (if opAt L x.2.1 = op then x.2.2 else x.2.2 + 1)) (y.2.2 + 1))
    | _ => (k, k, 1))
def run (L : List Nd) : Nat → List Pt
  | 0 => []
  | k + 1 => mk L k (opAt L k) (run L k) :: (run L k).drop (arN (opAt L k))
def pt (L : List Nd) (k : Nat) : Pt := mk L k (opAt L k) (run L k)
theorem run_succ (L : List Nd) (k : Nat) : run L (k + 1) = pt L k :: (run L k).drop (arN (opAt L k)) := rfl

/-- What is wrong with node k; 0: nothing. -/
def er (L : List Nd) (k : Nat) : Int := match L[k]? with
  | none => 0
  | some n => if alE n ≠ 0 then alE n else if (run L k).length < arN n.op then 42 else if 60 < (pt L k).2.2 then 4 else 0
def ckGo (L : List Nd) : Nat → Nat → Nat × Int
  | 0, _ => if (run L L.length).length = 1 then (0, 0) else (L.length, 42)
  | m + 1, k => if er L k ≠ 0 then (k, er L k) else ckGo L m (k + 1)
def ck (L : List Nd) : Nat × Int := if 2048 < L.length then (0, 2) else ckGo L L.length 0

theorem ckGo_from (L : List Nd) : ∀ (k m : Nat), k + m = L.length → (∀ j, j < k → er L j = 0) → ckGo L L.length 0 = ckGo L m k := by
  intro k
  induction k with
  | zero => intro m hm _; rw [← hm, Nat.zero_add]
  | succ k ih =>
    intro m hm h
    rw [ih (m + 1) (by omega) (fun j hj => h j (by omega)), ckGo, if_neg (by rw [h k (by omega)]; simp)]
theorem ck_bad {L : List Nd} {k : Nat} (hl : ¬ 2048 < L.length) (hk : k < L.length) (h : ∀ j, j < k → er L j = 0) (he : er L k ≠ 0) : ck L = (k, er L k) := by
  rw [ck, if_neg hl, ckGo_from L k (L.length - k) (by omega) h, show L.length - k = (L.length - k - 1) + 1 from by omega, ckGo, if_pos he]
theorem ck_end {L : List Nd} (hl : ¬ 2048 < L.length) (h : ∀ j, j < L.length → er L j = 0) : ck L = if (run L L.length).length = 1 then (0, 0) else (L.length, 42) := by
  rw [ck, if_neg hl, ckGo_from L L.length 0 (by omega) h, ckGo]
theorem ck_long {L : List Nd} (hl : 2048 < L.length) : ck L = (0, 2) := by rw [ck, if_pos hl]
/-- Right. -/
structure Rt (L : List Nd) : Prop where
  len : ¬ 2048 < L.length
  each : ∀ j, j < L.length → er L j = 0
  one : (run L L.length).length = 1
theorem Rt.ck {L : List Nd} (h : Rt L) : ck L = (0, 0) := by rw [ck_end h.len h.each, if_pos h.one]
theorem ckGo_ok (L : List Nd) : ∀ (m k : Nat), k + m = L.length → (ckGo L m k).2 = 0 → (∀ j, k ≤ j → j < L.length → er L j = 0) ∧ (run L L.length).length = 1 := by
  intro m
  induction m with
  | zero =>
    intro k hk h
    refine ⟨fun j h1 h2 => by omega, ?_⟩
    rw [ckGo] at h
    split at h
    · assumption
    · cases h
  | succ m ih =>
    intro k hk h
    rw [ckGo] at h
    split at h
    · next he => exact absurd h he
    · next he =>
      obtain ⟨h1, h2⟩ := ih (k + 1) (by omega) h
      refine ⟨fun j a b => ?_, h2⟩
      by_cases hj : j = k
      · subst hj
        exact Classical.byContradiction he
      · exact h1 j (by omega) b
theorem rt_of {L : List Nd} (h : (ck L).2 = 0) : Rt L := by
  unfold ck at h
  split at h
  · cases h
  · next hl =>
    obtain ⟨h1, h2⟩ := ckGo_ok L L.length 0 (by omega) h
    exact ⟨hl, fun j hj => h1 j (by omega) hj, h2⟩

theorem er_of {L : List Nd} {k : Nat} {n : Nd} (h : L[k]? = some n) : er L k = if alE n ≠ 0 then alE n else if (run L k).length < arN n.op then 42 else if 60 < (pt L k).2.2 then 4 else 0 := by
  unfold er; rw [h]
theorem op_of {L : List Nd} {k : Nat} {n : Nd} (h : L[k]? = some n) : opAt L k = n.op := by unfold opAt; rw [h]
theorem alE_ar {n : Nd} (h : alE n = 0) : 0 ≤ ar n.op := by
  unfold alE at h
  split at h
  · cases h
  · omega

/-- What lies free ahead of node k lies one behind the other. -/
def Chn (L : List Nd) : Nat → List Pt → Prop
  | at', [] => at' = 0
  | at', x :: r => x.2.1 + 1 = at' ∧ x = pt L x.2.1 ∧ x.1 ≤ x.2.1 ∧ Chn L x.1 r
theorem mk_last (L : List Nd) (k : Nat) (op : Int) (st : List Pt) : (mk L k op st).2.1 = k := by
  unfold mk
  split
  · rfl
  · split
    · split <;> rfl
    · split <;> rfl
theorem arN_le (op : Int) : arN op ≤ 2 := by unfold arN; have := ar_hi op; omega
theorem chn_run (L : List Nd) : ∀ k, k ≤ L.length → (∀ j, j < k → er L j = 0) → Chn L k (run L k) := by
  intro k
  induction k with
  | zero => intro _ _; exact rfl
  | succ k ih =>
    intro hk h
    have c := ih (by omega) (fun j hj => h j (by omega))
    have hn : L[k]? = some L[k] := List.getElem?_eq_getElem (by omega)
    have he := h k (by omega)
    rw [er_of hn] at he
    have ha : alE L[k] = 0 := by
      apply Classical.byContradiction
      intro q
      rw [if_pos q] at he
      exact q he
    rw [if_neg (by simp [ha])] at he
    have hl : ¬ (run L k).length < arN L[k].op := by
      intro q
      rw [if_pos q] at he
      cases he
    have hop := op_of hn
    rw [run_succ]
    have hlast : (pt L k).2.1 = k := mk_last _ _ _ _
    refine ⟨by rw [hlast], by rw [hlast], ?_, ?_⟩
    · rw [hlast]
      unfold pt mk
      rw [hop]
      split
      · exact Nat.le_refl _
      · split
        · cases hr : run L k with
          | nil => exact Nat.le_refl _
          | cons x r => rw [hr] at c; have := c.1; have := c.2.2.1; show x.1 ≤ k; omega
        · cases hr : run L k with
          | nil => exact Nat.le_refl _
          | cons y r =>
            rw [hr] at c
            cases hr2 : r with
            | nil => exact Nat.le_refl _
            | cons x r2 =>
              rw [hr2] at c
              have h1 := c.1; have h2 := c.2.2.1; have h3 := c.2.2.2.1; have h4 := c.2.2.2.2.2.1
              show x.1 ≤ k
              omega
    · have h2 := arN_le L[k].op
      unfold pt mk
      rw [hop]
      by_cases a0 : arN L[k].op = 0
      · rw [if_pos a0, a0]
        exact c
      · rw [if_neg a0]
        by_cases a1 : arN L[k].op = 1
        · rw [if_pos a1, a1]
          rw [a1] at hl
          cases hr : run L k with
          | nil => rw [hr] at hl; exact absurd (by simp) hl
          | cons x r => rw [hr] at c; exact c.2.2.2
        · rw [if_neg a1, show arN L[k].op = 2 from by omega]
          rw [show arN L[k].op = 2 from by omega] at hl
          cases hr : run L k with
          | nil => rw [hr] at hl; exact absurd (by simp) hl
          | cons y r =>
            rw [hr] at c hl
            cases hr2 : r with
            | nil => rw [hr2] at hl; exact absurd (by simp) hl
            | cons x r2 => rw [hr2] at c; exact c.2.2.2.2.2.2
end Go.Proofs.Ytbipjdgholdhcaa.T

namespace Go.Proofs.Ytbipjdgholdhcaa.T
open Go.RowKit
/-- What is known: may it match nothing, may it fail, the least length (-1: none), the greatest one (-1: no bound). -/
structure Em where
  nu : Bool
  cf : Bool
  le : Int
  mo : Int
theorem Em.ext' {a b : Em} (h1 : a.nu = b.nu) (h2 : a.cf = b.cf) (h3 : a.le = b.le) (h4 : a.mo = b.mo) : a = b := by
  obtain ⟨a1, a2, a3, a4⟩ := a
  obtain ⟨b1, b2, b3, b4⟩ := b
  simp only at h1 h2 h3 h4
  subst h1 h2 h3 h4
  rfl
def e0 : Em := ⟨false, false, 0, 0⟩
def eB : Em := ⟨false, false, -1, -1⟩
def sumE (a b : Int) : Int := if a = -1 ∨ b = -1 then -1 else a + b
def timE (n a : Int) : Int := if a = -1 then -1 else n * a
def lesE (a b : Int) : Int := if a = -1 then b else if b = -1 then a else min a b
def greE (a b : Int) : Int := if a = -1 ∨ b = -1 then -1 else max a b
def agE (a : Int) : Int := if a = 0 then 0 else -1
def leC (n : Int) : Int := min n 1048576
def moC (n : Int) : Int := if 1048576 < n then -1 else n
def emN (n : Nd) (x y : Em) (r : ByteArray → Em) : Em :=
  if n.op = 1 ∨ n.op = 17 ∨ ((n.op = 14 ∨ n.op = 16) ∧ n.nn = 0) then ⟨true, false, 0, 0⟩
  else if n.op = 9 ∨ (n.op = 15 ∧ n.nn = 0) then ⟨true, false, 0, agE x.mo⟩
  else if n.op = 2 then ⟨false, true, -1, 0⟩
  else if n.op = 3 ∨ n.op = 5 then ⟨false, true, 1, 1⟩
  else if n.op = 4 then ⟨false, true, n.tx.size, n.tx.size⟩
  else if n.op = 6 then r n.tx
  else if n.op = 7 then ⟨x.nu && y.nu, x.cf || y.cf, leC (sumE x.le y.le), moC (sumE x.mo y.mo)⟩
  else if n.op = 8 then ⟨x.nu || y.nu, x.cf && y.cf, lesE x.le y.le, greE x.mo y.mo⟩
  else if n.op = 10 then ⟨x.nu, x.cf, x.le, agE x.mo⟩
  else if n.op = 11 then ⟨true, false, 0, x.mo⟩
  else if n.op = 12 then ⟨true, x.cf, 0, 0⟩
  else if n.op = 13 then ⟨true, true, 0, 0⟩
  else if n.op = 14 then ⟨x.nu, x.cf, leC (timE n.nn x.le), moC (timE n.nn x.mo)⟩
  else if n.op = 15 then ⟨x.nu, x.cf, leC (timE n.nn x.le), agE x.mo⟩
  else if n.op = 16 then ⟨true, false, 0, moC (timE n.nn x.mo)⟩
  else x
/-- What is known hangs together. -/
structure OkE (e : Em) : Prop where
  l1 : -1 ≤ e.le
  l2 : e.le ≤ 1048576
  m1 : -1 ≤ e.mo
  m2 : e.mo ≤ 1048576
  z : e.nu = true ↔ e.le = 0
  le : 0 ≤ e.le → 0 ≤ e.mo → e.le ≤ e.mo
theorem k1 : (-1 : Int) ≤ 0 := by decide
theorem k2 : (0 : Int) ≤ 1048576 := by decide
theorem okB : OkE eB := ⟨by decide, by decide, by decide, by decide, ⟨(fun h => by cases h), (fun h => by cases h)⟩, (fun h => by cases h)⟩
theorem tim_pos {n a : Int} (h1 : 1 ≤ n) (_h2 : n ≤ 50) (ha : -1 ≤ a) : timE n a = -1 ∧ a = -1 ∨ 0 ≤ a ∧ timE n a = n * a ∧ a ≤ n * a := by
  unfold timE
  by_cases h : a = -1
  · rw [if_pos h]; exact .inl ⟨rfl, h⟩
  · rw [if_neg h]
    refine .inr ⟨by omega, rfl, ?_⟩
    have : 1 * a ≤ n * a := Int.mul_le_mul_of_nonneg_right h1 (by omega)
    omega
theorem mul_zero_iff {n a : Int} (h1 : 1 ≤ n) : n * a = 0 ↔ a = 0 := by
  constructor
  · intro h
    rcases Int.mul_eq_zero.1 h with q | q
    · omega
    · exact q
  · intro h; rw [h, Int.mul_zero]
theorem mul_mono {n a b : Int} (h1 : 1 ≤ n) (h : a ≤ b) : n * a ≤ n * b := Int.mul_le_mul_of_nonneg_left h (by omega)
/-- A node that is right by itself keeps it so. -/
theorem emN_ok {n : Nd} {x y : Em} {r : ByteArray → Em} (hn : alE n = 0) (hx : 1 ≤ arN n.op → OkE x) (hy : 2 ≤ arN n.op → OkE y) (hr : n.op = 6 → OkE (r n.tx)) : OkE (emN n x y r) := by
  have har : ¬ ar n.op < 0 ∧ fdF n = true := by
    unfold alE at hn
    by_cases h : ar n.op < 0
    · rw [if_pos h] at hn; cases hn
    · rw [if_neg h] at hn
      by_cases q : fdF n = true
      · exact ⟨h, q⟩
      · rw [if_neg q] at hn; cases hn
  obtain ⟨ha, hf⟩ := har
  have hop : 1 ≤ n.op ∧ n.op ≤ 23 := by
    unfold ar at ha
    by_cases h : n.op < 1 ∨ 23 < n.op
    · rw [if_pos h] at ha; exact absurd (by decide) ha
    · omega
  unfold fdF at hf
  rw [Bool.and_eq_true, Bool.and_eq_true] at hf
  obtain ⟨⟨ht, hu⟩, _⟩ := hf
  have hnn : (n.op = 14 ∨ n.op = 15 ∨ n.op = 16) → 0 ≤ n.nn ∧ n.nn ≤ 50 := fun h => by
    unfold nuF at hu
    rw [if_pos (by omega)] at hu
    simpa using hu
  have hx1 : n.op ≠ 7 → n.op ≠ 8 → ¬ (n.op ≤ 6 ∨ n.op = 17) → OkE x := fun h7 h8 h6 => hx (by
    unfold arN ar
    rw [if_neg (by omega), if_neg h6, if_neg (by omega)]
    decide)
  have hx2 : n.op = 7 ∨ n.op = 8 → OkE x ∧ OkE y := fun h => by
    have e : arN n.op = 2 := by
      unfold arN ar
      rw [if_neg (by omega), if_neg (by omega), if_pos h]
      rfl
    exact ⟨hx (by omega), hy (by omega)⟩
  unfold emN
  by_cases c1 : n.op = 1 ∨ n.op = 17 ∨ ((n.op = 14 ∨ n.op = 16) ∧ n.nn = 0)
  · rw [if_pos c1]; exact ⟨by decide, by decide, by decide, by decide, ⟨fun _ => rfl, fun _ => rfl⟩, fun _ _ => by decide⟩
  rw [if_neg c1]
  by_cases c2 : n.op = 9 ∨ (n.op = 15 ∧ n.nn = 0)
  · rw [if_pos c2]
    refine ⟨k1, k2, ?_, ?_, ⟨fun _ => rfl, fun _ => rfl⟩, fun _ h => h⟩
    · show -1 ≤ agE x.mo; unfold agE; split <;> omega
    · show agE x.mo ≤ _; unfold agE; split <;> omega
  rw [if_neg c2]
  by_cases c3 : n.op = 2
  · rw [if_pos c3]; exact ⟨by decide, by decide, by decide, by decide, ⟨(fun h => by cases h), (fun h => by cases h)⟩, (fun h => by cases h)⟩
  rw [if_neg c3]
  by_cases c4 : n.op = 3 ∨ n.op = 5
  · rw [if_pos c4]; exact ⟨by decide, by decide, by decide, by decide, ⟨(fun h => by cases h), (fun h => by cases h)⟩, fun _ _ => by decide⟩
  rw [if_neg c4]
  by_cases c5 : n.op = 4
  · rw [if_pos c5]
    have h4 : 1 ≤ n.tx.size ∧ n.tx.size ≤ 255 := by
      unfold txF at ht
      rw [if_pos c5] at ht
      simpa using ht
    refine ⟨?_, ?_, ?_, ?_, ⟨(fun h => by cases h), fun h => ?_⟩, fun _ _ => Int.le_refl _⟩
    · show -1 ≤ (n.tx.size : Int); omega
    · show (n.tx.size : Int) ≤ _; omega
    · show -1 ≤ (n.tx.size : Int); omega
    · show (n.tx.size : Int) ≤ _; omega
    · have h : (n.tx.size : Int) = 0 := h
      omega
  rw [if_neg c5]
  by_cases c6 : n.op = 6
  · rw [if_pos c6]; exact hr c6
  rw [if_neg c6]
  by_cases c7 : n.op = 7
  · rw [if_pos c7]
    obtain ⟨⟨a1, a2, a3, a4, a5, a6⟩, ⟨b1, b2, b3, b4, b5, b6⟩⟩ := hx2 (.inl c7)
    refine ⟨?_, ?_, ?_, ?_, ?_, ?_⟩
    · show -1 ≤ leC (sumE x.le y.le); unfold leC sumE; split <;> omega
    · show leC (sumE x.le y.le) ≤ _; unfold leC sumE; split <;> omega
    · show -1 ≤ moC (sumE x.mo y.mo); unfold moC sumE; split <;> (try split) <;> omega
    · show moC (sumE x.mo y.mo) ≤ _; unfold moC sumE; split <;> (try split) <;> omega
    · show (x.nu && y.nu) = true ↔ leC (sumE x.le y.le) = 0
      rw [Bool.and_eq_true, a5, b5]
      unfold leC sumE
      split <;> omega
    · show 0 ≤ leC (sumE x.le y.le) → 0 ≤ moC (sumE x.mo y.mo) → _ ≤ moC (sumE x.mo y.mo)
      show 0 ≤ leC (sumE x.le y.le) → 0 ≤ moC (sumE x.mo y.mo) → leC (sumE x.le y.le) ≤ moC (sumE x.mo y.mo)
      unfold leC moC sumE
      intro p q
      by_cases u : x.le = -1 ∨ y.le = -1
      · rw [if_pos u] at p; exact absurd p (by decide)
      · rw [if_neg u] at p ⊢
        by_cases v : x.mo = -1 ∨ y.mo = -1
        · rw [if_pos v] at q; exact absurd q (by decide)
        · simp only [if_neg v] at q ⊢
          by_cases t : 1048576 < x.mo + y.mo
          · rw [if_pos t] at q; exact absurd q (by decide)
          · rw [if_neg t]
            have := a6 (by omega) (by omega)
            have := b6 (by omega) (by omega)
            omega
  rw [if_neg c7]
  by_cases c8 : n.op = 8
  · rw [if_pos c8]
    obtain ⟨⟨a1, a2, a3, a4, a5, a6⟩, ⟨b1, b2, b3, b4, b5, b6⟩⟩ := hx2 (.inr c8)
    refine ⟨?_, ?_, ?_, ?_, ?_, ?_⟩
    · show -1 ≤ lesE x.le y.le; unfold lesE; split <;> (try split) <;> omega
    · show lesE x.le y.le ≤ _; unfold lesE; split <;> (try split) <;> omega
    · show -1 ≤ greE x.mo y.mo; unfold greE; split <;> omega
    · show greE x.mo y.mo ≤ _; unfold greE; split <;> omega
    · show (x.nu || y.nu) = true ↔ lesE x.le y.le = 0
      rw [Bool.or_eq_true, a5, b5]
      unfold lesE
      split
      · omega
      · split <;> omega
    · show 0 ≤ lesE x.le y.le → 0 ≤ greE x.mo y.mo → lesE x.le y.le ≤ greE x.mo y.mo
      unfold lesE greE
      intro p q
      by_cases v : x.mo = -1 ∨ y.mo = -1
      · rw [if_pos v] at q; exact absurd q (by decide)
      · rw [if_neg v]
        by_cases u : x.le = -1
        · rw [if_pos u] at p ⊢
          have := b6 p (by omega)
          omega
        · rw [if_neg u] at p ⊢
          have := a6 (by omega) (by omega)
          by_cases t : y.le = -1
          · rw [if_pos t]; omega
          · rw [if_neg t]; omega
  rw [if_neg c8]
  by_cases c10 : n.op = 10
  · rw [if_pos c10]
    obtain ⟨a1, a2, a3, a4, a5, a6⟩ := hx1 (by omega) (by omega) (by omega)
    refine ⟨a1, a2, ?_, ?_, a5, ?_⟩
    · show -1 ≤ agE x.mo; unfold agE; split <;> omega
    · show agE x.mo ≤ _; unfold agE; split <;> omega
    · show 0 ≤ x.le → 0 ≤ agE x.mo → x.le ≤ agE x.mo
      unfold agE
      intro p q
      by_cases u : x.mo = 0
      · rw [if_pos u]; have := a6 p (by omega); omega
      · rw [if_neg u] at q; exact absurd q (by decide)
  rw [if_neg c10]
  by_cases c11 : n.op = 11
  · rw [if_pos c11]
    obtain ⟨a1, a2, a3, a4, a5, a6⟩ := hx1 (by omega) (by omega) (by omega)
    exact ⟨k1, k2, a3, a4, ⟨fun _ => rfl, fun _ => rfl⟩, fun _ h => h⟩
  rw [if_neg c11]
  by_cases c12 : n.op = 12
  · rw [if_pos c12]; exact ⟨k1, k2, k1, k2, ⟨fun _ => rfl, fun _ => rfl⟩, fun _ h => h⟩
  rw [if_neg c12]
  by_cases c13 : n.op = 13
  · rw [if_pos c13]; exact ⟨k1, k2, k1, k2, ⟨fun _ => rfl, fun _ => rfl⟩, fun _ h => h⟩
  rw [if_neg c13]
  have ag : ∀ a : Int, -1 ≤ agE a ∧ agE a ≤ 1048576 := fun a => by unfold agE; split <;> omega
  by_cases c14 : n.op = 14
  · rw [if_pos c14]
    obtain ⟨a1, a2, a3, a4, a5, a6⟩ := hx1 (by omega) (by omega) (by omega)
    have hN := hnn (by omega)
    have p1 := tim_pos (n := n.nn) (by omega) hN.2 a1
    have p2 := tim_pos (n := n.nn) (by omega) hN.2 a3
    have z1 := mul_zero_iff (n := n.nn) (a := x.le) (by omega)
    refine ⟨?_, ?_, ?_, ?_, ?_, ?_⟩
    · show -1 ≤ leC (timE n.nn x.le); unfold leC; omega
    · show leC (timE n.nn x.le) ≤ _; unfold leC; omega
    · show -1 ≤ moC (timE n.nn x.mo); unfold moC; split <;> omega
    · show moC (timE n.nn x.mo) ≤ _; unfold moC; split <;> omega
    · show x.nu = true ↔ leC (timE n.nn x.le) = 0
      rw [a5]; unfold leC; omega
    · show 0 ≤ leC (timE n.nn x.le) → 0 ≤ moC (timE n.nn x.mo) → leC (timE n.nn x.le) ≤ moC (timE n.nn x.mo)
      unfold leC moC
      intro p q
      by_cases t : 1048576 < timE n.nn x.mo
      · rw [if_pos t] at q; exact absurd q (by decide)
      · rw [if_neg t] at q ⊢
        have h := a6 (by omega) (by omega)
        have := mul_mono (n := n.nn) (by omega) h
        omega
  rw [if_neg c14]
  by_cases c15 : n.op = 15
  · rw [if_pos c15]
    obtain ⟨a1, a2, a3, a4, a5, a6⟩ := hx1 (by omega) (by omega) (by omega)
    have hN := hnn (by omega)
    have p1 := tim_pos (n := n.nn) (by omega) hN.2 a1
    have z1 := mul_zero_iff (n := n.nn) (a := x.le) (by omega)
    refine ⟨?_, ?_, (ag _).1, (ag _).2, ?_, ?_⟩
    · show -1 ≤ leC (timE n.nn x.le); unfold leC; omega
    · show leC (timE n.nn x.le) ≤ _; unfold leC; omega
    · show x.nu = true ↔ leC (timE n.nn x.le) = 0
      rw [a5]; unfold leC; omega
    · show 0 ≤ leC (timE n.nn x.le) → 0 ≤ agE x.mo → leC (timE n.nn x.le) ≤ agE x.mo
      unfold leC agE
      intro p q
      by_cases u : x.mo = 0
      · rw [if_pos u]; have := a6 (by omega) (by omega); omega
      · rw [if_neg u] at q; exact absurd q (by decide)
  rw [if_neg c15]
  by_cases c16 : n.op = 16
  · rw [if_pos c16]
    obtain ⟨a1, a2, a3, a4, a5, a6⟩ := hx1 (by omega) (by omega) (by omega)
    have hN := hnn (by omega)
    have p2 := tim_pos (n := n.nn) (by omega) hN.2 a3
    refine ⟨k1, k2, ?_, ?_, ⟨fun _ => rfl, fun _ => rfl⟩, fun _ h => h⟩
    · show -1 ≤ moC (timE n.nn x.mo); unfold moC; split <;> omega
    · show moC (timE n.nn x.mo) ≤ _; unfold moC; split <;> omega
  rw [if_neg c16]
  exact hx1 c7 c8 (by omega)
end Go.Proofs.Ytbipjdgholdhcaa.T

namespace Go.Proofs.Ytbipjdgholdhcaa.T
open Go.RowKit
/-- A length's rank: none, and no bound, stand above all numbers. -/
def rk (a : Int) : Int := if a = -1 then 1048577 else a
theorem rk_num {a : Int} (h : a ≠ -1) : rk a = a := by unfold rk; rw [if_neg h]
theorem rk_non : rk (-1) = 1048577 := rfl
theorem rk_bd {a : Int} (h1 : -1 ≤ a) (h2 : a ≤ 1048576) : 0 ≤ rk a ∧ rk a ≤ 1048577 := by unfold rk; split <;> omega
theorem rk_inj {a b : Int} (h2 : a ≤ 1048576) (g2 : b ≤ 1048576) (h : rk a = rk b) : a = b := by
  unfold rk at h
  by_cases p : a = -1
  · by_cases q : b = -1
    · rw [p, q]
    · rw [if_pos p, if_neg q] at h; omega
  · by_cases q : b = -1
    · rw [if_neg p, if_pos q] at h; omega
    · rw [if_neg p, if_neg q] at h; exact h
/-- More is known. -/
structure LeE (a b : Em) : Prop where
  n : a.nu = true → b.nu = true
  c : a.cf = true → b.cf = true
  l : rk b.le ≤ rk a.le
  m : rk b.mo ≤ rk a.mo
theorem LeE.refl (a : Em) : LeE a a := ⟨fun h => h, fun h => h, Int.le_refl _, Int.le_refl _⟩
theorem LeE.bot {a : Em} (h : OkE a) : LeE eB a := ⟨(fun q => by cases q), (fun q => by cases q), (rk_bd h.l1 h.l2).2, (rk_bd h.m1 h.m2).2⟩
/-- How much is not known yet. -/
def wE (a : Em) : Nat := (if a.nu then 0 else 1) + (if a.cf then 0 else 1) + (rk a.le).toNat + (rk a.mo).toNat
theorem wE_less {a b : Em} (ha : OkE a) (hb : OkE b) (h : LeE a b) (hne : a ≠ b) : wE b < wE a := by
  have p1 := rk_bd ha.l1 ha.l2
  have p2 := rk_bd hb.l1 hb.l2
  have p3 := rk_bd ha.m1 ha.m2
  have p4 := rk_bd hb.m1 hb.m2
  have hl := h.l
  have hm := h.m
  have hn : (if b.nu then 0 else 1 : Nat) ≤ (if a.nu then 0 else 1) := by
    cases hx : a.nu with
    | false => cases b.nu <;> simp
    | true => rw [h.n hx]; simp
  have hc : (if b.cf then 0 else 1 : Nat) ≤ (if a.cf then 0 else 1) := by
    cases hx : a.cf with
    | false => cases b.cf <;> simp
    | true => rw [h.c hx]; simp
  unfold wE
  apply Nat.lt_of_not_le
  intro hle
  apply hne
  have e1 : (if b.nu then 0 else 1 : Nat) = (if a.nu then 0 else 1) := by omega
  have e2 : (if b.cf then 0 else 1 : Nat) = (if a.cf then 0 else 1) := by omega
  refine Em.ext' ?_ ?_ (rk_inj ha.l2 hb.l2 (by omega)) (rk_inj ha.m2 hb.m2 (by omega))
  · cases hx : a.nu <;> cases hy : b.nu <;> simp [hx, hy] at e1 ⊢
  · cases hx : a.cf <;> cases hy : b.cf <;> simp [hx, hy] at e2 ⊢
theorem wE_le {a b : Em} (ha : OkE a) (hb : OkE b) (h : LeE a b) : wE b ≤ wE a := by
  by_cases e : a = b
  · rw [e]; exact Nat.le_refl _
  · exact Nat.le_of_lt (wE_less ha hb h e)
theorem ag_mono {a b : Int} (hb : -1 ≤ b) (h : rk b ≤ rk a) : rk (agE b) ≤ rk (agE a) := by
  by_cases p : a = 0
  · have e : rk a = 0 := by rw [p]; rfl
    have hb0 : b = 0 := by unfold rk at h e; split at h <;> omega
    rw [p, hb0]; exact Int.le_refl _
  · have : agE a = -1 := by unfold agE; rw [if_neg p]
    rw [this, rk_non]
    unfold agE
    split
    · decide
    · decide
theorem sumL_mono {a b c d : Int} (h1 : -1 ≤ a) (h2 : -1 ≤ b) (h3 : -1 ≤ c) (h4 : -1 ≤ d) (g1 : a ≤ 1048576) (g2 : b ≤ 1048576) (p : rk c ≤ rk a) (q : rk d ≤ rk b) : rk (leC (sumE c d)) ≤ rk (leC (sumE a b)) := by
  unfold sumE
  by_cases u : a = -1 ∨ b = -1
  · rw [if_pos u]
    show _ ≤ rk (min (-1) 1048576)
    rw [show min (-1 : Int) 1048576 = -1 from by decide, rk_non]
    unfold rk leC
    split <;> omega
  · rw [if_neg u]
    rw [rk_num (a := a) (by omega)] at p
    rw [rk_num (a := b) (by omega)] at q
    have hc : c ≠ -1 := by rintro rfl; rw [rk_non] at p; omega
    have hd : d ≠ -1 := by rintro rfl; rw [rk_non] at q; omega
    rw [if_neg (by omega)]
    rw [rk_num hc] at p
    rw [rk_num hd] at q
    unfold leC
    rw [rk_num (by omega), rk_num (by omega)]
    omega
theorem sumM_mono {a b c d : Int} (h1 : -1 ≤ a) (h2 : -1 ≤ b) (h3 : -1 ≤ c) (h4 : -1 ≤ d) (g1 : a ≤ 1048576) (g2 : b ≤ 1048576) (p : rk c ≤ rk a) (q : rk d ≤ rk b) : rk (moC (sumE c d)) ≤ rk (moC (sumE a b)) := by
  have hle : rk (moC (sumE c d)) ≤ 1048577 := by unfold rk moC; split <;> (try split) <;> omega
  unfold sumE at hle ⊢
  by_cases u : a = -1 ∨ b = -1
  · rw [if_pos u]
    show _ ≤ rk (-1)
    rw [rk_non]
    exact hle
  · rw [if_neg u]
    rw [rk_num (a := a) (by omega)] at p
    rw [rk_num (a := b) (by omega)] at q
    have hc : c ≠ -1 := by rintro rfl; rw [rk_non] at p; omega
    have hd : d ≠ -1 := by rintro rfl; rw [rk_non] at q; omega
    rw [if_neg (by omega)]
    rw [rk_num hc] at p
    rw [rk_num hd] at q
    unfold moC
    by_cases t : 1048576 < a + b
    · rw [if_pos t, rk_non]
      unfold rk
      split <;> (try split) <;> omega
    · rw [if_neg t, if_neg (by omega), rk_num (by omega), rk_num (by omega)]
      omega
theorem timL_mono {n a c : Int} (hn : 1 ≤ n) (hm : n ≤ 50) (h1 : -1 ≤ a) (h3 : -1 ≤ c) (g1 : a ≤ 1048576) (p : rk c ≤ rk a) : rk (leC (timE n c)) ≤ rk (leC (timE n a)) := by
  rcases tim_pos hn hm h1 with ⟨e, _⟩ | ⟨ha, e, _⟩
  · rw [e, show leC (-1) = -1 from by decide, rk_non]
    unfold rk leC
    split <;> omega
  · rw [rk_num (a := a) (by omega)] at p
    have hc : c ≠ -1 := by rintro rfl; rw [rk_non] at p; omega
    rcases tim_pos hn hm h3 with ⟨_, q⟩ | ⟨hc0, e2, _⟩
    · exact absurd q hc
    rw [rk_num hc] at p
    have := mul_mono hn p
    rw [e, e2]
    unfold leC
    rw [rk_num (by omega), rk_num (by omega)]
    omega
theorem timM_mono {n a c : Int} (hn : 1 ≤ n) (hm : n ≤ 50) (h1 : -1 ≤ a) (h3 : -1 ≤ c) (g1 : a ≤ 1048576) (p : rk c ≤ rk a) : rk (moC (timE n c)) ≤ rk (moC (timE n a)) := by
  have hle : rk (moC (timE n c)) ≤ 1048577 := by unfold rk moC; split <;> (try split) <;> omega
  rcases tim_pos hn hm h1 with ⟨e, _⟩ | ⟨ha, e, _⟩
  · rw [e, show moC (-1) = -1 from by decide, rk_non]
    exact hle
  · rw [rk_num (a := a) (by omega)] at p
    have hc : c ≠ -1 := by rintro rfl; rw [rk_non] at p; omega
    rcases tim_pos hn hm h3 with ⟨_, q⟩ | ⟨hc0, e2, _⟩
    · exact absurd q hc
    rw [rk_num hc] at p
    have := mul_mono hn p
    rw [e2] at hle ⊢
    rw [e]
    by_cases t : 1048576 < n * a
    · have : moC (n * a) = -1 := by unfold moC; rw [if_pos t]
      rw [this, rk_non]; exact hle
    · unfold moC
      rw [if_neg t, if_neg (by omega), rk_num (by omega), rk_num (by omega)]
      omega
theorem les_mono {a b c d : Int} (h1 : -1 ≤ a) (h2 : -1 ≤ b) (h3 : -1 ≤ c) (h4 : -1 ≤ d) (g1 : a ≤ 1048576) (g2 : b ≤ 1048576) (p : rk c ≤ rk a) (q : rk d ≤ rk b) : rk (lesE c d) ≤ rk (lesE a b) := by
  have key : ∀ x y : Int, -1 ≤ x → -1 ≤ y → rk (lesE x y) = min (rk x) (rk y) ∨ (1048576 < x ∨ 1048576 < y) := fun x y hx hy => by
    by_cases big : 1048576 < x ∨ 1048576 < y
    · exact .inr big
    refine .inl ?_
    unfold lesE rk
    by_cases u : x = -1
    · rw [if_pos u, if_pos u]
      split <;> omega
    · rw [if_neg u, if_neg u]
      by_cases v : y = -1
      · rw [if_pos v, if_pos v, if_neg u]; omega
      · rw [if_neg v, if_neg v, if_neg (by omega)]
  have hc : c ≤ 1048576 ∨ rk c ≤ 1048577 := by unfold rk at p ⊢; split at p <;> split at p <;> omega
  have hd : d ≤ 1048576 ∨ rk d ≤ 1048577 := by unfold rk at q ⊢; split at q <;> split at q <;> omega
  have ra := rk_bd h1 g1
  have rb := rk_bd h2 g2
  rcases key a b h1 h2 with e | e
  · rcases key c d h3 h4 with f | f
    · rw [e, f]; omega
    · rw [e]
      unfold lesE
      by_cases u : c = -1
      · rw [if_pos u]
        rw [u, rk_non] at p
        omega
      · rw [if_neg u]
        by_cases v : d = -1
        · rw [if_pos v]
          rw [v, rk_non] at q
          omega
        · rw [if_neg v]
          rw [rk_num u] at p
          rw [rk_num v] at q
          rw [rk_num (by omega)]
          omega
  · omega
theorem gre_mono {a b c d : Int} (h1 : -1 ≤ a) (h2 : -1 ≤ b) (h3 : -1 ≤ c) (h4 : -1 ≤ d) (g1 : a ≤ 1048576) (g2 : b ≤ 1048576) (g3 : c ≤ 1048576) (g4 : d ≤ 1048576) (p : rk c ≤ rk a) (q : rk d ≤ rk b) : rk (greE c d) ≤ rk (greE a b) := by
  unfold greE
  by_cases u : a = -1 ∨ b = -1
  · rw [if_pos u, rk_non]
    unfold rk
    split <;> (try split at *) <;> omega
  · rw [if_neg u]
    rw [rk_num (a := a) (by omega)] at p
    rw [rk_num (a := b) (by omega)] at q
    have hc : c ≠ -1 := by rintro rfl; rw [rk_non] at p; omega
    have hd : d ≠ -1 := by rintro rfl; rw [rk_non] at q; omega
    rw [if_neg (by omega)]
    rw [rk_num hc] at p
    rw [rk_num hd] at q
    rw [rk_num (by omega), rk_num (by omega)]
    omega
end Go.Proofs.Ytbipjdgholdhcaa.T

namespace Go.Proofs.Ytbipjdgholdhcaa.T
open Go.RowKit
/-- The first rule of a name. -/
def fdG : List (ByteArray × List Nd) → ByteArray → Option Nat
  | [], _ => none
  | g :: r, s => if g.1 = s then some 0 else (fdG r s).map (· + 1)
theorem fdG_of : ∀ {gs : List (ByteArray × List Nd)} {s : ByteArray} {k : Nat} {g : ByteArray × List Nd}, gs[k]? = some g → g.1 = s → (∀ j h, j < k → gs[j]? = some h → h.1 ≠ s) → fdG gs s = some k := by
  intro gs
  induction gs with
  | nil => intro s k g hg; cases hg
  | cons a r ih =>
    intro s k g hg hs hn
    cases k with
    | zero =>
      cases hg
      rw [fdG, if_pos hs]
    | succ k =>
      have h0 := hn 0 a (by omega) rfl
      rw [fdG, if_neg h0, ih (k := k) (g := g) (by simpa using hg) hs (fun j h hj hh => hn (j + 1) h (by omega) (by simpa using hh))]
      rfl
theorem fdG_some : ∀ {gs : List (ByteArray × List Nd)} {s : ByteArray} {k : Nat}, fdG gs s = some k → ∃ g, gs[k]? = some g ∧ g.1 = s ∧ ∀ j h, j < k → gs[j]? = some h → h.1 ≠ s := by
  intro gs
  induction gs with
  | nil => intro s k h; cases h
  | cons a r ih =>
    intro s k h
    rw [fdG] at h
    by_cases e : a.1 = s
    · rw [if_pos e] at h
      cases h
      exact ⟨a, rfl, e, fun j h hj => by omega⟩
    · rw [if_neg e] at h
      cases hr : fdG r s with
      | none => rw [hr] at h; cases h
      | some m =>
        rw [hr] at h
        have hk : m + 1 = k := by simpa using h
        subst hk
        obtain ⟨g, q1, q2, q3⟩ := ih hr
        refine ⟨g, by simpa using q1, q2, fun j x hj hx => ?_⟩
        cases j with
        | zero => cases hx; exact e
        | succ j => exact q3 j x (by omega) (by simpa using hx)
theorem fdG_none : ∀ {gs : List (ByteArray × List Nd)} {s : ByteArray}, fdG gs s = none ↔ ∀ g ∈ gs, g.1 ≠ s := by
  intro gs
  induction gs with
  | nil => intro s; exact ⟨(fun _ g h => by cases h), fun _ => rfl⟩
  | cons a r ih =>
    intro s
    rw [fdG]
    by_cases e : a.1 = s
    · rw [if_pos e]
      exact ⟨(fun h => by cases h), fun h => absurd e (h a List.mem_cons_self)⟩
    · rw [if_neg e, Option.map_eq_none_iff, ih]
      exact ⟨fun h g hg => by
        rcases List.mem_cons.1 hg with q | q
        · rw [q]; exact e
        · exact h g q, fun h g hg => h g (List.mem_cons_of_mem _ hg)⟩
theorem fdG_lt {gs : List (ByteArray × List Nd)} {s : ByteArray} {k : Nat} (h : fdG gs s = some k) : k < gs.length := by
  obtain ⟨g, q, _⟩ := fdG_some h
  exact (List.getElem?_eq_some_iff.1 q).1
/-- A grammar whose names are all different, and whose calls are all found. -/
structure Dn (gs : List (ByteArray × List Nd)) : Prop where
  d : ∀ (i j : Nat) (g h : ByteArray × List Nd), gs[i]? = some g → gs[j]? = some h → g.1 = h.1 → i = j
  c : ∀ g ∈ gs, ∀ n ∈ g.2, n.op = 6 → ∃ k, fdG gs n.tx = some k
/-- Which rule calls which. -/
def cG (gs : List (ByteArray × List Nd)) (i j : Nat) : Bool := match gs[i]? with
  | none => false
  | some g => g.2.any fun n => decide (n.op = 6) && decide (fdG gs n.tx = some j)
end Go.Proofs.Ytbipjdgholdhcaa.T

namespace Go.Proofs.Ytbipjdgholdhcaa.T
theorem chn_mem (L : List Nd) : ∀ (st : List Pt) (k : Nat), Chn L k st → ∀ x ∈ st, x.2.1 < k ∧ x.1 ≤ x.2.1 ∧ x = pt L x.2.1 := by
  intro st
  induction st with
  | nil => intro k _ x hx; cases hx
  | cons y r ih =>
    intro k h x hx
    obtain ⟨h1, h2, h3, h4⟩ := h
    rcases List.mem_cons.1 hx with rfl | hx
    · exact ⟨by omega, h3, h2⟩
    · obtain ⟨a, b, c⟩ := ih y.1 h4 x hx
      exact ⟨by omega, b, c⟩
structure ErOk (L : List Nd) (k : Nat) (n : Nd) : Prop where
  al : alE n = 0
  ar : arN n.op ≤ (run L k).length
  ht : (pt L k).2.2 ≤ 60
theorem er_ok {L : List Nd} {k : Nat} {n : Nd} (hn : L[k]? = some n) (h : er L k = 0) : ErOk L k n := by
  rw [er_of hn] at h
  by_cases h1 : alE n ≠ 0
  · rw [if_pos h1] at h; exact absurd h h1
  rw [if_neg h1] at h
  by_cases h2 : (run L k).length < arN n.op
  · rw [if_pos h2] at h; cases h
  rw [if_neg h2] at h
  by_cases h3 : 60 < (pt L k).2.2
  · rw [if_pos h3] at h; cases h
  exact ⟨Classical.byContradiction h1, by omega, by omega⟩
theorem run_bd {L : List Nd} {k : Nat} (hk : k ≤ L.length) (h : ∀ j, j < k → er L j = 0) : ∀ x ∈ run L k, x.1 ≤ x.2.1 ∧ x.2.1 < k ∧ x.2.2 ≤ 60 ∧ x = pt L x.2.1 := by
  intro x hx
  obtain ⟨a, b, c⟩ := chn_mem L _ k (chn_run L k hk h) x hx
  have hn : L[x.2.1]? = some L[x.2.1] := List.getElem?_eq_getElem (by omega)
  have := (er_ok hn (h _ a)).ht
  rw [← c] at this
  exact ⟨b, a, this, c⟩
theorem run_len (L : List Nd) (k : Nat) : (run L k).length ≤ k := by
  induction k with
  | zero => exact Nat.le_refl _
  | succ k ih => rw [run_succ, List.length_cons, List.length_drop]; omega
theorem arN_of {n : Nd} (h : alE n = 0) : ((arN n.op : Nat) : Int) = ar n.op := by
  have := alE_ar h
  unfold arN
  omega
/-- The top of a stack, in the order of the list. -/
theorem rev_drop {α : Type} (st : List α) (a : Nat) (h : a ≤ st.length) : st.reverse.drop (st.length - a) = (st.take a).reverse := by
  rw [List.drop_reverse]
  congr 2
  omega
theorem rev_take {α : Type} (st : List α) (a : Nat) (h : a ≤ st.length) : st.reverse.take (st.length - a) = (st.drop a).reverse := by
  rw [List.take_reverse]
  congr 2
  omega
end Go.Proofs.Ytbipjdgholdhcaa.T

namespace Go.Proofs.Ytbipjdgholdhcaa.T
open Go.RowKit
abbrev GL : Type := List (ByteArray × List Nd)
/-- Has a rule ahead this name? -/
def tw (gs : GL) (s : ByteArray) (i : Nat) : Bool := match fdG gs s with
  | some k => decide (k < i)
  | none => false
def c1G (gs : GL) : Nat → Nat → GL → (Nat × Nat) × Int
  | _, _, [] => ((0, 0), 0)
  | i, m, g :: r => if ¬ (nmB g.1 = true ∨ (g.1.size = 0 ∧ gs.length = 1)) then ((i, 0), 6) else if tw gs g.1 i = true then ((i, 0), 80) else if (ck g.2).2 ≠ 0 then ((i, (ck g.2).1), (ck g.2).2) else if 2048 < m + g.2.length then ((i, 0), 2) else c1G gs (i + 1) (m + g.2.length) r
/-- The first node that calls what is not there. -/
def unN (gs : GL) : Nat → List Nd → Option Nat
  | _, [] => none
  | k, n :: r => if n.op = 6 ∧ fdG gs n.tx = none then some k else unN gs (k + 1) r
def unG (gs : GL) : Nat → GL → (Nat × Nat) × Int
  | _, [] => ((0, 0), 0)
  | i, g :: r => match unN gs 0 g.2 with
    | some k => ((i, k), 81)
    | none => unG gs (i + 1) r
/-- What Check answers of a grammar. -/
def ckG (gs : GL) : (Nat × Nat) × Int := if gs.length = 0 then ((0, 0), 3) else if 200 < gs.length then ((0, 0), 2) else if (c1G gs 0 0 gs).2 ≠ 0 then c1G gs 0 0 gs else unG gs 0 gs
theorem unN_none {gs : GL} : ∀ (l : List Nd) (k : Nat), unN gs k l = none ↔ ∀ n ∈ l, n.op = 6 → ∃ j, fdG gs n.tx = some j := by
  intro l
  induction l with
  | nil => intro k; exact ⟨(fun _ n h => by cases h), fun _ => rfl⟩
  | cons a r ih =>
    intro k
    rw [unN]
    by_cases h : a.op = 6 ∧ fdG gs a.tx = none
    · rw [if_pos h]
      refine ⟨(fun q => by cases q), fun q => ?_⟩
      obtain ⟨j, hj⟩ := q a List.mem_cons_self h.1
      rw [h.2] at hj
      cases hj
    · rw [if_neg h, ih]
      refine ⟨fun q n hn h6 => ?_, fun q n hn h6 => q n (List.mem_cons_of_mem _ hn) h6⟩
      rcases List.mem_cons.1 hn with e | e
      · subst e
        cases hf : fdG gs n.tx with
        | none => exact absurd ⟨h6, hf⟩ h
        | some j => exact ⟨j, rfl⟩
      · exact q n e h6
theorem unG_ok {gs : GL} : ∀ (l : GL) (i : Nat), (unG gs i l).2 = 0 ↔ ∀ g ∈ l, ∀ n ∈ g.2, n.op = 6 → ∃ j, fdG gs n.tx = some j := by
  intro l
  induction l with
  | nil => intro i; exact ⟨(fun _ g h => by cases h), fun _ => rfl⟩
  | cons a r ih =>
    intro i
    rw [unG]
    cases h : unN gs 0 a.2 with
    | some k =>
      refine ⟨(fun q => by cases q), fun q => ?_⟩
      have := (unN_none a.2 0).2 (q a List.mem_cons_self)
      rw [h] at this
      cases this
    | none =>
      show (unG gs (i + 1) r).2 = 0 ↔ _
      rw [ih]
      have h0 := (unN_none a.2 0).1 h
      refine ⟨fun q g hg => ?_, fun q g hg => q g (List.mem_cons_of_mem _ hg)⟩
      rcases List.mem_cons.1 hg with e | e
      · rw [e]; exact h0
      · exact q g e
theorem c1G_ok {gs : GL} : ∀ (l : GL) (i m : Nat), m ≤ 2048 → ((c1G gs i m l).2 = 0 ↔ (∀ (k : Nat) g, l[k]? = some g → (nmB g.1 = true ∨ (g.1.size = 0 ∧ gs.length = 1)) ∧ tw gs g.1 (i + k) = false ∧ (ck g.2).2 = 0) ∧ m + (l.map fun g => g.2.length).sum ≤ 2048) := by
  intro l
  induction l with
  | nil => intro i m hm; exact ⟨fun _ => ⟨(fun k g h => by cases h), hm⟩, fun _ => rfl⟩
  | cons a r ih =>
    intro i m hm
    rw [c1G]
    by_cases h1 : nmB a.1 = true ∨ (a.1.size = 0 ∧ gs.length = 1)
    · rw [if_neg (fun q => q h1)]
      by_cases h2 : tw gs a.1 i = true
      · rw [if_pos h2]
        refine ⟨(fun q => by cases q), fun q => ?_⟩
        have := (q.1 0 a rfl).2.1
        rw [Nat.add_zero, h2] at this
        cases this
      · rw [if_neg h2]
        by_cases h3 : (ck a.2).2 = 0
        · rw [if_neg (fun q => q h3)]
          by_cases h4 : 2048 < m + a.2.length
          · rw [if_pos h4]
            refine ⟨(fun q => by cases q), fun q => ?_⟩
            have := q.2
            rw [List.map_cons, List.sum_cons] at this
            omega
          · rw [if_neg h4, ih (i + 1) (m + a.2.length) (by omega), List.map_cons, List.sum_cons]
            refine ⟨fun q => ⟨fun k g hg => ?_, by omega⟩, fun q => ⟨fun k g hg => ?_, by omega⟩⟩
            · cases k with
              | zero =>
                cases hg
                exact ⟨h1, by rw [Nat.add_zero]; exact Bool.eq_false_iff.2 h2, h3⟩
              | succ k =>
                have := q.1 k g (by simpa using hg)
                rw [show i + 1 + k = i + (k + 1) from by omega] at this
                exact this
            · have := q.1 (k + 1) g (by simpa using hg)
              rw [show i + 1 + k = i + (k + 1) from by omega]
              exact this
        · rw [if_pos h3]
          refine ⟨fun q => absurd q h3, fun q => absurd (q.1 0 a rfl).2.2 h3⟩
    · rw [if_pos h1]
      exact ⟨(fun q => by cases q), fun q => absurd (q.1 0 a rfl).1 h1⟩
/-- A right grammar. -/
structure RtG (gs : GL) : Prop where
  n1 : 1 ≤ gs.length
  n2 : gs.length ≤ 200
  nm : ∀ g ∈ gs, nmB g.1 = true ∨ (g.1.size = 0 ∧ gs.length = 1)
  ck : ∀ g ∈ gs, (ck g.2).2 = 0
  sm : (gs.map fun g => g.2.length).sum ≤ 2048
  dn : Dn gs
theorem tw_iff {gs : GL} : (∀ (k : Nat) g, gs[k]? = some g → tw gs g.1 k = false) ↔ ∀ (i j : Nat) (g h : ByteArray × List Nd), gs[i]? = some g → gs[j]? = some h → g.1 = h.1 → i = j := by
  have hf : ∀ (k : Nat) g, gs[k]? = some g → ∃ j, fdG gs g.1 = some j ∧ j ≤ k := fun k g hg => by
    cases h : fdG gs g.1 with
    | none => exact absurd rfl (fdG_none.1 h g (List.mem_of_getElem? hg))
    | some j =>
      refine ⟨j, rfl, ?_⟩
      obtain ⟨_, _, _, q⟩ := fdG_some h
      apply Nat.le_of_not_lt
      intro hlt
      exact q k g hlt hg rfl
  constructor
  · intro h i j g x hg hx e
    have key : ∀ (k : Nat) y, gs[k]? = some y → fdG gs y.1 = some k := fun k y hy => by
      obtain ⟨m, h1, h2⟩ := hf k y hy
      have := h k y hy
      unfold tw at this
      rw [h1] at this
      have : ¬ m < k := by simpa using this
      rw [h1, show m = k from by omega]
    have a := key i g hg
    have b := key j x hx
    rw [e, b] at a
    cases a
    rfl
  · intro h k g hg
    obtain ⟨j, h1, h2⟩ := hf k g hg
    unfold tw
    rw [h1]
    obtain ⟨y, y1, y2, _⟩ := fdG_some h1
    have := h j k y g y1 hg y2
    subst this
    simp
theorem ckG_ok {gs : GL} : (ckG gs).2 = 0 ↔ RtG gs := by
  unfold ckG
  by_cases h0 : gs.length = 0
  · rw [if_pos h0]
    exact ⟨(fun q => by cases q), fun q => absurd h0 (by have := q.n1; omega)⟩
  rw [if_neg h0]
  by_cases h1 : 200 < gs.length
  · rw [if_pos h1]
    exact ⟨(fun q => by cases q), fun q => absurd h1 (by have := q.n2; omega)⟩
  rw [if_neg h1]
  have hc := c1G_ok (gs := gs) gs 0 0 (by omega)
  by_cases h2 : (c1G gs 0 0 gs).2 = 0
  · rw [if_neg (fun q => q h2), unG_ok]
    obtain ⟨q1, q2⟩ := hc.1 h2
    refine ⟨fun q => ⟨by omega, by omega, fun g hg => ?_, fun g hg => ?_, by omega, tw_iff.1 fun k g hg => ?_, q⟩, fun q => q.dn.c⟩
    · obtain ⟨k, hk⟩ := List.getElem?_of_mem hg
      exact (q1 k g hk).1
    · obtain ⟨k, hk⟩ := List.getElem?_of_mem hg
      exact (q1 k g hk).2.2
    · have := (q1 k g hg).2.1
      rw [Nat.zero_add] at this
      exact this
  · rw [if_pos h2]
    refine ⟨fun q => absurd q h2, fun q => absurd (hc.2 ⟨fun k g hg => ⟨q.nm g (List.mem_of_getElem? hg), ?_, q.ck g (List.mem_of_getElem? hg)⟩, by have := q.sm; omega⟩) h2⟩
    rw [Nat.zero_add]
    exact tw_iff.2 q.dn.d k g hg
theorem al_of {L : List Nd} (h : (ck L).2 = 0) : ∀ n ∈ L, alE n = 0 := fun n hn => by
  obtain ⟨k, hk⟩ := List.getElem?_of_mem hn
  exact (er_ok hk ((rt_of h).each k (List.getElem?_eq_some_iff.1 hk).1)).al
end Go.Proofs.Ytbipjdgholdhcaa.T
