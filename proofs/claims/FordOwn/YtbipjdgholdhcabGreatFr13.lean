/- DERIVED. Plain mathematics and walks, laid together (13). -/
import Derived.Shelf.Slices.Reverse
import Derived.Deep.RegionHeld3
import Derived.Test.YtbipjdgholdhcabGreatFr12
namespace Go.Proofs.YtbipjdgholdhcabGreat.N
open Go.RowKit
/-- A walk of so many steps. -/
def St (c : Mx) (to : Nat) : Nat → Nat → Prop
  | 0, i => i = to
  | t + 1, i => ∃ k, c i k = true ∧ St c to t k
theorem St.trans {c : Mx} {k to b : Nat} (h2 : St c to b k) : ∀ {a i : Nat}, St c k a i → St c to (a + b) i := by
  intro a
  induction a with
  | zero => intro i h; have h : i = k := h; rw [h, Nat.zero_add]; exact h2
  | succ a ih =>
    intro i h
    obtain ⟨q, h1, h3⟩ := h
    rw [show a + 1 + b = (a + b) + 1 from by omega]
    exact ⟨q, h1, ih h3⟩
theorem St.one {c : Mx} {to i : Nat} : St c to 1 i ↔ c i to = true := by
  constructor
  · rintro ⟨k, h, e⟩
    have e : k = to := e
    rw [← e]; exact h
  · intro h
    exact ⟨to, h, rfl⟩
theorem St.rc {n : Nat} {c : Mx} (hc : ∀ i j, c i j = true → i < n ∧ j < n) {to : Nat} : ∀ (t : Nat) {i : Nat}, St c to (t + 1) i → Rc n c i to := by
  intro t
  induction t with
  | zero => intro i h; exact Rc.of (St.one.1 h)
  | succ t ih =>
    intro i h
    obtain ⟨k, h1, h2⟩ := h
    exact Rc.trans (hc i k h1).2 (Rc.of h1) (ih h2)
theorem St.of_rc {n : Nat} {c : Mx} {i j : Nat} (h : Rc n c i j) : ∃ t, St c j (t + 1) i := by
  refine Rc.least (d := fun i j => ∃ t, St c j (t + 1) i) (fun i j h => ⟨0, St.one.2 h⟩) (fun i k j _ h1 h2 => ?_) h
  obtain ⟨a, h1⟩ := h1
  obtain ⟨b, h2⟩ := h2
  exact ⟨a + 1 + b, St.trans h2 h1⟩
/-- The shortest walk has so many steps (one at least). -/
def Ds (c : Mx) (to t i : Nat) : Prop := 0 < t ∧ St c to t i ∧ ∀ s, 0 < s → s < t → ¬ St c to s i
theorem Ds.one {c : Mx} {to a b i : Nat} (h : Ds c to a i) (g : Ds c to b i) : a = b := by
  rcases Nat.lt_trichotomy a b with q | q | q
  · exact absurd h.2.1 (g.2.2 a h.1 q)
  · exact q
  · exact absurd g.2.1 (h.2.2 b g.1 q)
theorem Ds.of {c : Mx} {to i : Nat} : ∀ (m t : Nat), t ≤ m → 0 < t → St c to t i → ∃ s, s ≤ t ∧ Ds c to s i := by
  intro m
  induction m with
  | zero => intro t h h0; omega
  | succ m ih =>
    intro t h h0 hs
    by_cases q : ∃ s, 0 < s ∧ s < t ∧ St c to s i
    · obtain ⟨s, q1, q2, q3⟩ := q
      obtain ⟨u, u1, u2⟩ := ih s (by omega) q1 q3
      exact ⟨u, by omega, u2⟩
    · exact ⟨t, Nat.le_refl _, h0, hs, fun s q1 q2 q3 => q ⟨s, q1, q2, q3⟩⟩
theorem Ds.up {c : Mx} {to t i k : Nat} (h : c i k = true) (hd : Ds c to t k) : ∃ s, s ≤ t + 1 ∧ Ds c to s i := Ds.of (t + 1) (t + 1) (Nat.le_refl _) (by omega) ⟨k, h, hd.2.1⟩
theorem Ds.next {c : Mx} {to t i : Nat} (h : Ds c to (t + 1) i) (h0 : 0 < t) : ∃ k, c i k = true ∧ Ds c to t k := by
  obtain ⟨k, h1, h2⟩ := h.2.1
  obtain ⟨s, s1, s2⟩ := Ds.of t t (Nat.le_refl _) h0 h2
  by_cases e : s = t
  · subst e; exact ⟨k, h1, s2⟩
  · exact absurd ⟨k, h1, s2.2.1⟩ (h.2.2 (s + 1) (by omega) (by omega))
theorem Ds.first {c : Mx} {to i : Nat} : Ds c to 1 i ↔ c i to = true := by
  constructor
  · intro h; exact St.one.1 h.2.1
  · intro h; exact ⟨by omega, St.one.2 h, fun s _ _ => by omega⟩
theorem Ds.lt {n : Nat} {c : Mx} (hc : ∀ i j, c i j = true → i < n ∧ j < n) {to t i : Nat} (h : Ds c to t i) : i < n ∧ to < n := by
  have h0 := h.1
  obtain ⟨s, rfl⟩ : ∃ s, t = s + 1 := ⟨t - 1, by omega⟩
  have := St.rc hc s h.2.1
  exact Rc.least (d := fun i j => i < n ∧ j < n) hc (fun _ _ _ _ a b => ⟨a.1, b.2⟩) this
theorem Ds.chain {n : Nat} {c : Mx} (hc : ∀ i j, c i j = true → i < n ∧ j < n) {to : Nat} : ∀ (t : Nat) {i : Nat}, Ds c to (t + 1) i → ∃ l : List Nat, l.length = t + 1 ∧ l.Nodup ∧ ∀ x ∈ l, x < n ∧ ∃ s, s ≤ t + 1 ∧ Ds c to s x := by
  intro t
  induction t with
  | zero => intro i h; exact ⟨[i], rfl, List.nodup_cons.2 ⟨by simp, List.nodup_nil⟩, fun x hx => by rw [List.mem_singleton.1 hx]; exact ⟨(h.lt hc).1, 1, Nat.le_refl _, h⟩⟩
  | succ t ih =>
    intro i h
    obtain ⟨k, _, h2⟩ := h.next (by omega)
    obtain ⟨l, l1, l2, l3⟩ := ih h2
    refine ⟨i :: l, by rw [List.length_cons, l1], List.nodup_cons.2 ⟨fun q => ?_, l2⟩, fun x hx => ?_⟩
    · obtain ⟨_, s, s1, s2⟩ := l3 i q
      have := s2.one h
      omega
    · rcases List.mem_cons.1 hx with e | e
      · rw [e]; exact ⟨(h.lt hc).1, t + 1 + 1, Nat.le_refl _, h⟩
      · obtain ⟨a, s, s1, s2⟩ := l3 x e
        exact ⟨a, s, by omega, s2⟩
theorem Ds.few {n : Nat} {c : Mx} (hc : ∀ i j, c i j = true → i < n ∧ j < n) {to t i : Nat} (h : Ds c to t i) : t ≤ n := by
  have h0 := h.1
  obtain ⟨s, rfl⟩ : ∃ s, t = s + 1 := ⟨t - 1, by omega⟩
  obtain ⟨l, l1, l2, l3⟩ := Ds.chain hc s h
  rw [← l1]
  exact few_below n l l2 (fun x hx => (l3 x hx).1)
theorem Ds.of_rc {n : Nat} {c : Mx} {i j : Nat} (h : Rc n c i j) : ∃ t, Ds c j t i := by
  obtain ⟨t, ht⟩ := St.of_rc h
  obtain ⟨s, _, hs⟩ := Ds.of (t + 1) (t + 1) (Nat.le_refl _) (by omega) ht
  exact ⟨s, hs⟩
theorem Ds.rc {n : Nat} {c : Mx} (hc : ∀ i j, c i j = true → i < n ∧ j < n) {to t i : Nat} (h : Ds c to t i) : Rc n c i to := by
  have h0 := h.1
  obtain ⟨s, rfl⟩ : ∃ s, t = s + 1 := ⟨t - 1, by omega⟩
  exact St.rc hc s h.2.1
/-- One row of the document's distances: up to m steps are looked at. -/
def FaV (c : Mx) (to m i : Nat) (v : Int) : Prop := (v = -1 ∧ ∀ s, 0 < s → s ≤ m → ¬ St c to s i) ∨ ∃ t : Nat, v = (t : Int) ∧ t ≤ m ∧ Ds c to t i
theorem FaV.up {c : Mx} {to m i : Nat} {v : Int} (h : FaV c to m i v) (h0 : 0 ≤ v) : FaV c to (m + 1) i v := by
  rcases h with ⟨h, _⟩ | ⟨t, h1, h2, h3⟩
  · omega
  · exact .inr ⟨t, h1, by omega, h3⟩
theorem FaV.is {c : Mx} {to m i t : Nat} (h : FaV c to m i (t : Int)) : Ds c to t i := by
  rcases h with ⟨h, _⟩ | ⟨s, h1, _, h3⟩
  · omega
  · have : t = s := by omega
    rw [this]; exact h3
theorem FaV.at' {c : Mx} {to m i t : Nat} {v : Int} (h : FaV c to m i v) (ht : Ds c to t i) (hm : t ≤ m) : v = (t : Int) := by
  rcases h with ⟨_, h⟩ | ⟨s, h1, _, h3⟩
  · exact absurd ht.2.1 (h t ht.1 hm)
  · rw [h1, ht.one h3]
/-- While distances of m + 1 steps are looked for: those of the rows ahead of j are found. -/
structure FaI (n : Nat) (c : Mx) (to m j : Nat) (out : List Int) : Prop where
  l : out.length = n
  d : ∀ (i : Nat) v, out[i]? = some v → FaV c to (if i < j then m + 1 else m) i v
theorem FaI.round {n : Nat} {c : Mx} {to m : Nat} {out : List Int} (h : FaI n c to m n out) : FaI n c to (m + 1) 0 out := by
  refine ⟨h.l, fun i v hv => ?_⟩
  have hi := (List.getElem?_eq_some_iff.1 hv).1
  have := h.d i v hv
  rw [if_pos (by rw [← h.l]; exact hi)] at this
  rw [if_neg (by omega)]
  exact this
theorem FaI.has {n : Nat} {c : Mx} {to m j : Nat} {out : List Int} {v : Int} (h : FaI n c to m j out) (hj : out[j]? = some v) (h0 : 0 ≤ v) : FaI n c to m (j + 1) out := by
  refine ⟨h.l, fun i u hu => ?_⟩
  have := h.d i u hu
  by_cases e : i = j
  · subst e
    rw [hj] at hu
    cases hu
    rw [if_neg (by omega)] at this
    rw [if_pos (by omega)]
    exact this.up h0
  · by_cases q : i < j
    · rw [if_pos q] at this; rw [if_pos (by omega)]; exact this
    · rw [if_neg q] at this; rw [if_neg (by omega)]; exact this
theorem FaI.no {n : Nat} {c : Mx} (hc : ∀ i j, c i j = true → i < n ∧ j < n) {to m j : Nat} {out : List Int} (h : FaI n c to m j out) (h0 : 0 < m) (hj : out[j]? = some (-1)) (hn : ∀ (k : Nat), c j k = true → out[k]? ≠ some (m : Int)) : FaI n c to m (j + 1) out := by
  refine ⟨h.l, fun i u hu => ?_⟩
  have hd := h.d i u hu
  by_cases e : i = j
  · subst e
    rw [hj] at hu
    cases hu
    rw [if_neg (by omega)] at hd
    rw [if_pos (by omega)]
    refine .inl ⟨rfl, fun s s0 s1 s2 => ?_⟩
    rcases hd with ⟨_, hd⟩ | ⟨t, ht, _⟩
    · by_cases e : s ≤ m
      · exact hd s s0 e s2
      · have e : s = m + 1 := by omega
        subst e
        have hD : Ds c to (m + 1) i := ⟨s0, s2, fun s q1 q2 => hd s q1 (by omega)⟩
        obtain ⟨k, k1, k2⟩ := hD.next h0
        have hk : k < out.length := by rw [h.l]; exact (hc i k k1).2
        have e : out[k]? = some out[k] := List.getElem?_eq_getElem hk
        have := (h.d k _ e).at' k2 (by split <;> omega)
        rw [this] at e
        exact hn k k1 e
    · omega
  · by_cases q : i < j
    · rw [if_pos q] at hd; rw [if_pos (by omega)]; exact hd
    · rw [if_neg q] at hd; rw [if_neg (by omega)]; exact hd
theorem FaI.set {n : Nat} {c : Mx} {to m j k : Nat} {out : List Int} (h : FaI n c to m j out) (hj : out[j]? = some (-1)) (hk : out[k]? = some (m : Int)) (hck : c j k = true) : FaI n c to m (j + 1) (out.set j ((m + 1 : Nat) : Int)) := by
  refine ⟨by rw [List.length_set]; exact h.l, fun i u hu => ?_⟩
  by_cases e : i = j
  · subst e
    rw [List.getElem?_set_self (List.getElem?_eq_some_iff.1 hj).1] at hu
    cases hu
    rw [if_pos (by omega)]
    have hd := h.d i _ hj
    rw [if_neg (by omega)] at hd
    rcases hd with ⟨_, hd⟩ | ⟨t, ht, _⟩
    · exact .inr ⟨m + 1, rfl, Nat.le_refl _, by omega, ⟨k, hck, (h.d k _ hk).is.2.1⟩, fun s q1 q2 => hd s q1 (by omega)⟩
    · omega
  · rw [List.getElem?_set_ne (Ne.symm e)] at hu
    have hd := h.d i u hu
    by_cases q : i < j
    · rw [if_pos q] at hd; rw [if_pos (by omega)]; exact hd
    · rw [if_neg q] at hd; rw [if_neg (by omega)]; exact hd
/-- Ahead of that: which rules are one step away. -/
structure FaB (n : Nat) (c : Mx) (to j : Nat) (out : List Int) : Prop where
  l : out.length = n
  d : ∀ (i : Nat) v, i < j → out[i]? = some v → FaV c to 1 i v
theorem FaB.step {n : Nat} {c : Mx} {to j : Nat} {out : List Int} (h : FaB n c to j out) : FaB n c to (j + 1) (out.set j (if c j to then 1 else -1)) := by
  refine ⟨by rw [List.length_set]; exact h.l, fun i v hi hv => ?_⟩
  by_cases e : i = j
  · subst e
    rw [List.getElem?_set_self (by have := (List.getElem?_eq_some_iff.1 hv).1; rwa [List.length_set] at this)] at hv
    cases hv
    by_cases q : c i to = true
    · rw [if_pos q]
      exact .inr ⟨1, rfl, Nat.le_refl _, Ds.first.2 q⟩
    · rw [if_neg q]
      refine .inl ⟨rfl, fun s s0 s1 s2 => ?_⟩
      have : s = 1 := by omega
      subst this
      exact q (St.one.1 s2)
  · rw [List.getElem?_set_ne (Ne.symm e)] at hv
    exact h.d i v (by omega) hv
theorem FaB.fin {n : Nat} {c : Mx} {to : Nat} {out : List Int} (h : FaB n c to n out) : FaI n c to 1 0 out :=
  ⟨h.l, fun i v hv => by
    rw [if_neg (by omega)]
    exact h.d i v (by rw [← h.l]; exact (List.getElem?_eq_some_iff.1 hv).1) hv⟩
/-- All distances. -/
structure FaD (n : Nat) (c : Mx) (to : Nat) (out : List Int) : Prop where
  l : out.length = n
  y : ∀ (i t : Nat), Ds c to t i → out[i]? = some (t : Int)
  n : ∀ (i : Nat) v, out[i]? = some v → (v = -1 ∧ ¬ Rc n c i to) ∨ ∃ t : Nat, v = (t : Int) ∧ Ds c to t i
theorem FaI.fin {n : Nat} {c : Mx} (hc : ∀ i j, c i j = true → i < n ∧ j < n) {to : Nat} {out : List Int} (h : FaI n c to n 0 out) : FaD n c to out := by
  refine ⟨h.l, fun i t ht => ?_, fun i v hv => ?_⟩
  · have hi : i < out.length := by rw [h.l]; exact (ht.lt hc).1
    have e : out[i]? = some out[i] := List.getElem?_eq_getElem hi
    have hd := h.d i _ e
    rw [if_neg (by omega)] at hd
    rw [e, hd.at' ht (ht.few hc)]
  · have hd := h.d i v hv
    rw [if_neg (by omega)] at hd
    rcases hd with ⟨h1, h2⟩ | ⟨t, h1, _, h3⟩
    · refine .inl ⟨h1, fun q => ?_⟩
      obtain ⟨t, ht⟩ := Ds.of_rc q
      exact h2 t ht.1 (ht.few hc) ht.2.1
    · exact .inr ⟨t, h1, h3⟩
/-- The way back: at each place the least rule from which what is left is so much. -/
structure PtI (c : Mx) (r m : Nat) (l : List Nat) : Prop where
  n : l.length = m
  h : l[0]? = some r
  s : ∀ (i : Nat) x y, l[i]? = some x → l[i + 1]? = some y → c x y = true ∧ Ds c r (m - (i + 1)) y ∧ ∀ k, c x k = true → Ds c r (m - (i + 1)) k → y ≤ k
theorem least_of {p : Nat → Prop} : ∀ (n k : Nat), k < n → p k → ∃ y, p y ∧ ∀ k, p k → y ≤ k := by
  intro n
  induction n with
  | zero => intro k h; omega
  | succ n ih =>
    intro k h hp
    by_cases q : ∃ j, j < k ∧ p j
    · obtain ⟨j, q1, q2⟩ := q
      exact ih j (by omega) q2
    · exact ⟨k, hp, fun j hj => Nat.le_of_not_lt fun e => q ⟨j, e, hj⟩⟩
theorem ptI_ex {c : Mx} {r : Nat} : ∀ (t m x : Nat), Ds c r (t + 1) x → t < m → ∃ l : List Nat, l.length = t + 1 ∧ l[0]? = some x ∧ ∀ (i : Nat) x y, l[i]? = some x → l[i + 1]? = some y → c x y = true ∧ Ds c r (t - i) y ∧ ∀ k, c x k = true → Ds c r (t - i) k → y ≤ k := by
  intro t
  induction t with
  | zero =>
    intro m x _ _
    exact ⟨[x], rfl, rfl, fun i a b _ h => by
      have := (List.getElem?_eq_some_iff.1 h).1
      simp at this⟩
  | succ t ih =>
    intro m x hd hm
    obtain ⟨k, k1, k2⟩ := hd.next (by omega)
    obtain ⟨y, ⟨y1, y2⟩, y3⟩ := least_of (p := fun k => c x k = true ∧ Ds c r (t + 1) k) (k + 1) k (by omega) ⟨k1, k2⟩
    obtain ⟨l, l1, l2, l3⟩ := ih m y y2 (by omega)
    refine ⟨x :: l, by rw [List.length_cons, l1], rfl, fun i a b ha hb => ?_⟩
    cases i with
    | zero =>
      have ha : some x = some a := ha
      cases ha
      have hb : l[0]? = some b := hb
      rw [l2] at hb
      cases hb
      exact ⟨y1, y2, fun k q1 q2 => y3 k ⟨q1, q2⟩⟩
    | succ i =>
      have ha : l[i]? = some a := ha
      have hb : l[i + 1]? = some b := hb
      have := l3 i a b ha hb
      rw [show t + 1 - (i + 1) = t - i from by omega]
      exact this
theorem PtI.ex {c : Mx} {r m : Nat} (hd : Ds c r m r) : ∃ l, PtI c r m l := by
  have h0 := hd.1
  obtain ⟨t, rfl⟩ : ∃ t, m = t + 1 := ⟨m - 1, by omega⟩
  obtain ⟨l, l1, l2, l3⟩ := ptI_ex t (t + 1) r hd (by omega)
  refine ⟨l, l1, l2, fun i x y hx hy => ?_⟩
  rw [show t + 1 - (i + 1) = t - i from by omega]
  exact l3 i x y hx hy
theorem PtI.ds {c : Mx} {r m : Nat} {l : List Nat} (h : PtI c r m l) (hd : Ds c r m r) {i x : Nat} (hx : l[i]? = some x) : Ds c r (m - i) x := by
  cases i with
  | zero =>
    rw [h.h] at hx
    cases hx
    exact hd
  | succ i =>
    have hi := (List.getElem?_eq_some_iff.1 hx).1
    exact (h.s i l[i] x (List.getElem?_eq_getElem (by omega)) hx).2.1
theorem PtI.one {c : Mx} {r m : Nat} {l g : List Nat} (h : PtI c r m l) (k : PtI c r m g) : l = g := by
  have key : ∀ (i : Nat), i < m → l[i]? = g[i]? := fun i => by
    induction i with
    | zero => intro _; rw [h.h, k.h]
    | succ i ih =>
      intro hi
      have n1 := h.n
      have n2 := k.n
      have e1 : l[i]? = some l[i] := List.getElem?_eq_getElem (by rw [h.n]; omega)
      have e2 := e1
      rw [ih (by omega)] at e2
      have f1 : l[i + 1]? = some l[i + 1] := List.getElem?_eq_getElem (by rw [h.n]; omega)
      have f2 : g[i + 1]? = some g[i + 1] := List.getElem?_eq_getElem (by rw [k.n]; omega)
      have a := h.s i _ _ e1 f1
      have b := k.s i _ _ e2 f2
      have := a.2.2 _ b.1 b.2.1
      have := b.2.2 _ a.1 a.2.1
      rw [f1, f2]
      congr 1
      omega
  apply List.ext_getElem?
  intro i
  by_cases q : i < m
  · exact key i q
  · rw [List.getElem?_eq_none (by rw [h.n]; omega), List.getElem?_eq_none (by rw [k.n]; omega)]
/-- What a grammar's cycle is: of the least rule that comes back to itself. -/
def CyR (n : Nat) (c : Mx) (l : List Nat) : Prop := (l = [] ∧ ∀ r, ¬ Rc n c r r) ∨ ∃ r m, Ds c r m r ∧ (∀ q, q < r → ¬ Rc n c q q) ∧ PtI c r m l
theorem CyR.one {n : Nat} {c : Mx} (hc : ∀ i j, c i j = true → i < n ∧ j < n) {l g : List Nat} (h : CyR n c l) (k : CyR n c g) : l = g := by
  rcases h with ⟨h1, h2⟩ | ⟨r, m, h1, h2, h3⟩
  · rcases k with ⟨k1, _⟩ | ⟨s, o, k1, _, _⟩
    · rw [h1, k1]
    · exact absurd (k1.rc hc) (h2 s)
  · rcases k with ⟨_, k2⟩ | ⟨s, o, k1, k2, k3⟩
    · exact absurd (h1.rc hc) (k2 r)
    · rcases Nat.lt_trichotomy r s with q | q | q
      · exact absurd (h1.rc hc) (k2 r q)
      · subst q
        have e := h1.one k1
        subst e
        exact h3.one k3
      · exact absurd (k1.rc hc) (h2 s q)
theorem CyR.nil {n : Nat} {c : Mx} (hc : ∀ i j, c i j = true → i < n ∧ j < n) {l : List Nat} (h : CyR n c l) : l = [] ↔ ∀ r, ¬ Rc n c r r := by
  rcases h with ⟨h1, h2⟩ | ⟨r, m, h1, h2, h3⟩
  · exact ⟨fun _ => h2, fun _ => h1⟩
  · constructor
    · intro e
      have := h3.n
      have := h1.1
      rw [e] at *
      simp at *
      omega
    · intro q
      exact absurd (h1.rc hc) (q r)
/-- Rules are come to, shorter ways first. come: in their order; pi: by which place each was come to; of those ahead of place a all heads are looked at, of that one's those below b. -/
structure BfI (n : Nat) (c : Mx) (r : Nat) (come pi : List Nat) (a b : Nat) : Prop where
  z : come[0]? = some r
  lp : pi.length = come.length
  nd : come.Nodup
  lt : ∀ x ∈ come, x < n
  p : ∀ (j : Nat) x, 0 < j → come[j]? = some x → ∃ i y, pi[j]? = some i ∧ i < j ∧ come[i]? = some y ∧ c y x = true ∧ (i < a ∨ i = a ∧ x < b)
  mo : ∀ (j k i i2 : Nat), 0 < j → j < k → pi[j]? = some i → pi[k]? = some i2 → i ≤ i2 ∧ (i = i2 → ∀ x y, come[j]? = some x → come[k]? = some y → x < y)
  h : ∀ (i : Nat) y k, come[i]? = some y → c y k = true → (i < a ∨ i = a ∧ k < b) → k ≠ r ∧ ∃ j i2 : Nat, come[j]? = some k ∧ 0 < j ∧ pi[j]? = some i2 ∧ i2 ≤ i
theorem BfI.start {n : Nat} {c : Mx} {r : Nat} (hr : r < n) : BfI n c r [r] [0] 0 0 := by
  refine ⟨rfl, rfl, List.nodup_cons.2 ⟨by simp, List.nodup_nil⟩, fun x hx => by rw [List.mem_singleton.1 hx]; exact hr, fun j x h0 hx => ?_, fun j k i i2 h0 hj hi hk => ?_, fun i y k _ _ h => ?_⟩
  · have := (List.getElem?_eq_some_iff.1 hx).1
    simp at this
    omega
  · have := (List.getElem?_eq_some_iff.1 hk).1
    simp at this
    omega
  · omega
theorem BfI.few {n : Nat} {c : Mx} {r : Nat} {come pi : List Nat} {a b : Nat} (h : BfI n c r come pi a b) : come.length ≤ n := few_below n come h.nd h.lt
theorem BfI.skip {n : Nat} {c : Mx} {r : Nat} {come pi : List Nat} {a b b2 y : Nat} (h : BfI n c r come pi a b) (hy : come[a]? = some y) (hb : b ≤ b2) (hk : ∀ k, b ≤ k → k < b2 → c y k = false) : BfI n c r come pi a b2 := by
  refine ⟨h.z, h.lp, h.nd, h.lt, fun j x h0 hx => ?_, h.mo, fun i z k hz hc hi => ?_⟩
  · obtain ⟨i, y2, p1, p2, p3, p4, p5⟩ := h.p j x h0 hx
    exact ⟨i, y2, p1, p2, p3, p4, by omega⟩
  · refine h.h i z k hz hc ?_
    rcases hi with e | ⟨e, q⟩
    · exact .inl e
    · subst e
      rw [hy] at hz
      cases hz
      by_cases w : k < b
      · exact .inr ⟨rfl, w⟩
      · rw [hk k (by omega) q] at hc
        cases hc
theorem BfI.next {n : Nat} {c : Mx} {r : Nat} {come pi : List Nat} {a b y : Nat} (h : BfI n c r come pi a b) (hy : come[a]? = some y) (hk : ∀ k, b ≤ k → c y k = false) : BfI n c r come pi (a + 1) 0 := by
  refine ⟨h.z, h.lp, h.nd, h.lt, fun j x h0 hx => ?_, h.mo, fun i z k hz hc hi => ?_⟩
  · obtain ⟨i, y2, p1, p2, p3, p4, p5⟩ := h.p j x h0 hx
    exact ⟨i, y2, p1, p2, p3, p4, by omega⟩
  · refine h.h i z k hz hc ?_
    by_cases e : i = a
    · subst e
      rw [hy] at hz
      cases hz
      by_cases w : k < b
      · exact .inr ⟨rfl, w⟩
      · rw [hk k (by omega)] at hc
        cases hc
    · omega
theorem BfI.old {n : Nat} {c : Mx} {r : Nat} {come pi : List Nat} {a k y : Nat} (h : BfI n c r come pi a k) (hy : come[a]? = some y) (hr : k ≠ r) (hm : k ∈ come) : BfI n c r come pi a (k + 1) := by
  refine ⟨h.z, h.lp, h.nd, h.lt, fun j x h0 hx => ?_, h.mo, fun i z q hz hc hi => ?_⟩
  · obtain ⟨i, y2, p1, p2, p3, p4, p5⟩ := h.p j x h0 hx
    exact ⟨i, y2, p1, p2, p3, p4, by omega⟩
  · by_cases e : i = a ∧ q = k
    · obtain ⟨rfl, rfl⟩ := e
      refine ⟨hr, ?_⟩
      obtain ⟨j, hj⟩ := List.getElem?_of_mem hm
      have j0 : 0 < j := by
        rcases Nat.eq_zero_or_pos j with e | e
        · subst e
          rw [h.z] at hj
          cases hj
          exact absurd rfl hr
        · exact e
      obtain ⟨i2, y2, p1, p2, p3, p4, p5⟩ := h.p j q j0 hj
      exact ⟨j, i2, hj, j0, p1, by omega⟩
    · exact h.h i z q hz hc (by omega)
theorem BfI.push {n : Nat} {c : Mx} {r : Nat} {come pi : List Nat} {a k y : Nat} (hc : ∀ i j, c i j = true → i < n ∧ j < n) (h : BfI n c r come pi a k) (hy : come[a]? = some y) (hr : k ≠ r) (hk : c y k = true) (hm : k ∉ come) : BfI n c r (come ++ [k]) (pi ++ [a]) a (k + 1) := by
  have ha := (List.getElem?_eq_some_iff.1 hy).1
  have hlp := h.lp
  have old : ∀ (j : Nat) x, (come ++ [k])[j]? = some x → j < come.length → come[j]? = some x := fun j x hx hj => by rwa [List.getElem?_append_left hj] at hx
  have new : ∀ (j : Nat) x, (come ++ [k])[j]? = some x → ¬ j < come.length → j = come.length ∧ x = k := fun j x hx hj => by
    have := (List.getElem?_eq_some_iff.1 hx).1
    rw [List.length_append, List.length_singleton] at this
    have e : j = come.length := by omega
    subst e
    rw [List.getElem?_append_right (Nat.le_refl _), Nat.sub_self] at hx
    cases hx
    exact ⟨rfl, rfl⟩
  have oldp : ∀ (j : Nat) x, (pi ++ [a])[j]? = some x → j < come.length → pi[j]? = some x := fun j x hx hj => by rwa [List.getElem?_append_left (by omega)] at hx
  have newp : ∀ (j : Nat) x, (pi ++ [a])[j]? = some x → ¬ j < come.length → j = come.length ∧ x = a := fun j x hx hj => by
    have := (List.getElem?_eq_some_iff.1 hx).1
    rw [List.length_append, List.length_singleton] at this
    have e : j = pi.length := by omega
    subst e
    rw [List.getElem?_append_right (Nat.le_refl _), Nat.sub_self] at hx
    cases hx
    exact ⟨hlp, rfl⟩
  have up : ∀ (j : Nat) x, come[j]? = some x → (come ++ [k])[j]? = some x := fun j x hx => by
    rw [List.getElem?_append_left (List.getElem?_eq_some_iff.1 hx).1]; exact hx
  have upp : ∀ (j : Nat) x, pi[j]? = some x → (pi ++ [a])[j]? = some x := fun j x hx => by
    rw [List.getElem?_append_left (List.getElem?_eq_some_iff.1 hx).1]; exact hx
  refine ⟨up _ _ h.z, by rw [List.length_append, List.length_append, hlp]; rfl, ?_, fun x hx => ?_, fun j x h0 hx => ?_, fun j q i i2 h0 hj hi hq => ?_, fun i z q hz hcz hi => ?_⟩
  · rw [List.nodup_append]
    refine ⟨h.nd, List.nodup_cons.2 ⟨by simp, List.nodup_nil⟩, fun x hx z hz e => ?_⟩
    rw [List.mem_singleton.1 hz] at e
    subst e
    exact hm hx
  · rcases List.mem_append.1 hx with e | e
    · exact h.lt x e
    · rw [List.mem_singleton.1 e]; exact (hc y k hk).2
  · by_cases e : j < come.length
    · obtain ⟨i, y2, p1, p2, p3, p4, p5⟩ := h.p j x h0 (old j x hx e)
      exact ⟨i, y2, upp _ _ p1, p2, up _ _ p3, p4, by omega⟩
    · obtain ⟨rfl, rfl⟩ := new j x hx e
      exact ⟨a, y, by rw [← hlp, List.getElem?_append_right (Nat.le_refl _), Nat.sub_self]; rfl, ha, up _ _ hy, hk, .inr ⟨rfl, by omega⟩⟩
  · have hjl : j < come.length := by
      have := (List.getElem?_eq_some_iff.1 hq).1
      rw [List.length_append, List.length_singleton] at this
      omega
    have hi2 := oldp j i hi hjl
    by_cases e : q < come.length
    · obtain ⟨m1, m2⟩ := h.mo j q i i2 h0 hj hi2 (oldp q i2 hq e)
      exact ⟨m1, fun e2 x z hx hz => m2 e2 x z (old j x hx hjl) (old q z hz e)⟩
    · obtain ⟨rfl, rfl⟩ := newp q i2 hq e
      have ej : come[j]? = some come[j] := List.getElem?_eq_getElem hjl
      obtain ⟨i3, y2, p1, p2, p3, p4, p5⟩ := h.p j _ h0 ej
      rw [hi2] at p1
      cases p1
      refine ⟨by omega, fun e2 x z hx hz => ?_⟩
      obtain ⟨_, rfl⟩ := new _ z hz e
      have hx := old j x hx hjl
      rw [ej] at hx
      have hx : come[j] = x := Option.some.inj hx
      omega
  · have hzl : i < come.length := by omega
    have hz := old i z hz hzl
    by_cases e : i = a ∧ q = k
    · obtain ⟨rfl, rfl⟩ := e
      exact ⟨hr, come.length, i, by rw [List.getElem?_append_right (Nat.le_refl _), Nat.sub_self]; rfl, by omega, by rw [← hlp, List.getElem?_append_right (Nat.le_refl _), Nat.sub_self]; rfl, Nat.le_refl _⟩
    · obtain ⟨g1, j, i2, g2, g3, g4, g5⟩ := h.h i z q hz hcz (by omega)
      exact ⟨g1, j, i2, up _ _ g2, g3, upp _ _ g4, g5⟩
/-- None comes back. -/
theorem BfI.none {n : Nat} {c : Mx} {r : Nat} {come pi : List Nat} (_hc : ∀ i j, c i j = true → i < n ∧ j < n) (h : BfI n c r come pi come.length 0) : ¬ Rc n c r r := by
  have key : ∀ (t i x : Nat), come[i]? = some x → ¬ St c r (t + 1) x := by
    intro t
    induction t with
    | zero =>
      intro i x hx hs
      exact (h.h i x r hx (St.one.1 hs) (.inl (List.getElem?_eq_some_iff.1 hx).1)).1 rfl
    | succ t ih =>
      intro i x hx hs
      obtain ⟨k, k1, k2⟩ := hs
      obtain ⟨_, j, _, hj, _⟩ := h.h i x k hx k1 (.inl (List.getElem?_eq_some_iff.1 hx).1)
      exact ih j k hj k2
  intro q
  obtain ⟨t, ht⟩ := St.of_rc q
  exact key t 0 r h.z ht
/-- The first that comes back stands at the end of the way that the document tells; each stands ahead of the next on it. -/
theorem BfI.found {n : Nat} {c : Mx} {r m : Nat} {come pi l : List Nat} {a b y : Nat} (h : BfI n c r come pi a b) (hy : come[a]? = some y) (hyr : c y r = true) (hd : Ds c r m r) (hl : PtI c r m l) :
    l[m - 1]? = some y ∧ ∀ (i : Nat) x z, l[i]? = some x → l[i + 1]? = some z → z ≠ r ∧ ∃ j i2 : Nat, come[j]? = some z ∧ 0 < j ∧ pi[j]? = some i2 ∧ come[i2]? = some x := by
  have m0 := hd.1
  have key : ∀ (i : Nat), i < m → ∃ j x : Nat, l[i]? = some x ∧ come[j]? = some x ∧ j ≤ a ∧ (∀ (k : Nat) z s, come[k]? = some z → Ds c r s z → s ≤ m - i → j ≤ k) ∧ ∀ i0 x0, i = i0 + 1 → l[i0]? = some x0 → 0 < j ∧ ∃ i2 : Nat, pi[j]? = some i2 ∧ come[i2]? = some x0 := by
    intro i
    induction i with
    | zero =>
      intro _
      exact ⟨0, r, hl.h, h.z, Nat.zero_le _, fun _ _ _ _ _ _ => Nat.zero_le _, fun i0 x0 e => by omega⟩
    | succ i ih =>
      intro hi
      obtain ⟨j, x, x1, x2, x3, x4, _⟩ := ih (by omega)
      have hx := hl.ds hd x1
      have hja : j < a := by
        rcases Nat.lt_or_ge j a with q | q
        · exact q
        · have e : j = a := by omega
          subst e
          rw [hy] at x2
          cases x2
          have := hx.one (Ds.first.2 hyr)
          omega
      have n1 := hl.n
      have hz : l[i + 1]? = some l[i + 1] := List.getElem?_eq_getElem (by rw [hl.n]; exact hi)
      obtain ⟨z1, z2, z3⟩ := hl.s i x _ x1 hz
      obtain ⟨_, j2, i2, w1, w2, w3, w4⟩ := h.h j x _ x2 z1 (.inl hja)
      obtain ⟨i3, y3, p1, p2, p3, p4, _⟩ := h.p j2 _ w2 w1
      rw [w3] at p1
      cases p1
      obtain ⟨s, s1, s2⟩ := Ds.up p4 z2
      have := x4 i2 y3 s p3 s2 (by omega)
      have e : i2 = j := by omega
      subst e
      have least : ∀ (k : Nat) z s, come[k]? = some z → Ds c r s z → s ≤ m - (i + 1) → j2 ≤ k := by
        intro k z s hk hs hm
        have k0 : 0 < k := by
          rcases Nat.eq_zero_or_pos k with e | e
          · subst e
            rw [h.z] at hk
            cases hk
            have := hs.one hd
            omega
          · exact e
        obtain ⟨i4, y4, g1, g2, g3, g4, _⟩ := h.p k z k0 hk
        obtain ⟨u, u1, u2⟩ := Ds.up g4 hs
        have hge := x4 i4 y4 u g3 u2 (by omega)
        rcases Nat.lt_or_ge k j2 with q | q
        · obtain ⟨m1, m2⟩ := h.mo k j2 i4 i2 k0 q g1 w3
          have e : i4 = i2 := by omega
          subst e
          have hlt := m2 rfl z _ hk w1
          rw [x2] at g3
          cases g3
          have := u2.one hx
          have e2 : s = m - (i + 1) := by omega
          subst e2
          have := z3 z g4 hs
          omega
        · exact q
      have hle : j2 ≤ a := least a y 1 hy (Ds.first.2 hyr) (by omega)
      refine ⟨j2, _, hz, w1, hle, least, fun i0 x0 e hx0 => ?_⟩
      have : i = i0 := by omega
      subst this
      rw [x1] at hx0
      cases hx0
      exact ⟨w2, i2, w3, x2⟩
  refine ⟨?_, fun i x z hx hz => ?_⟩
  · obtain ⟨j, x, x1, x2, x3, x4, _⟩ := key (m - 1) (by omega)
    have hx := hl.ds hd x1
    rw [show m - (m - 1) = 1 from by omega] at hx
    rcases Nat.lt_or_ge j a with q | q
    · exact absurd rfl (h.h j x r x2 (Ds.first.1 hx) (.inl q)).1
    · have e : j = a := by omega
      subst e
      rw [hy] at x2
      cases x2
      exact x1
  · have hi := (List.getElem?_eq_some_iff.1 hz).1
    have hzd := hl.ds hd hz
    refine ⟨fun e => ?_, ?_⟩
    · subst e
      have := hzd.one hd
      rw [hl.n] at hi
      omega
    · obtain ⟨j, x2, x3, x4, _, _, x5⟩ := key (i + 1) (by rw [← hl.n]; exact hi)
      rw [hz] at x3
      cases x3
      obtain ⟨q1, i2, q2, q3⟩ := x5 i x rfl hx
      exact ⟨j, i2, x4, q1, q2, q3⟩
end Go.Proofs.YtbipjdgholdhcabGreat.N

namespace Go.Proofs.YtbipjdgholdhcabGreat.N
open Go.RowKit Go.Maps
open Go.Proofs.YtbipjdgholdhcabGreat.T
/-- While the heads of the rule at place a are gone through: q of them are done. -/
def BfQ (n : Nat) (c : Mx) (r : Nat) (come pi : List Nat) (a y q : Nat) : Prop := come[a]? = some y ∧ ∃ b, BfI n c r come pi a b ∧ ∀ (i x : Nat), (hdl n c y)[i]? = some x → (i < q → x < b) ∧ (q ≤ i → b ≤ x)
theorem hdl_lt {n : Nat} {c : Mx} {y i j x z : Nat} (hi : (hdl n c y)[i]? = some x) (hj : (hdl n c y)[j]? = some z) (h : i < j) : x < z := by
  obtain ⟨l1, e1⟩ := List.getElem?_eq_some_iff.1 hi
  obtain ⟨l2, e2⟩ := List.getElem?_eq_some_iff.1 hj
  have := List.pairwise_iff_getElem.1 (hdl_up n c y) i j l1 l2 h
  rw [e1, e2] at this
  exact this
theorem BfQ.start {n : Nat} {c : Mx} {r : Nat} {come pi : List Nat} {a y : Nat} (h : BfI n c r come pi a 0) (hy : come[a]? = some y) : BfQ n c r come pi a y 0 := ⟨hy, 0, h, fun _i _x _ => ⟨fun q => absurd q (Nat.not_lt_zero _), fun _ => Nat.zero_le _⟩⟩
theorem BfQ.skip {n : Nat} {c : Mx} (hc : ∀ i j, c i j = true → i < n ∧ j < n) {r : Nat} {come pi : List Nat} {a y q k : Nat} (h : BfQ n c r come pi a y q) (hk : (hdl n c y)[q]? = some k) : BfI n c r come pi a k := by
  obtain ⟨hy, b, hb, hx⟩ := h
  refine hb.skip hy ((hx q k hk).2 (Nat.le_refl _)) (fun x h1 h2 => ?_)
  cases e : c y x with
  | false => rfl
  | true =>
    exfalso
    obtain ⟨i, hi⟩ := List.getElem?_of_mem ((hdl_mem hc).2 e)
    by_cases w : i < q
    · have := (hx i x hi).1 w; omega
    · by_cases w2 : i = q
      · subst w2; rw [hi] at hk; cases hk; omega
      · have := hdl_lt hk hi (by omega); omega
theorem bfq_next {n : Nat} {c : Mx} {y q k : Nat} (hk : (hdl n c y)[q]? = some k) : ∀ (i x : Nat), (hdl n c y)[i]? = some x → (i < q + 1 → x < k + 1) ∧ (q + 1 ≤ i → k + 1 ≤ x) := fun i x hi => by
  refine ⟨fun w => ?_, fun w => ?_⟩
  · by_cases e : i = q
    · subst e; rw [hi] at hk; cases hk; omega
    · have := hdl_lt hi hk (by omega); omega
  · have := hdl_lt hk hi (by omega); omega
theorem BfQ.old {n : Nat} {c : Mx} (hc : ∀ i j, c i j = true → i < n ∧ j < n) {r : Nat} {come pi : List Nat} {a y q k : Nat} (h : BfQ n c r come pi a y q) (hk : (hdl n c y)[q]? = some k) (hr : k ≠ r) (hm : k ∈ come) : BfQ n c r come pi a y (q + 1) := ⟨h.1, k + 1, (h.skip hc hk).old h.1 hr hm, bfq_next hk⟩
theorem BfQ.push {n : Nat} {c : Mx} (hc : ∀ i j, c i j = true → i < n ∧ j < n) {r : Nat} {come pi : List Nat} {a y q k : Nat} (h : BfQ n c r come pi a y q) (hk : (hdl n c y)[q]? = some k) (hr : k ≠ r) (hm : k ∉ come) : BfQ n c r (come ++ [k]) (pi ++ [a]) a y (q + 1) := by
  have hck : c y k = true := (hdl_mem hc).1 (List.mem_of_getElem? hk)
  refine ⟨?_, k + 1, BfI.push hc (h.skip hc hk) h.1 hr hck hm, bfq_next hk⟩
  rw [List.getElem?_append_left (List.getElem?_eq_some_iff.1 h.1).1]
  exact h.1
theorem BfQ.done {n : Nat} {c : Mx} (hc : ∀ i j, c i j = true → i < n ∧ j < n) {r : Nat} {come pi : List Nat} {a y : Nat} (h : BfQ n c r come pi a y (hdl n c y).length) : BfI n c r come pi (a + 1) 0 := by
  obtain ⟨hy, b, hb, hx⟩ := h
  refine hb.next hy (fun k hk => ?_)
  cases e : c y k with
  | false => rfl
  | true =>
    exfalso
    obtain ⟨i, hi⟩ := List.getElem?_of_mem ((hdl_mem hc).2 e)
    have := (hx i k hi).1 (List.getElem?_eq_some_iff.1 hi).1
    omega
/-- The arrays: who has been come to, and from whom. -/
structure WbA (r : Nat) (come pi : List Nat) (isC : Nat → Bool) (ah : Nat → Nat) : Prop where
  m : ∀ x, isC x = true ↔ (x ∈ come ∧ x ≠ r)
  a : ∀ (j x i y : Nat), 0 < j → come[j]? = some x → pi[j]? = some i → come[i]? = some y → ah x = y
theorem WbA.start (r : Nat) : WbA r [r] [0] (fun _ => false) (fun _ => 0) := by
  refine ⟨fun x => ⟨(fun h => by cases h), fun h => ?_⟩, fun j x i y h0 hx _ _ => ?_⟩
  · exact absurd (List.mem_singleton.1 h.1) h.2
  · have := (List.getElem?_eq_some_iff.1 hx).1
    simp at this
    omega
theorem WbA.push {r a y k : Nat} {come pi : List Nat} {isC : Nat → Bool} {ah : Nat → Nat} (h : WbA r come pi isC ah) (hl : pi.length = come.length) (hz : ∀ (j i : Nat), 0 < j → pi[j]? = some i → i < come.length) (hy : come[a]? = some y) (hk : k ∉ come) (hr : k ≠ r) : WbA r (come ++ [k]) (pi ++ [a]) (fun x => if x = k then true else isC x) (fun x => if x = k then y else ah x) := by
  have ha := (List.getElem?_eq_some_iff.1 hy).1
  refine ⟨fun x => ?_, fun j x i z h0 hx hi hz2 => ?_⟩
  · show (if x = k then true else isC x) = true ↔ _
    rw [List.mem_append, List.mem_singleton]
    by_cases e : x = k
    · rw [if_pos e]; exact ⟨fun _ => ⟨.inr e, by rw [e]; exact hr⟩, fun _ => rfl⟩
    · rw [if_neg e, h.m x]
      exact ⟨fun q => ⟨.inl q.1, q.2⟩, fun q => ⟨q.1.resolve_right e, q.2⟩⟩
  · show (if x = k then y else ah x) = z
    by_cases hj : j < come.length
    · rw [List.getElem?_append_left hj] at hx
      rw [List.getElem?_append_left (by omega)] at hi
      rw [List.getElem?_append_left (hz j i h0 hi)] at hz2
      rw [if_neg (fun e => hk (by rw [← e]; exact List.mem_of_getElem? hx))]
      exact h.a j x i z h0 hx hi hz2
    · have := (List.getElem?_eq_some_iff.1 hx).1
      rw [List.length_append, List.length_singleton] at this
      have e : j = come.length := by omega
      subst e
      rw [List.getElem?_append_right (Nat.le_refl _), Nat.sub_self] at hx
      rw [← hl, List.getElem?_append_right (Nat.le_refl _), Nat.sub_self] at hi
      cases hx
      cases hi
      rw [List.getElem?_append_left ha, hy] at hz2
      rw [if_pos rfl]
      exact Option.some.inj hz2
/-- Whatever is come to is come to. -/
theorem BfI.reach {n : Nat} {c : Mx} (hc : ∀ i j, c i j = true → i < n ∧ j < n) {r : Nat} {come pi : List Nat} {a b : Nat} (h : BfI n c r come pi a b) : ∀ (m j x : Nat), j < m → come[j]? = some x → x = r ∨ Rc n c r x := by
  intro m
  induction m with
  | zero => intro j x hj; omega
  | succ m ih =>
    intro j x hj hx
    by_cases j0 : 0 < j
    · obtain ⟨i, y, _, p2, p3, p4, _⟩ := h.p j x j0 hx
      rcases ih i y (by omega) p3 with e | e
      · rw [e] at p4; exact .inr (Rc.of p4)
      · exact .inr (Rc.trans (hc y x p4).1 e (Rc.of p4))
    · have e : j = 0 := by omega
      subst e
      rw [h.z] at hx
      exact .inl (Option.some.inj hx).symm
/-- What a rule's way back is. -/
def WyB (n : Nat) (c : Mx) (r : Nat) (l : List Nat) : Prop := (l = [] ∧ ¬ Rc n c r r) ∨ ∃ m, Ds c r m r ∧ PtI c r m l
/-- From the last one back along the arrays. -/
theorem WbA.back {n : Nat} {c : Mx} {r m a b y : Nat} {come pi l : List Nat} {isC : Nat → Bool} {ah : Nat → Nat} (hw : WbA r come pi isC ah) (h : BfI n c r come pi a b) (hy : come[a]? = some y) (hyr : c y r = true) (hd : Ds c r m r) (hl : PtI c r m l) : l[m - 1]? = some y ∧ ∀ (i x z : Nat), l[i]? = some x → l[i + 1]? = some z → z ≠ r ∧ z < n ∧ ah z = x := by
  obtain ⟨h1, h2⟩ := h.found hy hyr hd hl
  refine ⟨h1, fun i x z hx hz => ?_⟩
  obtain ⟨q, j, i2, q1, q2, q3, q4⟩ := h2 i x z hx hz
  exact ⟨q, h.lt z (List.mem_of_getElem? q1), hw.a j z i2 x q2 q1 q3 q4⟩
end Go.Proofs.YtbipjdgholdhcabGreat.N

namespace Go.Proofs.YtbipjdgholdhcabGreat.N
open Go.RowKit Go.Maps
open Go.Proofs.YtbipjdgholdhcabGreat.T
def Tryz.lays112_ren : Go.Shelf.Ren := ⟨fun | 112 => 69 | k => k, fun | 28 => 29 | k => k, fun k => k⟩
theorem Tryz.lays112 : Go.Proofs.Lays.n112 Tryz.prog Tryz.lays112_ren := {
  mixed := by kernel_rfl
  f112 := Tryz.func69.trans (congrArg some (by kernel_rfl))
  t0 := Tryz.underlying0
  a0 := Tryz.isAgg0
  z0 := Tryz.sizeOf0
  v0 := Tryz.zeroValue0
  t3 := Tryz.underlying3
  a3 := Tryz.isAgg3
  z3 := Tryz.sizeOf3
  v3 := Tryz.zeroValue3
  t4 := Tryz.underlying4
  a4 := Tryz.isAgg4
  z4 := Tryz.sizeOf4
  v4 := Tryz.zeroValue4
  t28 := Tryz.underlying29
  a28 := Tryz.isAgg29
  z28 := Tryz.sizeOf29
  v28 := Tryz.zeroValue29 }
/-- slices.Reverse of a row of the call's own. -/
theorem reverse_any {w : World} {base n : Nat} {v : Value} {l : List Nat} (hn : n = l.length) (hl : l.length ≤ 1000000) (h : w.ownsRow base 3 1 v n (l.map U.nI)) :
    Calls Tryz.prog 69 #[v] w fun e w' => e = .returned (.tuple #[]) ∧ w'.ownsRow base 3 1 v n (l.reverse.map U.nI) ∧ w.grownBy w' v.ownBlock := by
  subst hn
  have hm : ∀ k : List Nat, k.map U.nI = (k.map fun (x : Nat) => (x : Int)).map (Value.int .i64) := fun k => by rw [List.map_map]; rfl
  obtain ⟨zs, hz⟩ : ∃ zs : List Int, zs = l.map fun (x : Nat) => (x : Int) := ⟨_, rfl⟩
  have hzl : zs.length = l.length := by rw [hz, List.length_map]
  have hzr : l.reverse.map U.nI = zs.reverse.map (Value.int .i64) := by rw [hm, hz, List.map_reverse]
  rw [hm, ← hz] at h
  rw [hzr]
  rw [← hzl] at h ⊢
  rcases h.2 with ⟨rfl, h0⟩ | ⟨g, cap, cur, rfl, hb, hg, h1, h2, h3, h4⟩
  · have hz0 : zs = [] := List.eq_nil_of_length_eq_zero h0
    subst hz0
    refine (Any.slices_Reverse_int_empty Tryz.lays112 none 0 w).mono ?_
    rintro e w' ⟨rfl, rfl⟩
    exact ⟨rfl, World.ownsRow_nil _ _ _ _, World.grownBy.refl _ _⟩
  · have hH := Go.holds_of_blockI hg (ss := zs) (by rw [← h4, Nat.mul_one])
    refine (Any.slices_Reverse_int Tryz.lays112 g 0 cap zs w hH (by omega)).mono ?_
    rintro e w' ⟨rfl, k, rfl⟩
    have e1 := ownsRow_sortedI (n := k) (os := #[]) (ss := zs) (ts := zs.reverse) (by rw [List.length_reverse]) hb hg h1 h2 h3
    have e2 := grownBy_sortedI (w := w) (g := g) (n := k) (os := #[]) zs.reverse.toArray
    rw [Go.Sort.grow_empty] at e1 e2
    exact ⟨rfl, e1, e2⟩
end Go.Proofs.YtbipjdgholdhcabGreat.N

namespace Go.Proofs.YtbipjdgholdhcabGreat.N
open Go.RowKit Go.Maps
open Go.Proofs.YtbipjdgholdhcabGreat.T

open U (below_grown own_get own_slice)
theorem filter_succ (f : Nat → Bool) (k : Nat) : (List.range (k + 1)).filter f = if f k then (List.range k).filter f ++ [k] else (List.range k).filter f := by
  rw [List.range_succ, List.filter_append]
  cases h : f k <;> simp [h]
theorem filter_len (f : Nat → Bool) (k : Nat) : ((List.range k).filter f).length ≤ k := by
  have := List.length_filter_le f (List.range k)
  rwa [List.length_range] at this
/-- While the numbers are told. -/
structure NmS (w wr : World) (l : List Nat) (N : Nat) (v : Value) : Prop where
  b : Below w.heap.size w wr
  o : wr.ownsRow N 3 1 v l.length (l.map U.nI)
  n : w.heap.size ≤ N ∧ N ≤ wr.heap.size
theorem NmS.push {w wr w2 : World} {l : List Nat} {N k : Nat} {v v2 : Value} (h : NmS w wr l N v) (ho : w2.ownsRow N 3 1 v2 (l.length + 1) (l.map U.nI ++ [.int .i64 (k : Int)])) (hg : wr.grownBy w2 v.ownBlock) : NmS w w2 (l ++ [k]) N v2 := by
  have hlow : ∀ q, v.ownBlock = some q → N ≤ q := fun q hq => (h.o.lt q hq).1
  have hn := h.n
  refine ⟨below_grown h.b hg (fun q e => by have := hlow q e; omega), ?_, ⟨hn.1, Nat.le_trans hn.2 hg.size⟩⟩
  rw [List.length_append, List.map_append]
  exact ho
set_option maxRecDepth 100000 in
set_option maxHeartbeats 16000000 in
/-- The numbers of what is marked, rising. -/
theorem numbers_any (f : Nat → Bool) (w : World) : Calls Tryz.prog 43 #[.agg (mkA f)] w fun e w' => (∃ v, e = .returned v ∧ w'.ownsRow w.heap.size 3 1 v ((List.range 200).filter f).length (((List.range 200).filter f).map U.nI)) ∧ Below w.heap.size w w' := by
  obtain ⟨w1, hw1⟩ : ∃ w1, w1 = w.alloc (.cells (mkA f) 87) := ⟨_, rfl⟩
  have HE1 := (show Hid (w.alloc (.cells (mkA f) 87) = w1) from hw1.symm)
  have hb1 : Below w.heap.size w w1 := by rw [hw1]; exact below_box _ _
  have HR := (show Hid (w1.rangeAt w.heap.size 0 (mkL f)) from by rw [hw1]; exact (MX.new w f).at')
  have HS := (show Hid (NmS w w1 [] w.heap.size (.slice none 0 0)) from ⟨hb1, World.ownsRow_nil _ _ _ _, Nat.le_refl _, hb1.size⟩)
  have HIx := (show Hid (∀ (k : Nat) (W : World), k < 200 → (Instr.index 87 (.agg (mkA f)) (.int .i64 (k : Int))).run Tryz.prog W = .ok (.bool (f k)) W) from fun k W hk => index_mk f hk W)
  have HF := (show Hid (∀ k, (List.range (k + 1)).filter f = if f k then (List.range k).filter f ++ [k] else (List.range k).filter f) from filter_succ f)
  have HL := (show Hid (∀ k, ((List.range k).filter f).length ≤ k) from filter_len f)
  obtain ⟨A, hA⟩ : ∃ A, A = mkA f := ⟨_, rfl⟩
  have HA := (show Hid (A = mkA f) from hA)
  clear hw1 hb1
  go_enter Tryz.func43, Tryz.ntmps43
  go_wp2_with (first | rw [HE1.out] | refine wpList_loadM rfl _ rfl w.heap.size 0 f rfl HR.out ?_)
  rw [← hA]
  clear hA HE1 HR
  have HS2 := (show Hid (NmS w w1 ((List.range 0).filter f) w.heap.size (.slice none 0 0)) from HS.out)
  clear HS
  go_loopw [3, 7] (fun v t wr => ∃ (k n : Nat) (A2 : Option Addr) (c2 : Nat), k ≤ 200 ∧ t = .int .i64 (k : Int) ∧ v = .slice A2 n c2 ∧ Hid (n = ((List.range k).filter f).length) ∧ n ≤ 200 ∧ Hid (NmS w wr ((List.range k).filter f) w.heap.size (.slice A2 n c2))) (fun _ t _ => 200 - (intOf t).toNat)
  case atStart => exact ⟨0, 0, none, 0, by omega, by go_num, rfl, rfl, by omega, HS2⟩
  case round =>
    obtain ⟨k, n, A2, c2, hk, rfl, rfl, HN, hn, HW⟩ := hrel
    clear HS2
    by_cases hlt : k < 200
    · have hix : ∀ W, (Instr.index 87 (.agg A) (.int .i64 (k : Int))).run Tryz.prog W = .ok (.bool (f k)) W := fun W => by rw [HA.out]; exact HIx.out k W hlt
      have z1 : (k : Int) < 200 := by omega
      have HFk := hid_of (HF.out k)
      have HLk := (show Hid (((List.range (k + 1)).filter f).length ≤ 200) from Nat.le_trans (HL.out (k + 1)) (by omega))
      cases hb : f k with
      | false =>
        rw [hb] at hix
        have HW2 := (show Hid (NmS w wr ((List.range (k + 1)).filter f) w.heap.size (.slice A2 n c2)) from by rw [HFk.out, if_neg (by rw [hb]; exact Bool.noConfusion)]; exact HW.out)
        have HN2 := (show Hid (n = ((List.range (k + 1)).filter f).length) from by rw [HFk.out, if_neg (by rw [hb]; exact Bool.noConfusion)]; exact HN.out)
        clear hb HW HFk HLk HN HF HIx HL
        go_wp2_with fail
        go_roundw
        case rel => exact ⟨k + 1, n, A2, c2, by omega, by go_num, rfl, HN2, hn, HW2⟩
        case measure => simp [intOf]; omega
      | true =>
        rw [hb] at hix
        have HO := (show Hid (∀ W, W = wr → W.ownsRow w.heap.size 3 1 (.slice A2 n c2) n (((List.range k).filter f).map U.nI)) from fun W h => by rw [h]; have h := HW.out.o; rw [← HN.out] at h; exact h)
        have HNs := (show Hid (w.heap.size ≤ wr.heap.size) from HW.out.n.2)
        have HPu := (show Hid (∀ (g5 cap5 : Nat) (w5 : World), w5.ownsRow w.heap.size 3 1 (.slice (some ⟨g5, 0, none⟩) (n + 1) cap5) (n + 1) (((List.range k).filter f).map U.nI ++ [.int .i64 (k : Int)]) → wr.grownBy w5 (Value.slice A2 n c2).ownBlock → Hid (NmS w w5 ((List.range (k + 1)).filter f) w.heap.size (.slice (some ⟨g5, 0, none⟩) (n + 1) cap5)) ∧ Hid (n + 1 = ((List.range (k + 1)).filter f).length) ∧ n + 1 ≤ 200) from fun g5 cap5 w5 h1 h2 => by
          have e : ((List.range (k + 1)).filter f).length = n + 1 := by rw [HFk.out, if_pos hb, List.length_append, ← HN.out]; rfl
          refine ⟨?_, e.symm, by rw [← e]; exact HLk.out⟩
          show NmS _ _ _ _ _
          rw [HFk.out, if_pos hb]
          exact HW.out.push (by rw [← HN.out]; exact h1) h2)
        clear hb HW HFk HLk HN HF HIx HL
        go_wp2_with (at_builtin; refine U.wpList_app1 rfl _ _ 29 rfl (.int .i64 0) 8 Tryz.underlying29 Tryz.info3 rfl w.heap.size n _ _ rfl rfl (HO.out _ rfl) rfl (by omega) (by decide) HNs.out ?_; intro g5 cap5 w5 ho5 hg5 hat5 hl5; obtain ⟨HV5, HN5, hn5⟩ := HPu.out g5 cap5 w5 ho5 hg5; clear ho5 hg5 hat5 hl5 HPu HO HNs)
        go_roundw
        case rel => exact ⟨k + 1, n + 1, some ⟨g5, 0, none⟩, cap5, by omega, by go_num, rfl, HN5, hn5, HV5⟩
        case measure => simp [intOf]; omega
    · obtain rfl : k = 200 := by omega
      have HO := (show Hid (wr.ownsRow w.heap.size 3 1 (.slice A2 n c2) ((List.range 200).filter f).length (((List.range 200).filter f).map U.nI) ∧ Below w.heap.size w wr) from ⟨HW.out.o, HW.out.b⟩)
      clear HW HN HF HIx HL HA
      go_wp2_with fail
      go_ret
      exact ⟨⟨_, rfl, HO.out.1⟩, HO.out.2⟩
/-- Both together, so far. -/
def orF (f g : Nat → Bool) (k : Nat) : Nat → Bool := fun q => if q < k then f q || g q else f q
theorem orF_up (f g : Nat → Bool) (k : Nat) : upM (orF f g k) k (f k || g k) = orF f g (k + 1) := by
  funext q
  unfold upM orF
  by_cases e : q = k
  · subst e
    rw [if_pos rfl, if_pos (Nat.lt_succ_self q)]
  · rw [if_neg e]
    by_cases h : q < k
    · rw [if_pos h, if_pos (by omega)]
    · rw [if_neg h, if_neg (by omega)]
structure OrS (w wr : World) (f : Nat → Bool) : Prop where
  b : Below w.heap.size w wr
  x : MX wr w.heap.size f
  z : MX wr (w.heap.size + 1 + 1) (fun _ => false)
theorem OrS.set {w wr : World} {f : Nat → Bool} (h : OrS w wr f) (r : Nat) (v : Bool) : OrS w (wr.setCell ⟨w.heap.size, r, none⟩ (.bool v)) (upM f r v) :=
  ⟨h.b.setCell (p := ⟨w.heap.size, r, none⟩) (Nat.le_refl _) _, h.x.set v, h.z.same (heap_setCell_other _ ⟨w.heap.size, r, none⟩ _ _ (show w.heap.size + 1 + 1 ≠ w.heap.size by omega))⟩
set_option maxRecDepth 100000 in
set_option maxHeartbeats 16000000 in
theorem or_any (f g : Nat → Bool) (w : World) : Calls Tryz.prog 59 #[.agg (mkA f), .agg (mkA g)] w fun e w' => e = .returned (.agg (mkA fun q => f q || g q)) ∧ Below w.heap.size w w' := by
  have hv := zero_mk
  obtain ⟨w1, hw1⟩ : ∃ w1, w1 = ((w.alloc (.cells (mkA f) 87)).alloc (.cells (mkA g) 87)).alloc (.cells (mkA fun _ => false) 87) := ⟨_, rfl⟩
  have HE1 := (show Hid (((w.alloc (.cells (mkA f) 87)).alloc (.cells (mkA g) 87)).alloc (.cells (mkA fun _ => false) 87) = w1) from hw1.symm)
  have s1 := World.size_alloc w (.cells (mkA f) 87)
  have s2 := World.size_alloc (w.alloc (.cells (mkA f) 87)) (.cells (mkA g) 87)
  have HR := (show Hid (w1.rangeAt (w.heap.size + 1) 0 (mkL g)) from by
    rw [hw1]
    have h := (MX.new (w.alloc (.cells (mkA f) 87)) g).below (below_box _ (.cells (mkA fun _ => false) 87))
    rw [s1] at h
    exact h.at')
  have HS := (show Hid (OrS w w1 (orF f g 0)) from by
    refine ⟨by rw [hw1]; exact (((Below.refl _ _).alloc (Nat.le_refl _) _).alloc (by omega) _).alloc (by omega) _, ?_, ?_⟩
    · have h := ((MX.new w f).below (below_box _ (.cells (mkA g) 87))).below (below_box _ (.cells (mkA fun _ => false) 87))
      rw [hw1]
      exact h
    · have h := MX.new ((w.alloc (.cells (mkA f) 87)).alloc (.cells (mkA g) 87)) (fun _ => false)
      rw [s2, s1] at h
      rw [hw1]
      exact h)
  have HIx := (show Hid (∀ (k : Nat) (W : World), k < 200 → (Instr.index 87 (.agg (mkA g)) (.int .i64 (k : Int))).run Tryz.prog W = .ok (.bool (g k)) W) from fun k W hk => index_mk g hk W)
  have HFin := (show Hid (∀ W : World, OrS w W (orF f g 200) → W.rangeAt w.heap.size 0 (mkL (orF f g 200)) ∧ MX W (w.heap.size + 1 + 1) (fun _ => false) ∧ MX (W.setRow (w.heap.size + 1 + 1) (mkA (orF f g 200))) (w.heap.size + 1 + 1) (orF f g 200) ∧ Below w.heap.size w (W.setRow (w.heap.size + 1 + 1) (mkA (orF f g 200)))) from fun W h => ⟨h.x.at', h.z, h.z.all _, below_setRow h.b (by omega) _⟩)
  have HEq := (show Hid (mkA (orF f g 200) = mkA fun q => f q || g q) from mkA_ext fun q hq => by unfold orF; rw [if_pos hq])
  clear s1 s2 hw1
  go_enter Tryz.func59, Tryz.ntmps59
  go_wp2_with (first | rw [HE1.out] | refine wpList_loadM rfl _ rfl (w.heap.size + 1) 0 g rfl HR.out ?_)
  clear HE1 HR
  go_loopw [8] (fun t wr => ∃ k : Nat, k ≤ 200 ∧ t = .int .i64 (k : Int) ∧ Hid (OrS w wr (orF f g k))) (fun t _ => 200 - (intOf t).toNat)
  case atStart => exact ⟨0, by omega, by go_num, HS⟩
  case round =>
    obtain ⟨k, hk, rfl, HW⟩ := hrel
    clear HS
    by_cases hlt : k < 200
    · have hix : ∀ W, (Instr.index 87 (.agg (mkA g)) (.int .i64 (k : Int))).run Tryz.prog W = .ok (.bool (g k)) W := fun W => HIx.out k W hlt
      have z1 : (k : Int) < 200 := by omega
      have z0 : (0 : Int) ≤ (k : Int) := by omega
      have x0 : wr.cell? ⟨w.heap.size, k, none⟩ = some (.bool (f k)) := by
        have h := HW.out.x.cl hlt
        unfold orF at h
        rw [if_neg (Nat.lt_irrefl k)] at h
        exact h
      have f0 := HW.out.x.fz k
      cases hb : f k with
      | false =>
        rw [hb] at x0
        obtain ⟨gk, hgk⟩ : ∃ gk, gk = g k := ⟨_, rfl⟩
        rw [← hgk] at hix
        have HW2 := (show Hid (OrS w (wr.setCell ⟨w.heap.size, k, none⟩ (.bool gk)) (orF f g (k + 1))) from by
          have h := HW.out.set k (f k || g k)
          rw [orF_up, hb, ← hgk] at h
          exact h)
        clear hb hgk HW HIx HFin HEq
        go_wp2_with fail
        go_roundw
        case rel => exact ⟨k + 1, by omega, by go_num, HW2⟩
        case measure => simp [intOf]; omega
      | true =>
        rw [hb] at x0
        have HW2 := (show Hid (OrS w (wr.setCell ⟨w.heap.size, k, none⟩ (.bool true)) (orF f g (k + 1))) from by
          have h := HW.out.set k (f k || g k)
          rw [orF_up, hb] at h
          exact h)
        clear hb HW HIx HFin HEq
        go_wp2_with fail
        go_roundw
        case rel => exact ⟨k + 1, by omega, by go_num, HW2⟩
        case measure => simp [intOf]; omega
    · obtain rfl : k = 200 := by omega
      have HF := (show Hid (wr.rangeAt w.heap.size 0 (mkL (orF f g 200)) ∧ MX wr (w.heap.size + 1 + 1) (fun _ => false) ∧ MX (wr.setRow (w.heap.size + 1 + 1) (mkA (orF f g 200))) (w.heap.size + 1 + 1) (orF f g 200) ∧ Below w.heap.size w (wr.setRow (w.heap.size + 1 + 1) (mkA (orF f g 200)))) from HFin.out wr HW.out)
      clear HW HIx HFin
      generalize orF f g 200 = h at HF HEq ⊢
      go_wp2_with (first | refine wpList_loadM rfl _ rfl w.heap.size 0 h rfl HF.out.1 ?_ | refine wpList_storeM rfl _ _ rfl (w.heap.size + 1 + 1) (fun _ => false) h rfl rfl HF.out.2.1 ?_)
      refine ret_mx (s := 4) (b := w.heap.size + 1 + 1) (by rfl) (by rfl) (by rfl) HF.out.2.2.1 ?_
      exact ⟨by rw [HEq.out], HF.out.2.2.2⟩
end Go.Proofs.YtbipjdgholdhcabGreat.N

namespace Go.Proofs.YtbipjdgholdhcabGreat.N
open Go.RowKit Go.Maps
open Go.Proofs.YtbipjdgholdhcabGreat.T

open U (below_grown own_get own_slice)
/-- A part of a pattern: may it match nothing, and with which rules it begins; as it lies. -/
abbrev Hp : Type := Bool × (Nat → Bool)
def RdP (W : World) (A : Option Addr) (ps : List Hp) : Prop := ∀ (j : Nat) p, ps[j]? = some p → ∃ g o, A = some ⟨g, o, none⟩ ∧ g < W.heap.size ∧ W.cell? ⟨g, o + j * 201, none⟩ = some (.bool p.1) ∧ W.rangeAt g (o + j * 201 + 1) (mkL p.2)
theorem range_below {W W2 : World} {g o : Nat} {cs : List Value} (h : W.rangeAt g o cs) (hg : g < W.heap.size) (hb : Below W.heap.size W W2) : W2.rangeAt g o cs := fun j v hv => (hb.cell (p := ⟨g, o + j, none⟩) hg).trans (h j v hv)
theorem RdP.later {W W2 : World} {A : Option Addr} {ps : List Hp} (h : RdP W A ps) (hb : Below W.heap.size W W2) : RdP W2 A ps := fun j p hp => by
  obtain ⟨g, o, h1, h2, h3, h4⟩ := h j p hp
  exact ⟨g, o, h1, Nat.lt_of_lt_of_le h2 hb.size, (hb.cell (p := ⟨g, o + j * 201, none⟩) h2).trans h3, range_below h4 h2 hb⟩
theorem enters_or (args : Array Value) (w : World) : (callFunc 59 args).run Tryz.prog w = .ok (.enter 59 args) w := enters_of Tryz.func59 (by kernel_rfl) rfl args w
/-- The boxes of a call of begins. -/
structure Bx3 (w wr : World) (r m k : Value) (n : Nd) (f : Nat → Bool) : Prop where
  b : Below w.heap.size w wr
  v : VX wr w.heap.size r m k
  n : NX wr (w.heap.size + 1) n
  z : MX wr (w.heap.size + 1 + 1) f
theorem Bx3.start (w : World) (r m k : Value) (n : Nd) : Bx3 w (((w.alloc (.cells #[r, m, k] 66)).alloc (ndO n)).alloc (.cells (mkA fun _ => false) 87)) r m k n (fun _ => false) := by
  have s1 := World.size_alloc w (.cells #[r, m, k] 66)
  have s2 := World.size_alloc (w.alloc (.cells #[r, m, k] 66)) (ndO n)
  refine ⟨(((Below.refl _ _).alloc (Nat.le_refl _) _).alloc (by omega) _).alloc (by omega) _, ((VX.new w r m k).below (below_box _ _)).below (below_box _ _), ?_, ?_⟩
  · have h : NX ((w.alloc (.cells #[r, m, k] 66)).alloc (ndO n)) (w.alloc (.cells #[r, m, k] 66)).heap.size n := ⟨heap_alloc_new _ _⟩
    rw [s1] at h
    exact nx_below h (below_box _ _)
  · have h := MX.new ((w.alloc (.cells #[r, m, k] 66)).alloc (ndO n)) (fun _ => false)
    rw [s2, s1] at h
    exact h
theorem Bx3.later {w wr w2 : World} {r m k : Value} {n : Nd} {f : Nat → Bool} (h : Bx3 w wr r m k n f) (hb : Below wr.heap.size wr w2) : Bx3 w w2 r m k n f := ⟨h.b.trans (hb.mono h.b.size), h.v.below hb, nx_below h.n hb, h.z.below hb⟩
theorem Bx3.ret {w wr : World} {r m k : Value} {n : Nd} {f : Nat → Bool} (h : Bx3 w wr r m k n f) (g : Nat → Bool) : MX (wr.setRow (w.heap.size + 1 + 1) (mkA g)) (w.heap.size + 1 + 1) g ∧ Below w.heap.size w (wr.setRow (w.heap.size + 1 + 1) (mkA g)) := ⟨h.z.all g, below_setRow h.b (by omega) _⟩
set_option maxRecDepth 100000 in
set_option maxHeartbeats 16000000 in
theorem begins_0 (n : Nd) (r m k : Value) (A : Option Addr) (l c : Nat) (h6 : ¬ n.op = 6) (h7 : ¬ n.op = 7) (h8 : ¬ n.op = 8) (h14 : ¬ n.op = 14) (h16 : ¬ n.op = 16) (hl : l = 0) (w : World) : Calls Tryz.prog 42 #[.agg #[r, m, k], ndG n, .slice A l c] w fun e w' => e = .returned (.agg (mkA fun _ => false)) ∧ Below w.heap.size w w' := by
  have hv := zero_mk
  have hsz := mkA_size (fun _ => false)
  obtain ⟨w1, hw1⟩ : ∃ w1, w1 = ((w.alloc (.cells #[r, m, k] 66)).alloc (ndO n)).alloc (.cells (mkA fun _ => false) 87) := ⟨_, rfl⟩
  have HE1 := (show Hid (((w.alloc (.cells #[r, m, k] 66)).alloc (.cells #[.int .i64 n.op, .int .i64 n.nn, .string n.tx, .int .u64 n.s0, .int .u64 n.s1, .int .u64 n.s2, .int .u64 n.s3] 57)).alloc (.cells (mkA fun _ => false) 87) = w1) from hw1.symm)
  have HB := (show Hid (Bx3 w w1 r m k n (fun _ => false)) from by rw [hw1]; exact Bx3.start w r m k n)
  have q0 : w1.cell? ⟨w.heap.size + 1, 0, none⟩ = some (.int .i64 n.op) := HB.out.n.nb.c0
  have t6 : (n.op == 6) = false := by rw [beq_eq_false_iff_ne]; exact h6
  have t7 : (n.op == 7) = false := by rw [beq_eq_false_iff_ne]; exact h7
  have t8 : (n.op == 8) = false := by rw [beq_eq_false_iff_ne]; exact h8
  have t14 : (n.op == 14) = false := by rw [beq_eq_false_iff_ne]; exact h14
  have t16 : (n.op == 16) = false := by rw [beq_eq_false_iff_ne]; exact h16
  subst hl
  clear h6 h7 h8 h14 h16 hw1
  go_enter Tryz.func42, Tryz.ntmps42
  go_wp2_with (first | rw [HE1.out] | refine wpList_storeM rfl _ _ rfl (w.heap.size + 1 + 1) (fun _ => false) (fun _ => false) rfl rfl HB.out.z ?_)
  refine ret_mx (s := 6) (b := w.heap.size + 1 + 1) (by rfl) (by rfl) (by rfl) (HB.out.ret (fun _ => false)).1 ?_
  exact ⟨rfl, (HB.out.ret (fun _ => false)).2⟩
set_option maxRecDepth 100000 in
set_option maxHeartbeats 16000000 in
theorem begins_z (n : Nd) (r m k : Value) (A : Option Addr) (l c : Nat) (h : n.op = 14 ∨ n.op = 16) (hz : n.nn = 0) (w : World) : Calls Tryz.prog 42 #[.agg #[r, m, k], ndG n, .slice A l c] w fun e w' => e = .returned (.agg (mkA fun _ => false)) ∧ Below w.heap.size w w' := by
  have hv := zero_mk
  have hsz := mkA_size (fun _ => false)
  obtain ⟨w1, hw1⟩ : ∃ w1, w1 = ((w.alloc (.cells #[r, m, k] 66)).alloc (ndO n)).alloc (.cells (mkA fun _ => false) 87) := ⟨_, rfl⟩
  have HE1 := (show Hid (((w.alloc (.cells #[r, m, k] 66)).alloc (.cells #[.int .i64 n.op, .int .i64 n.nn, .string n.tx, .int .u64 n.s0, .int .u64 n.s1, .int .u64 n.s2, .int .u64 n.s3] 57)).alloc (.cells (mkA fun _ => false) 87) = w1) from hw1.symm)
  have HB := (show Hid (Bx3 w w1 r m k n (fun _ => false)) from by rw [hw1]; exact Bx3.start w r m k n)
  have q0 : w1.cell? ⟨w.heap.size + 1, 0, none⟩ = some (.int .i64 n.op) := HB.out.n.nb.c0
  have q1 : w1.cell? ⟨w.heap.size + 1, 1, none⟩ = some (.int .i64 n.nn) := HB.out.n.nb.c1
  clear hw1
  rcases h with h | h
  · have tz : (n.nn == 0) = true := by rw [hz]; rfl
    have t6 : (n.op == 6) = false := by rw [h]; rfl
    have t7 : (n.op == 7) = false := by rw [h]; rfl
    have t8 : (n.op == 8) = false := by rw [h]; rfl
    have t14 : (n.op == 14) = true := by rw [h]; rfl
    clear h hz
    go_enter Tryz.func42, Tryz.ntmps42
    go_wp2_with (first | rw [HE1.out] | refine wpList_storeM rfl _ _ rfl (w.heap.size + 1 + 1) (fun _ => false) (fun _ => false) rfl rfl HB.out.z ?_)
    refine ret_mx (s := 6) (b := w.heap.size + 1 + 1) (by rfl) (by rfl) (by rfl) (HB.out.ret (fun _ => false)).1 ?_
    exact ⟨rfl, (HB.out.ret (fun _ => false)).2⟩
  · have tz : (n.nn == 0) = true := by rw [hz]; rfl
    have t6 : (n.op == 6) = false := by rw [h]; rfl
    have t7 : (n.op == 7) = false := by rw [h]; rfl
    have t8 : (n.op == 8) = false := by rw [h]; rfl
    have t14 : (n.op == 14) = false := by rw [h]; rfl
    have t16 : (n.op == 16) = true := by rw [h]; rfl
    clear h hz
    go_enter Tryz.func42, Tryz.ntmps42
    go_wp2_with (first | rw [HE1.out] | refine wpList_storeM rfl _ _ rfl (w.heap.size + 1 + 1) (fun _ => false) (fun _ => false) rfl rfl HB.out.z ?_)
    refine ret_mx (s := 6) (b := w.heap.size + 1 + 1) (by rfl) (by rfl) (by rfl) (HB.out.ret (fun _ => false)).1 ?_
    exact ⟨rfl, (HB.out.ret (fun _ => false)).2⟩
set_option maxRecDepth 100000 in
set_option maxHeartbeats 16000000 in
theorem begins_1 {w0 : World} (n : Nd) (r m k : Value) (A : Option Addr) (l c : Nat) (x : Hp) (h6 : ¬ n.op = 6) (h7 : n.op = 7 → x.1 = false) (h8 : ¬ n.op = 8) (hz : ¬ ((n.op = 14 ∨ n.op = 16) ∧ n.nn = 0)) (hl : 0 < l) (hl2 : l ≤ 2) (hp : ∃ g o, A = some ⟨g, o, none⟩ ∧ g < w0.heap.size ∧ w0.cell? ⟨g, o, none⟩ = some (.bool x.1) ∧ w0.rangeAt g (o + 1) (mkL x.2)) (w : World) (hw0 : w0 = w) : Calls Tryz.prog 42 #[.agg #[r, m, k], ndG n, .slice A l c] w fun e w' => e = .returned (.agg (mkA x.2)) ∧ Below w0.heap.size w w' := by
  subst hw0
  have hv := zero_mk
  have hsz := mkA_size (fun _ => false)
  obtain ⟨w1, hw1⟩ : ∃ w1, w1 = ((w0.alloc (.cells #[r, m, k] 66)).alloc (ndO n)).alloc (.cells (mkA fun _ => false) 87) := ⟨_, rfl⟩
  have HE1 := (show Hid (((w0.alloc (.cells #[r, m, k] 66)).alloc (.cells #[.int .i64 n.op, .int .i64 n.nn, .string n.tx, .int .u64 n.s0, .int .u64 n.s1, .int .u64 n.s2, .int .u64 n.s3] 57)).alloc (.cells (mkA fun _ => false) 87) = w1) from hw1.symm)
  have HB := (show Hid (Bx3 w0 w1 r m k n (fun _ => false)) from by rw [hw1]; exact Bx3.start w0 r m k n)
  obtain ⟨g, o, rfl, hg, hc, hr⟩ := hp
  have HR := (show Hid (w1.rangeAt g (o + 1) (mkL x.2)) from range_below hr hg HB.out.b)
  have p0 := (HB.out.b.cell (p := ⟨g, o, none⟩) hg).trans hc
  have q1 : w1.cell? ⟨w0.heap.size + 1, 1, none⟩ = some (.int .i64 n.nn) := HB.out.n.nb.c1
  have q0 : w1.cell? ⟨w0.heap.size + 1, 0, none⟩ = some (.int .i64 n.op) := HB.out.n.nb.c0
  have z1 : (0 : Int) < (l : Int) := by omega
  have z2 : ¬ (l : Int) = 0 := by omega
  have z3 : ((l : Int) == 0) = false := by rw [beq_eq_false_iff_ne]; omega
  have z4 : 0 < l := hl
  have t6 : (n.op == 6) = false := by rw [beq_eq_false_iff_ne]; exact h6
  have t8 : (n.op == 8) = false := by rw [beq_eq_false_iff_ne]; exact h8
  obtain ⟨xb, xf⟩ := x
  simp only at *
  by_cases c7 : n.op = 7
  · have hx := h7 c7
    subst hx
    have t7 : (n.op == 7) = true := by rw [c7]; rfl
    have t14 : (n.op == 14) = false := by rw [c7]; rfl
    have t16 : (n.op == 16) = false := by rw [c7]; rfl
    clear c7 h6 h7 h8 hz hl hg hc hr hw1
    go_enter Tryz.func42, Tryz.ntmps42
    go_wp2_with (first | rw [HE1.out] | refine wpList_loadM rfl _ rfl g (o + 1) xf rfl HR.out ?_ | refine wpList_storeM rfl _ _ rfl (w0.heap.size + 1 + 1) (fun _ => false) xf rfl rfl HB.out.z ?_)
    refine ret_mx (s := 6) (b := w0.heap.size + 1 + 1) (by rfl) (by rfl) (by rfl) (HB.out.ret xf).1 ?_
    exact ⟨rfl, (HB.out.ret xf).2⟩
  · have t7 : (n.op == 7) = false := by rw [beq_eq_false_iff_ne]; exact c7
    by_cases c14 : n.op = 14 ∨ n.op = 16
    · have tz : (n.nn == 0) = false := by rw [beq_eq_false_iff_ne]; exact fun q => hz ⟨c14, q⟩
      rcases c14 with c14 | c14
      · have t14 : (n.op == 14) = true := by rw [c14]; rfl
        clear c14 c7 h6 h7 h8 hz hl hg hc hr hw1
        go_enter Tryz.func42, Tryz.ntmps42
        go_wp2_with (first | rw [HE1.out] | refine wpList_loadM rfl _ rfl g (o + 1) xf rfl HR.out ?_ | refine wpList_storeM rfl _ _ rfl (w0.heap.size + 1 + 1) (fun _ => false) xf rfl rfl HB.out.z ?_)
        refine ret_mx (s := 6) (b := w0.heap.size + 1 + 1) (by rfl) (by rfl) (by rfl) (HB.out.ret xf).1 ?_
        exact ⟨rfl, (HB.out.ret xf).2⟩
      · have t14 : (n.op == 14) = false := by rw [c14]; rfl
        have t16 : (n.op == 16) = true := by rw [c14]; rfl
        clear c14 c7 h6 h7 h8 hz hl hg hc hr hw1
        go_enter Tryz.func42, Tryz.ntmps42
        go_wp2_with (first | rw [HE1.out] | refine wpList_loadM rfl _ rfl g (o + 1) xf rfl HR.out ?_ | refine wpList_storeM rfl _ _ rfl (w0.heap.size + 1 + 1) (fun _ => false) xf rfl rfl HB.out.z ?_)
        refine ret_mx (s := 6) (b := w0.heap.size + 1 + 1) (by rfl) (by rfl) (by rfl) (HB.out.ret xf).1 ?_
        exact ⟨rfl, (HB.out.ret xf).2⟩
    · have t14 : (n.op == 14) = false := by rw [beq_eq_false_iff_ne]; exact fun q => c14 (.inl q)
      have t16 : (n.op == 16) = false := by rw [beq_eq_false_iff_ne]; exact fun q => c14 (.inr q)
      clear c14 c7 h6 h7 h8 hz hl hg hc hr hw1
      go_enter Tryz.func42, Tryz.ntmps42
      go_wp2_with (first | rw [HE1.out] | refine wpList_loadM rfl _ rfl g (o + 1) xf rfl HR.out ?_ | refine wpList_storeM rfl _ _ rfl (w0.heap.size + 1 + 1) (fun _ => false) xf rfl rfl HB.out.z ?_)
      refine ret_mx (s := 6) (b := w0.heap.size + 1 + 1) (by rfl) (by rfl) (by rfl) (HB.out.ret xf).1 ?_
      exact ⟨rfl, (HB.out.ret xf).2⟩
end Go.Proofs.YtbipjdgholdhcabGreat.N

namespace Go.Proofs.YtbipjdgholdhcabGreat.N
open Go.RowKit Go.Maps
open Go.Proofs.YtbipjdgholdhcabGreat.T

open U (below_grown own_get own_slice)
set_option maxRecDepth 100000 in
set_option maxHeartbeats 16000000 in
theorem begins_6 {gs : GL} {j : Nat} (n : Nd) (r k : Value) (B : Nat) (A : Option Addr) (l c : Nat) (h : n.op = 6) (hs : n.tx.size ≤ 140737488355328) (hf : fdG gs n.tx = some j) (hj : j < 200) (w : World) (hm : NmM w B gs) : Calls Tryz.prog 42 #[.agg #[r, .map (some B), k], ndG n, .slice A l c] w fun e w' => e = .returned (.agg (mkA fun q => decide (fdG gs n.tx = some q))) ∧ Below w.heap.size w w' := by
  have hv := zero_mk
  have hsz := mkA_size (fun _ => false)
  obtain ⟨w1, hw1⟩ : ∃ w1, w1 = ((w.alloc (.cells #[r, .map (some B), k] 66)).alloc (ndO n)).alloc (.cells (mkA fun _ => false) 87) := ⟨_, rfl⟩
  have HE1 := (show Hid (((w.alloc (.cells #[r, .map (some B), k] 66)).alloc (.cells #[.int .i64 n.op, .int .i64 n.nn, .string n.tx, .int .u64 n.s0, .int .u64 n.s1, .int .u64 n.s2, .int .u64 n.s3] 57)).alloc (.cells (mkA fun _ => false) 87) = w1) from hw1.symm)
  have HB := (show Hid (Bx3 w w1 r (.map (some B)) k n (fun _ => false)) from by rw [hw1]; exact Bx3.start w r (.map (some B)) k n)
  have q0 : w1.cell? ⟨w.heap.size + 1, 0, none⟩ = some (.int .i64 n.op) := HB.out.n.nb.c0
  have q2 : w1.cell? ⟨w.heap.size + 1, 2, none⟩ = some (.string n.tx) := HB.out.n.nb.c2
  have y1 : w1.cell? ⟨w.heap.size, 1, none⟩ = some (.map (some B)) := HB.out.v.c1
  obtain ⟨w2, hw2⟩ : ∃ w2, w2 = w1.alloc (.cells (mkA fun _ => false) 87) := ⟨_, rfl⟩
  have HE2 := (show Hid (w1.alloc (.cells (mkA fun _ => false) 87) = w2) from hw2.symm)
  have hb2 : Below w1.heap.size w1 w2 := by rw [hw2]; exact below_box _ _
  have HB2 := (show Hid (Bx3 w w2 r (.map (some B)) k n (fun _ => false)) from HB.out.later hb2)
  have HM2 := (show Hid (MX w2 w1.heap.size (fun _ => false)) from by rw [hw2]; exact MX.new w1 _)
  have q2' : w2.cell? ⟨w.heap.size + 1, 2, none⟩ = some (.string n.tx) := HB2.out.n.nb.c2
  have y1' : w2.cell? ⟨w.heap.size, 1, none⟩ = some (.map (some B)) := HB2.out.v.c1
  have hrun := NmM.look0 (hm.later HB2.out.b) hs hf
  have z0 : (0 : Int) ≤ (j : Int) := by omega
  have z1 : (j : Int) < 200 := by omega
  have x0 := HM2.out.cl hj
  have f0 := HM2.out.fz j
  have hz2 := HB.out.z.lt
  obtain ⟨w3, hw3⟩ : ∃ w3, w3 = w2.setCell ⟨w1.heap.size, j, none⟩ (.bool true) := ⟨_, rfl⟩
  have HE3 := (show Hid (w2.setCell ⟨w1.heap.size, j, none⟩ (.bool true) = w3) from hw3.symm)
  have HM3 := (show Hid (w3.rangeAt w1.heap.size 0 (mkL (upM (fun _ => false) j true))) from by rw [hw3]; exact (HM2.out.set true).at')
  have HB3 := (show Hid (MX w3 (w.heap.size + 1 + 1) (fun _ => false) ∧ Below w.heap.size w w3) from by
    rw [hw3]
    have hs1 := HB.out.b.size
    exact ⟨HB2.out.z.same (heap_setCell_other _ ⟨w1.heap.size, j, none⟩ _ _ (show w.heap.size + 1 + 1 ≠ w1.heap.size by omega)), HB2.out.b.setCell (p := ⟨w1.heap.size, j, none⟩) (show w.heap.size ≤ w1.heap.size from hs1) _⟩)
  have HEq := (show Hid ((mkA fun q => decide (fdG gs n.tx = some q)) = mkA (upM (fun _ => false) j true)) from mkA_ext fun q _ => by
    unfold upM
    rw [hf]
    by_cases e : q = j
    · subst e; rw [if_pos rfl, decide_eq_true rfl]
    · rw [if_neg e, decide_eq_false (fun q2 => e (Option.some.inj q2).symm)])
  rw [HEq.out]
  have t6 : (n.op == 6) = true := by rw [h]; rfl
  generalize upM (fun _ => false) j true = g at HM3 HEq ⊢
  clear hw1 hw2 hw3 hb2 hm hf hs HB HB2 HM2 h HEq hz2
  go_enter Tryz.func42, Tryz.ntmps42
  go_wp2_with (first | rw [HE1.out] | rw [HE2.out] | rw [HE3.out] | refine wpList_loadM rfl _ rfl w1.heap.size 0 g rfl HM3.out ?_ | refine wpList_storeM rfl _ _ rfl (w.heap.size + 1 + 1) (fun _ => false) g rfl rfl HB3.out.1 ?_)
  refine ret_mx (s := 6) (b := w.heap.size + 1 + 1) (by rfl) (by rfl) (by rfl) (HB3.out.1.all g) ?_
  exact ⟨rfl, below_setRow HB3.out.2 (by omega) _⟩

/-- Long loads and stores, kept whole in a walk. -/
def LdV (v : Value) : Sem Value := Instr.loadAt 87 v
def StV (p v : Value) : Sem Unit := Instr.storeAt 87 p v
theorem ld_fold (v : Value) : Instr.loadAt 87 v = LdV v := rfl
theorem st_fold (p v : Value) : Instr.storeAt 87 p v = StV p v := rfl
def OkR (W : World) (b o : Nat) (L : List Value) : Prop := L.length = 200 ∧ W.rangeAt b o L
def ldR (W : World) (b o : Nat) : Value := .agg ((List.range 200).map fun j => (W.cell? ⟨b, o + j, none⟩).getD undef).toArray
def IsR2 (W : World) (b o : Nat) : Prop := ∃ L, OkR W b o L
theorem OkR.val {W : World} {b o : Nat} {L : List Value} (h : OkR W b o L) : ldR W b o = .agg L.toArray := by
  unfold ldR
  congr 2
  apply List.ext_getElem?
  intro j
  rw [List.getElem?_map]
  by_cases hj : j < 200
  · rw [List.getElem?_range hj]
    obtain ⟨x, hx⟩ : ∃ x, L[j]? = some x := ⟨_, List.getElem?_eq_getElem (by rw [h.1]; exact hj)⟩
    rw [hx]
    show some ((W.cell? ⟨b, o + j, none⟩).getD undef) = some x
    rw [h.2 j x hx]
    rfl
  · rw [List.getElem?_eq_none (by rw [List.length_range]; omega), List.getElem?_eq_none (by rw [h.1]; omega)]
    rfl
theorem ld_run {W : World} {b o : Nat} (h : IsR2 W b o) : Sem.run Tryz.prog (LdV (.pointer (some ⟨b, o, none⟩))) W = .ok (ldR W b o) W := by
  obtain ⟨L, hL⟩ := h
  rw [hL.val]
  exact run_loadAt_mid W b o 87 L (.array 200 4) hL.2 Tryz.underlying87 rfl (by rw [hL.1]; exact Tryz.size87)
/-- Marks may be written there. -/
def OkS (W : World) (b : Nat) : Prop := ∃ f, MX W b f
def IsM (L : List Value) : Prop := ∃ f, L = mkL f
theorem st_run {W : World} {b : Nat} {L : List Value} (h : OkS W b) (hl : IsM L) : Sem.run Tryz.prog (StV (.pointer (some ⟨b, 0, none⟩)) (.agg L.toArray)) W = .ok () (W.setRow b L.toArray) := by
  obtain ⟨f, hf⟩ := h
  obtain ⟨g, rfl⟩ := hl
  have hr := run_storeVar_row (P := Tryz.prog) W b 87 87 (mkA f) (mkA g) hf.heap (by rw [mkA_size]; exact Tryz.size87) (by rw [mkA_size, mkA_size]) (mkA_one g)
  unfold StV
  simp only [Instr.storeAt, Instr.sureAddr, Sem.run_bind, Sem.run_pure, Result.andThen_ok]
  exact hr
attribute [local go_sem ↓] ld_fold st_fold
attribute [local go_sem] ld_run st_run
set_option maxRecDepth 100000 in
set_option maxHeartbeats 16000000 in
theorem begins_7 (n : Nd) (r m k : Value) (A : Option Addr) (c : Nat) (xb yb : Bool) (xf yf : Nat → Bool) (h : n.op = 7) (hx : xb = true) (w : World) (hp : RdP w A [(xb, xf), (yb, yf)]) : Calls Tryz.prog 42 #[.agg #[r, m, k], ndG n, .slice A 2 c] w fun e w' => e = .returned (.agg (mkA fun q => xf q || yf q)) ∧ Below w.heap.size w w' := by
  have hv := zero_mk
  have hsz := mkA_size (fun _ => false)
  obtain ⟨w1, hw1⟩ : ∃ w1, w1 = ((w.alloc (.cells #[r, m, k] 66)).alloc (ndO n)).alloc (.cells (mkA fun _ => false) 87) := ⟨_, rfl⟩
  have HE1 := (show Hid (((w.alloc (.cells #[r, m, k] 66)).alloc (.cells #[.int .i64 n.op, .int .i64 n.nn, .string n.tx, .int .u64 n.s0, .int .u64 n.s1, .int .u64 n.s2, .int .u64 n.s3] 57)).alloc (.cells (mkA fun _ => false) 87) = w1) from hw1.symm)
  have HB := (show Hid (Bx3 w w1 r m k n (fun _ => false)) from by rw [hw1]; exact Bx3.start w r m k n)
  have q0 : w1.cell? ⟨w.heap.size + 1, 0, none⟩ = some (.int .i64 n.op) := HB.out.n.nb.c0
  obtain ⟨g, o, rfl, hg, hc, hr⟩ := hp 0 (xb, xf) rfl
  obtain ⟨g2, o2, e2, hg2, hc2, hr2⟩ := hp 1 (yb, yf) rfl
  cases e2
  rw [Nat.zero_mul, Nat.add_zero] at hc hr
  have hr : w.rangeAt g (o + 1) (mkL xf) := hr
  have hr2 : w.rangeAt g (o + 1 * 201 + 1) (mkL yf) := hr2
  rw [Nat.one_mul] at hr2
  have hb1 := HB.out.b
  have p0 : w1.cell? ⟨g, o, none⟩ = some (.bool xb) := (hb1.cell (p := ⟨g, o, none⟩) hg).trans hc
  obtain ⟨hf, hhf⟩ : ∃ hf : Nat → Bool, hf = fun q => xf q || yf q := ⟨_, rfl⟩
  obtain ⟨Lx, hLx⟩ : ∃ Lx, Lx = mkL xf := ⟨_, rfl⟩
  obtain ⟨Ly, hLy⟩ : ∃ Ly, Ly = mkL yf := ⟨_, rfl⟩
  obtain ⟨Lh, hLh⟩ : ∃ Lh, Lh = mkL hf := ⟨_, rfl⟩
  have HR1 := (show Hid (w1.rangeAt g (o + 1) Lx) from by rw [hLx]; exact range_below hr hg hb1)
  have HR2 := (show Hid (w1.rangeAt g (o + 202) Ly) from by rw [hLy]; exact range_below hr2 hg hb1)
  have HO := (show Hid (∀ W : World, Calls Tryz.prog 59 #[.agg Lx.toArray, .agg Ly.toArray] W fun e w' => e = .returned (.agg Lh.toArray) ∧ Below W.heap.size W w') from fun W => by
    rw [hLx, hLy, hLh, hhf]
    exact or_any xf yf W)
  have hg1 := Nat.lt_of_lt_of_le hg hb1.size
  have HF := (show Hid (∀ w4, Below w1.drew.heap.size w1.drew w4 → Hid (Bx3 w w4 r m k n (fun _ => false)) ∧ OkS w4 (w.heap.size + 1 + 1)) from fun w4 h4 => by
    have h5 : Below w1.heap.size w1 w4 := ⟨h4.os, h4.tape, h4.output, h4.size, h4.block⟩
    exact ⟨HB.out.later h5, ⟨_, (HB.out.later h5).z⟩⟩)
  have HEnd := (show Hid (∀ w4, Bx3 w w4 r m k n (fun _ => false) → MX (w4.setRow (w.heap.size + 1 + 1) Lh.toArray) (w.heap.size + 1 + 1) (fun q => xf q || yf q) ∧ Below w.heap.size w (w4.setRow (w.heap.size + 1 + 1) Lh.toArray)) from fun w4 h4 => by
    rw [hLh, ← hhf]
    exact h4.ret hf)
  have l1 : Lx.length = 200 := by rw [hLx, mkL_len]
  have l2 : Ly.length = 200 := by rw [hLy, mkL_len]
  have hd : Below w1.heap.size w1 w1.drew := (Below.refl _ _).drew
  have k1 : IsR2 w1.drew g (o + 1) := ⟨Lx, l1, range_below HR1.out hg1 hd⟩
  have k2 : IsR2 w1.drew g (o + 202) := ⟨Ly, l2, range_below HR2.out hg1 hd⟩
  have v1 : ldR w1.drew g (o + 1) = .agg Lx.toArray := OkR.val ⟨l1, range_below HR1.out hg1 hd⟩
  have v2 : ldR w1.drew g (o + 202) = .agg Ly.toArray := OkR.val ⟨l2, range_below HR2.out hg1 hd⟩
  have m3 : IsM Lh := ⟨hf, hLh⟩
  subst hx
  have t6 : (n.op == 6) = false := by rw [h]; rfl
  have t7 : (n.op == 7) = true := by rw [h]; rfl
  clear h hw1 hc hr hc2 hr2 hb1 HB hp hg hg2 hhf hLx hLy hLh hg1 hd l1 l2 HR1 HR2
  go_enter Tryz.func42, Tryz.ntmps42
  go_wp2_with (first | rw [HE1.out])
  go_region_law (refine step_call2 enters_or rfl _ _ _ _ (by rfl) (.agg Lx.toArray) (.agg Ly.toArray) (by rfl) (by rfl) ?_; with_reducible refine (HO.out _).mono ?_; rintro e w4 ⟨rfl, b4⟩; refine ⟨_, rfl, ?_⟩; obtain ⟨HB4, s4⟩ := HF.out w4 b4)
  all_goals
    go_wp2_with fail
    refine ret_mx (s := 6) (b := w.heap.size + 1 + 1) (by rfl) (by rfl) (by rfl) (HEnd.out w4 HB4.out).1 ?_
    exact ⟨rfl, (HEnd.out w4 HB4.out).2⟩
set_option maxRecDepth 100000 in
set_option maxHeartbeats 16000000 in
theorem begins_8 (n : Nd) (r m k : Value) (A : Option Addr) (c : Nat) (xb yb : Bool) (xf yf : Nat → Bool) (h : n.op = 8) (w : World) (hp : RdP w A [(xb, xf), (yb, yf)]) : Calls Tryz.prog 42 #[.agg #[r, m, k], ndG n, .slice A 2 c] w fun e w' => e = .returned (.agg (mkA fun q => xf q || yf q)) ∧ Below w.heap.size w w' := by
  have hv := zero_mk
  have hsz := mkA_size (fun _ => false)
  obtain ⟨w1, hw1⟩ : ∃ w1, w1 = ((w.alloc (.cells #[r, m, k] 66)).alloc (ndO n)).alloc (.cells (mkA fun _ => false) 87) := ⟨_, rfl⟩
  have HE1 := (show Hid (((w.alloc (.cells #[r, m, k] 66)).alloc (.cells #[.int .i64 n.op, .int .i64 n.nn, .string n.tx, .int .u64 n.s0, .int .u64 n.s1, .int .u64 n.s2, .int .u64 n.s3] 57)).alloc (.cells (mkA fun _ => false) 87) = w1) from hw1.symm)
  have HB := (show Hid (Bx3 w w1 r m k n (fun _ => false)) from by rw [hw1]; exact Bx3.start w r m k n)
  have q0 : w1.cell? ⟨w.heap.size + 1, 0, none⟩ = some (.int .i64 n.op) := HB.out.n.nb.c0
  obtain ⟨g, o, rfl, hg, hc, hr⟩ := hp 0 (xb, xf) rfl
  obtain ⟨g2, o2, e2, hg2, hc2, hr2⟩ := hp 1 (yb, yf) rfl
  cases e2
  rw [Nat.zero_mul, Nat.add_zero] at hc hr
  have hr : w.rangeAt g (o + 1) (mkL xf) := hr
  have hr2 : w.rangeAt g (o + 1 * 201 + 1) (mkL yf) := hr2
  rw [Nat.one_mul] at hr2
  have hb1 := HB.out.b
  have p0 : w1.cell? ⟨g, o, none⟩ = some (.bool xb) := (hb1.cell (p := ⟨g, o, none⟩) hg).trans hc
  obtain ⟨hf, hhf⟩ : ∃ hf : Nat → Bool, hf = fun q => xf q || yf q := ⟨_, rfl⟩
  obtain ⟨Lx, hLx⟩ : ∃ Lx, Lx = mkL xf := ⟨_, rfl⟩
  obtain ⟨Ly, hLy⟩ : ∃ Ly, Ly = mkL yf := ⟨_, rfl⟩
  obtain ⟨Lh, hLh⟩ : ∃ Lh, Lh = mkL hf := ⟨_, rfl⟩
  have HR1 := (show Hid (w1.rangeAt g (o + 1) Lx) from by rw [hLx]; exact range_below hr hg hb1)
  have HR2 := (show Hid (w1.rangeAt g (o + 202) Ly) from by rw [hLy]; exact range_below hr2 hg hb1)
  have HO := (show Hid (∀ W : World, Calls Tryz.prog 59 #[.agg Lx.toArray, .agg Ly.toArray] W fun e w' => e = .returned (.agg Lh.toArray) ∧ Below W.heap.size W w') from fun W => by
    rw [hLx, hLy, hLh, hhf]
    exact or_any xf yf W)
  have hg1 := Nat.lt_of_lt_of_le hg hb1.size
  have HF := (show Hid (∀ w4, Below w1.drew.heap.size w1.drew w4 → Hid (Bx3 w w4 r m k n (fun _ => false)) ∧ OkS w4 (w.heap.size + 1 + 1)) from fun w4 h4 => by
    have h5 : Below w1.heap.size w1 w4 := ⟨h4.os, h4.tape, h4.output, h4.size, h4.block⟩
    exact ⟨HB.out.later h5, ⟨_, (HB.out.later h5).z⟩⟩)
  have HEnd := (show Hid (∀ w4, Bx3 w w4 r m k n (fun _ => false) → MX (w4.setRow (w.heap.size + 1 + 1) Lh.toArray) (w.heap.size + 1 + 1) (fun q => xf q || yf q) ∧ Below w.heap.size w (w4.setRow (w.heap.size + 1 + 1) Lh.toArray)) from fun w4 h4 => by
    rw [hLh, ← hhf]
    exact h4.ret hf)
  have l1 : Lx.length = 200 := by rw [hLx, mkL_len]
  have l2 : Ly.length = 200 := by rw [hLy, mkL_len]
  have hd : Below w1.heap.size w1 w1.drew := (Below.refl _ _).drew
  have k1 : IsR2 w1.drew g (o + 1) := ⟨Lx, l1, range_below HR1.out hg1 hd⟩
  have k2 : IsR2 w1.drew g (o + 202) := ⟨Ly, l2, range_below HR2.out hg1 hd⟩
  have v1 : ldR w1.drew g (o + 1) = .agg Lx.toArray := OkR.val ⟨l1, range_below HR1.out hg1 hd⟩
  have v2 : ldR w1.drew g (o + 202) = .agg Ly.toArray := OkR.val ⟨l2, range_below HR2.out hg1 hd⟩
  have m3 : IsM Lh := ⟨hf, hLh⟩
  have t6 : (n.op == 6) = false := by rw [h]; rfl
  have t7 : (n.op == 7) = false := by rw [h]; rfl
  have t8 : (n.op == 8) = true := by rw [h]; rfl
  clear h hw1 hc hr hc2 hr2 hb1 HB hp hg hg2 hhf hLx hLy hLh hg1 hd l1 l2 HR1 HR2
  go_enter Tryz.func42, Tryz.ntmps42
  go_wp2_with (first | rw [HE1.out])
  go_region_law (refine step_call2 enters_or rfl _ _ _ _ (by rfl) (.agg Lx.toArray) (.agg Ly.toArray) (by rfl) (by rfl) ?_; with_reducible refine (HO.out _).mono ?_; rintro e w4 ⟨rfl, b4⟩; refine ⟨_, rfl, ?_⟩; obtain ⟨HB4, s4⟩ := HF.out w4 b4)
  all_goals
    go_wp2_with fail
    refine ret_mx (s := 6) (b := w.heap.size + 1 + 1) (by rfl) (by rfl) (by rfl) (HEnd.out w4 HB4.out).1 ?_
    exact ⟨rfl, (HEnd.out w4 HB4.out).2⟩
end Go.Proofs.YtbipjdgholdhcabGreat.N
