/- DERIVED. Plain mathematics and walks, laid together (2). -/
import Derived.Maps.Range
import Derived.OwnWalk
import Derived.ProofKit
import Derived.Laws.OwnMore
import Derived.WalkKit
import Derived.Test.YtppggnmlbcdegabGreatRo01
namespace Go.Proofs.YtppggnmlbcdegabGreat.U
open Go.RowKit

theorem own_base {w : World} {a b e size : Nat} {v : Value} {n : Nat} {xs : List Value} (h : w.ownsRow b e size v n xs) (hab : a ≤ b) : w.ownsRow a e size v n xs := by
  obtain ⟨h1, h2⟩ := h
  refine ⟨h1, ?_⟩
  rcases h2 with h2 | ⟨g, cap, cur, h3, h4, h5⟩
  · exact .inl h2
  · exact .inr ⟨g, cap, cur, h3, Nat.le_trans hab h4, h5⟩
theorem below_grow {w w' : World} (hb : Below w.heap.size w w') (row : Option Nat) : w.grownBy w' row := ⟨hb.os, hb.tape, hb.output, hb.size, fun k hk _ => hb.block k hk⟩
theorem own_kept {w w' : World} {row : Option Nat} {base e size : Nat} {v : Value} {n : Nat} {xs : List Value} (h : w.ownsRow base e size v n xs) (hg : w.grownBy w' row) (hne : ∀ k, row = some k → v.ownBlock ≠ some k) : w'.ownsRow base e size v n xs := by
  refine h.kept hg ?_
  cases e1 : v.ownBlock with
  | none => exact .inl rfl
  | some g =>
    refine .inr fun e2 => ?_
    exact hne g e2.symm e1
theorem own_below {w w' : World} {base e size : Nat} {v : Value} {n : Nat} {xs : List Value} (h : w.ownsRow base e size v n xs) (hb : Below w.heap.size w w') : w'.ownsRow base e size v n xs :=
  own_kept h (below_grow hb none) (fun k e => by cases e)

/-- E: the rows' type; I: their elements' type; xs: the rows' values. -/
structure TT (W : World) (B E I : Nat) (v : Value) (M : List (List Value)) (xs : List Value) : Prop where
  o : W.ownsRow B E 1 v xs.length xs
  len : xs.length = M.length
  each : ∀ (i : Nat) x r, xs[i]? = some x → M[i]? = some r → W.ownsRow B I 1 x r.length r
  off : ∀ (i : Nat) x k, xs[i]? = some x → x.ownBlock = some k → v.ownBlock ≠ some k
  apart : ∀ (i j : Nat) x y k, xs[i]? = some x → xs[j]? = some y → i ≠ j → x.ownBlock = some k → y.ownBlock ≠ some k
section
variable {W W' : World} {B E I : Nat} {v : Value} {M : List (List Value)} {xs : List Value}
theorem TT.nil (W : World) (B E I : Nat) : TT W B E I (.slice none 0 0) [] [] :=
  ⟨World.ownsRow_nil _ _ _ _, rfl, (fun _ _ _ h => by cases h), (fun _ _ _ h => by cases h), (fun _ _ _ _ _ h => by cases h)⟩
theorem TT.at' (h : TT W B E I v M xs) {i : Nat} (hi : i < M.length) : ∃ x r, xs[i]? = some x ∧ M[i]? = some r ∧ W.ownsRow B I 1 x r.length r := by
  have hl := h.len
  refine ⟨xs[i]'(by omega), M[i], List.getElem?_eq_getElem _, List.getElem?_eq_getElem _, ?_⟩
  exact h.each i _ _ (List.getElem?_eq_getElem (by omega)) (List.getElem?_eq_getElem hi)
theorem TT.both (h : TT W B E I v M xs) {i : Nat} {x : Value} (hx : xs[i]? = some x) : ∃ r, M[i]? = some r ∧ W.ownsRow B I 1 x r.length r := by
  have hi := (List.getElem?_eq_some_iff.1 hx).1
  obtain ⟨y, r, h1, h2, h3⟩ := h.at' (i := i) (by rw [← h.len]; exact hi)
  rw [hx] at h1
  cases h1
  exact ⟨r, h2, h3⟩
theorem TT.lt (h : TT W B E I v M xs) {i : Nat} {x : Value} (hx : xs[i]? = some x) {k : Nat} (hk : x.ownBlock = some k) : B ≤ k ∧ k < W.heap.size := by
  obtain ⟨r, _, h3⟩ := h.both hx
  exact h3.lt k hk
theorem TT.kept {row : Option Nat} (h : TT W B E I v M xs) (hg : W.grownBy W' row) (hv : ∀ k, row = some k → v.ownBlock ≠ some k) (hx : ∀ (i : Nat) x k, xs[i]? = some x → row = some k → x.ownBlock ≠ some k) : TT W' B E I v M xs :=
  ⟨own_kept h.o hg hv, h.len, fun i x r q1 q2 => own_kept (h.each i x r q1 q2) hg (fun k e => hx i x k q1 e), h.off, h.apart⟩
theorem TT.below (h : TT W B E I v M xs) (hb : Below W.heap.size W W') : TT W' B E I v M xs :=
  h.kept (below_grow hb none) (fun k e => by cases e) (fun i x k _ e => by cases e)
theorem TT.alloc (h : TT W B E I v M xs) (o : Obj) : TT (W.alloc o) B E I v M xs := h.below ((Below.refl _ _).alloc (Nat.le_refl _) _)
theorem TT.drew (h : TT W B E I v M xs) : TT W.drew B E I v M xs := h.below (Below.refl _ _).drew
theorem TT.base (h : TT W B E I v M xs) {A : Nat} (hab : A ≤ B) : TT W A E I v M xs :=
  ⟨own_base h.o hab, h.len, fun i x r q1 q2 => own_base (h.each i x r q1 q2) hab, h.off, h.apart⟩
/-- A block that is none of its own. -/
def Out (v : Value) (xs : List Value) (k : Nat) : Prop := v.ownBlock ≠ some k ∧ ∀ (i : Nat) x, xs[i]? = some x → x.ownBlock ≠ some k
theorem TT.new (h : TT W B E I v M xs) {k : Nat} (hk : W.heap.size ≤ k) : Out v xs k :=
  ⟨fun e => by have := (h.o.lt k e).2; omega, fun i x hx e => by have := (h.lt hx e).2; omega⟩
theorem TT.old (h : TT W B E I v M xs) {k : Nat} (hk : k < B) : Out v xs k :=
  ⟨fun e => by have := (h.o.lt k e).1; omega, fun i x hx e => by have := (h.lt hx e).1; omega⟩
theorem TT.turn (h : TT W B E I v M xs) {k : Nat} (ho : Out v xs k) (hg : W.grownBy W' (some k)) : TT W' B E I v M xs :=
  h.kept hg (fun j e => by cases e; exact ho.1) (fun i x j hx e => by cases e; exact ho.2 i x hx)
/-- A row more. -/
theorem TT.push {W1 : World} {y v' : Value} {s : List Value} (h : TT W B E I v M xs) (hy : W.ownsRow B I 1 y s.length s) (hyo : ∀ k, y.ownBlock = some k → Out v xs k)
    (hown : W1.ownsRow B E 1 v' (xs.length + 1) (xs ++ [y])) (hgrow : W.grownBy W1 v.ownBlock) (hat : ∀ k, v'.ownBlock = some k → v.ownBlock = some k ∨ W.heap.size ≤ k) : TT W1 B E I v' (M ++ [s]) (xs ++ [y]) := by
  have hv' : ∀ (x : Value) k, x.ownBlock = some k → k < W.heap.size → v.ownBlock ≠ some k → v'.ownBlock ≠ some k := fun x k _ hlt hne e => by
    rcases hat k e with q | q
    · exact hne q
    · omega
  have hlen := h.len
  have split : ∀ (i : Nat) x, (xs ++ [y])[i]? = some x → (i < xs.length ∧ xs[i]? = some x) ∨ (i = xs.length ∧ x = y) := fun i x hx => by
    by_cases hi : i < xs.length
    · rw [List.getElem?_append_left hi] at hx; exact .inl ⟨hi, hx⟩
    · rw [List.getElem?_append_right (by omega)] at hx
      have hi0 : i - xs.length = 0 := by
        by_cases q : i - xs.length = 0
        · exact q
        · rw [List.getElem?_eq_none (by simp; omega)] at hx; cases hx
      rw [hi0] at hx
      cases hx
      exact .inr ⟨by omega, rfl⟩
  refine ⟨by rw [List.length_append]; exact hown, by rw [List.length_append, List.length_append, hlen]; rfl, ?_, ?_, ?_⟩
  · intro i x r hx hr
    rcases split i x hx with ⟨hi, hx⟩ | ⟨hi, rfl⟩
    · rw [List.getElem?_append_left (by omega)] at hr
      exact own_kept (h.each i x r hx hr) hgrow (fun k e q => h.off i x k hx q e)
    · rw [List.getElem?_append_right (by omega), show i - M.length = 0 by omega] at hr
      cases hr
      exact own_kept hy hgrow (fun k e q => (hyo k q).1 e)
  · intro i x k hx hk
    rcases split i x hx with ⟨hi, hx⟩ | ⟨hi, rfl⟩
    · exact hv' x k hk (h.lt hx hk).2 (h.off i x k hx hk)
    · exact hv' x k hk (hy.lt k hk).2 (hyo k hk).1
  · intro i j x z k hx hz hij hk
    rcases split i x hx with ⟨hi, hx1⟩ | ⟨hi, rfl⟩
    · rcases split j z hz with ⟨hj, hz⟩ | ⟨hj, rfl⟩
      · exact h.apart i j x z k hx1 hz hij hk
      · exact fun e => (hyo k e).2 i x hx1 hk
    · rcases split j z hz with ⟨hj, hz⟩ | ⟨hj, rfl⟩
      · exact (hyo k hk).2 j z hz
      · omega
/-- A row in the place of another one. -/
theorem TT.put {g cap i : Nat} {y : Value} {s : List Value} (h : TT W B E I (.slice (some ⟨g, 0, none⟩) xs.length cap) M xs) (hy : W.ownsRow B I 1 y s.length s) (hyo : ∀ k, y.ownBlock = some k → Out (.slice (some ⟨g, 0, none⟩) xs.length cap) xs k) (hi : i < xs.length) :
    TT (W.setCell ⟨g, i, none⟩ y) B E I (.slice (some ⟨g, 0, none⟩) xs.length cap) (M.set i s) (xs.set i y) := by
  obtain ⟨st1, st2⟩ := h.o.stored i y
  have hlen := h.len
  have split : ∀ (j : Nat) x, (xs.set i y)[j]? = some x → (j ≠ i ∧ xs[j]? = some x) ∨ (j = i ∧ x = y) := fun j x hx => by
    by_cases hj : j = i
    · subst hj
      rw [List.getElem?_set_self hi] at hx
      cases hx
      exact .inr ⟨rfl, rfl⟩
    · rw [List.getElem?_set_ne (Ne.symm hj)] at hx
      exact .inl ⟨hj, hx⟩
  refine ⟨by rw [List.length_set]; exact st1, by rw [List.length_set, List.length_set]; exact h.len, ?_, ?_, ?_⟩
  · intro j x r hx hr
    rcases split j x hx with ⟨hj, hx⟩ | ⟨hj, rfl⟩
    · rw [List.getElem?_set_ne (Ne.symm hj)] at hr
      exact own_kept (h.each j x r hx hr) st2 (fun k e q => by cases e; exact h.off j x g hx q rfl)
    · subst hj
      rw [List.getElem?_set_self (by omega)] at hr
      cases hr
      exact own_kept hy st2 (fun k e q => by cases e; exact (hyo g q).1 rfl)
  · intro j x k hx hk
    rcases split j x hx with ⟨hj, hx⟩ | ⟨hj, rfl⟩
    · exact h.off j x k hx hk
    · exact (hyo k hk).1
  · intro a b x z k hx hz hab hk
    rcases split a x hx with ⟨ha, hx1⟩ | ⟨ha, rfl⟩
    · rcases split b z hz with ⟨hb, hz⟩ | ⟨hb, rfl⟩
      · exact h.apart a b x z k hx1 hz hab hk
      · exact fun e => (hyo k e).2 a x hx1 hk
    · rcases split b z hz with ⟨hb, hz⟩ | ⟨hb, rfl⟩
      · exact (hyo k hk).2 b z hz
      · omega
/-- An entry is written. -/
theorem TT.store {g cap i n j : Nat} {r : List Value} (h : TT W B E I v M xs) (hx : xs[i]? = some (.slice (some ⟨g, 0, none⟩) n cap)) (hr : M[i]? = some r) (u : Value) : TT (W.setCell ⟨g, j, none⟩ u) B E I v (M.set i (r.set j u)) xs ∧ W.grownBy (W.setCell ⟨g, j, none⟩ u) (some g) := by
  have hrow := h.each i _ r hx hr
  have hn : n = r.length := by
    rcases hrow.2 with ⟨q, _⟩ | ⟨g', c', cur, q, _⟩
    · cases q
    · cases q; rfl
  subst hn
  obtain ⟨st1, st2⟩ := hrow.stored j u
  have hi := (List.getElem?_eq_some_iff.1 hr).1
  refine ⟨⟨own_kept h.o st2 (fun k e q => ?_), by rw [List.length_set]; exact h.len, ?_, h.off, h.apart⟩, st2⟩
  · cases e; exact h.off i _ g hx rfl q
  · intro k x s hk hs
    by_cases hki : k = i
    · subst hki
      rw [List.getElem?_set_self hi] at hs
      cases hs
      rw [hx] at hk
      cases hk
      rw [List.length_set]
      exact st1
    · rw [List.getElem?_set_ne (Ne.symm hki)] at hs
      exact own_kept (h.each k x s hk hs) st2 (fun m e q => by cases e; exact h.apart k i x _ g hk hx hki q rfl)
/-- A table of rows that are nil. -/
theorem TT.made {n : Nat} (h : W.ownsRow B E 1 v n (List.replicate n (.slice none 0 0))) : TT W B E I v (List.replicate n []) (List.replicate n (.slice none 0 0)) := by
  have at0 : ∀ (i : Nat) x, (List.replicate n (Value.slice none 0 0))[i]? = some x → x = .slice none 0 0 := fun i x hx => by
    rw [List.getElem?_replicate] at hx
    split at hx <;> cases hx
    rfl
  refine ⟨by rw [List.length_replicate]; exact h, by rw [List.length_replicate, List.length_replicate], ?_, ?_, ?_⟩
  · intro i x r hx hr
    rw [List.getElem?_replicate] at hr
    split at hr <;> cases hr
    rw [at0 i x hx]
    exact World.ownsRow_nil _ _ _ _
  · intro i x k hx hk
    rw [at0 i x hx] at hk
    cases hk
  · intro i j x y k hx _ _ hk
    rw [at0 i x hx] at hk
    cases hk
end
end Go.Proofs.YtppggnmlbcdegabGreat.U

namespace Go.Proofs.YtppggnmlbcdegabGreat.T
open Go.RowKit
/-- The first rule of a name. -/
def fdG : List (ByteArray × List Nd) → ByteArray → Option Nat
  | [], _ => none
  | g :: r, s => if g.1 = s then some 0 else (fdG r s).map (· + 1)
theorem fdG_of : ∀ {gs : List (ByteArray × List Nd)} {s : ByteArray} {k : Nat} {g : ByteArray × List Nd}, gs[k]? = some g → g.1 = s → (∀ j h, j < k → gs[j]? = some h → h.1 ≠ s) → fdG gs s = some k := by
  intro gs
  induction gs with
  | nil => intro s k g hg; cases hg
  | cons a r ih =>
    intro s k g hg hs hn
    cases k with
    | zero =>
      cases hg
      rw [fdG, if_pos hs]
    | succ k =>
      have h0 := hn 0 a (by omega) rfl
      rw [fdG, if_neg h0, ih (k := k) (g := g) (by simpa using hg) hs (fun j h hj hh => hn (j + 1) h (by omega) (by simpa using hh))]
      rfl
theorem fdG_some : ∀ {gs : List (ByteArray × List Nd)} {s : ByteArray} {k : Nat}, fdG gs s = some k → ∃ g, gs[k]? = some g ∧ g.1 = s ∧ ∀ j h, j < k → gs[j]? = some h → h.1 ≠ s := by
  intro gs
  induction gs with
  | nil => intro s k h; cases h
  | cons a r ih =>
    intro s k h
    rw [fdG] at h
    by_cases e : a.1 = s
    · rw [if_pos e] at h
      cases h
      exact ⟨a, rfl, e, fun j h hj => by omega⟩
    · rw [if_neg e] at h
      cases hr : fdG r s with
      | none => rw [hr] at h; cases h
      | some m =>
        rw [hr] at h
        have hk : m + 1 = k := by simpa using h
        subst hk
        obtain ⟨g, q1, q2, q3⟩ := ih hr
        refine ⟨g, by simpa using q1, q2, fun j x hj hx => ?_⟩
        cases j with
        | zero => cases hx; exact e
        | succ j => exact q3 j x (by omega) (by simpa using hx)
theorem fdG_none : ∀ {gs : List (ByteArray × List Nd)} {s : ByteArray}, fdG gs s = none ↔ ∀ g ∈ gs, g.1 ≠ s := by
  intro gs
  induction gs with
  | nil => intro s; exact ⟨(fun _ g h => by cases h), fun _ => rfl⟩
  | cons a r ih =>
    intro s
    rw [fdG]
    by_cases e : a.1 = s
    · rw [if_pos e]
      exact ⟨(fun h => by cases h), fun h => absurd e (h a List.mem_cons_self)⟩
    · rw [if_neg e, Option.map_eq_none_iff, ih]
      exact ⟨fun h g hg => by
        rcases List.mem_cons.1 hg with q | q
        · rw [q]; exact e
        · exact h g q, fun h g hg => h g (List.mem_cons_of_mem _ hg)⟩
theorem fdG_lt {gs : List (ByteArray × List Nd)} {s : ByteArray} {k : Nat} (h : fdG gs s = some k) : k < gs.length := by
  obtain ⟨g, q, _⟩ := fdG_some h
  exact (List.getElem?_eq_some_iff.1 q).1
/-- A name changed in a node; in a grammar. -/
def reN (a b : ByteArray) (n : Nd) : Nd := if n.op = 6 ∧ n.tx = a then { n with tx := b } else n
def reG (gs : List (ByteArray × List Nd)) (r : Nat) (a b : ByteArray) : List (ByteArray × List Nd) := gs.mapIdx fun i g => (if i = r then b else g.1, g.2.map (reN a b))
/-- A grammar whose names are all different, and whose calls are all found. -/
structure Dn (gs : List (ByteArray × List Nd)) : Prop where
  d : ∀ (i j : Nat) (g h : ByteArray × List Nd), gs[i]? = some g → gs[j]? = some h → g.1 = h.1 → i = j
  c : ∀ g ∈ gs, ∀ n ∈ g.2, n.op = 6 → ∃ k, fdG gs n.tx = some k
theorem reG_get {gs : List (ByteArray × List Nd)} {r : Nat} {a b : ByteArray} (k : Nat) : (reG gs r a b)[k]? = (gs[k]?).map fun g => (if k = r then b else g.1, g.2.map (reN a b)) := by
  unfold reG
  rw [List.getElem?_mapIdx]
theorem reG_len {gs : List (ByteArray × List Nd)} {r : Nat} {a b : ByteArray} : (reG gs r a b).length = gs.length := by unfold reG; rw [List.length_mapIdx]
/-- Which rule calls which. -/
def cG (gs : List (ByteArray × List Nd)) (i j : Nat) : Bool := match gs[i]? with
  | none => false
  | some g => g.2.any fun n => decide (n.op = 6) && decide (fdG gs n.tx = some j)
end Go.Proofs.YtppggnmlbcdegabGreat.T

namespace Go.Proofs.YtppggnmlbcdegabGreat.T
theorem chn_mem (L : List Nd) : ∀ (st : List Pt) (k : Nat), Chn L k st → ∀ x ∈ st, x.2.1 < k ∧ x.1 ≤ x.2.1 ∧ x = pt L x.2.1 := by
  intro st
  induction st with
  | nil => intro k _ x hx; cases hx
  | cons y r ih =>
    intro k h x hx
    obtain ⟨h1, h2, h3, h4⟩ := h
    rcases List.mem_cons.1 hx with rfl | hx
    · exact ⟨by omega, h3, h2⟩
    · obtain ⟨a, b, c⟩ := ih y.1 h4 x hx
      exact ⟨by omega, b, c⟩
structure ErOk (L : List Nd) (k : Nat) (n : Nd) : Prop where
  al : alE n = 0
  ar : arN n.op ≤ (run L k).length
  ht : (pt L k).2.2 ≤ 60
theorem er_ok {L : List Nd} {k : Nat} {n : Nd} (hn : L[k]? = some n) (h : er L k = 0) : ErOk L k n := by
  rw [er_of hn] at h
  by_cases h1 : alE n ≠ 0
  · rw [if_pos h1] at h; exact absurd h h1
  rw [if_neg h1] at h
  by_cases h2 : (run L k).length < arN n.op
  · rw [if_pos h2] at h; cases h
  rw [if_neg h2] at h
  by_cases h3 : 60 < (pt L k).2.2
  · rw [if_pos h3] at h; cases h
  exact ⟨Classical.byContradiction h1, by omega, by omega⟩
theorem run_bd {L : List Nd} {k : Nat} (hk : k ≤ L.length) (h : ∀ j, j < k → er L j = 0) : ∀ x ∈ run L k, x.1 ≤ x.2.1 ∧ x.2.1 < k ∧ x.2.2 ≤ 60 ∧ x = pt L x.2.1 := by
  intro x hx
  obtain ⟨a, b, c⟩ := chn_mem L _ k (chn_run L k hk h) x hx
  have hn : L[x.2.1]? = some L[x.2.1] := List.getElem?_eq_getElem (by omega)
  have := (er_ok hn (h _ a)).ht
  rw [← c] at this
  exact ⟨b, a, this, c⟩
theorem run_len (L : List Nd) (k : Nat) : (run L k).length ≤ k := by
  induction k with
  | zero => exact Nat.le_refl _
  | succ k ih => rw [run_succ, List.length_cons, List.length_drop]; omega
theorem arN_of {n : Nd} (h : alE n = 0) : ((arN n.op : Nat) : Int) = ar n.op := by
  have := alE_ar h
  unfold arN
  omega
/-- The top of a stack, in the order of the list. -/
theorem rev_drop {α : Type} (st : List α) (a : Nat) (h : a ≤ st.length) : st.reverse.drop (st.length - a) = (st.take a).reverse := by
  rw [List.drop_reverse]
  congr 2
  omega
theorem rev_take {α : Type} (st : List α) (a : Nat) (h : a ≤ st.length) : st.reverse.take (st.length - a) = (st.drop a).reverse := by
  rw [List.take_reverse]
  congr 2
  omega
end Go.Proofs.YtppggnmlbcdegabGreat.T

namespace Go.Proofs.YtppggnmlbcdegabGreat.T
open Go.RowKit
abbrev GL : Type := List (ByteArray × List Nd)
/-- Has a rule ahead this name? -/
def tw (gs : GL) (s : ByteArray) (i : Nat) : Bool := match fdG gs s with
  | some k => decide (k < i)
  | none => false
def c1G (gs : GL) : Nat → Nat → GL → (Nat × Nat) × Int
  | _, _, [] => ((0, 0), 0)
  | i, m, g :: r => if ¬ (nmB g.1 = true ∨ (g.1.size = 0 ∧ gs.length = 1)) then ((i, 0), 6) else if tw gs g.1 i = true then ((i, 0), 80) else if (ck g.2).2 ≠ 0 then ((i, (ck g.2).1), (ck g.2).2) else if 2048 < m + g.2.length then ((i, 0), 2) else c1G gs (i + 1) (m + g.2.length) r
/-- The first node that calls what is not there. -/
def unN (gs : GL) : Nat → List Nd → Option Nat
  | _, [] => none
  | k, n :: r => if n.op = 6 ∧ fdG gs n.tx = none then some k else unN gs (k + 1) r
def unG (gs : GL) : Nat → GL → (Nat × Nat) × Int
  | _, [] => ((0, 0), 0)
  | i, g :: r => match unN gs 0 g.2 with
    | some k => ((i, k), 81)
    | none => unG gs (i + 1) r
/-- What Check answers of a grammar. -/
def ckG (gs : GL) : (Nat × Nat) × Int := if gs.length = 0 then ((0, 0), 3) else if 200 < gs.length then ((0, 0), 2) else if (c1G gs 0 0 gs).2 ≠ 0 then c1G gs 0 0 gs else unG gs 0 gs
theorem unN_none {gs : GL} : ∀ (l : List Nd) (k : Nat), unN gs k l = none ↔ ∀ n ∈ l, n.op = 6 → ∃ j, fdG gs n.tx = some j := by
  intro l
  induction l with
  | nil => intro k; exact ⟨(fun _ n h => by cases h), fun _ => rfl⟩
  | cons a r ih =>
    intro k
    rw [unN]
    by_cases h : a.op = 6 ∧ fdG gs a.tx = none
    · rw [if_pos h]
      refine ⟨(fun q => by cases q), fun q => ?_⟩
      obtain ⟨j, hj⟩ := q a List.mem_cons_self h.1
      rw [h.2] at hj
      cases hj
    · rw [if_neg h, ih]
      refine ⟨fun q n hn h6 => ?_, fun q n hn h6 => q n (List.mem_cons_of_mem _ hn) h6⟩
      rcases List.mem_cons.1 hn with e | e
      · subst e
        cases hf : fdG gs n.tx with
        | none => exact absurd ⟨h6, hf⟩ h
        | some j => exact ⟨j, rfl⟩
      · exact q n e h6
theorem unG_ok {gs : GL} : ∀ (l : GL) (i : Nat), (unG gs i l).2 = 0 ↔ ∀ g ∈ l, ∀ n ∈ g.2, n.op = 6 → ∃ j, fdG gs n.tx = some j := by
  intro l
  induction l with
  | nil => intro i; exact ⟨(fun _ g h => by cases h), fun _ => rfl⟩
  | cons a r ih =>
    intro i
    rw [unG]
    cases h : unN gs 0 a.2 with
    | some k =>
      refine ⟨(fun q => by cases q), fun q => ?_⟩
      have := (unN_none a.2 0).2 (q a List.mem_cons_self)
      rw [h] at this
      cases this
    | none =>
      show (unG gs (i + 1) r).2 = 0 ↔ _
      rw [ih]
      have h0 := (unN_none a.2 0).1 h
      refine ⟨fun q g hg => ?_, fun q g hg => q g (List.mem_cons_of_mem _ hg)⟩
      rcases List.mem_cons.1 hg with e | e
      · rw [e]; exact h0
      · exact q g e
theorem c1G_ok {gs : GL} : ∀ (l : GL) (i m : Nat), m ≤ 2048 → ((c1G gs i m l).2 = 0 ↔ (∀ (k : Nat) g, l[k]? = some g → (nmB g.1 = true ∨ (g.1.size = 0 ∧ gs.length = 1)) ∧ tw gs g.1 (i + k) = false ∧ (ck g.2).2 = 0) ∧ m + (l.map fun g => g.2.length).sum ≤ 2048) := by
  intro l
  induction l with
  | nil => intro i m hm; exact ⟨fun _ => ⟨(fun k g h => by cases h), hm⟩, fun _ => rfl⟩
  | cons a r ih =>
    intro i m hm
    rw [c1G]
    by_cases h1 : nmB a.1 = true ∨ (a.1.size = 0 ∧ gs.length = 1)
    · rw [if_neg (fun q => q h1)]
      by_cases h2 : tw gs a.1 i = true
      · rw [if_pos h2]
        refine ⟨(fun q => by cases q), fun q => ?_⟩
        have := (q.1 0 a rfl).2.1
        rw [Nat.add_zero, h2] at this
        cases this
      · rw [if_neg h2]
        by_cases h3 : (ck a.2).2 = 0
        · rw [if_neg (fun q => q h3)]
          by_cases h4 : 2048 < m + a.2.length
          · rw [if_pos h4]
            refine ⟨(fun q => by cases q), fun q => ?_⟩
            have := q.2
            rw [List.map_cons, List.sum_cons] at this
            omega
          · rw [if_neg h4, ih (i + 1) (m + a.2.length) (by omega), List.map_cons, List.sum_cons]
            refine ⟨fun q => ⟨fun k g hg => ?_, by omega⟩, fun q => ⟨fun k g hg => ?_, by omega⟩⟩
            · cases k with
              | zero =>
                cases hg
                exact ⟨h1, by rw [Nat.add_zero]; exact Bool.eq_false_iff.2 h2, h3⟩
              | succ k =>
                have := q.1 k g (by simpa using hg)
                rw [show i + 1 + k = i + (k + 1) from by omega] at this
                exact this
            · have := q.1 (k + 1) g (by simpa using hg)
              rw [show i + 1 + k = i + (k + 1) from by omega]
              exact this
        · rw [if_pos h3]
          refine ⟨fun q => absurd q h3, fun q => absurd (q.1 0 a rfl).2.2 h3⟩
    · rw [if_pos h1]
      exact ⟨(fun q => by cases q), fun q => absurd (q.1 0 a rfl).1 h1⟩
/-- A right grammar. -/
structure RtG (gs : GL) : Prop where
  n1 : 1 ≤ gs.length
  n2 : gs.length ≤ 200
  nm : ∀ g ∈ gs, nmB g.1 = true ∨ (g.1.size = 0 ∧ gs.length = 1)
  ck : ∀ g ∈ gs, (ck g.2).2 = 0
  sm : (gs.map fun g => g.2.length).sum ≤ 2048
  dn : Dn gs
theorem tw_iff {gs : GL} : (∀ (k : Nat) g, gs[k]? = some g → tw gs g.1 k = false) ↔ ∀ (i j : Nat) (g h : ByteArray × List Nd), gs[i]? = some g → gs[j]? = some h → g.1 = h.1 → i = j := by
  have hf : ∀ (k : Nat) g, gs[k]? = some g → ∃ j, fdG gs g.1 = some j ∧ j ≤ k := fun k g hg => by
    cases h : fdG gs g.1 with
    | none => exact absurd rfl (fdG_none.1 h g (List.mem_of_getElem? hg))
    | some j =>
      refine ⟨j, rfl, ?_⟩
      obtain ⟨_, _, _, q⟩ := fdG_some h
      apply Nat.le_of_not_lt
      intro hlt
      exact q k g hlt hg rfl
  constructor
  · intro h i j g x hg hx e
    have key : ∀ (k : Nat) y, gs[k]? = some y → fdG gs y.1 = some k := fun k y hy => by
      obtain ⟨m, h1, h2⟩ := hf k y hy
      have := h k y hy
      unfold tw at this
      rw [h1] at this
      have : ¬ m < k := by simpa using this
      rw [h1, show m = k from by omega]
    have a := key i g hg
    have b := key j x hx
    rw [e, b] at a
    cases a
    rfl
  · intro h k g hg
    obtain ⟨j, h1, h2⟩ := hf k g hg
    unfold tw
    rw [h1]
    obtain ⟨y, y1, y2, _⟩ := fdG_some h1
    have := h j k y g y1 hg y2
    subst this
    simp
theorem ckG_ok {gs : GL} : (ckG gs).2 = 0 ↔ RtG gs := by
  unfold ckG
  by_cases h0 : gs.length = 0
  · rw [if_pos h0]
    exact ⟨(fun q => by cases q), fun q => absurd h0 (by have := q.n1; omega)⟩
  rw [if_neg h0]
  by_cases h1 : 200 < gs.length
  · rw [if_pos h1]
    exact ⟨(fun q => by cases q), fun q => absurd h1 (by have := q.n2; omega)⟩
  rw [if_neg h1]
  have hc := c1G_ok (gs := gs) gs 0 0 (by omega)
  by_cases h2 : (c1G gs 0 0 gs).2 = 0
  · rw [if_neg (fun q => q h2), unG_ok]
    obtain ⟨q1, q2⟩ := hc.1 h2
    refine ⟨fun q => ⟨by omega, by omega, fun g hg => ?_, fun g hg => ?_, by omega, tw_iff.1 fun k g hg => ?_, q⟩, fun q => q.dn.c⟩
    · obtain ⟨k, hk⟩ := List.getElem?_of_mem hg
      exact (q1 k g hk).1
    · obtain ⟨k, hk⟩ := List.getElem?_of_mem hg
      exact (q1 k g hk).2.2
    · have := (q1 k g hg).2.1
      rw [Nat.zero_add] at this
      exact this
  · rw [if_pos h2]
    refine ⟨fun q => absurd q h2, fun q => absurd (hc.2 ⟨fun k g hg => ⟨q.nm g (List.mem_of_getElem? hg), ?_, q.ck g (List.mem_of_getElem? hg)⟩, by have := q.sm; omega⟩) h2⟩
    rw [Nat.zero_add]
    exact tw_iff.2 q.dn.d k g hg
end Go.Proofs.YtppggnmlbcdegabGreat.T

namespace Go.Proofs.YtppggnmlbcdegabGreat.N
open Go.RowKit
/-- Which calls which. -/
abbrev Mx := Nat → Nat → Bool
def stpM (n : Nat) (c : Mx) : Mx := fun i j => c i j || (List.range n).any fun k => c i k && c k j
def rcF (n : Nat) (c : Mx) : Nat → Mx
  | 0 => c
  | m + 1 => stpM n (rcF n c m)
/-- Comes to, by one call at least. -/
def Rc (n : Nat) (c : Mx) (i j : Nat) : Prop := ∃ m, rcF n c m i j = true
theorem rcF_up {n : Nat} {c : Mx} {m i j : Nat} (h : rcF n c m i j = true) : ∀ k, rcF n c (m + k) i j = true := by
  intro k
  induction k with
  | zero => exact h
  | succ k ih =>
    show stpM n (rcF n c (m + k)) i j = true
    unfold stpM
    rw [ih]
    rfl
theorem rcF_le {n : Nat} {c : Mx} {m k i j : Nat} (h : rcF n c m i j = true) (hk : m ≤ k) : rcF n c k i j = true := by
  have := rcF_up h (k - m)
  rwa [Nat.add_sub_cancel' hk] at this
theorem Rc.of {n : Nat} {c : Mx} {i j : Nat} (h : c i j = true) : Rc n c i j := ⟨0, h⟩
theorem Rc.trans {n : Nat} {c : Mx} {i k j : Nat} (hk : k < n) (h : Rc n c i k) (g : Rc n c k j) : Rc n c i j := by
  obtain ⟨a, h⟩ := h
  obtain ⟨b, g⟩ := g
  refine ⟨max a b + 1, ?_⟩
  show stpM n (rcF n c (max a b)) i j = true
  unfold stpM
  rw [Bool.or_eq_true, List.any_eq_true]
  exact .inr ⟨k, List.mem_range.2 hk, by rw [rcF_le h (Nat.le_max_left _ _), rcF_le g (Nat.le_max_right _ _)]; rfl⟩
/-- The least: whatever holds the calls and is closed holds it. -/
theorem Rc.least {n : Nat} {c : Mx} {d : Nat → Nat → Prop} (h1 : ∀ i j, c i j = true → d i j) (h2 : ∀ i k j, k < n → d i k → d k j → d i j) : ∀ {i j : Nat}, Rc n c i j → d i j := by
  intro i j h
  obtain ⟨m, h⟩ := h
  induction m generalizing i j with
  | zero => exact h1 i j h
  | succ m ih =>
    have h : stpM n (rcF n c m) i j = true := h
    unfold stpM at h
    rw [Bool.or_eq_true, List.any_eq_true] at h
    rcases h with h | ⟨k, hk, h⟩
    · exact ih h
    · rw [Bool.and_eq_true] at h
      exact h2 i k j (List.mem_range.1 hk) (ih h.1) (ih h.2)
/-- In one group: each comes to the other. -/
def Gp (n : Nat) (c : Mx) (i j : Nat) : Prop := i = j ∨ (Rc n c i j ∧ Rc n c j i)
theorem Gp.symm {n : Nat} {c : Mx} {i j : Nat} (h : Gp n c i j) : Gp n c j i := by
  rcases h with rfl | h
  · exact .inl rfl
  · exact .inr ⟨h.2, h.1⟩
theorem Gp.trans {n : Nat} {c : Mx} {i k j : Nat} (hk : k < n) (h : Gp n c i k) (g : Gp n c k j) : Gp n c i j := by
  rcases h with rfl | h
  · exact g
  · rcases g with rfl | g
    · exact .inr h
    · exact .inr ⟨Rc.trans hk h.1 g.1, Rc.trans hk g.2 h.2⟩
/-- Numbers below n, none twice: no more than n. -/
theorem few_below : ∀ (n : Nat) (l : List Nat), l.Nodup → (∀ x ∈ l, x < n) → l.length ≤ n := by
  intro n
  induction n with
  | zero =>
    intro l _ h
    cases l with
    | nil => exact Nat.le_refl _
    | cons x l => exact absurd (h x (List.mem_cons_self)) (by omega)
  | succ n ih =>
    intro l hl h
    by_cases hn : n ∈ l
    · have h1 := ih (l.erase n) (hl.erase n) (fun x hx => by
        have a := h x (List.mem_of_mem_erase hx)
        have b : x ≠ n := fun e => by rw [e] at hx; exact hl.not_mem_erase hx
        omega)
      rw [List.length_erase_of_mem hn] at h1
      omega
    · have := ih l hl (fun x hx => by
        have a := h x hx
        have b : x ≠ n := fun e => hn (by rw [← e]; exact hx)
        omega)
      omega
/-- Where something is left there is a least: some group calls only what is told and its own. -/
theorem gp_free {n : Nat} {c : Mx} (hc : ∀ i j, c i j = true → i < n ∧ j < n) (told : Nat → Prop) (hex : ∃ i, i < n ∧ ¬ told i) :
    ∃ i, i < n ∧ ¬ told i ∧ ∀ p k, Gp n c i p → c p k = true → told k ∨ Gp n c i k := by
  have key : ∀ (m i : Nat), i < n → ¬ told i → (∀ l : List Nat, l.Nodup → (∀ x ∈ l, x < n ∧ ¬ told x ∧ (x = i ∨ Rc n c i x)) → l.length ≤ m) → ∃ i, i < n ∧ ¬ told i ∧ ∀ p k, Gp n c i p → c p k = true → told k ∨ Gp n c i k := by
    intro m
    induction m with
    | zero =>
      intro i hi ht h
      have := h [i] (List.nodup_cons.2 ⟨by simp, List.nodup_nil⟩) (fun x hx => by rw [List.mem_singleton.1 hx]; exact ⟨hi, ht, .inl rfl⟩)
      simp at this
    | succ m ih =>
      intro i hi ht h
      by_cases hf : ∀ p k, Gp n c i p → c p k = true → told k ∨ Gp n c i k
      · exact ⟨i, hi, ht, hf⟩
      · obtain ⟨p, hf⟩ := Classical.not_forall.1 hf
        obtain ⟨k, hf⟩ := Classical.not_forall.1 hf
        obtain ⟨hg, hf⟩ := Classical.not_imp.1 hf
        obtain ⟨hck, hf⟩ := Classical.not_imp.1 hf
        have hk1 : ¬ told k := fun q => hf (.inl q)
        have hk2 : ¬ Gp n c i k := fun q => hf (.inr q)
        have hpk := hc p k hck
        have hik : Rc n c i k := by
          rcases hg with rfl | hg
          · exact .of hck
          · exact Rc.trans hpk.1 hg.1 (.of hck)
        refine ih k hpk.2 hk1 (fun l hl hx => ?_)
        have hni : i ∉ l := fun q => by
          rcases (hx i q).2.2 with e | e
          · exact hk2 (.inl e)
          · exact hk2 (.inr ⟨hik, e⟩)
        have := h (i :: l) (List.nodup_cons.2 ⟨hni, hl⟩) (fun x q => by
          rcases List.mem_cons.1 q with rfl | q
          · exact ⟨hi, ht, .inl rfl⟩
          · obtain ⟨a, b, d⟩ := hx x q
            refine ⟨a, b, .inr ?_⟩
            rcases d with rfl | d
            · exact hik
            · exact Rc.trans hpk.2 hik d)
        rw [List.length_cons] at this
        omega
  obtain ⟨i, hi, ht⟩ := hex
  refine key n i hi ht (fun l hl hx => ?_)
  exact few_below n l hl (fun x q => (hx x q).1)
end Go.Proofs.YtppggnmlbcdegabGreat.N

namespace Go.Proofs.YtppggnmlbcdegabGreat.N
open Go.RowKit
/-- A rule's group, by what comes to what. -/
def gpL (n : Nat) (r : Mx) (i : Nat) : List Nat := (List.range n).filter fun k => k == i || (r i k && r k i)
/-- Does a group call only what is told, or its own? -/
def frB (n : Nat) (c : Mx) (told own : List Nat) : Bool := own.all fun p => (List.range n).all fun k => !(c p k) || told.contains k || own.contains k
def nxG (n : Nat) (c r : Mx) (told : List Nat) : Option Nat := (List.range n).find? fun i => !(told.contains i) && frB n c told (gpL n r i)
def gsG (n : Nat) (c r : Mx) : Nat → List Nat → List (List Nat) → List (List Nat)
  | 0, _, out => out
  | f + 1, told, out => match nxG n c r told with
    | none => out
    | some i => gsG n c r f (told ++ gpL n r i) (out ++ [gpL n r i])
/-- A table of what comes to what. -/
structure IsR (n : Nat) (c r : Mx) : Prop where
  cl : ∀ i j, c i j = true → i < n ∧ j < n
  rl : ∀ i j, i < n → j < n → (r i j = true ↔ Rc n c i j)
theorem gpL_mem {n : Nat} {c r : Mx} (h : IsR n c r) {i k : Nat} (hi : i < n) : k ∈ gpL n r i ↔ k < n ∧ Gp n c i k := by
  unfold gpL
  rw [List.mem_filter, List.mem_range]
  constructor
  · rintro ⟨hk, q⟩
    rw [Bool.or_eq_true, Bool.and_eq_true, beq_iff_eq] at q
    refine ⟨hk, ?_⟩
    rcases q with q | q
    · exact .inl q.symm
    · exact .inr ⟨(h.rl i k hi hk).1 q.1, (h.rl k i hk hi).1 q.2⟩
  · rintro ⟨hk, q⟩
    refine ⟨hk, ?_⟩
    rw [Bool.or_eq_true, Bool.and_eq_true, beq_iff_eq]
    rcases q with q | q
    · exact .inl q.symm
    · exact .inr ⟨(h.rl i k hi hk).2 q.1, (h.rl k i hk hi).2 q.2⟩
theorem gpL_nodup (n : Nat) (r : Mx) (i : Nat) : (gpL n r i).Nodup := List.Pairwise.filter _ List.nodup_range
/-- Groups so far: whole ones, none twice, each behind what it calls. -/
structure GsI (n : Nat) (c : Mx) (told : List Nat) (out : List (List Nat)) : Prop where
  fl : out.flatten = told
  nd : told.Nodup
  lt : ∀ x ∈ told, x < n
  gp : ∀ x k, x ∈ told → k < n → Gp n c x k → k ∈ told
  cl : ∀ x k, x ∈ told → c x k = true → k ∈ told
  ne : ∀ g ∈ out, g ≠ []
theorem GsI.nil (n : Nat) (c : Mx) : GsI n c [] [] := ⟨rfl, List.nodup_nil, (fun x h => by cases h), (fun x k h => by cases h), (fun x k h => by cases h), (fun g h => by cases h)⟩
theorem nx_some {n : Nat} {c r : Mx} (h : IsR n c r) {told : List Nat} {i : Nat} (hx : nxG n c r told = some i) : i < n ∧ i ∉ told ∧ ∀ p k, p ∈ gpL n r i → c p k = true → k ∈ told ∨ k ∈ gpL n r i := by
  unfold nxG at hx
  have h1 := List.find?_some hx
  have h2 := List.mem_of_find?_eq_some hx
  rw [Bool.and_eq_true, Bool.not_eq_true'] at h1
  refine ⟨List.mem_range.1 h2, fun q => ?_, fun p k hp hk => ?_⟩
  · have := h1.1
    rw [List.contains_eq_mem, decide_eq_false_iff_not] at this
    exact this q
  · have h3 := h1.2
    unfold frB at h3
    rw [List.all_eq_true] at h3
    have h4 := h3 p hp
    rw [List.all_eq_true] at h4
    have h5 := h4 k (List.mem_range.2 (h.cl p k hk).2)
    rw [hk] at h5
    simp only [Bool.not_true, Bool.false_or, Bool.or_eq_true, List.contains_eq_mem, decide_eq_true_eq] at h5
    exact h5
theorem nx_none {n : Nat} {c r : Mx} (h : IsR n c r) {told : List Nat} {out : List (List Nat)} (_g : GsI n c told out) (hx : nxG n c r told = none) : ∀ i, i < n → i ∈ told := by
  intro i hi
  refine Classical.byContradiction fun hn => ?_
  obtain ⟨j, j1, j2, j3⟩ := gp_free h.cl (fun x => x ∈ told) ⟨i, hi, hn⟩
  unfold nxG at hx
  rw [List.find?_eq_none] at hx
  refine hx j (List.mem_range.2 j1) ?_
  rw [Bool.and_eq_true, Bool.not_eq_true', List.contains_eq_mem, decide_eq_false_iff_not]
  refine ⟨j2, ?_⟩
  unfold frB
  rw [List.all_eq_true]
  intro p hp
  rw [List.all_eq_true]
  intro k hk
  cases hck : c p k with
  | false => rfl
  | true =>
    simp only [Bool.not_true, Bool.false_or, Bool.or_eq_true, List.contains_eq_mem, decide_eq_true_eq]
    rcases j3 p k ((gpL_mem h j1).1 hp).2 hck with q | q
    · exact .inl q
    · exact .inr ((gpL_mem h j1).2 ⟨List.mem_range.1 hk, q⟩)
theorem GsI.step {n : Nat} {c r : Mx} (h : IsR n c r) {told : List Nat} {out : List (List Nat)} (g : GsI n c told out) {i : Nat} (hx : nxG n c r told = some i) : GsI n c (told ++ gpL n r i) (out ++ [gpL n r i]) ∧ told.length < (told ++ gpL n r i).length := by
  obtain ⟨hi, hn, hf⟩ := nx_some h hx
  have hii : i ∈ gpL n r i := (gpL_mem h hi).2 ⟨hi, .inl rfl⟩
  refine ⟨⟨?_, ?_, ?_, ?_, ?_, ?_⟩, ?_⟩
  · rw [List.flatten_append, g.fl]
    simp
  · refine List.nodup_append.2 ⟨g.nd, gpL_nodup n r i, fun x hx y hy e => ?_⟩
    subst e
    obtain ⟨hxn, hg⟩ := (gpL_mem h hi).1 hy
    exact hn (g.gp x i hx hi hg.symm)
  · intro x hx
    rcases List.mem_append.1 hx with q | q
    · exact g.lt x q
    · exact ((gpL_mem h hi).1 q).1
  · intro x k hx hk hg
    rcases List.mem_append.1 hx with q | q
    · exact List.mem_append_left _ (g.gp x k q hk hg)
    · obtain ⟨hxn, hgx⟩ := (gpL_mem h hi).1 q
      exact List.mem_append_right _ ((gpL_mem h hi).2 ⟨hk, hgx.trans hxn hg⟩)
  · intro x k hx hk
    rcases List.mem_append.1 hx with q | q
    · exact List.mem_append_left _ (g.cl x k q hk)
    · rcases hf x k q hk with z | z
      · exact List.mem_append_left _ z
      · exact List.mem_append_right _ z
  · intro x hx
    rcases List.mem_append.1 hx with q | q
    · exact g.ne x q
    · rw [List.mem_singleton.1 q]
      intro e
      rw [e] at hii
      cases hii
  · rw [List.length_append]
    have : 0 < (gpL n r i).length := List.length_pos_of_mem hii
    omega
/-- At the end every rule is told. -/
theorem gsG_all {n : Nat} {c r : Mx} (h : IsR n c r) : ∀ (f : Nat) (told : List Nat) (out : List (List Nat)), GsI n c told out → n < f + told.length → ∃ told', GsI n c told' (gsG n c r f told out) ∧ ∀ i, i < n → i ∈ told' := by
  intro f
  induction f with
  | zero =>
    intro told out g hf
    have := few_below n told g.nd g.lt
    omega
  | succ f ih =>
    intro told out g hf
    rw [gsG]
    cases hx : nxG n c r told with
    | none => exact ⟨told, g, nx_none h g hx⟩
    | some i =>
      obtain ⟨g2, hl⟩ := g.step h hx
      exact ih _ _ g2 (by omega)
end Go.Proofs.YtppggnmlbcdegabGreat.N

namespace Go.Proofs.YtppggnmlbcdegabGreat.N
open Go.RowKit
/-- A table's entry; a table with one more. -/
def tb (M : List (List Bool)) (i j : Nat) : Bool := match M[i]? with
  | none => false
  | some l => (l[j]?).getD false
def tbS (M : List (List Bool)) (i j : Nat) : List (List Bool) := M.set i ((M[i]?.getD []).set j true)
structure Tb (n : Nat) (M : List (List Bool)) : Prop where
  len : M.length = n
  row : ∀ l ∈ M, l.length = n
theorem Tb.at' {n : Nat} {M : List (List Bool)} (h : Tb n M) {i : Nat} (hi : i < n) : ∃ l, M[i]? = some l ∧ l.length = n := by
  have hl := h.len
  exact ⟨_, List.getElem?_eq_getElem (by omega), h.row _ (List.getElem_mem _)⟩
theorem tb_of {M : List (List Bool)} {i j : Nat} {l : List Bool} (h : M[i]? = some l) : tb M i j = (l[j]?).getD false := by unfold tb; rw [h]
theorem tb_lt {n : Nat} {M : List (List Bool)} (h : Tb n M) {i j : Nat} (q : tb M i j = true) : i < n ∧ j < n := by
  unfold tb at q
  cases hm : M[i]? with
  | none => rw [hm] at q; cases q
  | some l =>
    rw [hm] at q
    have hi := (List.getElem?_eq_some_iff.1 hm).1
    have hl := h.row l (List.mem_of_getElem? hm)
    refine ⟨by rw [← h.len]; exact hi, ?_⟩
    by_cases hj : j < l.length
    · omega
    · have q : (l[j]?).getD false = true := q
      rw [List.getElem?_eq_none (by omega)] at q
      cases q
theorem tbS_row {M : List (List Bool)} {i j : Nat} {l : List Bool} (h : M[i]? = some l) : tbS M i j = M.set i (l.set j true) := by unfold tbS; rw [h]; rfl
theorem tbS_tb {n : Nat} {M : List (List Bool)} (h : Tb n M) {i j : Nat} (hi : i < n) : Tb n (tbS M i j) := by
  obtain ⟨l, hl, hn⟩ := h.at' hi
  rw [tbS_row hl]
  refine ⟨by rw [List.length_set]; exact h.len, fun x hx => ?_⟩
  rcases List.mem_or_eq_of_mem_set hx with q | q
  · exact h.row x q
  · rw [q, List.length_set]; exact hn
theorem tbS_get {n : Nat} {M : List (List Bool)} (h : Tb n M) {i j : Nat} (hi : i < n) (hj : j < n) (a b : Nat) : tb (tbS M i j) a b = (tb M a b || (a == i && b == j)) := by
  obtain ⟨l, hl, hn⟩ := h.at' hi
  have hlen := h.len
  rw [tbS_row hl]
  by_cases ha : a = i
  · subst ha
    rw [tb_of (l := l.set j true) (by rw [List.getElem?_set_self (by omega)]), tb_of hl]
    by_cases hb : b = j
    · subst hb
      rw [List.getElem?_set_self (by omega)]
      simp
    · rw [List.getElem?_set_ne (fun e => hb e.symm)]
      simp [hb]
  · unfold tb
    rw [List.getElem?_set_ne (fun e => ha e.symm)]
    simp [ha]
/-- How many entries are not set. -/
def cnT (M : List (List Bool)) : Nat := (M.map fun l => l.count false).sum
theorem cn_set : ∀ (l : List Bool) (j : Nat), l[j]? = some false → (l.set j true).count false + 1 = l.count false := by
  intro l
  induction l with
  | nil => intro j h; cases h
  | cons a l ih =>
    intro j h
    cases j with
    | zero =>
      cases h
      rw [List.set_cons_zero, List.count_cons_of_ne (by decide), List.count_cons_self]
    | succ j =>
      have h2 : l[j]? = some false := by simpa using h
      rw [List.set_cons_succ, List.count_cons, List.count_cons]
      have := ih j h2
      omega
theorem sum_set : ∀ (M : List (List Bool)) (i : Nat) (l m : List Bool), M[i]? = some l → m.count false + 1 = l.count false → cnT (M.set i m) + 1 = cnT M := by
  intro M
  induction M with
  | nil => intro i l m h; cases h
  | cons a M ih =>
    intro i l m h hc
    unfold cnT at ih ⊢
    cases i with
    | zero =>
      cases h
      rw [List.set_cons_zero, List.map_cons, List.map_cons, List.sum_cons, List.sum_cons]
      omega
    | succ i =>
      have h2 : M[i]? = some l := by simpa using h
      rw [List.set_cons_succ, List.map_cons, List.map_cons, List.sum_cons, List.sum_cons]
      have := ih i l m h2 hc
      omega
theorem cnT_less {n : Nat} {M : List (List Bool)} (h : Tb n M) {i j : Nat} (hi : i < n) (hj : j < n) (q : tb M i j = false) : cnT (tbS M i j) + 1 = cnT M := by
  obtain ⟨l, hl, hn⟩ := h.at' hi
  rw [tbS_row hl]
  refine sum_set M i l _ hl (cn_set l j ?_)
  rw [tb_of hl] at q
  have e : l[j]? = some l[j] := List.getElem?_eq_getElem (by omega)
  rw [e] at q ⊢
  have q : l[j] = false := q
  rw [q]
/-- While the table grows: the calls are in it, and all that is in it is come to. -/
structure MI (n : Nat) (c : Mx) (M : List (List Bool)) : Prop where
  t : Tb n M
  lo : ∀ i j, c i j = true → tb M i j = true
  hi : ∀ i j, tb M i j = true → Rc n c i j
theorem MI.step {n : Nat} {c : Mx} {M : List (List Bool)} (h : MI n c M) {i k j : Nat} (h1 : tb M i k = true) (h2 : tb M k j = true) : MI n c (tbS M i j) := by
  obtain ⟨hi, hk⟩ := tb_lt h.t h1
  obtain ⟨_, hj⟩ := tb_lt h.t h2
  refine ⟨tbS_tb h.t hi, fun a b q => by rw [tbS_get h.t hi hj, h.lo a b q]; rfl, fun a b q => ?_⟩
  rw [tbS_get h.t hi hj, Bool.or_eq_true, Bool.and_eq_true, beq_iff_eq, beq_iff_eq] at q
  rcases q with q | ⟨rfl, rfl⟩
  · exact h.hi a b q
  · exact Rc.trans hk (h.hi _ _ h1) (h.hi _ _ h2)
/-- A table that is closed is what comes to what. -/
theorem MI.done {n : Nat} {c : Mx} {M : List (List Bool)} (hc : ∀ i j, c i j = true → i < n ∧ j < n) (h : MI n c M) (hz : ∀ i k j, i < n → k < n → j < n → tb M i k = true → tb M k j = true → tb M i j = true) : IsR n c (tb M) :=
  ⟨hc, fun i j _ _ => ⟨h.hi i j, fun q => Rc.least (d := fun a b => tb M a b = true) h.lo (fun a k b _ h1 h2 => by
    obtain ⟨ha, hk⟩ := tb_lt h.t h1
    obtain ⟨_, hb⟩ := tb_lt h.t h2
    exact hz a k b ha hk hb h1 h2) q⟩⟩
/-- The numbers of what is set. -/
def lsB (l : List Bool) : List Nat := (List.range l.length).filter fun i => (l[i]?).getD false
theorem lsB_mem {l : List Bool} {i : Nat} : i ∈ lsB l ↔ l[i]? = some true := by
  unfold lsB
  rw [List.mem_filter, List.mem_range]
  constructor
  · rintro ⟨h, q⟩
    rw [List.getElem?_eq_getElem h] at q ⊢
    have q : l[i] = true := q
    rw [q]
  · intro q
    have h := (List.getElem?_eq_some_iff.1 q).1
    exact ⟨h, by rw [q]; rfl⟩
end Go.Proofs.YtppggnmlbcdegabGreat.N

namespace Go.Proofs.YtppggnmlbcdegabGreat.N
open Go.RowKit
/-- Some are marked; some are still to be gone over. x: the one that is gone over just now. -/
structure WlI (n : Nat) (c : Mx) (r : Nat) (l : List Bool) (ah : List Nat) (x : Option Nat) : Prop where
  ln : l.length = n
  hi : ∀ j, l[j]? = some true → Rc n c r j
  am : ∀ y ∈ ah, y < n ∧ (y = r ∨ l[y]? = some true)
  pr : ∀ y, (y = r ∨ l[y]? = some true) → y ∈ ah ∨ x = some y ∨ ∀ j, c y j = true → l[j]? = some true
theorem WlI.start {n : Nat} {c : Mx} {r : Nat} (hr : r < n) : WlI n c r (List.replicate n false) [r] none := by
  have no : ∀ j, (List.replicate n false)[j]? ≠ some true := fun j h => by
    rw [List.getElem?_replicate] at h
    split at h <;> cases h
  refine ⟨List.length_replicate, fun j h => absurd h (no j), fun y h => ?_, fun y h => ?_⟩
  · rw [List.mem_singleton] at h
    exact ⟨by omega, .inl h⟩
  · rcases h with rfl | h
    · exact .inl (List.mem_singleton.2 rfl)
    · exact absurd h (no y)
theorem WlI.pop {n : Nat} {c : Mx} {r : Nat} {l : List Bool} {ah : List Nat} {x : Nat} (h : WlI n c r l (ah ++ [x]) none) : WlI n c r l ah (some x) ∧ x < n ∧ (x = r ∨ l[x]? = some true) := by
  have hx := h.am x (List.mem_append_right _ (List.mem_singleton.2 rfl))
  refine ⟨⟨h.ln, h.hi, fun y hy => h.am y (List.mem_append_left _ hy), fun y hy => ?_⟩, hx.1, hx.2⟩
  rcases h.pr y hy with q | q | q
  · rcases List.mem_append.1 q with q | q
    · exact .inl q
    · rw [List.mem_singleton] at q
      exact .inr (.inl (by rw [q]))
  · cases q
  · exact .inr (.inr q)
theorem get_set {l : List Bool} {j k : Nat} : (l.set j true)[k]? = some true ↔ (k = j ∧ j < l.length) ∨ l[k]? = some true := by
  by_cases h : k = j
  · subst h
    by_cases q : k < l.length
    · rw [List.getElem?_set_self q]; simp [q]
    · rw [List.getElem?_eq_none (by rw [List.length_set]; omega), List.getElem?_eq_none (by omega)]; simp [q]
  · rw [List.getElem?_set_ne (Ne.symm h)]; simp [h]
theorem WlI.mark {n : Nat} {c : Mx} {r : Nat} {l : List Bool} {ah : List Nat} {x j : Nat} (h : WlI n c r l ah (some x)) (hx : x < n ∧ (x = r ∨ l[x]? = some true)) (hc : c x j = true) (hj : j < n) : WlI n c r (l.set j true) (ah ++ [j]) (some x) := by
  have hl := h.ln
  refine ⟨by rw [List.length_set]; exact h.ln, fun k q => ?_, fun y hy => ?_, fun y hy => ?_⟩
  · rcases get_set.1 q with ⟨rfl, _⟩ | q
    · rcases hx.2 with e | e
      · rw [← e]; exact Rc.of hc
      · exact Rc.trans hx.1 (h.hi x e) (Rc.of hc)
    · exact h.hi k q
  · rcases List.mem_append.1 hy with hy | hy
    · obtain ⟨h1, h2⟩ := h.am y hy
      exact ⟨h1, h2.imp id fun q => get_set.2 (.inr q)⟩
    · rw [List.mem_singleton] at hy
      subst hy
      exact ⟨hj, .inr (get_set.2 (.inl ⟨rfl, by omega⟩))⟩
  · have hy2 : y = j ∨ (y = r ∨ l[y]? = some true) := by
      rcases hy with q | q
      · exact .inr (.inl q)
      · rcases get_set.1 q with ⟨q, _⟩ | q
        · exact .inl q
        · exact .inr (.inr q)
    rcases hy2 with rfl | q
    · exact .inl (List.mem_append_right _ (List.mem_singleton.2 rfl))
    · rcases h.pr y q with q | q | q
      · exact .inl (List.mem_append_left _ q)
      · exact .inr (.inl q)
      · exact .inr (.inr fun k hk => get_set.2 (.inr (q k hk)))
/-- All that the one calls is marked. -/
theorem WlI.shut {n : Nat} {c : Mx} {r : Nat} {l : List Bool} {ah : List Nat} {x : Nat} (h : WlI n c r l ah (some x)) (hx : ∀ j, c x j = true → l[j]? = some true) : WlI n c r l ah none := by
  refine ⟨h.ln, h.hi, h.am, fun y hy => ?_⟩
  rcases h.pr y hy with q | q | q
  · exact .inl q
  · cases q; exact .inr (.inr hx)
  · exact .inr (.inr q)
theorem WlI.done {n : Nat} {c : Mx} {r : Nat} {l : List Bool} (h : WlI n c r l [] none) (j : Nat) : l[j]? = some true ↔ Rc n c r j := by
  refine ⟨h.hi j, fun q => ?_⟩
  have key : ∀ {i j : Nat}, Rc n c i j → (i = r ∨ l[i]? = some true) → l[j]? = some true := by
    intro i j q
    refine Rc.least (d := fun i j => (i = r ∨ l[i]? = some true) → l[j]? = some true) ?_ ?_ q
    · intro i j hc hi
      rcases h.pr i hi with q | q | q
      · cases q
      · cases q
      · exact q j hc
    · intro i k j _ h1 h2 hi
      exact h2 (.inr (h1 hi))
  exact key q (.inl rfl)
/-- How much is left. -/
def wlM (l : List Bool) (ah : List Nat) : Nat := 2 * l.count false + ah.length
theorem wlM_mark {l : List Bool} {ah : List Nat} {j : Nat} (h : l[j]? = some false) : wlM (l.set j true) (ah ++ [j]) + 1 = wlM l ah := by
  have := cn_set l j h
  unfold wlM
  rw [List.length_append, List.length_singleton]
  omega

/-- A rule is free by what it comes to. -/
def frP (n : Nat) (r : Mx) (told : List Nat) (i : Nat) : Bool := (List.range n).all fun k => !(r i k) || told.contains k || r k i
def nxP (n : Nat) (r : Mx) (told : List Nat) : Option Nat := (List.range n).find? fun i => !(told.contains i) && frP n r told i
theorem frP_iff {n : Nat} {r : Mx} {told : List Nat} {i : Nat} : frP n r told i = true ↔ ∀ k, k < n → r i k = true → k ∈ told ∨ r k i = true := by
  unfold frP
  rw [List.all_eq_true]
  constructor
  · intro h k hk hr
    have := h k (List.mem_range.2 hk)
    rw [Bool.or_eq_true, Bool.or_eq_true, hr, List.contains_iff_mem] at this
    rcases this with (q | q) | q
    · cases q
    · exact .inl q
    · exact .inr q
  · intro h k hk
    rw [Bool.or_eq_true, Bool.or_eq_true, List.contains_iff_mem]
    cases hr : r i k
    · exact .inl (.inl rfl)
    · rcases h k (List.mem_range.1 hk) hr with q | q
      · exact .inl (.inr q)
      · exact .inr q
theorem frB_iff {n : Nat} {c : Mx} {told own : List Nat} : frB n c told own = true ↔ ∀ p ∈ own, ∀ k, k < n → c p k = true → k ∈ told ∨ k ∈ own := by
  unfold frB
  rw [List.all_eq_true]
  constructor
  · intro h p hp k hk hr
    have := h p hp
    rw [List.all_eq_true] at this
    have := this k (List.mem_range.2 hk)
    rw [Bool.or_eq_true, Bool.or_eq_true, hr, List.contains_iff_mem, List.contains_iff_mem] at this
    rcases this with (q | q) | q
    · cases q
    · exact .inl q
    · exact .inr q
  · intro h p hp
    rw [List.all_eq_true]
    intro k hk
    rw [Bool.or_eq_true, Bool.or_eq_true, List.contains_iff_mem, List.contains_iff_mem]
    cases hr : c p k
    · exact .inl (.inl rfl)
    · rcases h p hp k (List.mem_range.1 hk) hr with q | q
      · exact .inl (.inr q)
      · exact .inr q
theorem fr_same {n : Nat} {c r : Mx} (h : IsR n c r) {told : List Nat} {out : List (List Nat)} (g : GsI n c told out) {i : Nat} (hi : i < n) : frP n r told i = frB n c told (gpL n r i) := by
  rw [Bool.eq_iff_iff, frP_iff, frB_iff]
  constructor
  · intro q p hp k hk hc
    obtain ⟨hpn, hg⟩ := (gpL_mem h hi).1 hp
    have hik : Rc n c i k := by
      rcases hg with e | e
      · rw [e]; exact Rc.of hc
      · exact Rc.trans hpn e.1 (Rc.of hc)
    rcases q k hk ((h.rl i k hi hk).2 hik) with e | e
    · exact .inl e
    · exact .inr ((gpL_mem h hi).2 ⟨hk, .inr ⟨hik, (h.rl k i hk hi).1 e⟩⟩)
  · intro q k hk hr
    have key : ∀ {a b : Nat}, Rc n c a b → (a ∈ told ∨ a ∈ gpL n r i) → (b ∈ told ∨ b ∈ gpL n r i) := by
      intro a b e
      refine Rc.least (d := fun a b => (a ∈ told ∨ a ∈ gpL n r i) → (b ∈ told ∨ b ∈ gpL n r i)) ?_ ?_ e
      · intro a b hc ha
        rcases ha with ha | ha
        · exact .inl (g.cl a b ha hc)
        · exact q a ha b (h.cl a b hc).2 hc
      · intro a k b _ h1 h2 ha
        exact h2 (h1 ha)
    have hik := (h.rl i k hi hk).1 hr
    rcases key hik (.inr ((gpL_mem h hi).2 ⟨hi, .inl rfl⟩)) with e | e
    · exact .inl e
    · right
      rcases ((gpL_mem h hi).1 e).2 with e | e
      · subst e; exact hr
      · exact (h.rl k i hk hi).2 e.2
theorem find_same {α : Type} {p q : α → Bool} : ∀ (l : List α), (∀ x ∈ l, p x = q x) → l.find? p = l.find? q := by
  intro l
  induction l with
  | nil => intro _; rfl
  | cons a l ih =>
    intro h
    rw [List.find?_cons, List.find?_cons, h a (List.mem_cons_self ..), ih fun x hx => h x (List.mem_cons_of_mem _ hx)]
theorem nx_same {n : Nat} {c r : Mx} (h : IsR n c r) {told : List Nat} {out : List (List Nat)} (g : GsI n c told out) : nxP n r told = nxG n c r told :=
  find_same _ fun i hi => by rw [fr_same h g (List.mem_range.1 hi)]
/-- Two tables of what comes to what give the same groups. -/
theorem gpL_same {n : Nat} {c r s : Mx} (h : IsR n c r) (g : IsR n c s) {i : Nat} (hi : i < n) : gpL n r i = gpL n s i := by
  unfold gpL
  refine List.filter_congr fun k hk => ?_
  have hk := List.mem_range.1 hk
  have e1 : r i k = s i k := by rw [Bool.eq_iff_iff, h.rl i k hi hk, g.rl i k hi hk]
  have e2 : r k i = s k i := by rw [Bool.eq_iff_iff, h.rl k i hk hi, g.rl k i hk hi]
  rw [e1, e2]
theorem nxG_same {n : Nat} {c r s : Mx} (h : IsR n c r) (g : IsR n c s) (told : List Nat) : nxG n c r told = nxG n c s told :=
  find_same _ fun i hi => by rw [gpL_same h g (List.mem_range.1 hi)]
theorem nxG_lt {n : Nat} {c r : Mx} {told : List Nat} {i : Nat} (h : nxG n c r told = some i) : i < n := List.mem_range.1 (List.mem_of_find?_eq_some h)
theorem gsG_same {n : Nat} {c r s : Mx} (h : IsR n c r) (g : IsR n c s) : ∀ (f : Nat) (told : List Nat) (out : List (List Nat)), gsG n c r f told out = gsG n c s f told out := by
  intro f
  induction f with
  | zero => intro _ _; rfl
  | succ f ih =>
    intro told out
    rw [gsG, gsG, nxG_same h g]
    cases e : nxG n c s told with
    | none => rfl
    | some i => simp only; rw [gpL_same h g (nxG_lt e)]; exact ih _ _
end Go.Proofs.YtppggnmlbcdegabGreat.N

namespace Go.Proofs.YtppggnmlbcdegabGreat.T
def atI (k : Nat) (st : List Pt) : Nat → Nat
  | 0 => k
  | i + 1 => match st[i]? with
    | some x => x.1
    | none => 0
def hI (L : List Nd) (op : Int) (a : Nat) (st : List Pt) : Nat → Nat
  | 0 => 0
  | i + 1 => match st[i]? with
    | some x => max (hI L op a st i) (if i + 1 = a ∧ a = 2 ∧ opAt L x.2.1 = op then x.2.2 - 1 else x.2.2)
    | none => hI L op a st i
theorem mk_pos (L : List Nd) (k : Nat) (op : Int) (st : List Pt) : 1 ≤ (mk L k op st).2.2 := by
  unfold mk
  split
  · exact Nat.le_refl _
  · split
    · split
      · show 1 ≤ max 1 _; omega
      · exact Nat.le_refl _
    · split
      · show 1 ≤ max (max 1 _) _; omega
      · exact Nat.le_refl _
theorem run_pos {L : List Nd} {k : Nat} (hk : k ≤ L.length) (h : ∀ j, j < k → er L j = 0) : ∀ x ∈ run L k, 1 ≤ x.2.2 := fun x hx => by
  obtain ⟨_, _, _, e⟩ := run_bd hk h x hx
  rw [e]
  exact mk_pos _ _ _ _
theorem chn_at (L : List Nd) (k : Nat) (st : List Pt) (h : Chn L k st) : ∀ i, i ≤ st.length → Chn L (atI k st i) (st.drop i) := by
  intro i
  induction i with
  | zero => intro _; exact h
  | succ i ih =>
    intro hi
    have c := ih (by omega)
    rw [List.drop_eq_getElem_cons (by omega)] at c
    show Chn L (match st[i]? with
      | some x => x.1
      | none => 0) _
    rw [List.getElem?_eq_getElem (by omega)]
    exact c.2.2.2
theorem pt_at (L : List Nd) (k : Nat) (op : Int) (st : List Pt) (h : arN op ≤ st.length) (hp : ∀ x ∈ st, 1 ≤ x.2.2) : mk L k op st = (atI k st (arN op), k, hI L op (arN op) st (arN op) + 1) := by
  have h2 := arN_le op
  unfold mk
  by_cases a0 : arN op = 0
  · rw [if_pos a0, a0]; rfl
  rw [if_neg a0]
  by_cases a1 : arN op = 1
  · rw [if_pos a1]
    rw [a1] at h ⊢
    cases st with
    | nil => simp at h
    | cons x r => simp [atI, hI]
  · rw [if_neg a1]
    have e2 : arN op = 2 := by omega
    rw [e2] at h ⊢
    cases st with
    | nil => simp at h
    | cons y r => cases r with
      | nil => simp at h
      | cons x r =>
        have hx := hp x (by simp)
        simp only [atI, hI, List.getElem?_cons_zero, List.getElem?_cons_succ]
        by_cases ho : opAt L x.2.1 = op
        · simp [ho]; omega
        · simp [ho]; omega
theorem hI_bd (L : List Nd) (op : Int) (a : Nat) (st : List Pt) (h : ∀ x ∈ st, x.2.2 ≤ 60) : ∀ i, hI L op a st i ≤ 60 := by
  intro i
  induction i with
  | zero => exact Nat.zero_le _
  | succ i ih =>
    rw [hI]
    split
    · next x hx =>
      have := h x (List.mem_of_getElem? hx)
      split <;> omega
    · exact ih
end Go.Proofs.YtppggnmlbcdegabGreat.T
