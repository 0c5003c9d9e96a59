/- DERIVED. Plain mathematics and walks, laid together (2). -/
import Derived.Maps.Range
import Derived.OwnWalk
import Derived.ProofKit
import Derived.Laws.OwnMore
import Derived.Deep.RegionHeld3
import Derived.Deep.AppendLies
import Derived.Shelf.Abstract
import Derived.Laws.AppendOwnNone
import Derived.Test.YtppggnmlbcdegabRr01
namespace Go.Proofs.Ytppggnmlbcdegab.U
open Go.RowKit

theorem own_base {w : World} {a b e size : Nat} {v : Value} {n : Nat} {xs : List Value} (h : w.ownsRow b e size v n xs) (hab : a ≤ b) : w.ownsRow a e size v n xs := by
  obtain ⟨h1, h2⟩ := h
  refine ⟨h1, ?_⟩
  rcases h2 with h2 | ⟨g, cap, cur, h3, h4, h5⟩
  · exact .inl h2
  · exact .inr ⟨g, cap, cur, h3, Nat.le_trans hab h4, h5⟩
theorem below_grow {w w' : World} (hb : Below w.heap.size w w') (row : Option Nat) : w.grownBy w' row := ⟨hb.os, hb.tape, hb.output, hb.size, fun k hk _ => hb.block k hk⟩
theorem own_kept {w w' : World} {row : Option Nat} {base e size : Nat} {v : Value} {n : Nat} {xs : List Value} (h : w.ownsRow base e size v n xs) (hg : w.grownBy w' row) (hne : ∀ k, row = some k → v.ownBlock ≠ some k) : w'.ownsRow base e size v n xs := by
  refine h.kept hg ?_
  cases e1 : v.ownBlock with
  | none => exact .inl rfl
  | some g =>
    refine .inr fun e2 => ?_
    exact hne g e2.symm e1
theorem own_below {w w' : World} {base e size : Nat} {v : Value} {n : Nat} {xs : List Value} (h : w.ownsRow base e size v n xs) (hb : Below w.heap.size w w') : w'.ownsRow base e size v n xs :=
  own_kept h (below_grow hb none) (fun k e => by cases e)

/-- E: the rows' type; I: their elements' type; xs: the rows' values. -/
structure TT (W : World) (B E I : Nat) (v : Value) (M : List (List Value)) (xs : List Value) : Prop where
  o : W.ownsRow B E 1 v xs.length xs
  len : xs.length = M.length
  each : ∀ (i : Nat) x r, xs[i]? = some x → M[i]? = some r → W.ownsRow B I 1 x r.length r
  off : ∀ (i : Nat) x k, xs[i]? = some x → x.ownBlock = some k → v.ownBlock ≠ some k
  apart : ∀ (i j : Nat) x y k, xs[i]? = some x → xs[j]? = some y → i ≠ j → x.ownBlock = some k → y.ownBlock ≠ some k
section
variable {W W' : World} {B E I : Nat} {v : Value} {M : List (List Value)} {xs : List Value}
theorem TT.nil (W : World) (B E I : Nat) : TT W B E I (.slice none 0 0) [] [] :=
  ⟨World.ownsRow_nil _ _ _ _, rfl, (fun _ _ _ h => by cases h), (fun _ _ _ h => by cases h), (fun _ _ _ _ _ h => by cases h)⟩
theorem TT.at' (h : TT W B E I v M xs) {i : Nat} (hi : i < M.length) : ∃ x r, xs[i]? = some x ∧ M[i]? = some r ∧ W.ownsRow B I 1 x r.length r := by
  have hl := h.len
  refine ⟨xs[i]'(by omega), M[i], List.getElem?_eq_getElem _, List.getElem?_eq_getElem _, ?_⟩
  exact h.each i _ _ (List.getElem?_eq_getElem (by omega)) (List.getElem?_eq_getElem hi)
theorem TT.both (h : TT W B E I v M xs) {i : Nat} {x : Value} (hx : xs[i]? = some x) : ∃ r, M[i]? = some r ∧ W.ownsRow B I 1 x r.length r := by
  have hi := (List.getElem?_eq_some_iff.1 hx).1
  obtain ⟨y, r, h1, h2, h3⟩ := h.at' (i := i) (by rw [← h.len]; exact hi)
  rw [hx] at h1
  cases h1
  exact ⟨r, h2, h3⟩
theorem TT.lt (h : TT W B E I v M xs) {i : Nat} {x : Value} (hx : xs[i]? = some x) {k : Nat} (hk : x.ownBlock = some k) : B ≤ k ∧ k < W.heap.size := by
  obtain ⟨r, _, h3⟩ := h.both hx
  exact h3.lt k hk
theorem TT.kept {row : Option Nat} (h : TT W B E I v M xs) (hg : W.grownBy W' row) (hv : ∀ k, row = some k → v.ownBlock ≠ some k) (hx : ∀ (i : Nat) x k, xs[i]? = some x → row = some k → x.ownBlock ≠ some k) : TT W' B E I v M xs :=
  ⟨own_kept h.o hg hv, h.len, fun i x r q1 q2 => own_kept (h.each i x r q1 q2) hg (fun k e => hx i x k q1 e), h.off, h.apart⟩
theorem TT.below (h : TT W B E I v M xs) (hb : Below W.heap.size W W') : TT W' B E I v M xs :=
  h.kept (below_grow hb none) (fun k e => by cases e) (fun i x k _ e => by cases e)
theorem TT.alloc (h : TT W B E I v M xs) (o : Obj) : TT (W.alloc o) B E I v M xs := h.below ((Below.refl _ _).alloc (Nat.le_refl _) _)
theorem TT.drew (h : TT W B E I v M xs) : TT W.drew B E I v M xs := h.below (Below.refl _ _).drew
theorem TT.base (h : TT W B E I v M xs) {A : Nat} (hab : A ≤ B) : TT W A E I v M xs :=
  ⟨own_base h.o hab, h.len, fun i x r q1 q2 => own_base (h.each i x r q1 q2) hab, h.off, h.apart⟩
/-- A block that is none of its own. -/
def Out (v : Value) (xs : List Value) (k : Nat) : Prop := v.ownBlock ≠ some k ∧ ∀ (i : Nat) x, xs[i]? = some x → x.ownBlock ≠ some k
theorem TT.new (h : TT W B E I v M xs) {k : Nat} (hk : W.heap.size ≤ k) : Out v xs k :=
  ⟨fun e => by have := (h.o.lt k e).2; omega, fun i x hx e => by have := (h.lt hx e).2; omega⟩
theorem TT.old (h : TT W B E I v M xs) {k : Nat} (hk : k < B) : Out v xs k :=
  ⟨fun e => by have := (h.o.lt k e).1; omega, fun i x hx e => by have := (h.lt hx e).1; omega⟩
theorem TT.turn (h : TT W B E I v M xs) {k : Nat} (ho : Out v xs k) (hg : W.grownBy W' (some k)) : TT W' B E I v M xs :=
  h.kept hg (fun j e => by cases e; exact ho.1) (fun i x j hx e => by cases e; exact ho.2 i x hx)
/-- A row more. -/
theorem TT.push {W1 : World} {y v' : Value} {s : List Value} (h : TT W B E I v M xs) (hy : W.ownsRow B I 1 y s.length s) (hyo : ∀ k, y.ownBlock = some k → Out v xs k)
    (hown : W1.ownsRow B E 1 v' (xs.length + 1) (xs ++ [y])) (hgrow : W.grownBy W1 v.ownBlock) (hat : ∀ k, v'.ownBlock = some k → v.ownBlock = some k ∨ W.heap.size ≤ k) : TT W1 B E I v' (M ++ [s]) (xs ++ [y]) := by
  have hv' : ∀ (x : Value) k, x.ownBlock = some k → k < W.heap.size → v.ownBlock ≠ some k → v'.ownBlock ≠ some k := fun x k _ hlt hne e => by
    rcases hat k e with q | q
    · exact hne q
    · omega
  have hlen := h.len
  have split : ∀ (i : Nat) x, (xs ++ [y])[i]? = some x → (i < xs.length ∧ xs[i]? = some x) ∨ (i = xs.length ∧ x = y) := fun i x hx => by
    by_cases hi : i < xs.length
    · rw [List.getElem?_append_left hi] at hx; exact .inl ⟨hi, hx⟩
    · rw [List.getElem?_append_right (by omega)] at hx
      have hi0 : i - xs.length = 0 := by
        by_cases q : i - xs.length = 0
        · exact q
        · rw [List.getElem?_eq_none (by simp; omega)] at hx; cases hx
      rw [hi0] at hx
      cases hx
      exact .inr ⟨by omega, rfl⟩
  refine ⟨by rw [List.length_append]; exact hown, by rw [List.length_append, List.length_append, hlen]; rfl, ?_, ?_, ?_⟩
  · intro i x r hx hr
    rcases split i x hx with ⟨hi, hx⟩ | ⟨hi, rfl⟩
    · rw [List.getElem?_append_left (by omega)] at hr
      exact own_kept (h.each i x r hx hr) hgrow (fun k e q => h.off i x k hx q e)
    · rw [List.getElem?_append_right (by omega), show i - M.length = 0 by omega] at hr
      cases hr
      exact own_kept hy hgrow (fun k e q => (hyo k q).1 e)
  · intro i x k hx hk
    rcases split i x hx with ⟨hi, hx⟩ | ⟨hi, rfl⟩
    · exact hv' x k hk (h.lt hx hk).2 (h.off i x k hx hk)
    · exact hv' x k hk (hy.lt k hk).2 (hyo k hk).1
  · intro i j x z k hx hz hij hk
    rcases split i x hx with ⟨hi, hx1⟩ | ⟨hi, rfl⟩
    · rcases split j z hz with ⟨hj, hz⟩ | ⟨hj, rfl⟩
      · exact h.apart i j x z k hx1 hz hij hk
      · exact fun e => (hyo k e).2 i x hx1 hk
    · rcases split j z hz with ⟨hj, hz⟩ | ⟨hj, rfl⟩
      · exact (hyo k hk).2 j z hz
      · omega
/-- A row in the place of another one. -/
theorem TT.put {g cap i : Nat} {y : Value} {s : List Value} (h : TT W B E I (.slice (some ⟨g, 0, none⟩) xs.length cap) M xs) (hy : W.ownsRow B I 1 y s.length s) (hyo : ∀ k, y.ownBlock = some k → Out (.slice (some ⟨g, 0, none⟩) xs.length cap) xs k) (hi : i < xs.length) :
    TT (W.setCell ⟨g, i, none⟩ y) B E I (.slice (some ⟨g, 0, none⟩) xs.length cap) (M.set i s) (xs.set i y) := by
  obtain ⟨st1, st2⟩ := h.o.stored i y
  have hlen := h.len
  have split : ∀ (j : Nat) x, (xs.set i y)[j]? = some x → (j ≠ i ∧ xs[j]? = some x) ∨ (j = i ∧ x = y) := fun j x hx => by
    by_cases hj : j = i
    · subst hj
      rw [List.getElem?_set_self hi] at hx
      cases hx
      exact .inr ⟨rfl, rfl⟩
    · rw [List.getElem?_set_ne (Ne.symm hj)] at hx
      exact .inl ⟨hj, hx⟩
  refine ⟨by rw [List.length_set]; exact st1, by rw [List.length_set, List.length_set]; exact h.len, ?_, ?_, ?_⟩
  · intro j x r hx hr
    rcases split j x hx with ⟨hj, hx⟩ | ⟨hj, rfl⟩
    · rw [List.getElem?_set_ne (Ne.symm hj)] at hr
      exact own_kept (h.each j x r hx hr) st2 (fun k e q => by cases e; exact h.off j x g hx q rfl)
    · subst hj
      rw [List.getElem?_set_self (by omega)] at hr
      cases hr
      exact own_kept hy st2 (fun k e q => by cases e; exact (hyo g q).1 rfl)
  · intro j x k hx hk
    rcases split j x hx with ⟨hj, hx⟩ | ⟨hj, rfl⟩
    · exact h.off j x k hx hk
    · exact (hyo k hk).1
  · intro a b x z k hx hz hab hk
    rcases split a x hx with ⟨ha, hx1⟩ | ⟨ha, rfl⟩
    · rcases split b z hz with ⟨hb, hz⟩ | ⟨hb, rfl⟩
      · exact h.apart a b x z k hx1 hz hab hk
      · exact fun e => (hyo k e).2 a x hx1 hk
    · rcases split b z hz with ⟨hb, hz⟩ | ⟨hb, rfl⟩
      · exact (hyo k hk).2 b z hz
      · omega
/-- An entry is written. -/
theorem TT.store {g cap i n j : Nat} {r : List Value} (h : TT W B E I v M xs) (hx : xs[i]? = some (.slice (some ⟨g, 0, none⟩) n cap)) (hr : M[i]? = some r) (u : Value) : TT (W.setCell ⟨g, j, none⟩ u) B E I v (M.set i (r.set j u)) xs ∧ W.grownBy (W.setCell ⟨g, j, none⟩ u) (some g) := by
  have hrow := h.each i _ r hx hr
  have hn : n = r.length := by
    rcases hrow.2 with ⟨q, _⟩ | ⟨g', c', cur, q, _⟩
    · cases q
    · cases q; rfl
  subst hn
  obtain ⟨st1, st2⟩ := hrow.stored j u
  have hi := (List.getElem?_eq_some_iff.1 hr).1
  refine ⟨⟨own_kept h.o st2 (fun k e q => ?_), by rw [List.length_set]; exact h.len, ?_, h.off, h.apart⟩, st2⟩
  · cases e; exact h.off i _ g hx rfl q
  · intro k x s hk hs
    by_cases hki : k = i
    · subst hki
      rw [List.getElem?_set_self hi] at hs
      cases hs
      rw [hx] at hk
      cases hk
      rw [List.length_set]
      exact st1
    · rw [List.getElem?_set_ne (Ne.symm hki)] at hs
      exact own_kept (h.each k x s hk hs) st2 (fun m e q => by cases e; exact h.apart k i x _ g hk hx hki q rfl)
/-- A table of rows that are nil. -/
theorem TT.made {n : Nat} (h : W.ownsRow B E 1 v n (List.replicate n (.slice none 0 0))) : TT W B E I v (List.replicate n []) (List.replicate n (.slice none 0 0)) := by
  have at0 : ∀ (i : Nat) x, (List.replicate n (Value.slice none 0 0))[i]? = some x → x = .slice none 0 0 := fun i x hx => by
    rw [List.getElem?_replicate] at hx
    split at hx <;> cases hx
    rfl
  refine ⟨by rw [List.length_replicate]; exact h, by rw [List.length_replicate, List.length_replicate], ?_, ?_, ?_⟩
  · intro i x r hx hr
    rw [List.getElem?_replicate] at hr
    split at hr <;> cases hr
    rw [at0 i x hx]
    exact World.ownsRow_nil _ _ _ _
  · intro i x k hx hk
    rw [at0 i x hx] at hk
    cases hk
  · intro i j x y k hx _ _ hk
    rw [at0 i x hx] at hk
    cases hk
end
end Go.Proofs.Ytppggnmlbcdegab.U

namespace Go.Proofs.Ytppggnmlbcdegab.T
open Go.RowKit
theorem opAt_map {L : List Nd} {f : Nd → Nd} (ho : ∀ n ∈ L, (f n).op = n.op) (k : Nat) : opAt (L.map f) k = opAt L k := by
  unfold opAt
  rw [List.getElem?_map]
  cases h : L[k]? with
  | none => rfl
  | some n => exact ho n (List.mem_of_getElem? h)
theorem mk_map {L : List Nd} {f : Nd → Nd} (ho : ∀ n ∈ L, (f n).op = n.op) (k : Nat) (op : Int) (st : List Pt) : mk (L.map f) k op st = mk L k op st := by
  unfold mk
  simp only [opAt_map ho]
theorem run_map {L : List Nd} {f : Nd → Nd} (ho : ∀ n ∈ L, (f n).op = n.op) (k : Nat) : run (L.map f) k = run L k := by
  induction k with
  | zero => rfl
  | succ k ih => rw [run, run, ih, opAt_map ho, mk_map ho]
theorem pt_map {L : List Nd} {f : Nd → Nd} (ho : ∀ n ∈ L, (f n).op = n.op) (k : Nat) : pt (L.map f) k = pt L k := by
  unfold pt
  rw [run_map ho, opAt_map ho, mk_map ho]
theorem er_map {L : List Nd} {f : Nd → Nd} (ho : ∀ n ∈ L, (f n).op = n.op) (ha : ∀ n ∈ L, alE (f n) = alE n) (k : Nat) : er (L.map f) k = er L k := by
  unfold er
  rw [List.getElem?_map]
  cases h : L[k]? with
  | none => rfl
  | some n =>
    have hm := List.mem_of_getElem? h
    simp only [Option.map_some, ha n hm, ho n hm, run_map ho, pt_map ho]
theorem ckGo_map {L : List Nd} {f : Nd → Nd} (ho : ∀ n ∈ L, (f n).op = n.op) (ha : ∀ n ∈ L, alE (f n) = alE n) (m : Nat) : ∀ k, ckGo (L.map f) m k = ckGo L m k := by
  induction m with
  | zero => intro k; rw [ckGo, ckGo, List.length_map, run_map ho]
  | succ m ih => intro k; rw [ckGo, ckGo, er_map ho ha, ih]
/-- What Check says depends on the kinds, and on what each node may hold by itself. -/
theorem ck_map {L : List Nd} {f : Nd → Nd} (ho : ∀ n ∈ L, (f n).op = n.op) (ha : ∀ n ∈ L, alE (f n) = alE n) : ck (L.map f) = ck L := by
  unfold ck
  rw [List.length_map, ckGo_map ho ha]

/-- The first rule of a name. -/
def fdG : List (ByteArray × List Nd) → ByteArray → Option Nat
  | [], _ => none
  | g :: r, s => if g.1 = s then some 0 else (fdG r s).map (· + 1)
theorem fdG_of : ∀ {gs : List (ByteArray × List Nd)} {s : ByteArray} {k : Nat} {g : ByteArray × List Nd}, gs[k]? = some g → g.1 = s → (∀ j h, j < k → gs[j]? = some h → h.1 ≠ s) → fdG gs s = some k := by
  intro gs
  induction gs with
  | nil => intro s k g hg; cases hg
  | cons a r ih =>
    intro s k g hg hs hn
    cases k with
    | zero =>
      cases hg
      rw [fdG, if_pos hs]
    | succ k =>
      have h0 := hn 0 a (by omega) rfl
      rw [fdG, if_neg h0, ih (k := k) (g := g) (by simpa using hg) hs (fun j h hj hh => hn (j + 1) h (by omega) (by simpa using hh))]
      rfl
theorem fdG_some : ∀ {gs : List (ByteArray × List Nd)} {s : ByteArray} {k : Nat}, fdG gs s = some k → ∃ g, gs[k]? = some g ∧ g.1 = s ∧ ∀ j h, j < k → gs[j]? = some h → h.1 ≠ s := by
  intro gs
  induction gs with
  | nil => intro s k h; cases h
  | cons a r ih =>
    intro s k h
    rw [fdG] at h
    by_cases e : a.1 = s
    · rw [if_pos e] at h
      cases h
      exact ⟨a, rfl, e, fun j h hj => by omega⟩
    · rw [if_neg e] at h
      cases hr : fdG r s with
      | none => rw [hr] at h; cases h
      | some m =>
        rw [hr] at h
        have hk : m + 1 = k := by simpa using h
        subst hk
        obtain ⟨g, q1, q2, q3⟩ := ih hr
        refine ⟨g, by simpa using q1, q2, fun j x hj hx => ?_⟩
        cases j with
        | zero => cases hx; exact e
        | succ j => exact q3 j x (by omega) (by simpa using hx)
theorem fdG_none : ∀ {gs : List (ByteArray × List Nd)} {s : ByteArray}, fdG gs s = none ↔ ∀ g ∈ gs, g.1 ≠ s := by
  intro gs
  induction gs with
  | nil => intro s; exact ⟨(fun _ g h => by cases h), fun _ => rfl⟩
  | cons a r ih =>
    intro s
    rw [fdG]
    by_cases e : a.1 = s
    · rw [if_pos e]
      exact ⟨(fun h => by cases h), fun h => absurd e (h a List.mem_cons_self)⟩
    · rw [if_neg e, Option.map_eq_none_iff, ih]
      exact ⟨fun h g hg => by
        rcases List.mem_cons.1 hg with q | q
        · rw [q]; exact e
        · exact h g q, fun h g hg => h g (List.mem_cons_of_mem _ hg)⟩
theorem fdG_lt {gs : List (ByteArray × List Nd)} {s : ByteArray} {k : Nat} (h : fdG gs s = some k) : k < gs.length := by
  obtain ⟨g, q, _⟩ := fdG_some h
  exact (List.getElem?_eq_some_iff.1 q).1
/-- A name changed in a node; in a grammar. -/
def reN (a b : ByteArray) (n : Nd) : Nd := if n.op = 6 ∧ n.tx = a then { n with tx := b } else n
def reG (gs : List (ByteArray × List Nd)) (r : Nat) (a b : ByteArray) : List (ByteArray × List Nd) := gs.mapIdx fun i g => (if i = r then b else g.1, g.2.map (reN a b))
theorem reN_op (a b : ByteArray) (n : Nd) : (reN a b n).op = n.op := by unfold reN; split <;> rfl
theorem reN_al {a b : ByteArray} (hb : nmB b = true) {n : Nd} (hn : alE n = 0) : alE (reN a b n) = alE n := by
  unfold reN
  split
  · rename_i h
    have h6 := h.1
    unfold alE fdF txF at hn ⊢
    dsimp only
    rw [h6] at hn ⊢
    rw [hn]
    have e4 : ¬ (6 : Int) = 4 := by decide
    rw [if_neg e4, if_pos rfl] at hn ⊢
    rw [hb, Bool.true_and]
    by_cases ha : ar 6 < 0
    · rw [if_pos ha] at hn; cases hn
    rw [if_neg ha] at hn ⊢
    by_cases q : (nuF 6 n.nn && seF 6 n.s0 n.s1 n.s2 n.s3) = true
    · rw [if_pos q]
    · exfalso
      rw [if_neg (by intro h; rw [Bool.and_assoc, Bool.and_eq_true] at h; exact q h.2)] at hn
      cases hn
  · rfl
/-- A grammar whose names are all different, and whose calls are all found. -/
structure Dn (gs : List (ByteArray × List Nd)) : Prop where
  d : ∀ (i j : Nat) (g h : ByteArray × List Nd), gs[i]? = some g → gs[j]? = some h → g.1 = h.1 → i = j
  c : ∀ g ∈ gs, ∀ n ∈ g.2, n.op = 6 → ∃ k, fdG gs n.tx = some k
theorem reG_get {gs : List (ByteArray × List Nd)} {r : Nat} {a b : ByteArray} (k : Nat) : (reG gs r a b)[k]? = (gs[k]?).map fun g => (if k = r then b else g.1, g.2.map (reN a b)) := by
  unfold reG
  rw [List.getElem?_mapIdx]
theorem reG_len {gs : List (ByteArray × List Nd)} {r : Nat} {a b : ByteArray} : (reG gs r a b).length = gs.length := by unfold reG; rw [List.length_mapIdx]
/-- A name found before is found behind the change, in the same place. -/
theorem reG_find {gs : List (ByteArray × List Nd)} {r : Nat} {a b : ByteArray} {g0 : ByteArray × List Nd} (hd : Dn gs) (hr : gs[r]? = some g0) (ha : g0.1 = a) (hb : ∀ (j : Nat) (h : ByteArray × List Nd), gs[j]? = some h → h.1 = b → j = r) {s : ByteArray} {k : Nat} (h : fdG gs s = some k) : fdG (reG gs r a b) (if s = a then b else s) = some k := by
  obtain ⟨g, q1, q2, q3⟩ := fdG_some h
  have hk : k = r ↔ s = a := ⟨fun e => by rw [e, hr] at q1; cases q1; rw [← q2, ha], fun e => hd.d k r g g0 q1 hr (by rw [q2, e, ha])⟩
  refine fdG_of (g := (if k = r then b else g.1, g.2.map (reN a b))) (by rw [reG_get, q1]; rfl) ?_ (fun j x hj hx => ?_)
  · show (if k = r then b else g.1) = _
    by_cases e : k = r
    · rw [if_pos e, if_pos (hk.1 e)]
    · rw [if_neg e, if_neg (fun q => e (hk.2 q)), q2]
  · rw [reG_get] at hx
    cases hj2 : gs[j]? with
    | none => rw [hj2] at hx; cases hx
    | some y =>
      rw [hj2] at hx
      have hx2 : x = (if j = r then b else y.1, y.2.map (reN a b)) := by simpa using hx.symm
      rw [hx2]
      show (if j = r then b else y.1) ≠ _
      by_cases e : s = a
      · have hkr := hk.2 e
        rw [if_pos e, if_neg (by omega)]
        exact fun q => by have := hb j y hj2 q; omega
      · rw [if_neg e]
        by_cases f : j = r
        · rw [if_pos f]
          intro q
          have := hb k g q1 (by rw [q2, ← q])
          exact e (hk.1 this)
        · rw [if_neg f]
          exact q3 j y hj hj2
/-- Which rule calls which. -/
def cG (gs : List (ByteArray × List Nd)) (i j : Nat) : Bool := match gs[i]? with
  | none => false
  | some g => g.2.any fun n => decide (n.op = 6) && decide (fdG gs n.tx = some j)
theorem reN_tx {a b : ByteArray} {n : Nd} (h : n.op = 6) : (reN a b n).tx = if n.tx = a then b else n.tx := by
  unfold reN
  by_cases e : n.tx = a
  · rw [if_pos ⟨h, e⟩, if_pos e]
  · rw [if_neg (fun q => e q.2), if_neg e]
theorem any_same {α : Type} {p q : α → Bool} : ∀ (l : List α), (∀ x ∈ l, p x = q x) → l.any p = l.any q := by
  intro l
  induction l with
  | nil => intro _; rfl
  | cons x r ih => intro h; rw [List.any_cons, List.any_cons, h x List.mem_cons_self, ih fun y hy => h y (List.mem_cons_of_mem _ hy)]
/-- A renamed grammar calls what it called. -/
theorem reG_calls {gs : List (ByteArray × List Nd)} {r : Nat} {a b : ByteArray} {g0 : ByteArray × List Nd} (hd : Dn gs) (hr : gs[r]? = some g0) (ha : g0.1 = a) (hb : ∀ (j : Nat) (h : ByteArray × List Nd), gs[j]? = some h → h.1 = b → j = r) (i j : Nat) : cG (reG gs r a b) i j = cG gs i j := by
  unfold cG
  rw [reG_get]
  cases hi : gs[i]? with
  | none => rfl
  | some g =>
    simp only [Option.map_some, List.any_map]
    refine any_same _ fun n hn => ?_
    simp only [Function.comp]
    by_cases h6 : n.op = 6
    · obtain ⟨k, hk⟩ := hd.c g (List.mem_of_getElem? hi) n hn h6
      rw [reN_op, reN_tx h6, reG_find hd hr ha hb hk, hk]
    · rw [reN_op, decide_eq_false h6, Bool.false_and, Bool.false_and]
/-- The other way round it is as it was. -/
theorem reG_back {gs : List (ByteArray × List Nd)} {r : Nat} {a b : ByteArray} {g0 : ByteArray × List Nd} (hd : Dn gs) (hr : gs[r]? = some g0) (ha : g0.1 = a) (hb : ∀ (j : Nat) (h : ByteArray × List Nd), gs[j]? = some h → h.1 = b → j = r) : reG (reG gs r a b) r b a = gs := by
  refine List.ext_getElem? fun k => ?_
  rw [reG_get, reG_get]
  cases hk : gs[k]? with
  | none => rfl
  | some g =>
    simp only [Option.map_some, List.map_map]
    have e1 : (if k = r then a else if k = r then b else g.1) = g.1 := by
      by_cases e : k = r
      · rw [if_pos e]
        rw [e, hr] at hk
        cases hk
        exact ha.symm
      · rw [if_neg e, if_neg e]
    have e2 : g.2.map (reN b a ∘ reN a b) = g.2 := by
      refine (List.map_congr_left fun n hn => ?_).trans (List.map_id _)
      show reN b a (reN a b n) = n
      by_cases h6 : n.op = 6
      · by_cases e : n.tx = a
        · have q : reN a b n = { n with tx := b } := by unfold reN; rw [if_pos ⟨h6, e⟩]
          rw [q]
          unfold reN
          rw [if_pos ⟨h6, rfl⟩, ← e]
        · have q : reN a b n = n := by unfold reN; rw [if_neg (fun q => e q.2)]
          rw [q]
          unfold reN
          rw [if_neg]
          rintro ⟨_, f⟩
          obtain ⟨m, hm⟩ := hd.c g (List.mem_of_getElem? hk) n hn h6
          obtain ⟨x, x1, x2, _⟩ := fdG_some hm
          have := hb m x x1 (by rw [x2, f])
          rw [this, hr] at x1
          cases x1
          exact e (by rw [← x2, ha])
      · have q : reN a b n = n := by unfold reN; rw [if_neg (fun q => h6 q.1)]
        rw [q]
        unfold reN
        rw [if_neg (fun q => h6 q.1)]
    rw [e1, e2]
end Go.Proofs.Ytppggnmlbcdegab.T

namespace Go.Proofs.Ytppggnmlbcdegab.T
theorem chn_mem (L : List Nd) : ∀ (st : List Pt) (k : Nat), Chn L k st → ∀ x ∈ st, x.2.1 < k ∧ x.1 ≤ x.2.1 ∧ x = pt L x.2.1 := by
  intro st
  induction st with
  | nil => intro k _ x hx; cases hx
  | cons y r ih =>
    intro k h x hx
    obtain ⟨h1, h2, h3, h4⟩ := h
    rcases List.mem_cons.1 hx with rfl | hx
    · exact ⟨by omega, h3, h2⟩
    · obtain ⟨a, b, c⟩ := ih y.1 h4 x hx
      exact ⟨by omega, b, c⟩
structure ErOk (L : List Nd) (k : Nat) (n : Nd) : Prop where
  al : alE n = 0
  ar : arN n.op ≤ (run L k).length
  ht : (pt L k).2.2 ≤ 60
theorem er_ok {L : List Nd} {k : Nat} {n : Nd} (hn : L[k]? = some n) (h : er L k = 0) : ErOk L k n := by
  rw [er_of hn] at h
  by_cases h1 : alE n ≠ 0
  · rw [if_pos h1] at h; exact absurd h h1
  rw [if_neg h1] at h
  by_cases h2 : (run L k).length < arN n.op
  · rw [if_pos h2] at h; cases h
  rw [if_neg h2] at h
  by_cases h3 : 60 < (pt L k).2.2
  · rw [if_pos h3] at h; cases h
  exact ⟨Classical.byContradiction h1, by omega, by omega⟩
theorem run_bd {L : List Nd} {k : Nat} (hk : k ≤ L.length) (h : ∀ j, j < k → er L j = 0) : ∀ x ∈ run L k, x.1 ≤ x.2.1 ∧ x.2.1 < k ∧ x.2.2 ≤ 60 ∧ x = pt L x.2.1 := by
  intro x hx
  obtain ⟨a, b, c⟩ := chn_mem L _ k (chn_run L k hk h) x hx
  have hn : L[x.2.1]? = some L[x.2.1] := List.getElem?_eq_getElem (by omega)
  have := (er_ok hn (h _ a)).ht
  rw [← c] at this
  exact ⟨b, a, this, c⟩
theorem run_len (L : List Nd) (k : Nat) : (run L k).length ≤ k := by
  induction k with
  | zero => exact Nat.le_refl _
  | succ k ih => rw [run_succ, List.length_cons, List.length_drop]; omega
theorem arN_of {n : Nd} (h : alE n = 0) : ((arN n.op : Nat) : Int) = ar n.op := by
  have := alE_ar h
  unfold arN
  omega
/-- The top of a stack, in the order of the list. -/
theorem rev_drop {α : Type} (st : List α) (a : Nat) (h : a ≤ st.length) : st.reverse.drop (st.length - a) = (st.take a).reverse := by
  rw [List.drop_reverse]
  congr 2
  omega
theorem rev_take {α : Type} (st : List α) (a : Nat) (h : a ≤ st.length) : st.reverse.take (st.length - a) = (st.drop a).reverse := by
  rw [List.take_reverse]
  congr 2
  omega
end Go.Proofs.Ytppggnmlbcdegab.T

namespace Go.Proofs.Ytppggnmlbcdegab.T
open Go.RowKit
abbrev GL : Type := List (ByteArray × List Nd)
/-- Has a rule ahead this name? -/
def tw (gs : GL) (s : ByteArray) (i : Nat) : Bool := match fdG gs s with
  | some k => decide (k < i)
  | none => false
def c1G (gs : GL) : Nat → Nat → GL → (Nat × Nat) × Int
  | _, _, [] => ((0, 0), 0)
  | i, m, g :: r => if ¬ (nmB g.1 = true ∨ (g.1.size = 0 ∧ gs.length = 1)) then ((i, 0), 6) else if tw gs g.1 i = true then ((i, 0), 80) else if (ck g.2).2 ≠ 0 then ((i, (ck g.2).1), (ck g.2).2) else if 2048 < m + g.2.length then ((i, 0), 2) else c1G gs (i + 1) (m + g.2.length) r
/-- The first node that calls what is not there. -/
def unN (gs : GL) : Nat → List Nd → Option Nat
  | _, [] => none
  | k, n :: r => if n.op = 6 ∧ fdG gs n.tx = none then some k else unN gs (k + 1) r
def unG (gs : GL) : Nat → GL → (Nat × Nat) × Int
  | _, [] => ((0, 0), 0)
  | i, g :: r => match unN gs 0 g.2 with
    | some k => ((i, k), 81)
    | none => unG gs (i + 1) r
/-- What Check answers of a grammar. -/
def ckG (gs : GL) : (Nat × Nat) × Int := if gs.length = 0 then ((0, 0), 3) else if 200 < gs.length then ((0, 0), 2) else if (c1G gs 0 0 gs).2 ≠ 0 then c1G gs 0 0 gs else unG gs 0 gs
theorem unN_none {gs : GL} : ∀ (l : List Nd) (k : Nat), unN gs k l = none ↔ ∀ n ∈ l, n.op = 6 → ∃ j, fdG gs n.tx = some j := by
  intro l
  induction l with
  | nil => intro k; exact ⟨(fun _ n h => by cases h), fun _ => rfl⟩
  | cons a r ih =>
    intro k
    rw [unN]
    by_cases h : a.op = 6 ∧ fdG gs a.tx = none
    · rw [if_pos h]
      refine ⟨(fun q => by cases q), fun q => ?_⟩
      obtain ⟨j, hj⟩ := q a List.mem_cons_self h.1
      rw [h.2] at hj
      cases hj
    · rw [if_neg h, ih]
      refine ⟨fun q n hn h6 => ?_, fun q n hn h6 => q n (List.mem_cons_of_mem _ hn) h6⟩
      rcases List.mem_cons.1 hn with e | e
      · subst e
        cases hf : fdG gs n.tx with
        | none => exact absurd ⟨h6, hf⟩ h
        | some j => exact ⟨j, rfl⟩
      · exact q n e h6
theorem unG_ok {gs : GL} : ∀ (l : GL) (i : Nat), (unG gs i l).2 = 0 ↔ ∀ g ∈ l, ∀ n ∈ g.2, n.op = 6 → ∃ j, fdG gs n.tx = some j := by
  intro l
  induction l with
  | nil => intro i; exact ⟨(fun _ g h => by cases h), fun _ => rfl⟩
  | cons a r ih =>
    intro i
    rw [unG]
    cases h : unN gs 0 a.2 with
    | some k =>
      refine ⟨(fun q => by cases q), fun q => ?_⟩
      have := (unN_none a.2 0).2 (q a List.mem_cons_self)
      rw [h] at this
      cases this
    | none =>
      show (unG gs (i + 1) r).2 = 0 ↔ _
      rw [ih]
      have h0 := (unN_none a.2 0).1 h
      refine ⟨fun q g hg => ?_, fun q g hg => q g (List.mem_cons_of_mem _ hg)⟩
      rcases List.mem_cons.1 hg with e | e
      · rw [e]; exact h0
      · exact q g e
theorem c1G_ok {gs : GL} : ∀ (l : GL) (i m : Nat), m ≤ 2048 → ((c1G gs i m l).2 = 0 ↔ (∀ (k : Nat) g, l[k]? = some g → (nmB g.1 = true ∨ (g.1.size = 0 ∧ gs.length = 1)) ∧ tw gs g.1 (i + k) = false ∧ (ck g.2).2 = 0) ∧ m + (l.map fun g => g.2.length).sum ≤ 2048) := by
  intro l
  induction l with
  | nil => intro i m hm; exact ⟨fun _ => ⟨(fun k g h => by cases h), hm⟩, fun _ => rfl⟩
  | cons a r ih =>
    intro i m hm
    rw [c1G]
    by_cases h1 : nmB a.1 = true ∨ (a.1.size = 0 ∧ gs.length = 1)
    · rw [if_neg (fun q => q h1)]
      by_cases h2 : tw gs a.1 i = true
      · rw [if_pos h2]
        refine ⟨(fun q => by cases q), fun q => ?_⟩
        have := (q.1 0 a rfl).2.1
        rw [Nat.add_zero, h2] at this
        cases this
      · rw [if_neg h2]
        by_cases h3 : (ck a.2).2 = 0
        · rw [if_neg (fun q => q h3)]
          by_cases h4 : 2048 < m + a.2.length
          · rw [if_pos h4]
            refine ⟨(fun q => by cases q), fun q => ?_⟩
            have := q.2
            rw [List.map_cons, List.sum_cons] at this
            omega
          · rw [if_neg h4, ih (i + 1) (m + a.2.length) (by omega), List.map_cons, List.sum_cons]
            refine ⟨fun q => ⟨fun k g hg => ?_, by omega⟩, fun q => ⟨fun k g hg => ?_, by omega⟩⟩
            · cases k with
              | zero =>
                cases hg
                exact ⟨h1, by rw [Nat.add_zero]; exact Bool.eq_false_iff.2 h2, h3⟩
              | succ k =>
                have := q.1 k g (by simpa using hg)
                rw [show i + 1 + k = i + (k + 1) from by omega] at this
                exact this
            · have := q.1 (k + 1) g (by simpa using hg)
              rw [show i + 1 + k = i + (k + 1) from by omega]
              exact this
        · rw [if_pos h3]
          refine ⟨fun q => absurd q h3, fun q => absurd (q.1 0 a rfl).2.2 h3⟩
    · rw [if_pos h1]
      exact ⟨(fun q => by cases q), fun q => absurd (q.1 0 a rfl).1 h1⟩
/-- A right grammar. -/
structure RtG (gs : GL) : Prop where
  n1 : 1 ≤ gs.length
  n2 : gs.length ≤ 200
  nm : ∀ g ∈ gs, nmB g.1 = true ∨ (g.1.size = 0 ∧ gs.length = 1)
  ck : ∀ g ∈ gs, (ck g.2).2 = 0
  sm : (gs.map fun g => g.2.length).sum ≤ 2048
  dn : Dn gs
theorem tw_iff {gs : GL} : (∀ (k : Nat) g, gs[k]? = some g → tw gs g.1 k = false) ↔ ∀ (i j : Nat) (g h : ByteArray × List Nd), gs[i]? = some g → gs[j]? = some h → g.1 = h.1 → i = j := by
  have hf : ∀ (k : Nat) g, gs[k]? = some g → ∃ j, fdG gs g.1 = some j ∧ j ≤ k := fun k g hg => by
    cases h : fdG gs g.1 with
    | none => exact absurd rfl (fdG_none.1 h g (List.mem_of_getElem? hg))
    | some j =>
      refine ⟨j, rfl, ?_⟩
      obtain ⟨_, _, _, q⟩ := fdG_some h
      apply Nat.le_of_not_lt
      intro hlt
      exact q k g hlt hg rfl
  constructor
  · intro h i j g x hg hx e
    have key : ∀ (k : Nat) y, gs[k]? = some y → fdG gs y.1 = some k := fun k y hy => by
      obtain ⟨m, h1, h2⟩ := hf k y hy
      have := h k y hy
      unfold tw at this
      rw [h1] at this
      have : ¬ m < k := by simpa using this
      rw [h1, show m = k from by omega]
    have a := key i g hg
    have b := key j x hx
    rw [e, b] at a
    cases a
    rfl
  · intro h k g hg
    obtain ⟨j, h1, h2⟩ := hf k g hg
    unfold tw
    rw [h1]
    obtain ⟨y, y1, y2, _⟩ := fdG_some h1
    have := h j k y g y1 hg y2
    subst this
    simp
theorem ckG_ok {gs : GL} : (ckG gs).2 = 0 ↔ RtG gs := by
  unfold ckG
  by_cases h0 : gs.length = 0
  · rw [if_pos h0]
    exact ⟨(fun q => by cases q), fun q => absurd h0 (by have := q.n1; omega)⟩
  rw [if_neg h0]
  by_cases h1 : 200 < gs.length
  · rw [if_pos h1]
    exact ⟨(fun q => by cases q), fun q => absurd h1 (by have := q.n2; omega)⟩
  rw [if_neg h1]
  have hc := c1G_ok (gs := gs) gs 0 0 (by omega)
  by_cases h2 : (c1G gs 0 0 gs).2 = 0
  · rw [if_neg (fun q => q h2), unG_ok]
    obtain ⟨q1, q2⟩ := hc.1 h2
    refine ⟨fun q => ⟨by omega, by omega, fun g hg => ?_, fun g hg => ?_, by omega, tw_iff.1 fun k g hg => ?_, q⟩, fun q => q.dn.c⟩
    · obtain ⟨k, hk⟩ := List.getElem?_of_mem hg
      exact (q1 k g hk).1
    · obtain ⟨k, hk⟩ := List.getElem?_of_mem hg
      exact (q1 k g hk).2.2
    · have := (q1 k g hg).2.1
      rw [Nat.zero_add] at this
      exact this
  · rw [if_pos h2]
    refine ⟨fun q => absurd q h2, fun q => absurd (hc.2 ⟨fun k g hg => ⟨q.nm g (List.mem_of_getElem? hg), ?_, q.ck g (List.mem_of_getElem? hg)⟩, by have := q.sm; omega⟩) h2⟩
    rw [Nat.zero_add]
    exact tw_iff.2 q.dn.d k g hg
theorem al_of {L : List Nd} (h : (ck L).2 = 0) : ∀ n ∈ L, alE n = 0 := fun n hn => by
  obtain ⟨k, hk⟩ := List.getElem?_of_mem hn
  exact (er_ok hk ((rt_of h).each k (List.getElem?_eq_some_iff.1 hk).1)).al
/-- A renamed grammar is right. -/
theorem reG_right {gs : GL} {r : Nat} {a b : ByteArray} {g0 : ByteArray × List Nd} (h : RtG gs) (hr : gs[r]? = some g0) (ha : g0.1 = a) (hn : nmB b = true) (hb : ∀ (j : Nat) (h : ByteArray × List Nd), gs[j]? = some h → h.1 = b → j = r) : RtG (reG gs r a b) := by
  have hm : ∀ x ∈ reG gs r a b, ∃ k g, gs[k]? = some g ∧ x = (if k = r then b else g.1, g.2.map (reN a b)) := fun x hx => by
    obtain ⟨k, hk⟩ := List.getElem?_of_mem hx
    rw [reG_get] at hk
    cases hg : gs[k]? with
    | none => rw [hg] at hk; cases hk
    | some g =>
      rw [hg] at hk
      exact ⟨k, g, hg, by simpa using hk.symm⟩
  refine ⟨by rw [reG_len]; exact h.n1, by rw [reG_len]; exact h.n2, fun x hx => ?_, fun x hx => ?_, ?_, ⟨fun i j x y hx hy e => ?_, fun x hx n hnx h6 => ?_⟩⟩
  · obtain ⟨k, g, hg, rfl⟩ := hm x hx
    show nmB (if k = r then b else g.1) = true ∨ _
    by_cases e : k = r
    · rw [if_pos e]; exact .inl hn
    · simp only [if_neg e, reG_len]
      exact h.nm g (List.mem_of_getElem? hg)
  · obtain ⟨k, g, hg, rfl⟩ := hm x hx
    have hc := h.ck g (List.mem_of_getElem? hg)
    show (ck (g.2.map (reN a b))).2 = 0
    rw [ck_map (fun n _ => reN_op a b n) (fun n hn2 => reN_al hn (al_of hc n hn2))]
    exact hc
  · have e : (reG gs r a b).map (fun g => g.2.length) = gs.map fun g => g.2.length := by
      refine List.ext_getElem? fun k => ?_
      rw [List.getElem?_map, List.getElem?_map, reG_get]
      cases gs[k]? with
      | none => rfl
      | some g => simp
    rw [e]
    exact h.sm
  · rw [reG_get] at hx hy
    cases hi : gs[i]? with
    | none => rw [hi] at hx; cases hx
    | some g =>
      cases hj : gs[j]? with
      | none => rw [hj] at hy; cases hy
      | some g' =>
        rw [hi] at hx
        rw [hj] at hy
        have ex : x = (if i = r then b else g.1, g.2.map (reN a b)) := by simpa using hx.symm
        have ey : y = (if j = r then b else g'.1, g'.2.map (reN a b)) := by simpa using hy.symm
        rw [ex, ey] at e
        have e : (if i = r then b else g.1) = (if j = r then b else g'.1) := e
        by_cases p : i = r
        · by_cases q : j = r
          · omega
          · rw [if_pos p, if_neg q] at e
            exact absurd (hb j g' hj e.symm) q
        · by_cases q : j = r
          · rw [if_neg p, if_pos q] at e
            exact absurd (hb i g hi e) p
          · rw [if_neg p, if_neg q] at e
            exact h.dn.d i j g g' hi hj e
  · obtain ⟨k, g, hg, rfl⟩ := hm x hx
    obtain ⟨m, hm1, rfl⟩ := List.mem_map.1 hnx
    rw [reN_op] at h6
    obtain ⟨j, hj⟩ := h.dn.c g (List.mem_of_getElem? hg) m hm1 h6
    exact ⟨j, by rw [reN_tx h6]; exact reG_find h.dn hr ha hb hj⟩
end Go.Proofs.Ytppggnmlbcdegab.T

namespace Go.Proofs.Ytppggnmlbcdegab.T
open Go.RowKit
theorem Below.grow {w w' : World} (hb : Below w.heap.size w w') (row : Option Nat) : w.grownBy w' row := ⟨hb.os, hb.tape, hb.output, hb.size, fun k hk _ => hb.block k hk⟩
theorem own_below {w w' : World} {base e size : Nat} {v : Value} {n : Nat} {xs : List Value} (h : w.ownsRow base e size v n xs) (hb : Below w.heap.size w w') : w'.ownsRow base e size v n xs := by
  refine h.kept (row := none) (Below.grow hb none) ?_
  cases h2 : v.ownBlock
  · exact .inl rfl
  · exact .inr (by simp)
theorem own_cut {w : World} {base e size g n cap : Nat} {xs : List Value} (h : w.ownsRow base e size (.slice (some ⟨g, 0, none⟩) n cap) n xs) {m : Nat} (hm : m ≤ n) : w.ownsRow base e size (.slice (some ⟨g, 0, none⟩) m cap) m (xs.take (m * size)) := by
  obtain ⟨h1, h2⟩ := h
  rcases h2 with ⟨h2, _⟩ | ⟨g', cap', cur, h3, h4, h5, h6, h7, h8, h9⟩
  · cases h2
  · cases h3
    have hmul : m * size ≤ n * size := Nat.mul_le_mul_right _ hm
    refine ⟨by rw [List.length_take]; omega, .inr ⟨g, cap, cur, rfl, h4, h5, by omega, h7, h8, ?_⟩⟩
    rw [← h9, List.take_take]
    congr 1
    omega

/-- All but some blocks stay. -/
structure Kp (X : Nat → Prop) (w w' : World) : Prop where
  os : w'.os = w.os
  tape : w'.tape = w.tape
  output : w'.output = w.output
  size : w.heap.size ≤ w'.heap.size
  block : ∀ b, b < w.heap.size → ¬ X b → w'.heap[b]? = w.heap[b]?
theorem own_kp {w w' : World} {X : Nat → Prop} {base e size : Nat} {v : Value} {n : Nat} {xs : List Value} (h : w.ownsRow base e size v n xs) (hk : Kp X w w') (hd : ∀ g, v.ownBlock = some g → ¬ X g) : w'.ownsRow base e size v n xs := by
  refine ⟨h.1, ?_⟩
  rcases h.2 with hn | ⟨g, cap, cur, rfl, hb, hgg, rest⟩
  · exact .inl hn
  · refine .inr ⟨g, cap, cur, rfl, hb, ?_, rest⟩
    rw [hk.block g (Array.getElem?_eq_some_iff.1 hgg).1 (hd g rfl)]
    exact hgg

theorem ptc_get (l : List Pt) (j : Nat) (p : Pt) (h : l[j]? = some p) : ∀ i, i < 3 → (ptc l)[j * 3 + i]? = (ptV p)[i]? := by
  induction l generalizing j with
  | nil => cases h
  | cons a l ih =>
    intro i hi
    have e : ptc (a :: l) = ptV a ++ ptc l := rfl
    rw [e]
    cases j with
    | zero =>
      cases h
      rw [Nat.zero_mul, Nat.zero_add, List.getElem?_append_left (by show i < 3; exact hi)]
    | succ j =>
      have h2 : l[j]? = some p := by simpa using h
      have e7 : (ptV a).length = 3 := rfl
      rw [List.getElem?_append_right (by rw [e7]; omega), e7, show (j + 1) * 3 + i - 3 = j * 3 + i from by omega]
      exact ih j h2 i hi
abbrev ptG (p : Pt) : Value := .agg #[.int .i64 p.1, .int .i64 p.2.1, .int .i64 p.2.2]
theorem info_parts {P : Program} {t : TypeId} {z : Option Value} {s b : Nat} (h : (P.info? t).map (fun i => (i.zero, i.size, i.bytes)) = some (z, s, b)) : ∃ i, P.info? t = some i ∧ i.zero = z ∧ i.size = s ∧ i.bytes = b := by
  cases hi : P.info? t with
  | none => rw [hi] at h; cases h
  | some i => rw [hi] at h; simp only [Option.map_some, Option.some.injEq, Prod.mk.injEq] at h; exact ⟨i, rfl, h.1, h.2.1, h.2.2⟩
theorem Try.info59 : (Try.prog.info? 71).map (fun i => (i.zero, i.size, i.bytes)) = some (some (.agg #[.int .i64 0, .int .i64 0, .int .i64 0]), 3, 24) := by kernel_rfl
theorem kp_below {X : Nat → Prop} {Bc : Nat} {w w4 wA : World} (h : Below Bc w w4) (hk : Kp X w4.drew wA) (hx : ∀ b, X b → Bc ≤ b) (hB : Bc ≤ w4.heap.size) : Below Bc w wA :=
  ⟨hk.os.trans h.drew.os, hk.tape.trans h.drew.tape, hk.output.trans h.drew.output, Nat.le_trans h.size hk.size, fun b hb => (hk.block b (Nat.lt_of_lt_of_le hb hB) (fun q => by have := hx b q; omega)).trans (h.block b hb)⟩
theorem own_drew {w : World} {base e size : Nat} {v : Value} {n : Nat} {xs : List Value} (h : w.ownsRow base e size v n xs) : w.drew.ownsRow base e size v n xs := own_below h ((Below.refl _ _).drew)
/-- What a function that is handed each node keeps to. -/
structure See (L : List Nd) (F : Nat) (caps : Array Value) (Bc B : Nat) (J : Nat → (Nat → Prop) → World → Prop) : Prop where
  kept : ∀ k X w w', J k X w → w.heap.size ≤ w'.heap.size → (∀ b, (b < B ∨ X b) → w'.heap[b]? = w.heap[b]?) → J k X w'
  far : ∀ k X w, J k X w → ∀ b, X b → Bc ≤ b ∧ b < w.heap.size
  call : ∀ k X w A c, J k X w → B ≤ w.heap.size → k < L.length → (∀ j, j ≤ k → er L j = 0) → RdP w A ((run L k).take (arN (opAt L k))).reverse → (∀ a, A = some a → ¬ X a.block) →
    Calls Try.prog F (#[ptG (pt L k), .slice A (arN (opAt L k)) c] ++ caps) w fun e w' => (∃ u, e = .returned u) ∧ ∃ X', J (k + 1) X' w' ∧ Kp X w w' ∧ ∀ b, X' b → X b ∨ w.heap.size ≤ b

structure AtT (L : List Nd) (J : Nat → (Nat → Prop) → World → Prop) (Bc : Nat) (w wr : World) (k : Nat) (X : Nat → Prop) (v : Value) : Prop where
  o : wr.ownsRow w.heap.size 71 3 v (run L k).length (ptc (run L k).reverse)
  j : J k X wr
  d : ∀ g, v.ownBlock = some g → ¬ X g
  b : Below Bc w wr
  e : ∀ j, j < k → er L j = 0
theorem AtT.below {L : List Nd} {F : Nat} {caps : Array Value} {J : Nat → (Nat → Prop) → World → Prop} {Bc : Nat} {w wr w2 : World} {k : Nat} {X : Nat → Prop} {v : Value} (h : AtT L J Bc w wr k X v) (hs : See L F caps Bc w.heap.size J) (hB : Bc ≤ w.heap.size) (hb : Below wr.heap.size wr w2) : AtT L J Bc w w2 k X v :=
  ⟨own_below h.o hb, hs.kept k X wr w2 h.j hb.size (fun b hx => hb.block b (by
    rcases hx with q | q
    · exact Nat.lt_of_lt_of_le q h.b.size
    · exact (hs.far _ _ _ h.j b q).2)), h.d, h.b.trans (hb.mono (Nat.le_trans hB h.b.size)), h.e⟩

set_option maxRecDepth 100000 in
set_option maxHeartbeats 16000000 in
theorem through_any (L : List Nd) (F : Nat) (caps : Array Value) (J : Nat → (Nat → Prop) → World → Prop) (Ap : Option Addr) (cp Bc : Nat) (hL : L.length ≤ 140737488355328) (hT : ∀ n ∈ L, n.tx.size ≤ 140737488355328) (w : World) (hB : Bc ≤ w.heap.size) (hp : RdN w Ap L) (hpb : L ≠ [] → ∀ a, Ap = some a → a.block < Bc) (he : ∀ args w, (callFunc F args).run Try.prog w = .ok (.enter F args) w) (hs : See L F caps Bc w.heap.size J) (X0 : Nat → Prop) (h0 : J 0 X0 w) :
    Calls Try.prog 25 #[.slice Ap L.length cp, .func (.func F) #[] caps] w fun e w' => e = .returned (.tuple #[.int .i64 (ck L).1, .int .i64 (ck L).2]) ∧ Below Bc w w' ∧ ∃ k X, J k X w' ∧ ((ck L).2 = 0 → k = L.length) := by
  by_cases hlong : 2048 < L.length
  · have HE := (show Hid (ck L = (0, 2)) from ck_long hlong)
    have z : (2048 : Int) < (L.length : Int) := by omega
    have HJ := (show Hid (J 0 X0 w) from h0)
    clear hT hp hpb hs h0 he
    go_enter Try.func25, Try.ntmps25
    go_wp2_with fail
    go_ret2
    exact ⟨by rw [HE.out]; rfl, Below.refl _ _, 0, X0, HJ.out, fun q => by rw [HE.out] at q; cases q⟩
  have z : ¬ (2048 : Int) < (L.length : Int) := by omega
  have HS := (show Hid (See L F caps Bc w.heap.size J) from hs)
  have HB := (show Hid (Bc ≤ w.heap.size) from hB)
  have HP := (show Hid (RdN w Ap L) from hp)
  have HPb := (show Hid (L ≠ [] → ∀ a, Ap = some a → a.block < Bc) from hpb)
  have HA := (show Hid (AtT L J Bc w w 0 X0 (.slice none 0 0)) from ⟨World.ownsRow_nil _ _ _ _, h0, fun g q => by simp [Value.ownBlock] at q, Below.refl _ _, fun j q => by omega⟩)
  have HG := (show Hid (∀ k, k < L.length → ∃ n, L[k]? = some n ∧ n.tx.size ≤ 140737488355328 ∧ L ≠ []) from fun k hk => ⟨_, List.getElem?_eq_getElem hk, hT _ (List.getElem_mem hk), by rintro rfl; simp at hk⟩)
  have HN := (show Hid (¬ 2048 < L.length) from hlong)
  clear hT hp hpb hs h0 hB hlong
  obtain ⟨i0, hinf, hz0, hz1, hz2⟩ := info_parts Try.info59
  go_enter Try.func25, Try.ntmps25
  go_wp2_with fail
  go_loopw [6, 17] (fun v t wr => ∃ k : Nat, ∃ X, k ≤ L.length ∧ t = .int .i64 k ∧ Hid (AtT L J Bc w wr k X v)) (fun _ t _ => L.length - (intOf t).toNat)
  case atStart => exact ⟨0, X0, by omega, by go_num, HA⟩
  case round =>
    obtain ⟨k, X, hk, rfl, HW⟩ := hrel
    clear HA
    by_cases hlt : k < L.length
    · obtain ⟨n, hn, htx, hne⟩ := HG.out k hlt
      obtain ⟨gp, op, rfl, lp, cl⟩ := HP.out hne
      have hgb := HPb.out hne _ rfl
      have HNn := (show Hid (L[k]? = some n) from hn)
      have HAl : Hid (∀ w, Calls Try.prog 29 #[ndG n] w fun e w' => e = .returned (.int .i64 (alE n)) ∧ Below w.heap.size w w') := fun w => alone_any n htx w
      have HAr : Hid (∀ w, Calls Try.prog 30 #[.int .i64 n.op] w fun e w' => e = .returned (.int .i64 (ar n.op)) ∧ w' = w) := fun w => arity_any n.op w
      obtain ⟨c0, c1, c2, c3, c4, c5, c6⟩ := (cl.same (HW.out.b.block gp hgb)) k n hn
      have z0 : (0 : Int) ≤ (k : Int) := by omega
      have z1 : (k : Int) < (L.length : Int) := by omega
      have HCl := (show Hid (NdL w gp op L) from cl)
      have HXlt := (show Hid (∀ b, X b → b < wr.heap.size) from fun b hb => (HS.out.far _ _ _ HW.out.j b hb).2)
      have hwr2 : wr.heap.size ≤ wr.heap.size := Nat.le_refl _
      clear hn hne cl HG
      go_wp2_with fail
      refine (HAl.out _).mono ?_
      rintro e w2 ⟨rfl, b2⟩
      clear HAl c0 c1 c2 c3 c4 c5 c6
      have HBox := (show Hid (NB w2 wr.heap.size 0 n) from (nb_new wr n).below b2)
      have HW2 := (show Hid (AtT L J Bc w w2 k X _) from HW.out.below HS.out HB.out ((below_box wr (ndO n)).trans (b2.mono (below_box _ _).size)))
      have hsz2 : wr.heap.size ≤ w2.heap.size := Nat.le_trans (below_box wr (ndO n)).size b2.size
      clear b2 HW hwr2
      have hJn := HN.out
      by_cases hal : alE n = 0
      · have ta : (alE n != 0) = false := by rw [hal]; rfl
        have hrn := arN_of hal
        have HQ : Hid (er L k = if (run L k).length < arN n.op then 42 else if 60 < (pt L k).2.2 then 4 else 0) := (by show er L k = _; rw [er_of HNn.out, if_neg (by rw [hal]; simp)])
        have hlen := run_len L k
        have har := ar_hi n.op
        obtain ⟨A, cA, hv, hAo⟩ : ∃ A c, u6 = .slice A (run L k).length c ∧ (A = none ∧ run L k = [] ∧ c = 0 ∨ ∃ g, A = some ⟨g, 0, none⟩ ∧ g < w2.heap.size ∧ (run L k).length ≤ c) := by
          rcases HW2.out.o.2 with ⟨q1, q2⟩ | ⟨g, cap, cur, q1, q2, q3, q4, _⟩
          · exact ⟨none, 0, by rw [q1, q2], .inl ⟨rfl, List.eq_nil_of_length_eq_zero q2, rfl⟩⟩
          · exact ⟨_, cap, q1, .inr ⟨g, rfl, (Array.getElem?_eq_some_iff.1 q3).1, q4⟩⟩
        subst hv
        have b0 := HBox.out.c0
        rw [← hrn] at HAr
        rw [← hrn] at har
        generalize hrl : (run L k).length = m at *
        have HRl := (show Hid ((run L k).length = m) from hrl)
        have HAo := (show Hid _ from hAo)
        clear hAo hal hrl hrn
        generalize alE n = ea at *
        by_cases hfew : m < arN n.op
        · have HE := (show Hid (ck L = (k, 42)) from (by
            show ck L = _
            have e : er L k = 42 := by rw [HQ.out, if_pos hfew]
            rw [ck_bad hJn hlt HW2.out.e (by rw [e]; decide), e]))
          have zf : decide ((m : Int) - (arN n.op : Int) < 0) = true := decide_eq_true (by omega)
          have HBb := (show Hid (Below Bc w w2) from HW2.out.b)
          have HJ := (show Hid (J k X w2) from HW2.out.j)
          clear HQ HW2 HNn HS HB HP HPb HN HRl HAo
          go_wp2_with fail
          refine (HAr.out _).mono ?_
          rintro e w2 ⟨rfl, rfl⟩
          clear HAr HBox
          generalize arN n.op = aa at *
          go_wp2_with fail
          go_ret2
          exact ⟨by rw [HE.out]; rfl, HBb.out, k, X, HJ.out, fun q => by rw [HE.out] at q; cases q⟩
        · obtain ⟨r, hr⟩ : ∃ r, r + arN n.op = m := ⟨m - arN n.op, by omega⟩
          have HM := (show Hid (er L k = if 60 < (pt L k).2.2 then 4 else 0) from (by show er L k = _; rw [HQ.out, if_neg hfew]))
          have hrd := run_bd hk HW2.out.e
          obtain ⟨xs, hxs⟩ : ∃ xs, ((run L k).take (arN n.op)).reverse = xs := ⟨_, rfl⟩
          have hxl : xs.length = arN n.op := by rw [← hxs, List.length_reverse, List.length_take, HRl.out]; omega
          have hxb : ∀ x ∈ xs, x.1 ≤ 2048 ∧ x.2.1 < L.length ∧ x.2.2 ≤ 100 := fun x hx => by
            rw [← hxs] at hx
            obtain ⟨q1, q2, q3, _⟩ := hrd x (List.mem_of_mem_take (List.mem_reverse.1 hx))
            exact ⟨by omega, by omega, by omega⟩
          have hpm : pw L k n.op xs xs.length = pt L k := by
            rw [hxl, ← hxs, pw_mk L k n.op (run L k) (by rw [HRl.out]; omega)]
            unfold pt
            rw [op_of HNn.out]
          obtain ⟨A2, hA2, hA2r, hA2b⟩ : ∃ A2, (if cA = r then A else Option.map (fun x => x.add (r * 3)) A) = A2 ∧ RdP w2 A2 xs ∧ ∀ a, A2 = some a → ¬ X a.block ∧ a.block < w2.heap.size := by
            refine ⟨_, rfl, ?_, ?_⟩
            · intro hx0
              have ha0 : 0 < arN n.op := by rw [← hxl]; exact List.length_pos_iff.2 hx0
              rcases HAo.out with ⟨q1, q2, q3⟩ | ⟨g, q1, q2, q3⟩
              · have := HRl.out; rw [q2] at this; simp at this; omega
              · have hc : ¬ cA = r := by omega
                rw [if_neg hc, q1]
                refine ⟨g, r * 3, by rw [Option.map_some, Addr.add_lit, Nat.zero_add], q2, ?_⟩
                intro j p hj
                have hcl := HW2.out.o.cells (g := g) (by rw [q1]; rfl)
                have hj2 : (run L k).reverse[r + j]? = some p := by
                  have := rev_drop (run L k) (arN n.op) (by rw [HRl.out]; omega)
                  rw [hxs, HRl.out, show m - arN n.op = r from by omega] at this
                  rw [← this, List.getElem?_drop] at hj
                  exact hj
                have key : ∀ i u, i < 3 → (ptV p)[i]? = some u → w2.cell? ⟨g, (r + j) * 3 + i, none⟩ = some u := fun i u hi hu => by
                  have := hcl ((r + j) * 3 + i) u (by rw [ptc_get _ _ _ hj2 i hi]; exact hu)
                  rwa [Addr.add_lit, Nat.zero_add] at this
                have e3 : r * 3 + j * 3 = (r + j) * 3 := by omega
                rw [e3]
                exact ⟨key 0 _ (by omega) rfl, key 1 _ (by omega) rfl, key 2 _ (by omega) rfl⟩
            · intro a ha
              rcases HAo.out with ⟨q1, q2, q3⟩ | ⟨g, q1, q2, q3⟩
              · rw [q1] at ha; split at ha <;> cases ha
              · rw [q1] at ha
                have hX := HW2.out.d g (by rw [q1]; rfl)
                split at ha
                · cases ha; exact ⟨hX, q2⟩
                · rw [Option.map_some, Addr.add_lit] at ha; cases ha; exact ⟨hX, q2⟩
          have HAb : Hid (∀ W, Below w2.heap.size w2 W → Calls Try.prog 31 #[.slice (some ⟨gp, op, none⟩) L.length cp, .int .i64 k, .slice A2 (arN n.op) (cA - r)] W fun e w' => e = .returned (ptG (pt L k)) ∧ Below W.heap.size W w') := fun W hW => by
            have h := above_any L (some ⟨gp, op, none⟩) cp k n HNn.out (by omega) A2 (cA - r) xs (by rw [hxl]; exact arN_le _) hxb W (fun _ => ⟨gp, op, rfl, Nat.lt_of_lt_of_le lp (Nat.le_trans HW2.out.b.size hW.size), (HCl.out.same (HW2.out.b.block gp hgb)).same (hW.block gp (Nat.lt_of_lt_of_le lp HW2.out.b.size))⟩) (hA2r.below hW (Nat.le_refl _))
            rw [hxl] at h
            rw [hxl] at hpm
            rw [hpm] at h
            exact h
          have HR2 := (show Hid (RdP w2 A2 xs ∧ ∀ a, A2 = some a → ¬ X a.block ∧ a.block < w2.heap.size) from ⟨hA2r, hA2b⟩)
          have HX := (show Hid (((run L k).take (arN n.op)).reverse = xs) from hxs)
          clear hA2r hA2b hxs hxb hrd hpm HQ hfew hxl
          have hsub : (m : Int) - (arN n.op : Int) = (r : Int) := by omega
          have hmr : m - r = arN n.op := by omega
          have zr : (r : Int) ≤ (m : Int) := by omega
          go_wp2_with fail
          refine (HAr.out _).mono ?_
          rintro e w2 ⟨rfl, rfl⟩
          clear HAr
          have HOp := (show Hid (opAt L k = n.op) from op_of HNn.out)
          have HAx := (show Hid (arN n.op ≤ 2 ∧ r + arN n.op = m) from ⟨arN_le _, hr⟩)
          clear hr
          generalize haa : arN n.op = aa at *
          have HAa := (show Hid (arN n.op = aa) from haa)
          clear haa
          go_wp2_with fail
          refine (HAb.out _ (Below.refl _ _)).mono ?_
          rintro e w3 ⟨rfl, b3⟩
          have hsz3 : w2.heap.size ≤ w3.heap.size := b3.size
          clear HAb
          have HB3 := (show Hid (Below w2.heap.size w2 (w3.alloc (.cells #[.int .i64 (pt L k).1, .int .i64 (pt L k).2.1, .int .i64 (pt L k).2.2] 71))) from b3.alloc b3.size _)
          have HP3 := (show Hid (PB (w3.alloc (.cells #[.int .i64 (pt L k).1, .int .i64 (pt L k).2.1, .int .i64 (pt L k).2.2] 71)) w3.heap.size (pt L k).1 (pt L k).2.1 (pt L k).2.2) from PB.new _ _ _ _)
          by_cases hd : 60 < (pt L k).2.2
          · have HE := (show Hid (ck L = (k, 4)) from (by
              show ck L = _
              have e : er L k = 4 := by rw [HM.out, if_pos hd]
              rw [ck_bad hJn hlt HW2.out.e (by rw [e]; decide), e]))
            have zd : (60 : Int) < ((pt L k).2.2 : Int) := by omega
            have HBb := (show Hid (Below Bc w (w3.alloc (.cells #[.int .i64 (pt L k).1, .int .i64 (pt L k).2.1, .int .i64 (pt L k).2.2] 71))) from HW2.out.b.trans (HB3.out.mono (Nat.le_trans HB.out HW2.out.b.size)))
            have HJ := (show Hid (J k X (w3.alloc (.cells #[.int .i64 (pt L k).1, .int .i64 (pt L k).2.1, .int .i64 (pt L k).2.2] 71))) from (HW2.out.below HS.out HB.out HB3.out).j)
            clear HW2 HNn HS HB HP HPb HN HRl HAo HBox HB3 HP3 HM HR2 HX HOp HAx HAa b0 b3 HCl hA2 hmr hd
            generalize pt L k = P at *
            go_wp2_with fail
            go_ret2
            exact ⟨by rw [HE.out]; rfl, HBb.out, k, X, HJ.out, fun q => by rw [HE.out] at q; cases q⟩
          · have HE0 := (show Hid (er L k = 0) from (by show er L k = _; rw [HM.out, if_neg hd]))
            have zd : ¬ (60 : Int) < ((pt L k).2.2 : Int) := by omega
            have HW3 := (show Hid (AtT L J Bc w _ k X _) from HW2.out.below HS.out HB.out HB3.out)
            have HR3 := (show Hid (RdP (w3.alloc (.cells #[.int .i64 (pt L k).1, .int .i64 (pt L k).2.1, .int .i64 (pt L k).2.2] 71)) A2 xs) from HR2.out.1.below HB3.out (Nat.le_refl _))
            have HD3 := (show Hid (∀ a, A2 = some a → ¬ X a.block) from fun a ha => (HR2.out.2 a ha).1)
            clear HR2 HM HNn HP HPb HCl b3 HW2
            have HPt := (show Hid (run L (k + 1) = pt L k :: (run L k).drop aa) from by show run L (k + 1) = _; rw [run_succ, HOp.out, HAa.out])
            have HCall : Hid (∀ W, Below (w3.alloc (.cells #[.int .i64 (pt L k).1, .int .i64 (pt L k).2.1, .int .i64 (pt L k).2.2] 71)).heap.size (w3.alloc (.cells #[.int .i64 (pt L k).1, .int .i64 (pt L k).2.1, .int .i64 (pt L k).2.2] 71)) W →
                Calls Try.prog F (#[ptG (pt L k), .slice A2 aa (cA - r)] ++ caps) W fun e w' => (∃ u, e = .returned u) ∧ ∃ X', J (k + 1) X' w' ∧ Kp X W w' ∧ ∀ b, X' b → X b ∨ W.heap.size ≤ b) := fun W hW => by
              have hat := HW3.out.below HS.out HB.out hW
              have h := HS.out.call k X W A2 (cA - r) hat.j hat.b.size hlt (fun j hj => by
                by_cases q : j < k
                · exact hat.e j q
                · obtain rfl : j = k := by omega
                  exact HE0.out) (by rw [HOp.out, HAa.out, HX.out]; exact HR3.out.below hW (Nat.le_refl _)) HD3.out
              rw [HOp.out, HAa.out] at h
              exact h
            have k0 := HP3.out.c0
            have k1 := HP3.out.c1
            have k2 := HP3.out.c2
            generalize hw4 : w3.alloc (.cells #[.int .i64 (pt L k).1, .int .i64 (pt L k).2.1, .int .i64 (pt L k).2.2] 71) = w4 at *
            clear HB3
            have HKb := (show Hid (∀ W, Kp X w4.drew W → PB W w3.heap.size (pt L k).1 (pt L k).2.1 (pt L k).2.2) from fun W hW => HP3.out.same (hW.block _ HP3.out.lt (fun q => by have := HXlt.out _ q; omega)))
            go_wp2_with fail
            go_region_held3 (fun W => W.cell? ⟨w3.heap.size, 0, none⟩ = some (.int .i64 (pt L k).1) ∧ W.cell? ⟨w3.heap.size, 1, none⟩ = some (.int .i64 (pt L k).2.1) ∧ W.cell? ⟨w3.heap.size, 2, none⟩ = some (.int .i64 (pt L k).2.2))
              (first | go_keep | exact ⟨(HKb.out _ hkp).c0, (HKb.out _ hkp).c1, (HKb.out _ hkp).c2⟩)
              ((with_reducible refine (HCall.out _ ((Below.refl _ _).drew)).mono ?_; rintro e wA ⟨⟨u, rfl⟩, X', hj, hkp, hx⟩))
            rename_i hHeld
            have HOw := (show Hid (wA.ownsRow w.heap.size 71 3 (.slice A m cA) m (ptc (run L k).reverse)) from own_kp (own_drew (by have ho := HW3.out.o; rw [HRl.out] at ho; exact ho)) hkp HW3.out.d)
            have HXx := (show Hid (∀ g, (Value.slice A m cA).ownBlock = some g → w.heap.size ≤ g ∧ g < wA.heap.size ∧ ¬ X' g) from fun g hg => by
              obtain ⟨q1, q2⟩ := HOw.out.lt g hg
              refine ⟨q1, q2, fun q => ?_⟩
              rcases hx g q with q | q
              · exact HW3.out.d g hg q
              · have := (HW3.out.o.lt g hg).2
                have e : w4.drew.heap.size = w4.heap.size := rfl
                omega)
            have HBA := (show Hid (Below Bc w wA) from kp_below HW3.out.b hkp (fun b q => (HS.out.far _ _ _ HW3.out.j b q).1) (Nat.le_trans HB.out HW3.out.b.size))
            have HPA := (show Hid (PB wA w3.heap.size (pt L k).1 (pt L k).2.1 (pt L k).2.2) from HKb.out _ hkp)
            have HJA := (show Hid (J (k + 1) X' wA) from hj)
            have HEe := (show Hid (∀ j, j < k + 1 → er L j = 0) from fun j hj => by
                by_cases q : j < k
                · exact HW3.out.e j q
                · obtain rfl : j = k := by omega
                  exact HE0.out)
            have HOc : Hid (wA.ownsRow w.heap.size 71 3 (.slice A r cA) r (ptc ((run L k).drop aa).reverse)) := by
              show wA.ownsRow _ _ _ _ _ _
              have hre := rev_take (run L k) aa (by rw [HRl.out]; omega)
              rw [HRl.out, show m - aa = r from by omega] at hre
              have hpt : (ptc (run L k).reverse).take (r * 3) = ptc ((run L k).drop aa).reverse := by
                rw [← hre]
                have e := ptc_append ((run L k).reverse.take r) ((run L k).reverse.drop r)
                rw [List.take_append_drop] at e
                rw [e, List.take_append_of_le_length (by rw [ptc_len, List.length_take, List.length_reverse, HRl.out]; omega)]
                exact List.take_of_length_le (by rw [ptc_len, List.length_take, List.length_reverse, HRl.out]; omega)
              rcases HAo.out with ⟨q1, q2, q3⟩ | ⟨g, q1, q2, q3⟩
              · have hm0 : m = 0 := by have := HRl.out; rw [q2] at this; simpa using this.symm
                have hr0 : r = 0 := by omega
                rw [q1, q2, q3, hr0]
                exact ⟨by simp [ptc], .inl ⟨rfl, rfl⟩⟩
              · have ho := HOw.out
                rw [q1] at ho ⊢
                have := own_cut ho (m := r) (by omega)
                rw [hpt] at this
                exact this
            clear hHeld hkp hx hj HKb HCall HW3 HOw HR3 HD3 HP3 HE0 HX hA2 hmr k0 k1 k2 hw4 HBox b0
            have zc : (r : Int) ≤ (cA : Int) := by
              rcases HAo.out with ⟨q1, q2, q3⟩ | ⟨g, q1, q2, q3⟩
              · have := HRl.out; rw [q2] at this; have hm0 : m = 0 := by simpa using this.symm
                omega
              · omega
            have hra : (if cA = 0 then A else Option.map (fun x => x.add 0) A) = A := by
              rcases HAo.out with ⟨q1, q2, q3⟩ | ⟨g, q1, q2, q3⟩
              · rw [q1]; split <;> rfl
              · rw [q1]; split
                · rfl
                · rw [Option.map_some, Addr.add_lit]
            have hrm : r ≤ 2048 := by omega
            have hO := HOc.out
            have hbs := HBA.out.size
            have k0 := HPA.out.c0
            have k1 := HPA.out.c1
            have k2 := HPA.out.c2
            have HK := (show Hid (∀ W, (wA.alloc (.cells #[.int .i64 (pt L k).1, .int .i64 (pt L k).2.1, .int .i64 (pt L k).2.2] 71)).drew.grownBy W (Value.slice A r cA).ownBlock → W.cell? ⟨w3.heap.size, 0, none⟩ = some (.int .i64 (pt L k).1) ∧ W.cell? ⟨w3.heap.size, 1, none⟩ = some (.int .i64 (pt L k).2.1) ∧ W.cell? ⟨w3.heap.size, 2, none⟩ = some (.int .i64 (pt L k).2.2)) from fun W hW => by
              have hne : some w3.heap.size ≠ (Value.slice A r cA).ownBlock := by
                rcases HAo.out with ⟨q1, q2, q3⟩ | ⟨g, q1, q2, q3⟩
                · rw [q1]; simp [Value.ownBlock]
                · rw [q1]; intro e
                  have e2 : w3.heap.size = g := Option.some.inj e
                  omega
              have hp := (HPA.out.alloc (.cells #[.int .i64 (pt L k).1, .int .i64 (pt L k).2.1, .int .i64 (pt L k).2.2] 71))
              have hp2 : PB W w3.heap.size (pt L k).1 (pt L k).2.1 (pt L k).2.2 := hp.same ((hW.block _ hp.lt hne))
              exact ⟨hp2.c0, hp2.c1, hp2.c2⟩)
            go_wp2_with fail
            go_region_held3 (fun W => W.cell? ⟨w3.heap.size, 0, none⟩ = some (.int .i64 (pt L k).1) ∧ W.cell? ⟨w3.heap.size, 1, none⟩ = some (.int .i64 (pt L k).2.1) ∧ W.cell? ⟨w3.heap.size, 2, none⟩ = some (.int .i64 (pt L k).2.2)) (first | go_keep | exact HK.out _ hgrow) ((refine step_append_lies _ (by rfl) _ _ _ (by rfl) w.heap.size 71 i0 _ 3 24 Try.underlying72 hinf hz0 hz1 hz2 rfl (by omega) _ _ (ptc ((run L k).drop aa).reverse) (by rfl) ((hO.alloc _).drew) ⟨wA.heap.size, 0, none⟩ 1 1 [.int .i64 (pt L k).1, .int .i64 (pt L k).2.1, .int .i64 (pt L k).2.2] (by rfl) (by rfl) (World.news_of_block (cs := #[.int .i64 (pt L k).1, .int .i64 (pt L k).2.1, .int .i64 (pt L k).2.2]) (t := 71) (fr := (0, 0)) (heap_alloc_new wA _)) (by simp [Value.oneCell']) (by omega) (by unfold maxLen; omega) (by omega) (by simp; omega) (wA.heap.size + 1) (by simp) ?_; intro g cap w5 hown1 hgrow hat hltg))
            all_goals
              have hob : (Value.slice A r cA).ownBlock = (Value.slice A m cA).ownBlock := by cases A <;> rfl
              rw [hob] at hgrow hat
              have hfar := HS.out.far _ _ _ HJA.out
              have HW5 := (show Hid (AtT L J Bc w w5 (k + 1) X' (.slice (some ⟨g, 0, none⟩) (r + 1) cap)) from (by
                have hrn : (run L (k + 1)).length = r + 1 := by rw [HPt.out, List.length_cons, List.length_drop, HRl.out]; omega
                have hg0 : ∀ j, (Value.slice A m cA).ownBlock = some j → w.heap.size ≤ j := fun j e => (HXx.out j e).1
                refine ⟨?_, ?_, ?_, ?_, HEe.out⟩
                · rw [hrn, HPt.out, List.reverse_cons, ptc_append]
                  exact hown1
                · refine HS.out.kept (k + 1) X' wA w5 HJA.out (Nat.le_trans (by simp) hgrow.size) (fun b hb => ?_)
                  have hlt : b < wA.heap.size := by
                    rcases hb with hb | hb
                    · omega
                    · exact (hfar b hb).2
                  have h1 := hgrow.block b (by show b < (wA.alloc (.cells #[.int .i64 (pt L k).1, .int .i64 (pt L k).2.1, .int .i64 (pt L k).2.2] 71)).heap.size; rw [World.size_alloc]; omega) (by
                    intro e
                    have h3 := HXx.out b e.symm
                    rcases hb with hb | hb
                    · omega
                    · exact h3.2.2 hb)
                  exact h1.trans ((below_box wA _).block b hlt)
                · intro j e q
                  have e2 : g = j := Option.some.inj e
                  subst e2
                  rcases hat with hat | hat
                  · exact (HXx.out g hat).2.2 q
                  · have := (hfar g q).2; omega
                · exact ((HBA.out.alloc (Nat.le_trans HB.out hbs) (.cells #[.int .i64 (pt L k).1, .int .i64 (pt L k).2.1, .int .i64 (pt L k).2.2] 71)).drew).grown hgrow (Nat.le_trans HB.out (Nat.le_trans hbs (below_box wA (.cells #[.int .i64 (pt L k).1, .int .i64 (pt L k).2.1, .int .i64 (pt L k).2.2] 71)).size)) (fun j e => Nat.le_trans HB.out (hg0 j e))))
              rename_i hHeld
              clear hHeld hown1 hgrow hat hltg hO HK hfar hob k0 k1 k2 HPA HJA HXx HOc HBA HEe hra zc HAo
              go_wp2_with fail
              go_roundw
              case rel => exact ⟨k + 1, X', by omega, by go_num, HW5⟩
              case measure => simp [intOf]; omega
      · have HE := (show Hid (ck L = (k, alE n)) from (by
          show ck L = _
          have e : er L k = alE n := by rw [er_of HNn.out, if_pos hal]
          rw [ck_bad hJn hlt HW2.out.e (by rw [e]; exact hal), e]))
        have ta : (alE n != 0) = true := by rw [bne, beq_eq_false_iff_ne.2 hal]; rfl
        have HBb := (show Hid (Below Bc w w2) from HW2.out.b)
        have HJ := (show Hid (J k X w2) from HW2.out.j)
        clear HW2 HNn HS HB HP HPb HN HBox HAr
        have HH := (show Hid (¬ alE n = 0) from hal)
        clear hal
        generalize alE n = ea at *
        go_wp2_with fail
        go_ret2
        exact ⟨by rw [HE.out]; rfl, HBb.out, k, X, HJ.out, fun q => by rw [HE.out] at q; exact absurd q HH.out⟩
    · obtain rfl : k = L.length := by omega
      have HE := (show Hid (ck L = if (run L L.length).length = 1 then (0, 0) else (L.length, 42)) from ck_end HN.out HW.out.e)
      obtain ⟨A, cA, hv⟩ : ∃ A c, u6 = .slice A (run L L.length).length c := by
        rcases HW.out.o.2 with ⟨q1, q2⟩ | ⟨g, cap, cur, q1, q2, q3, q4, _⟩
        · exact ⟨none, 0, by rw [q1, q2]⟩
        · exact ⟨_, cap, q1⟩
      subst hv
      have HJ := (show Hid (J L.length X wr) from HW.out.j)
      have HBw := (show Hid (Below Bc w wr) from HW.out.b)
      clear HW HS HB HP HPb HG HN
      generalize (run L L.length).length = m at *
      by_cases h1 : m = 1
      · have t1 : ((m : Int) != 1) = false := by rw [bne, beq_iff_eq.2 (by omega)]; rfl
        have HE2 := (show Hid (ck L = (0, 0)) from by show ck L = _; rw [HE.out, if_pos h1])
        clear h1 HE
        go_wp2_with fail
        go_ret2
        exact ⟨by rw [HE2.out]; rfl, HBw.out, L.length, X, HJ.out, fun _ => rfl⟩
      · have t1 : ((m : Int) != 1) = true := by rw [bne, beq_eq_false_iff_ne.2 (by omega)]; rfl
        have HE2 := (show Hid (ck L = (L.length, 42)) from by show ck L = _; rw [HE.out, if_neg h1])
        clear h1 HE
        go_wp2_with fail
        go_ret2
        exact ⟨by rw [HE2.out]; rfl, HBw.out, L.length, X, HJ.out, fun _ => rfl⟩
end Go.Proofs.Ytppggnmlbcdegab.T

namespace Go.Proofs.Ytppggnmlbcdegab.T
open Go.RowKit
def decNd (a b:Nd):Decidable (a = b):=if h:a.op = b.op ∧ a.nn = b.nn ∧ a.tx.data = b.tx.data ∧ a.s0 = b.s0 ∧ a.s1 = b.s1 ∧ a.s2 = b.s2 ∧ a.s3 = b.s3 then isTrue (by
  obtain ⟨h1,h2,h3,h4,h5,h6,h7⟩ := h
  obtain ⟨a1,a2,⟨a3⟩,a4,a5,a6,a7⟩ := a
  obtain ⟨b1,b2,⟨b3⟩,b4,b5,b6,b7⟩ := b
  dsimp only at h1 h2 h3 h4 h5 h6 h7
  subst h1 h2 h3 h4 h5 h6 h7
  rfl) else isFalse (fun e => h (by rw [e];exact ⟨rfl,rfl,rfl,rfl,rfl,rfl,rfl⟩))
def decPt (L M:List Nd):Decidable (L = M):=@instDecidableEqList Nd decNd L M
def patB (L M:List Nd):Bool:=@decide (L = M) (decPt L M)
theorem patB_t {L M : List Nd} (hl : L.length = M.length) (h : ∀ j : Nat, j < L.length → L[j]? = M[j]?) : patB L M = true := by
  unfold patB
  refine @decide_eq_true _ (decPt _ _) (List.ext_getElem? fun j => ?_)
  by_cases q : j < L.length
  · exact h j q
  · rw [List.getElem?_eq_none (by omega), List.getElem?_eq_none (by omega)]
theorem patB_f {L M : List Nd} (j : Nat) (h : L[j]? ≠ M[j]?) : patB L M = false := by
  unfold patB
  exact @decide_eq_false _ (decPt _ _) (fun e => h (by rw [e]))
theorem patB_ne {L M : List Nd} (h : ¬ L.length = M.length) : patB L M = false := by
  unfold patB
  exact @decide_eq_false _ (decPt _ _) (fun e => h (by rw [e]))
theorem patB_refl (L : List Nd) : patB L L = true := by
  unfold patB
  exact @decide_eq_true _ (decPt _ _) rfl

set_option maxRecDepth 100000 in
set_option maxHeartbeats 8000000 in
theorem equal_any (A1 A2 : Option Addr) (c1 c2 : Nat) (L M : List Nd) (hl : L.length ≤ 140737488355328) (hm : M.length ≤ 140737488355328) (w : World) (h1 : RdN w A1 L) (h2 : RdN w A2 M) :
    Calls Try.prog 24 #[.slice A1 L.length c1, .slice A2 M.length c2] w fun e w' => e = .returned (.bool (patB L M)) ∧ Below w.heap.size w w' := by
  by_cases hne : L.length = M.length
  · have t0 : ((L.length : Int) != (M.length : Int)) = false := by rw [bne, beq_iff_eq.2 (by omega)]; rfl
    have HT := (show Hid ((∀ j : Nat, j < L.length → L[j]? = M[j]?) → patB L M = true) from fun h => patB_t hne h)
    have HF := (show Hid (∀ j : Nat, L[j]? ≠ M[j]? → patB L M = false) from fun j h => patB_f j h)
    have H1 := (show Hid _ from h1)
    have H2 := (show Hid _ from h2)
    have HG := (show Hid (∀ k, k < L.length → ∃ m n, L[k]? = some m ∧ M[k]? = some n ∧ L ≠ [] ∧ M ≠ []) from fun k hk => ⟨_, _, List.getElem?_eq_getElem hk, List.getElem?_eq_getElem (by omega), by rintro rfl; simp at hk, by rintro rfl; rw [hne] at hk; simp at hk⟩)
    have hle : (L.length : Int) = (M.length : Int) := by omega
    clear h1 h2 hne
    go_enter Try.func24, Try.ntmps24
    go_wp2_with fail
    go_loopw [13] (fun t wr => ∃ k : Nat, k ≤ L.length ∧ t = .int .i64 k ∧ Hid (∀ j : Nat, j < k → L[j]? = M[j]?) ∧ Hid (Below w.heap.size w wr)) (fun t _ => L.length - (intOf t).toNat)
    case atStart => exact ⟨0, by omega, by go_num, fun j q => by omega, Below.refl _ _⟩
    case round =>
      obtain ⟨k, hk, rfl, HI, HW⟩ := hrel
      by_cases hlt : k < L.length
      · obtain ⟨m, n, hm1, hn1, nl, nm⟩ := HG.out k hlt
        obtain ⟨g1, o1, rfl, l1, q1⟩ := H1.out nl
        obtain ⟨g2, o2, rfl, l2, q2⟩ := H2.out nm
        obtain ⟨a0, a1, a2, a3, a4, a5, a6⟩ := (q1.same (HW.out.block g1 l1)) k m hm1
        obtain ⟨d0, d1, d2, d3, d4, d5, d6⟩ := (q2.same (HW.out.block g2 l2)) k n hn1
        have z0 : (0 : Int) ≤ (k : Int) := by omega
        have z1 : (k : Int) < (L.length : Int) := by omega
        have z2 : (k : Int) < (M.length : Int) := by omega
        have HN := (show Hid (L[k]? = some m ∧ M[k]? = some n) from ⟨hm1, hn1⟩)
        clear HG H1 H2 q1 q2 nl nm hm1 hn1 hle
        have hneq := node_neq m n
        cases he : ndE m n with
        | true =>
          rw [he] at hneq
          have HI2 := (show Hid (∀ j : Nat, j < k + 1 → L[j]? = M[j]?) from fun j hj => by
            by_cases q : j < k
            · exact HI.out j q
            · obtain rfl : j = k := by omega
              rw [HN.out.1, HN.out.2, ndE_eq he])
          clear HT HF HI he HN
          go_wp2_with fail
          go_quiet (fail)
          have HW2 := (show Hid (Below w.heap.size w (wr.drewN nq)) from HW.out.trans (below_drewN (Below.refl _ _) _))
          generalize wr.drewN nq = w2 at *
          clear hneq a0 a1 a2 a3 a4 a5 a6 d0 d1 d2 d3 d4 d5 d6 HW
          go_wp2_with fail
          go_roundw
          case rel => exact ⟨k + 1, by omega, by go_num, HI2, HW2⟩
          case measure => simp [intOf]; omega
        | false =>
          rw [he] at hneq
          have HE := (show Hid (patB L M = false) from HF.out k (by
            rw [HN.out.1, HN.out.2]
            intro e
            have e2 : m = n := Option.some.inj e
            rw [ndE_iff.2 e2] at he
            cases he))
          clear HT HF HI he HN
          go_wp2_with fail
          go_quiet (fail)
          have HW2 := (show Hid (Below w.heap.size w (wr.drewN nq)) from HW.out.trans (below_drewN (Below.refl _ _) _))
          generalize wr.drewN nq = w2 at *
          clear hneq a0 a1 a2 a3 a4 a5 a6 d0 d1 d2 d3 d4 d5 d6 HW
          go_wp2_with fail
          go_ret
          exact ⟨by rw [HE.out]; rfl, HW2.out⟩
      · obtain rfl : k = L.length := by omega
        have HE := (show Hid (patB L M = true) from HT.out HI.out)
        clear HG H1 H2 HT HF HI
        go_wp2_with fail
        go_ret
        exact ⟨by rw [HE.out]; rfl, HW.out⟩
  · have t0 : ((L.length : Int) != (M.length : Int)) = true := by rw [bne, beq_eq_false_iff_ne.2 (by omega)]; rfl
    have HE := (show Hid (patB L M = false) from patB_ne hne)
    clear h1 h2 hne
    go_enter Try.func24, Try.ntmps24
    go_wp2_with fail
    go_ret
    exact ⟨by rw [HE.out]; rfl, Below.refl _ _⟩

set_option maxRecDepth 100000 in
set_option maxHeartbeats 1000000 in
theorem same_any (A1 A2 : Option Addr) (c1 c2 : Nat) (L M : List Nd) (hl : L.length ≤ 140737488355328) (hm : M.length ≤ 140737488355328) (w : World) (h1 : RdN w A1 L) (h2 : RdN w A2 M) :
    Calls Try.prog 18 #[.slice A1 L.length c1, .slice A2 M.length c2] w fun e w' => e = .returned (.bool (patB L M)) ∧ Below w.heap.size w w' := by
  have H : Hid (∀ _ : Unit, Calls Try.prog 24 #[.slice A1 L.length c1, .slice A2 M.length c2] w fun e w' => e = .returned (.bool (patB L M)) ∧ Below w.heap.size w w') := fun _ => equal_any A1 A2 c1 c2 L M hl hm w h1 h2
  clear h1 h2 hl hm
  go_enter Try.func18, Try.ntmps18
  go_wp2_with fail
  refine (H.out ()).mono ?_
  rintro e w2 ⟨rfl, b2⟩
  clear H
  have HB := (show Hid _ from b2)
  clear b2
  go_wp2_with fail
  go_ret
  exact ⟨rfl, HB.out⟩

theorem enters37 (args : Array Value) (w : World) : (callFunc 26 args).run Try.prog w = .ok (.enter 26 args) w := enters_of Try.func26 (by kernel_rfl) rfl args w
set_option maxRecDepth 100000 in
set_option maxHeartbeats 1000000 in
theorem check1_any (p : Pt) (v : Value) (w : World) : Calls Try.prog 26 #[ptG p, v] w fun e w' => (∃ u, e = .returned u) ∧ Below w.heap.size w w' := by
  have HB := (show Hid (Below w.heap.size w (w.alloc (.cells #[.int .i64 p.1, .int .i64 p.2.1, .int .i64 p.2.2] 71))) from below_box _ _)
  go_enter Try.func26, Try.ntmps26
  go_wp2_with fail
  go_end0
  exact ⟨⟨_, rfl⟩, HB.out⟩
theorem see37 (L : List Nd) (Bc B : Nat) : See L 26 #[] Bc B (fun _ X _ => ∀ b, ¬ X b) :=
  ⟨fun _ _ _ _ h _ _ => h, fun _ _ _ h b q => absurd q (h b), fun k X w A c h _ _ _ _ _ => (check1_any (pt L k) (.slice A (arN (opAt L k)) c) w).mono fun _e _w' ⟨he, hb⟩ => ⟨he, X, h, ⟨hb.os, hb.tape, hb.output, hb.size, fun b hlt _ => hb.block b hlt⟩, fun _b q => .inl q⟩⟩

set_option maxRecDepth 100000 in
set_option maxHeartbeats 1000000 in
theorem check_any (L : List Nd) (Ap : Option Addr) (cp : Nat) (hL : L.length ≤ 140737488355328) (hT : ∀ n ∈ L, n.tx.size ≤ 140737488355328) (w : World) (hp : RdN w Ap L) :
    Calls Try.prog 19 #[.slice Ap L.length cp] w fun e w' => e = .returned (.tuple #[.int .i64 (ck L).1, .int .i64 (ck L).2]) ∧ Below w.heap.size w w' := by
  have H : Hid (∀ _ : Unit, Calls Try.prog 25 #[.slice Ap L.length cp, .func (.func 26) #[] #[]] w fun e w' => e = .returned (.tuple #[.int .i64 (ck L).1, .int .i64 (ck L).2]) ∧ Below w.heap.size w w' ∧ ∃ (k : Nat) (X : Nat → Prop), (∀ b, ¬ X b) ∧ ((ck L).2 = 0 → k = L.length)) := (fun _ => through_any L 26 #[] (fun _ X _ => ∀ b, ¬ X b) Ap cp w.heap.size hL hT w (Nat.le_refl _) hp (fun hne a ha => by
    obtain ⟨g, o, e, lt, _⟩ := hp hne
    rw [e] at ha
    cases ha
    exact lt) enters37 (see37 L _ _) (fun _ => False) (fun _ q => q))
  clear hp hT hL
  go_enter Try.func19, Try.ntmps19
  go_wp2_with fail
  refine (H.out ()).mono ?_
  rintro e w2 ⟨rfl, b2, _⟩
  clear H
  have HB := (show Hid _ from b2)
  clear b2
  go_wp2_with fail
  go_ret2
  exact ⟨rfl, HB.out⟩
end Go.Proofs.Ytppggnmlbcdegab.T

namespace Go.Proofs.Ytppggnmlbcdegab.T
open Go.RowKit
def zN (op : Int) : Nd := ⟨op, 0, ⟨#[]⟩, 0, 0, 0, 0⟩
theorem ck_any1 : ck [zN 3] = (0, 0) := by
  have ha : alE (zN 3) = 0 := by
    unfold alE zN
    rw [if_neg (by decide), if_pos (by unfold fdF txF nuF seF; decide)]
  have he : er [zN 3] 0 = 0 := by
    rw [er_of (n := zN 3) rfl, ha]
    decide
  refine (Rt.ck ⟨by decide, fun j hj => ?_, by decide⟩)
  have : j = 0 := by simp at hj; omega
  rw [this]
  exact he
theorem rd_one (w : World) (n : Nd) : RdN (w.alloc (ndO n)) (some ⟨w.heap.size, 0, none⟩) [n] := fun _ => ⟨w.heap.size, 0, rfl, by rw [World.size_alloc]; omega, fun j m hj => by
  cases j with
  | zero => cases hj; exact nb_new w n
  | succ j => simp at hj⟩
theorem one_len (n : Nd) : [n].length ≤ 140737488355328 := by rw [List.length_singleton]; omega
theorem one_tx (op : Int) : ∀ n ∈ [zN op], n.tx.size ≤ 140737488355328 := by
  intro n hn
  have e : n = zN op := List.mem_singleton.1 hn
  have e2 : n.tx.size = 0 := by rw [e]; rfl
  rw [e2]
  exact Nat.zero_le _
end Go.Proofs.Ytppggnmlbcdegab.T

namespace Go.Proofs.Ytppggnmlbcdegab.T
open Go.RowKit
theorem Try.info3 : (Try.prog.info? 3).map (fun i => (i.zero, i.size, i.bytes)) = some (some (.int .i64 0), 1, 8) := by kernel_rfl
end Go.Proofs.Ytppggnmlbcdegab.T

namespace Go.Proofs.Ytppggnmlbcdegab.T
open Go.RowKit
theorem Try.info43 : (Try.prog.info? 55).map (fun i => (i.zero, i.size, i.bytes)) = some (some (.agg #[.int .i64 0, .int .i64 0, .string ⟨#[]⟩, .int .u64 0, .int .u64 0, .int .u64 0, .int .u64 0]), 7, 64) := by kernel_rfl
abbrev zA : Value := .agg #[.int .i64 0, .int .i64 0, .string ⟨#[]⟩, .int .u64 0, .int .u64 0, .int .u64 0, .int .u64 0]
theorem ndc_get (L : List Nd) (j : Nat) (n : Nd) (h : L[j]? = some n) : ∀ i, i < 7 → (ndc L)[j * 7 + i]? = (ndV n)[i]? := by
  induction L generalizing j with
  | nil => cases h
  | cons a L ih =>
    intro i hi
    have e : ndc (a :: L) = ndV a ++ ndc L := rfl
    rw [e]
    cases j with
    | zero =>
      cases h
      rw [Nat.zero_mul, Nat.zero_add, List.getElem?_append_left (by show i < 7; exact hi)]
    | succ j =>
      have h2 : L[j]? = some n := by simpa using h
      have e7 : (ndV a).length = 7 := rfl
      rw [List.getElem?_append_right (by rw [e7]; omega), e7, show (j + 1) * 7 + i - 7 = j * 7 + i from by omega]
      exact ih j h2 i hi
theorem nd_one (n : Nd) : ∀ u ∈ ndV n, u.oneCell' = true := fun u hu => by
  simp only [ndV, List.mem_cons, List.not_mem_nil, or_false] at hu
  rcases hu with rfl | rfl | rfl | rfl | rfl | rfl | rfl <;> rfl
theorem own_ndl {W : World} {B g n cap : Nat} {L : List Nd} {xs : List Value} (h : W.ownsRow B 55 7 (.slice (some ⟨g, 0, none⟩) n cap) n (ndc L ++ xs)) : NdL W g 0 L := fun j nd hj => by
  have hc := h.cells (g := g) rfl
  have hjl : j < L.length := by
    by_cases q : j < L.length
    · exact q
    · rw [List.getElem?_eq_none (by omega)] at hj; cases hj
  have key : ∀ i u, i < 7 → (ndV nd)[i]? = some u → W.cell? ⟨g, 0 + j * 7 + i, none⟩ = some u := fun i u hi hu => by
    have := hc (j * 7 + i) u (by rw [List.getElem?_append_left (by rw [ndc_len]; omega), ndc_get L j nd hj i hi]; exact hu)
    rw [Addr.add_lit] at this
    rw [Nat.add_assoc]
    exact this
  exact ⟨key 0 _ (by omega) rfl, key 1 _ (by omega) rfl, key 2 _ (by omega) rfl, key 3 _ (by omega) rfl, key 4 _ (by omega) rfl, key 5 _ (by omega) rfl, key 6 _ (by omega) rfl⟩
end Go.Proofs.Ytppggnmlbcdegab.T
