/- DERIVED. Plain mathematics and walks, laid together (2). -/
import Derived.Test.YtppggnmlbcdegaaRn01
namespace Go.Proofs.Ytppggnmlbcdegaa.T
open Go.RowKit
/-- The first rule of a name. -/
def fdG : List (ByteArray × List Nd) → ByteArray → Option Nat
  | [], _ => none
  | g :: r, s => if g.1 = s then some 0 else (fdG r s).map (· + 1)
theorem fdG_of : ∀ {gs : List (ByteArray × List Nd)} {s : ByteArray} {k : Nat} {g : ByteArray × List Nd}, gs[k]? = some g → g.1 = s → (∀ j h, j < k → gs[j]? = some h → h.1 ≠ s) → fdG gs s = some k := by
  intro gs
  induction gs with
  | nil => intro s k g hg; cases hg
  | cons a r ih =>
    intro s k g hg hs hn
    cases k with
    | zero =>
      cases hg
      rw [fdG, if_pos hs]
    | succ k =>
      have h0 := hn 0 a (by omega) rfl
      rw [fdG, if_neg h0, ih (k := k) (g := g) (by simpa using hg) hs (fun j h hj hh => hn (j + 1) h (by omega) (by simpa using hh))]
      rfl
theorem fdG_some : ∀ {gs : List (ByteArray × List Nd)} {s : ByteArray} {k : Nat}, fdG gs s = some k → ∃ g, gs[k]? = some g ∧ g.1 = s ∧ ∀ j h, j < k → gs[j]? = some h → h.1 ≠ s := by
  intro gs
  induction gs with
  | nil => intro s k h; cases h
  | cons a r ih =>
    intro s k h
    rw [fdG] at h
    by_cases e : a.1 = s
    · rw [if_pos e] at h
      cases h
      exact ⟨a, rfl, e, fun j h hj => by omega⟩
    · rw [if_neg e] at h
      cases hr : fdG r s with
      | none => rw [hr] at h; cases h
      | some m =>
        rw [hr] at h
        have hk : m + 1 = k := by simpa using h
        subst hk
        obtain ⟨g, q1, q2, q3⟩ := ih hr
        refine ⟨g, by simpa using q1, q2, fun j x hj hx => ?_⟩
        cases j with
        | zero => cases hx; exact e
        | succ j => exact q3 j x (by omega) (by simpa using hx)
theorem fdG_none : ∀ {gs : List (ByteArray × List Nd)} {s : ByteArray}, fdG gs s = none ↔ ∀ g ∈ gs, g.1 ≠ s := by
  intro gs
  induction gs with
  | nil => intro s; exact ⟨(fun _ g h => by cases h), fun _ => rfl⟩
  | cons a r ih =>
    intro s
    rw [fdG]
    by_cases e : a.1 = s
    · rw [if_pos e]
      exact ⟨(fun h => by cases h), fun h => absurd e (h a List.mem_cons_self)⟩
    · rw [if_neg e, Option.map_eq_none_iff, ih]
      exact ⟨fun h g hg => by
        rcases List.mem_cons.1 hg with q | q
        · rw [q]; exact e
        · exact h g q, fun h g hg => h g (List.mem_cons_of_mem _ hg)⟩
theorem fdG_lt {gs : List (ByteArray × List Nd)} {s : ByteArray} {k : Nat} (h : fdG gs s = some k) : k < gs.length := by
  obtain ⟨g, q, _⟩ := fdG_some h
  exact (List.getElem?_eq_some_iff.1 q).1
/-- A name changed in a node; in a grammar. -/
def reN (a b : ByteArray) (n : Nd) : Nd := if n.op = 6 ∧ n.tx = a then { n with tx := b } else n
def reG (gs : List (ByteArray × List Nd)) (r : Nat) (a b : ByteArray) : List (ByteArray × List Nd) := gs.mapIdx fun i g => (if i = r then b else g.1, g.2.map (reN a b))
/-- A grammar whose names are all different, and whose calls are all found. -/
structure Dn (gs : List (ByteArray × List Nd)) : Prop where
  d : ∀ (i j : Nat) (g h : ByteArray × List Nd), gs[i]? = some g → gs[j]? = some h → g.1 = h.1 → i = j
  c : ∀ g ∈ gs, ∀ n ∈ g.2, n.op = 6 → ∃ k, fdG gs n.tx = some k
theorem reG_get {gs : List (ByteArray × List Nd)} {r : Nat} {a b : ByteArray} (k : Nat) : (reG gs r a b)[k]? = (gs[k]?).map fun g => (if k = r then b else g.1, g.2.map (reN a b)) := by
  unfold reG
  rw [List.getElem?_mapIdx]
theorem reG_len {gs : List (ByteArray × List Nd)} {r : Nat} {a b : ByteArray} : (reG gs r a b).length = gs.length := by unfold reG; rw [List.length_mapIdx]
end Go.Proofs.Ytppggnmlbcdegaa.T

namespace Go.Proofs.Ytppggnmlbcdegaa.T
theorem chn_mem (L : List Nd) : ∀ (st : List Pt) (k : Nat), Chn L k st → ∀ x ∈ st, x.2.1 < k ∧ x.1 ≤ x.2.1 ∧ x = pt L x.2.1 := by
  intro st
  induction st with
  | nil => intro k _ x hx; cases hx
  | cons y r ih =>
    intro k h x hx
    obtain ⟨h1, h2, h3, h4⟩ := h
    rcases List.mem_cons.1 hx with rfl | hx
    · exact ⟨by omega, h3, h2⟩
    · obtain ⟨a, b, c⟩ := ih y.1 h4 x hx
      exact ⟨by omega, b, c⟩
structure ErOk (L : List Nd) (k : Nat) (n : Nd) : Prop where
  al : alE n = 0
  ar : arN n.op ≤ (run L k).length
  ht : (pt L k).2.2 ≤ 60
theorem er_ok {L : List Nd} {k : Nat} {n : Nd} (hn : L[k]? = some n) (h : er L k = 0) : ErOk L k n := by
  rw [er_of hn] at h
  by_cases h1 : alE n ≠ 0
  · rw [if_pos h1] at h; exact absurd h h1
  rw [if_neg h1] at h
  by_cases h2 : (run L k).length < arN n.op
  · rw [if_pos h2] at h; cases h
  rw [if_neg h2] at h
  by_cases h3 : 60 < (pt L k).2.2
  · rw [if_pos h3] at h; cases h
  exact ⟨Classical.byContradiction h1, by omega, by omega⟩
theorem run_bd {L : List Nd} {k : Nat} (hk : k ≤ L.length) (h : ∀ j, j < k → er L j = 0) : ∀ x ∈ run L k, x.1 ≤ x.2.1 ∧ x.2.1 < k ∧ x.2.2 ≤ 60 ∧ x = pt L x.2.1 := by
  intro x hx
  obtain ⟨a, b, c⟩ := chn_mem L _ k (chn_run L k hk h) x hx
  have hn : L[x.2.1]? = some L[x.2.1] := List.getElem?_eq_getElem (by omega)
  have := (er_ok hn (h _ a)).ht
  rw [← c] at this
  exact ⟨b, a, this, c⟩
theorem run_len (L : List Nd) (k : Nat) : (run L k).length ≤ k := by
  induction k with
  | zero => exact Nat.le_refl _
  | succ k ih => rw [run_succ, List.length_cons, List.length_drop]; omega
theorem arN_of {n : Nd} (h : alE n = 0) : ((arN n.op : Nat) : Int) = ar n.op := by
  have := alE_ar h
  unfold arN
  omega
/-- The top of a stack, in the order of the list. -/
theorem rev_drop {α : Type} (st : List α) (a : Nat) (h : a ≤ st.length) : st.reverse.drop (st.length - a) = (st.take a).reverse := by
  rw [List.drop_reverse]
  congr 2
  omega
theorem rev_take {α : Type} (st : List α) (a : Nat) (h : a ≤ st.length) : st.reverse.take (st.length - a) = (st.drop a).reverse := by
  rw [List.take_reverse]
  congr 2
  omega
end Go.Proofs.Ytppggnmlbcdegaa.T

namespace Go.Proofs.Ytppggnmlbcdegaa.T
open Go.RowKit
abbrev GL : Type := List (ByteArray × List Nd)
/-- Has a rule ahead this name? -/
def tw (gs : GL) (s : ByteArray) (i : Nat) : Bool := match fdG gs s with
  | some k => decide (k < i)
  | none => false
def c1G (gs : GL) : Nat → Nat → GL → (Nat × Nat) × Int
  | _, _, [] => ((0, 0), 0)
  | i, m, g :: r => if ¬ (nmB g.1 = true ∨ (g.1.size = 0 ∧ gs.length = 1)) then ((i, 0), 6) else if tw gs g.1 i = true then ((i, 0), 80) else if (ck g.2).2 ≠ 0 then ((i, (ck g.2).1), (ck g.2).2) else if 2048 < m + g.2.length then ((i, 0), 2) else c1G gs (i + 1) (m + g.2.length) r
/-- The first node that calls what is not there. -/
def unN (gs : GL) : Nat → List Nd → Option Nat
  | _, [] => none
  | k, n :: r => if n.op = 6 ∧ fdG gs n.tx = none then some k else unN gs (k + 1) r
def unG (gs : GL) : Nat → GL → (Nat × Nat) × Int
  | _, [] => ((0, 0), 0)
  | i, g :: r => match unN gs 0 g.2 with
    | some k => ((i, k), 81)
    | none => unG gs (i + 1) r
/-- What Check answers of a grammar. -/
def ckG (gs : GL) : (Nat × Nat) × Int := if gs.length = 0 then ((0, 0), 3) else if 200 < gs.length then ((0, 0), 2) else if (c1G gs 0 0 gs).2 ≠ 0 then c1G gs 0 0 gs else unG gs 0 gs
theorem unN_none {gs : GL} : ∀ (l : List Nd) (k : Nat), unN gs k l = none ↔ ∀ n ∈ l, n.op = 6 → ∃ j, fdG gs n.tx = some j := by
  intro l
  induction l with
  | nil => intro k; exact ⟨(fun _ n h => by cases h), fun _ => rfl⟩
  | cons a r ih =>
    intro k
    rw [unN]
    by_cases h : a.op = 6 ∧ fdG gs a.tx = none
    · rw [if_pos h]
      refine ⟨(fun q => by cases q), fun q => ?_⟩
      obtain ⟨j, hj⟩ := q a List.mem_cons_self h.1
      rw [h.2] at hj
      cases hj
    · rw [if_neg h, ih]
      refine ⟨fun q n hn h6 => ?_, fun q n hn h6 => q n (List.mem_cons_of_mem _ hn) h6⟩
      rcases List.mem_cons.1 hn with e | e
      · subst e
        cases hf : fdG gs n.tx with
        | none => exact absurd ⟨h6, hf⟩ h
        | some j => exact ⟨j, rfl⟩
      · exact q n e h6
theorem unG_ok {gs : GL} : ∀ (l : GL) (i : Nat), (unG gs i l).2 = 0 ↔ ∀ g ∈ l, ∀ n ∈ g.2, n.op = 6 → ∃ j, fdG gs n.tx = some j := by
  intro l
  induction l with
  | nil => intro i; exact ⟨(fun _ g h => by cases h), fun _ => rfl⟩
  | cons a r ih =>
    intro i
    rw [unG]
    cases h : unN gs 0 a.2 with
    | some k =>
      refine ⟨(fun q => by cases q), fun q => ?_⟩
      have := (unN_none a.2 0).2 (q a List.mem_cons_self)
      rw [h] at this
      cases this
    | none =>
      show (unG gs (i + 1) r).2 = 0 ↔ _
      rw [ih]
      have h0 := (unN_none a.2 0).1 h
      refine ⟨fun q g hg => ?_, fun q g hg => q g (List.mem_cons_of_mem _ hg)⟩
      rcases List.mem_cons.1 hg with e | e
      · rw [e]; exact h0
      · exact q g e
theorem c1G_ok {gs : GL} : ∀ (l : GL) (i m : Nat), m ≤ 2048 → ((c1G gs i m l).2 = 0 ↔ (∀ (k : Nat) g, l[k]? = some g → (nmB g.1 = true ∨ (g.1.size = 0 ∧ gs.length = 1)) ∧ tw gs g.1 (i + k) = false ∧ (ck g.2).2 = 0) ∧ m + (l.map fun g => g.2.length).sum ≤ 2048) := by
  intro l
  induction l with
  | nil => intro i m hm; exact ⟨fun _ => ⟨(fun k g h => by cases h), hm⟩, fun _ => rfl⟩
  | cons a r ih =>
    intro i m hm
    rw [c1G]
    by_cases h1 : nmB a.1 = true ∨ (a.1.size = 0 ∧ gs.length = 1)
    · rw [if_neg (fun q => q h1)]
      by_cases h2 : tw gs a.1 i = true
      · rw [if_pos h2]
        refine ⟨(fun q => by cases q), fun q => ?_⟩
        have := (q.1 0 a rfl).2.1
        rw [Nat.add_zero, h2] at this
        cases this
      · rw [if_neg h2]
        by_cases h3 : (ck a.2).2 = 0
        · rw [if_neg (fun q => q h3)]
          by_cases h4 : 2048 < m + a.2.length
          · rw [if_pos h4]
            refine ⟨(fun q => by cases q), fun q => ?_⟩
            have := q.2
            rw [List.map_cons, List.sum_cons] at this
            omega
          · rw [if_neg h4, ih (i + 1) (m + a.2.length) (by omega), List.map_cons, List.sum_cons]
            refine ⟨fun q => ⟨fun k g hg => ?_, by omega⟩, fun q => ⟨fun k g hg => ?_, by omega⟩⟩
            · cases k with
              | zero =>
                cases hg
                exact ⟨h1, by rw [Nat.add_zero]; exact Bool.eq_false_iff.2 h2, h3⟩
              | succ k =>
                have := q.1 k g (by simpa using hg)
                rw [show i + 1 + k = i + (k + 1) from by omega] at this
                exact this
            · have := q.1 (k + 1) g (by simpa using hg)
              rw [show i + 1 + k = i + (k + 1) from by omega]
              exact this
        · rw [if_pos h3]
          refine ⟨fun q => absurd q h3, fun q => absurd (q.1 0 a rfl).2.2 h3⟩
    · rw [if_pos h1]
      exact ⟨(fun q => by cases q), fun q => absurd (q.1 0 a rfl).1 h1⟩
/-- A right grammar. -/
structure RtG (gs : GL) : Prop where
  n1 : 1 ≤ gs.length
  n2 : gs.length ≤ 200
  nm : ∀ g ∈ gs, nmB g.1 = true ∨ (g.1.size = 0 ∧ gs.length = 1)
  ck : ∀ g ∈ gs, (ck g.2).2 = 0
  sm : (gs.map fun g => g.2.length).sum ≤ 2048
  dn : Dn gs
theorem tw_iff {gs : GL} : (∀ (k : Nat) g, gs[k]? = some g → tw gs g.1 k = false) ↔ ∀ (i j : Nat) (g h : ByteArray × List Nd), gs[i]? = some g → gs[j]? = some h → g.1 = h.1 → i = j := by
  have hf : ∀ (k : Nat) g, gs[k]? = some g → ∃ j, fdG gs g.1 = some j ∧ j ≤ k := fun k g hg => by
    cases h : fdG gs g.1 with
    | none => exact absurd rfl (fdG_none.1 h g (List.mem_of_getElem? hg))
    | some j =>
      refine ⟨j, rfl, ?_⟩
      obtain ⟨_, _, _, q⟩ := fdG_some h
      apply Nat.le_of_not_lt
      intro hlt
      exact q k g hlt hg rfl
  constructor
  · intro h i j g x hg hx e
    have key : ∀ (k : Nat) y, gs[k]? = some y → fdG gs y.1 = some k := fun k y hy => by
      obtain ⟨m, h1, h2⟩ := hf k y hy
      have := h k y hy
      unfold tw at this
      rw [h1] at this
      have : ¬ m < k := by simpa using this
      rw [h1, show m = k from by omega]
    have a := key i g hg
    have b := key j x hx
    rw [e, b] at a
    cases a
    rfl
  · intro h k g hg
    obtain ⟨j, h1, h2⟩ := hf k g hg
    unfold tw
    rw [h1]
    obtain ⟨y, y1, y2, _⟩ := fdG_some h1
    have := h j k y g y1 hg y2
    subst this
    simp
theorem ckG_ok {gs : GL} : (ckG gs).2 = 0 ↔ RtG gs := by
  unfold ckG
  by_cases h0 : gs.length = 0
  · rw [if_pos h0]
    exact ⟨(fun q => by cases q), fun q => absurd h0 (by have := q.n1; omega)⟩
  rw [if_neg h0]
  by_cases h1 : 200 < gs.length
  · rw [if_pos h1]
    exact ⟨(fun q => by cases q), fun q => absurd h1 (by have := q.n2; omega)⟩
  rw [if_neg h1]
  have hc := c1G_ok (gs := gs) gs 0 0 (by omega)
  by_cases h2 : (c1G gs 0 0 gs).2 = 0
  · rw [if_neg (fun q => q h2), unG_ok]
    obtain ⟨q1, q2⟩ := hc.1 h2
    refine ⟨fun q => ⟨by omega, by omega, fun g hg => ?_, fun g hg => ?_, by omega, tw_iff.1 fun k g hg => ?_, q⟩, fun q => q.dn.c⟩
    · obtain ⟨k, hk⟩ := List.getElem?_of_mem hg
      exact (q1 k g hk).1
    · obtain ⟨k, hk⟩ := List.getElem?_of_mem hg
      exact (q1 k g hk).2.2
    · have := (q1 k g hg).2.1
      rw [Nat.zero_add] at this
      exact this
  · rw [if_pos h2]
    refine ⟨fun q => absurd q h2, fun q => absurd (hc.2 ⟨fun k g hg => ⟨q.nm g (List.mem_of_getElem? hg), ?_, q.ck g (List.mem_of_getElem? hg)⟩, by have := q.sm; omega⟩) h2⟩
    rw [Nat.zero_add]
    exact tw_iff.2 q.dn.d k g hg
end Go.Proofs.Ytppggnmlbcdegaa.T

namespace Go.Proofs.Ytppggnmlbcdegaa.T
def atI (k : Nat) (st : List Pt) : Nat → Nat
  | 0 => k
  | i + 1 => match st[i]? with
    | some x => x.1
    | none => 0
def hI (L : List Nd) (op : Int) (a : Nat) (st : List Pt) : Nat → Nat
  | 0 => 0
  | i + 1 => match st[i]? with
    | some x => max (hI L op a st i) (if i + 1 = a ∧ a = 2 ∧ opAt L x.2.1 = op then x.2.2 - 1 else x.2.2)
    | none => hI L op a st i
theorem mk_pos (L : List Nd) (k : Nat) (op : Int) (st : List Pt) : 1 ≤ (mk L k op st).2.2 := by
  unfold mk
  split
  · exact Nat.le_refl _
  · split
    · split
      · show 1 ≤ max 1 _; omega
      · exact Nat.le_refl _
    · split
      · show 1 ≤ max (max 1 _) _; omega
      · exact Nat.le_refl _
theorem run_pos {L : List Nd} {k : Nat} (hk : k ≤ L.length) (h : ∀ j, j < k → er L j = 0) : ∀ x ∈ run L k, 1 ≤ x.2.2 := fun x hx => by
  obtain ⟨_, _, _, e⟩ := run_bd hk h x hx
  rw [e]
  exact mk_pos _ _ _ _
theorem chn_at (L : List Nd) (k : Nat) (st : List Pt) (h : Chn L k st) : ∀ i, i ≤ st.length → Chn L (atI k st i) (st.drop i) := by
  intro i
  induction i with
  | zero => intro _; exact h
  | succ i ih =>
    intro hi
    have c := ih (by omega)
    rw [List.drop_eq_getElem_cons (by omega)] at c
    show Chn L (match st[i]? with
      | some x => x.1
      | none => 0) _
    rw [List.getElem?_eq_getElem (by omega)]
    exact c.2.2.2
theorem pt_at (L : List Nd) (k : Nat) (op : Int) (st : List Pt) (h : arN op ≤ st.length) (hp : ∀ x ∈ st, 1 ≤ x.2.2) : mk L k op st = (atI k st (arN op), k, hI L op (arN op) st (arN op) + 1) := by
  have h2 := arN_le op
  unfold mk
  by_cases a0 : arN op = 0
  · rw [if_pos a0, a0]; rfl
  rw [if_neg a0]
  by_cases a1 : arN op = 1
  · rw [if_pos a1]
    rw [a1] at h ⊢
    cases st with
    | nil => simp at h
    | cons x r => simp [atI, hI]
  · rw [if_neg a1]
    have e2 : arN op = 2 := by omega
    rw [e2] at h ⊢
    cases st with
    | nil => simp at h
    | cons y r => cases r with
      | nil => simp at h
      | cons x r =>
        have hx := hp x (by simp)
        simp only [atI, hI, List.getElem?_cons_zero, List.getElem?_cons_succ]
        by_cases ho : opAt L x.2.1 = op
        · simp [ho]; omega
        · simp [ho]; omega
theorem hI_bd (L : List Nd) (op : Int) (a : Nat) (st : List Pt) (h : ∀ x ∈ st, x.2.2 ≤ 60) : ∀ i, hI L op a st i ≤ 60 := by
  intro i
  induction i with
  | zero => exact Nat.zero_le _
  | succ i ih =>
    rw [hI]
    split
    · next x hx =>
      have := h x (List.mem_of_getElem? hx)
      split <;> omega
    · exact ih
end Go.Proofs.Ytppggnmlbcdegaa.T

namespace Go.Proofs.Ytppggnmlbcdegaa.T
open Go.RowKit
set_option maxRecDepth 100000 in
set_option maxHeartbeats 8000000 in
theorem nameR_any (s : ByteArray) (hs : s.size ≤ 140737488355328) (w : World) : Calls Try.prog 14 #[.string s] w fun e w' => e = .returned (.bool (nmB s)) ∧ w' = w := by
  by_cases h0 : s.size = 0
  · have HE : Hid (nmB s = false) := nmB_f (fun h => by have := h.1; omega)
    have z0 : (s.size : Int) < 1 := by omega
    clear h0 hs
    go_enter Try.func14, Try.ntmps14
    go_wp2_with fail
    go_ret
    exact ⟨by rw [HE.out]; rfl, rfl⟩
  have z0 : ¬ (s.size : Int) < 1 := by omega
  by_cases h1 : 32 < s.size
  · have HE : Hid (nmB s = false) := nmB_f (fun h => by have := h.2.1; omega)
    have z1 : (32 : Int) < (s.size : Int) := by omega
    clear h0 hs
    go_enter Try.func14, Try.ntmps14
    go_wp2_with fail
    go_ret
    exact ⟨by rw [HE.out]; rfl, rfl⟩
  have z1 : ¬ (32 : Int) < (s.size : Int) := by omega
  have hp : 0 < s.size := by omega
  have zp : (0 : Int) < (s.size : Int) := by omega
  by_cases hd : (48 : Int) ≤ (s[0].toNat : Int) ∧ (s[0].toNat : Int) ≤ 57
  · obtain ⟨d1, d2⟩ := hd
    have HE : Hid (nmB s = false) := nmB_f (fun h => by have := h.2.2.1 hp; unfold dgB at this; rw [decide_eq_true d1, decide_eq_true d2] at this; cases this)
    go_enter Try.func14, Try.ntmps14
    go_wp2_with fail
    go_ret
    exact ⟨by rw [HE.out]; rfl, rfl⟩
  have HZ : Hid (dgB (s[0].toNat : Int) = false) := (by
    show dgB _ = _
    unfold dgB
    by_cases d1 : (48 : Int) ≤ (s[0].toNat : Int)
    · rw [decide_eq_false (fun d2 => hd ⟨d1, d2⟩), Bool.and_false]
    · rw [decide_eq_false d1, Bool.false_and])
  have HN : Hid ((∀ (j : Nat) (h : j < s.size), nmC (s[j].toNat : Int) = true) → nmB s = true) := fun h => nmB_t ⟨hp, by omega, fun _ => HZ.out, h⟩
  have HM : Hid (∀ (j : Nat) (h : j < s.size), nmC (s[j].toNat : Int) = false → nmB s = false) := fun j h e => nmB_f (fun q => by have := q.2.2.2 j h; rw [e] at this; cases this)
  clear HZ
  go_enter Try.func14, Try.ntmps14
  by_cases d1 : (48 : Int) ≤ (s[0].toNat : Int)
  · have d2 : ¬ (s[0].toNat : Int) ≤ 57 := fun d2 => hd ⟨d1, d2⟩
    have HX := (show Hid _ from hd)
    clear hd HX
    go_wp2_with fail
    go_loopw [3] (fun t wr => ∃ k : Nat, k ≤ s.size ∧ t = .int .i64 k ∧ wr = w ∧ Hid (∀ (j : Nat) (h : j < s.size), j < k → nmC (s[j].toNat : Int) = true)) (fun t _ => s.size - (intOf t).toNat)
    case atStart => exact ⟨0, by omega, by go_num, rfl, fun j h q => by omega⟩
    case round =>
      obtain ⟨k, hk, rfl, rfl, HI⟩ := hrel
      clear d1 d2
      by_cases hlt : k < s.size
      · have z3 : (0 : Int) ≤ (k : Int) := by omega
        have z4 : (k : Int) < (s.size : Int) := by omega
        have HC : Hid (nmC (s[k].toNat : Int) = (dgB (s[k].toNat : Int) || ltB (s[k].toNat : Int) || (s[k].toNat : Int) == 95)) := rfl
        have HG : Hid (nmC (s[k].toNat : Int) = true → ∀ (j : Nat) (h : j < s.size), j < k + 1 → nmC (s[j].toNat : Int) = true) := fun e j h q => by
          by_cases hj : j < k
          · exact HI.out j h hj
          · obtain rfl : j = k := by omega
            exact e
        have HM2 : Hid (nmC (s[k].toNat : Int) = false → nmB s = false) := HM.out k hlt
        clear HI HN HM
        by_cases r0 : (s[k].toNat : Int) < 48
        · have t0 : ¬ (97 : Int) ≤ (s[k].toNat : Int) := by omega
          have t1 : (s[k].toNat : Int) ≤ 122 := by omega
          have t2 : ¬ (65 : Int) ≤ (s[k].toNat : Int) := by omega
          have t3 : (s[k].toNat : Int) ≤ 90 := by omega
          have t4 : ¬ (48 : Int) ≤ (s[k].toNat : Int) := by omega
          have t5 : (s[k].toNat : Int) ≤ 57 := by omega
          have t6 : ((s[k].toNat : Int) == 95) = false := beq_eq_false_iff_ne.2 (by omega)
          have HV : Hid (nmC (s[k].toNat : Int) = false) := (by show nmC _ = _; rw [HC.out]; unfold dgB ltB; rw [t6]; simp [t0, t1, t2, t3, t4, t5])
          have HE : Hid (nmB s = false) := HM2.out HV.out
          clear HC HG HM2 HV
          go_wp2_with fail
          go_ret
          exact ⟨by rw [HE.out]; rfl, rfl⟩
        by_cases r1 : (s[k].toNat : Int) < 58
        · have t0 : ¬ (97 : Int) ≤ (s[k].toNat : Int) := by omega
          have t1 : (s[k].toNat : Int) ≤ 122 := by omega
          have t2 : ¬ (65 : Int) ≤ (s[k].toNat : Int) := by omega
          have t3 : (s[k].toNat : Int) ≤ 90 := by omega
          have t4 : (48 : Int) ≤ (s[k].toNat : Int) := by omega
          have t5 : (s[k].toNat : Int) ≤ 57 := by omega
          have t6 : ((s[k].toNat : Int) == 95) = false := beq_eq_false_iff_ne.2 (by omega)
          have HV : Hid (nmC (s[k].toNat : Int) = true) := (by show nmC _ = _; rw [HC.out]; unfold dgB ltB; rw [t6]; simp [t0, t1, t2, t3, t4, t5])
          have HI2 : Hid (∀ (j : Nat) (h : j < s.size), j < k + 1 → nmC (s[j].toNat : Int) = true) := HG.out HV.out
          clear HC HG HM2 HV
          go_wp2_with fail
          go_roundw
          case rel => exact ⟨k + 1, by omega, by go_num, trivial, HI2⟩
          case measure => simp [intOf]; omega
        by_cases r2 : (s[k].toNat : Int) < 65
        · have t0 : ¬ (97 : Int) ≤ (s[k].toNat : Int) := by omega
          have t1 : (s[k].toNat : Int) ≤ 122 := by omega
          have t2 : ¬ (65 : Int) ≤ (s[k].toNat : Int) := by omega
          have t3 : (s[k].toNat : Int) ≤ 90 := by omega
          have t4 : (48 : Int) ≤ (s[k].toNat : Int) := by omega
          have t5 : ¬ (s[k].toNat : Int) ≤ 57 := by omega
          have t6 : ((s[k].toNat : Int) == 95) = false := beq_eq_false_iff_ne.2 (by omega)
          have HV : Hid (nmC (s[k].toNat : Int) = false) := (by show nmC _ = _; rw [HC.out]; unfold dgB ltB; rw [t6]; simp [t0, t1, t2, t3, t4, t5])
          have HE : Hid (nmB s = false) := HM2.out HV.out
          clear HC HG HM2 HV
          go_wp2_with fail
          go_ret
          exact ⟨by rw [HE.out]; rfl, rfl⟩
        by_cases r3 : (s[k].toNat : Int) < 91
        · have t0 : ¬ (97 : Int) ≤ (s[k].toNat : Int) := by omega
          have t1 : (s[k].toNat : Int) ≤ 122 := by omega
          have t2 : (65 : Int) ≤ (s[k].toNat : Int) := by omega
          have t3 : (s[k].toNat : Int) ≤ 90 := by omega
          have t4 : (48 : Int) ≤ (s[k].toNat : Int) := by omega
          have t5 : ¬ (s[k].toNat : Int) ≤ 57 := by omega
          have t6 : ((s[k].toNat : Int) == 95) = false := beq_eq_false_iff_ne.2 (by omega)
          have HV : Hid (nmC (s[k].toNat : Int) = true) := (by show nmC _ = _; rw [HC.out]; unfold dgB ltB; rw [t6]; simp [t0, t1, t2, t3, t4, t5])
          have HI2 : Hid (∀ (j : Nat) (h : j < s.size), j < k + 1 → nmC (s[j].toNat : Int) = true) := HG.out HV.out
          clear HC HG HM2 HV
          go_wp2_with fail
          go_roundw
          case rel => exact ⟨k + 1, by omega, by go_num, trivial, HI2⟩
          case measure => simp [intOf]; omega
        by_cases r4 : (s[k].toNat : Int) < 95
        · have t0 : ¬ (97 : Int) ≤ (s[k].toNat : Int) := by omega
          have t1 : (s[k].toNat : Int) ≤ 122 := by omega
          have t2 : (65 : Int) ≤ (s[k].toNat : Int) := by omega
          have t3 : ¬ (s[k].toNat : Int) ≤ 90 := by omega
          have t4 : (48 : Int) ≤ (s[k].toNat : Int) := by omega
          have t5 : ¬ (s[k].toNat : Int) ≤ 57 := by omega
          have t6 : ((s[k].toNat : Int) == 95) = false := beq_eq_false_iff_ne.2 (by omega)
          have HV : Hid (nmC (s[k].toNat : Int) = false) := (by show nmC _ = _; rw [HC.out]; unfold dgB ltB; rw [t6]; simp [t0, t1, t2, t3, t4, t5])
          have HE : Hid (nmB s = false) := HM2.out HV.out
          clear HC HG HM2 HV
          go_wp2_with fail
          go_ret
          exact ⟨by rw [HE.out]; rfl, rfl⟩
        by_cases r5 : (s[k].toNat : Int) < 96
        · have t0 : ¬ (97 : Int) ≤ (s[k].toNat : Int) := by omega
          have t1 : (s[k].toNat : Int) ≤ 122 := by omega
          have t2 : (65 : Int) ≤ (s[k].toNat : Int) := by omega
          have t3 : ¬ (s[k].toNat : Int) ≤ 90 := by omega
          have t4 : (48 : Int) ≤ (s[k].toNat : Int) := by omega
          have t5 : ¬ (s[k].toNat : Int) ≤ 57 := by omega
          have t6 : ((s[k].toNat : Int) == 95) = true := beq_iff_eq.2 (by omega)
          have HV : Hid (nmC (s[k].toNat : Int) = true) := (by show nmC _ = _; rw [HC.out]; unfold dgB ltB; rw [t6]; simp [t0, t1, t2, t3, t4, t5])
          have HI2 : Hid (∀ (j : Nat) (h : j < s.size), j < k + 1 → nmC (s[j].toNat : Int) = true) := HG.out HV.out
          clear HC HG HM2 HV
          go_wp2_with fail
          go_roundw
          case rel => exact ⟨k + 1, by omega, by go_num, trivial, HI2⟩
          case measure => simp [intOf]; omega
        by_cases r6 : (s[k].toNat : Int) < 97
        · have t0 : ¬ (97 : Int) ≤ (s[k].toNat : Int) := by omega
          have t1 : (s[k].toNat : Int) ≤ 122 := by omega
          have t2 : (65 : Int) ≤ (s[k].toNat : Int) := by omega
          have t3 : ¬ (s[k].toNat : Int) ≤ 90 := by omega
          have t4 : (48 : Int) ≤ (s[k].toNat : Int) := by omega
          have t5 : ¬ (s[k].toNat : Int) ≤ 57 := by omega
          have t6 : ((s[k].toNat : Int) == 95) = false := beq_eq_false_iff_ne.2 (by omega)
          have HV : Hid (nmC (s[k].toNat : Int) = false) := (by show nmC _ = _; rw [HC.out]; unfold dgB ltB; rw [t6]; simp [t0, t1, t2, t3, t4, t5])
          have HE : Hid (nmB s = false) := HM2.out HV.out
          clear HC HG HM2 HV
          go_wp2_with fail
          go_ret
          exact ⟨by rw [HE.out]; rfl, rfl⟩
        by_cases r7 : (s[k].toNat : Int) < 123
        · have t0 : (97 : Int) ≤ (s[k].toNat : Int) := by omega
          have t1 : (s[k].toNat : Int) ≤ 122 := by omega
          have t2 : (65 : Int) ≤ (s[k].toNat : Int) := by omega
          have t3 : ¬ (s[k].toNat : Int) ≤ 90 := by omega
          have t4 : (48 : Int) ≤ (s[k].toNat : Int) := by omega
          have t5 : ¬ (s[k].toNat : Int) ≤ 57 := by omega
          have t6 : ((s[k].toNat : Int) == 95) = false := beq_eq_false_iff_ne.2 (by omega)
          have HV : Hid (nmC (s[k].toNat : Int) = true) := (by show nmC _ = _; rw [HC.out]; unfold dgB ltB; rw [t6]; simp [t0, t1, t2, t3, t4, t5])
          have HI2 : Hid (∀ (j : Nat) (h : j < s.size), j < k + 1 → nmC (s[j].toNat : Int) = true) := HG.out HV.out
          clear HC HG HM2 HV
          go_wp2_with fail
          go_roundw
          case rel => exact ⟨k + 1, by omega, by go_num, trivial, HI2⟩
          case measure => simp [intOf]; omega
        have t0 : (97 : Int) ≤ (s[k].toNat : Int) := by omega
        have t1 : ¬ (s[k].toNat : Int) ≤ 122 := by omega
        have t2 : (65 : Int) ≤ (s[k].toNat : Int) := by omega
        have t3 : ¬ (s[k].toNat : Int) ≤ 90 := by omega
        have t4 : (48 : Int) ≤ (s[k].toNat : Int) := by omega
        have t5 : ¬ (s[k].toNat : Int) ≤ 57 := by omega
        have t6 : ((s[k].toNat : Int) == 95) = false := beq_eq_false_iff_ne.2 (by omega)
        have HV : Hid (nmC (s[k].toNat : Int) = false) := (by show nmC _ = _; rw [HC.out]; unfold dgB ltB; rw [t6]; simp [t0, t1, t2, t3, t4, t5])
        have HE : Hid (nmB s = false) := HM2.out HV.out
        clear HC HG HM2 HV
        go_wp2_with fail
        go_ret
        exact ⟨by rw [HE.out]; rfl, rfl⟩
      · obtain rfl : k = s.size := by omega
        have HE : Hid (nmB s = true) := HN.out (fun j h => HI.out j h h)
        clear HN HM HI
        go_wp2_with fail
        go_ret
        exact ⟨by rw [HE.out]; rfl, rfl⟩
  · skip
    have HX := (show Hid _ from hd)
    clear hd HX
    go_wp2_with fail
    go_loopw [3] (fun t wr => ∃ k : Nat, k ≤ s.size ∧ t = .int .i64 k ∧ wr = w ∧ Hid (∀ (j : Nat) (h : j < s.size), j < k → nmC (s[j].toNat : Int) = true)) (fun t _ => s.size - (intOf t).toNat)
    case atStart => exact ⟨0, by omega, by go_num, rfl, fun j h q => by omega⟩
    case round =>
      obtain ⟨k, hk, rfl, rfl, HI⟩ := hrel
      clear d1
      by_cases hlt : k < s.size
      · have z3 : (0 : Int) ≤ (k : Int) := by omega
        have z4 : (k : Int) < (s.size : Int) := by omega
        have HC : Hid (nmC (s[k].toNat : Int) = (dgB (s[k].toNat : Int) || ltB (s[k].toNat : Int) || (s[k].toNat : Int) == 95)) := rfl
        have HG : Hid (nmC (s[k].toNat : Int) = true → ∀ (j : Nat) (h : j < s.size), j < k + 1 → nmC (s[j].toNat : Int) = true) := fun e j h q => by
          by_cases hj : j < k
          · exact HI.out j h hj
          · obtain rfl : j = k := by omega
            exact e
        have HM2 : Hid (nmC (s[k].toNat : Int) = false → nmB s = false) := HM.out k hlt
        clear HI HN HM
        by_cases r0 : (s[k].toNat : Int) < 48
        · have t0 : ¬ (97 : Int) ≤ (s[k].toNat : Int) := by omega
          have t1 : (s[k].toNat : Int) ≤ 122 := by omega
          have t2 : ¬ (65 : Int) ≤ (s[k].toNat : Int) := by omega
          have t3 : (s[k].toNat : Int) ≤ 90 := by omega
          have t4 : ¬ (48 : Int) ≤ (s[k].toNat : Int) := by omega
          have t5 : (s[k].toNat : Int) ≤ 57 := by omega
          have t6 : ((s[k].toNat : Int) == 95) = false := beq_eq_false_iff_ne.2 (by omega)
          have HV : Hid (nmC (s[k].toNat : Int) = false) := (by show nmC _ = _; rw [HC.out]; unfold dgB ltB; rw [t6]; simp [t0, t1, t2, t3, t4, t5])
          have HE : Hid (nmB s = false) := HM2.out HV.out
          clear HC HG HM2 HV
          go_wp2_with fail
          go_ret
          exact ⟨by rw [HE.out]; rfl, rfl⟩
        by_cases r1 : (s[k].toNat : Int) < 58
        · have t0 : ¬ (97 : Int) ≤ (s[k].toNat : Int) := by omega
          have t1 : (s[k].toNat : Int) ≤ 122 := by omega
          have t2 : ¬ (65 : Int) ≤ (s[k].toNat : Int) := by omega
          have t3 : (s[k].toNat : Int) ≤ 90 := by omega
          have t4 : (48 : Int) ≤ (s[k].toNat : Int) := by omega
          have t5 : (s[k].toNat : Int) ≤ 57 := by omega
          have t6 : ((s[k].toNat : Int) == 95) = false := beq_eq_false_iff_ne.2 (by omega)
          have HV : Hid (nmC (s[k].toNat : Int) = true) := (by show nmC _ = _; rw [HC.out]; unfold dgB ltB; rw [t6]; simp [t0, t1, t2, t3, t4, t5])
          have HI2 : Hid (∀ (j : Nat) (h : j < s.size), j < k + 1 → nmC (s[j].toNat : Int) = true) := HG.out HV.out
          clear HC HG HM2 HV
          go_wp2_with fail
          go_roundw
          case rel => exact ⟨k + 1, by omega, by go_num, trivial, HI2⟩
          case measure => simp [intOf]; omega
        by_cases r2 : (s[k].toNat : Int) < 65
        · have t0 : ¬ (97 : Int) ≤ (s[k].toNat : Int) := by omega
          have t1 : (s[k].toNat : Int) ≤ 122 := by omega
          have t2 : ¬ (65 : Int) ≤ (s[k].toNat : Int) := by omega
          have t3 : (s[k].toNat : Int) ≤ 90 := by omega
          have t4 : (48 : Int) ≤ (s[k].toNat : Int) := by omega
          have t5 : ¬ (s[k].toNat : Int) ≤ 57 := by omega
          have t6 : ((s[k].toNat : Int) == 95) = false := beq_eq_false_iff_ne.2 (by omega)
          have HV : Hid (nmC (s[k].toNat : Int) = false) := (by show nmC _ = _; rw [HC.out]; unfold dgB ltB; rw [t6]; simp [t0, t1, t2, t3, t4, t5])
          have HE : Hid (nmB s = false) := HM2.out HV.out
          clear HC HG HM2 HV
          go_wp2_with fail
          go_ret
          exact ⟨by rw [HE.out]; rfl, rfl⟩
        by_cases r3 : (s[k].toNat : Int) < 91
        · have t0 : ¬ (97 : Int) ≤ (s[k].toNat : Int) := by omega
          have t1 : (s[k].toNat : Int) ≤ 122 := by omega
          have t2 : (65 : Int) ≤ (s[k].toNat : Int) := by omega
          have t3 : (s[k].toNat : Int) ≤ 90 := by omega
          have t4 : (48 : Int) ≤ (s[k].toNat : Int) := by omega
          have t5 : ¬ (s[k].toNat : Int) ≤ 57 := by omega
          have t6 : ((s[k].toNat : Int) == 95) = false := beq_eq_false_iff_ne.2 (by omega)
          have HV : Hid (nmC (s[k].toNat : Int) = true) := (by show nmC _ = _; rw [HC.out]; unfold dgB ltB; rw [t6]; simp [t0, t1, t2, t3, t4, t5])
          have HI2 : Hid (∀ (j : Nat) (h : j < s.size), j < k + 1 → nmC (s[j].toNat : Int) = true) := HG.out HV.out
          clear HC HG HM2 HV
          go_wp2_with fail
          go_roundw
          case rel => exact ⟨k + 1, by omega, by go_num, trivial, HI2⟩
          case measure => simp [intOf]; omega
        by_cases r4 : (s[k].toNat : Int) < 95
        · have t0 : ¬ (97 : Int) ≤ (s[k].toNat : Int) := by omega
          have t1 : (s[k].toNat : Int) ≤ 122 := by omega
          have t2 : (65 : Int) ≤ (s[k].toNat : Int) := by omega
          have t3 : ¬ (s[k].toNat : Int) ≤ 90 := by omega
          have t4 : (48 : Int) ≤ (s[k].toNat : Int) := by omega
          have t5 : ¬ (s[k].toNat : Int) ≤ 57 := by omega
          have t6 : ((s[k].toNat : Int) == 95) = false := beq_eq_false_iff_ne.2 (by omega)
          have HV : Hid (nmC (s[k].toNat : Int) = false) := (by show nmC _ = _; rw [HC.out]; unfold dgB ltB; rw [t6]; simp [t0, t1, t2, t3, t4, t5])
          have HE : Hid (nmB s = false) := HM2.out HV.out
          clear HC HG HM2 HV
          go_wp2_with fail
          go_ret
          exact ⟨by rw [HE.out]; rfl, rfl⟩
        by_cases r5 : (s[k].toNat : Int) < 96
        · have t0 : ¬ (97 : Int) ≤ (s[k].toNat : Int) := by omega
          have t1 : (s[k].toNat : Int) ≤ 122 := by omega
          have t2 : (65 : Int) ≤ (s[k].toNat : Int) := by omega
          have t3 : ¬ (s[k].toNat : Int) ≤ 90 := by omega
          have t4 : (48 : Int) ≤ (s[k].toNat : Int) := by omega
          have t5 : ¬ (s[k].toNat : Int) ≤ 57 := by omega
          have t6 : ((s[k].toNat : Int) == 95) = true := beq_iff_eq.2 (by omega)
          have HV : Hid (nmC (s[k].toNat : Int) = true) := (by show nmC _ = _; rw [HC.out]; unfold dgB ltB; rw [t6]; simp [t0, t1, t2, t3, t4, t5])
          have HI2 : Hid (∀ (j : Nat) (h : j < s.size), j < k + 1 → nmC (s[j].toNat : Int) = true) := HG.out HV.out
          clear HC HG HM2 HV
          go_wp2_with fail
          go_roundw
          case rel => exact ⟨k + 1, by omega, by go_num, trivial, HI2⟩
          case measure => simp [intOf]; omega
        by_cases r6 : (s[k].toNat : Int) < 97
        · have t0 : ¬ (97 : Int) ≤ (s[k].toNat : Int) := by omega
          have t1 : (s[k].toNat : Int) ≤ 122 := by omega
          have t2 : (65 : Int) ≤ (s[k].toNat : Int) := by omega
          have t3 : ¬ (s[k].toNat : Int) ≤ 90 := by omega
          have t4 : (48 : Int) ≤ (s[k].toNat : Int) := by omega
          have t5 : ¬ (s[k].toNat : Int) ≤ 57 := by omega
          have t6 : ((s[k].toNat : Int) == 95) = false := beq_eq_false_iff_ne.2 (by omega)
          have HV : Hid (nmC (s[k].toNat : Int) = false) := (by show nmC _ = _; rw [HC.out]; unfold dgB ltB; rw [t6]; simp [t0, t1, t2, t3, t4, t5])
          have HE : Hid (nmB s = false) := HM2.out HV.out
          clear HC HG HM2 HV
          go_wp2_with fail
          go_ret
          exact ⟨by rw [HE.out]; rfl, rfl⟩
        by_cases r7 : (s[k].toNat : Int) < 123
        · have t0 : (97 : Int) ≤ (s[k].toNat : Int) := by omega
          have t1 : (s[k].toNat : Int) ≤ 122 := by omega
          have t2 : (65 : Int) ≤ (s[k].toNat : Int) := by omega
          have t3 : ¬ (s[k].toNat : Int) ≤ 90 := by omega
          have t4 : (48 : Int) ≤ (s[k].toNat : Int) := by omega
          have t5 : ¬ (s[k].toNat : Int) ≤ 57 := by omega
          have t6 : ((s[k].toNat : Int) == 95) = false := beq_eq_false_iff_ne.2 (by omega)
          have HV : Hid (nmC (s[k].toNat : Int) = true) := (by show nmC _ = _; rw [HC.out]; unfold dgB ltB; rw [t6]; simp [t0, t1, t2, t3, t4, t5])
          have HI2 : Hid (∀ (j : Nat) (h : j < s.size), j < k + 1 → nmC (s[j].toNat : Int) = true) := HG.out HV.out
          clear HC HG HM2 HV
          go_wp2_with fail
          go_roundw
          case rel => exact ⟨k + 1, by omega, by go_num, trivial, HI2⟩
          case measure => simp [intOf]; omega
        have t0 : (97 : Int) ≤ (s[k].toNat : Int) := by omega
        have t1 : ¬ (s[k].toNat : Int) ≤ 122 := by omega
        have t2 : (65 : Int) ≤ (s[k].toNat : Int) := by omega
        have t3 : ¬ (s[k].toNat : Int) ≤ 90 := by omega
        have t4 : (48 : Int) ≤ (s[k].toNat : Int) := by omega
        have t5 : ¬ (s[k].toNat : Int) ≤ 57 := by omega
        have t6 : ((s[k].toNat : Int) == 95) = false := beq_eq_false_iff_ne.2 (by omega)
        have HV : Hid (nmC (s[k].toNat : Int) = false) := (by show nmC _ = _; rw [HC.out]; unfold dgB ltB; rw [t6]; simp [t0, t1, t2, t3, t4, t5])
        have HE : Hid (nmB s = false) := HM2.out HV.out
        clear HC HG HM2 HV
        go_wp2_with fail
        go_ret
        exact ⟨by rw [HE.out]; rfl, rfl⟩
      · obtain rfl : k = s.size := by omega
        have HE : Hid (nmB s = true) := HN.out (fun j h => HI.out j h h)
        clear HN HM HI
        go_wp2_with fail
        go_ret
        exact ⟨by rw [HE.out]; rfl, rfl⟩

set_option maxRecDepth 100000 in
set_option maxHeartbeats 4000000 in
theorem templateR_any (s : ByteArray) (hs : s.size ≤ 140737488355328) (w : World) : Calls Try.prog 77 #[.string s] w fun e w' => e = .returned (.bool (tmB s)) ∧ w' = w := by
  by_cases h1 : 255 < s.size
  · have HE : Hid (tmB s = false) := (by show tmB s = _; unfold tmB; rw [if_neg (by omega)])
    have z1 : (255 : Int) < (s.size : Int) := by omega
    clear hs
    go_enter Try.func77, Try.ntmps77
    go_wp2_with fail
    go_ret
    exact ⟨by rw [HE.out]; rfl, rfl⟩
  have z1 : ¬ (255 : Int) < (s.size : Int) := by omega
  have HB : Hid (tmB s = tmGo s s.size 0) := (by show tmB s = _; unfold tmB; rw [if_pos (by omega)])
  go_enter Try.func77, Try.ntmps77
  go_wp2_with fail
  go_loopw [3] (fun t wr => ∃ k : Nat, k ≤ s.size ∧ t = .int .i64 k ∧ wr = w ∧ Hid (∃ m, s.size ≤ k + m ∧ tmB s = tmGo s m k)) (fun t _ => s.size - (intOf t).toNat)
  case atStart => exact ⟨0, by omega, by go_num, rfl, ⟨s.size, by omega, HB.out⟩⟩
  case round =>
    obtain ⟨k, hk, rfl, rfl, HI⟩ := hrel
    clear HB
    obtain ⟨m, hm, HJ⟩ := HI.out
    have HJ := (show Hid _ from HJ)
    clear HI
    by_cases hlt : k < s.size
    · have z3 : (0 : Int) ≤ (k : Int) := by omega
      have z4 : (k : Int) < (s.size : Int) := by omega
      by_cases h37 : (s[k].toNat : Int) = 37
      · have e37 : ((s[k].toNat : Int) == 37) = true := beq_iff_eq.2 h37
        by_cases h2 : k + 1 < s.size
        · have z5 : ((k : Int) + 1 == (s.size : Int)) = false := beq_eq_false_iff_ne.2 (by omega)
          have z6 : (k : Int) + 1 < (s.size : Int) := by omega
          by_cases g37 : (s[k + 1].toNat : Int) = 37
          · have f37 : ((s[k + 1].toNat : Int) != 37) = false := by rw [bne, beq_iff_eq.2 g37]; rfl
            have HK : Hid (∃ m2, s.size ≤ k + 2 + m2 ∧ tmB s = tmGo s m2 (k + 2)) := by
              obtain ⟨m2, u, v⟩ := tm_two hlt hm h37 h2 (.inl g37)
              exact ⟨m2, u, HJ.out.trans v⟩
            clear HJ h37 g37
            go_wp2_with fail
            go_roundw
            case rel => exact ⟨k + 2, by omega, by go_num, trivial, HK⟩
            case measure => simp [intOf]; omega
          · have f37 : ((s[k + 1].toNat : Int) != 37) = true := by rw [bne, beq_eq_false_iff_ne.2 g37]; rfl
            by_cases d1 : (s[k + 1].toNat : Int) < 48
            · have HE : Hid (tmB s = false) := HJ.out.trans (tm_bad hlt hm h37 h2 g37 (by unfold dgB; rw [decide_eq_false (by omega)]; rfl))
              clear HJ h37 g37
              go_wp2_with fail
              go_ret
              exact ⟨by rw [HE.out]; rfl, rfl⟩
            · by_cases d2 : 57 < (s[k + 1].toNat : Int)
              · have HE : Hid (tmB s = false) := HJ.out.trans (tm_bad hlt hm h37 h2 g37 (by unfold dgB; rw [decide_eq_false (p := (s[k + 1].toNat : Int) ≤ 57) (by omega), Bool.and_false]))
                clear HJ h37 g37
                go_wp2_with fail
                go_ret
                exact ⟨by rw [HE.out]; rfl, rfl⟩
              · have HK : Hid (∃ m2, s.size ≤ k + 2 + m2 ∧ tmB s = tmGo s m2 (k + 2)) := by
                  obtain ⟨m2, u, v⟩ := tm_two hlt hm h37 h2 (.inr (by unfold dgB; rw [decide_eq_true (by omega), decide_eq_true (by omega)]; rfl))
                  exact ⟨m2, u, HJ.out.trans v⟩
                clear HJ h37 g37
                go_wp2_with fail
                go_roundw
                case rel => exact ⟨k + 2, by omega, by go_num, trivial, HK⟩
                case measure => simp [intOf]; omega
        · have z5 : ((k : Int) + 1 == (s.size : Int)) = true := beq_iff_eq.2 (by omega)
          have HE : Hid (tmB s = false) := HJ.out.trans (tm_cut hlt hm h37 h2)
          clear HJ h37
          go_wp2_with fail
          go_ret
          exact ⟨by rw [HE.out]; rfl, rfl⟩
      · have e37 : ((s[k].toNat : Int) == 37) = false := beq_eq_false_iff_ne.2 h37
        have HK : Hid (∃ m2, s.size ≤ k + 1 + m2 ∧ tmB s = tmGo s m2 (k + 1)) := by
          obtain ⟨m2, u, v⟩ := tm_plain hlt hm h37
          exact ⟨m2, u, HJ.out.trans v⟩
        clear HJ h37
        go_wp2_with fail
        go_roundw
        case rel => exact ⟨k + 1, by omega, by go_num, trivial, HK⟩
        case measure => simp [intOf]; omega
    · obtain rfl : k = s.size := by omega
      have HE : Hid (tmB s = true) := HJ.out.trans (tm_end s m _ (by omega))
      clear HJ
      go_wp2_with fail
      go_ret
      exact ⟨by rw [HE.out]; rfl, rfl⟩
end Go.Proofs.Ytppggnmlbcdegaa.T

namespace Go.Proofs.Ytppggnmlbcdegaa.T
open Go.RowKit
theorem below_two (w : World) (o p : Obj) : Below w.heap.size w ((w.alloc o).alloc p) := by
  have h := below_box w o
  exact h.alloc h.size _

set_option maxRecDepth 100000 in
set_option maxHeartbeats 8000000 in
theorem fieldR_4 (nn : Int) (tx : ByteArray) (a b c d : Int) (_hs : tx.size ≤ 140737488355328) (w : World) : Calls Try.prog 70 #[.agg #[.int .i64 4, .int .i64 nn, .string tx, .int .u64 a, .int .u64 b, .int .u64 c, .int .u64 d]] w fun e w' => e = .returned (.bool (txF 4 tx && nuF 4 nn && seF 4 a b c d)) ∧ Below w.heap.size w w' := by
  have sq := seE_zero 4 a b c d (by decide)
  have hq := set_neq a b c d 0 0 0 0
  cases hz : seE a b c d 0 0 0 0 with
  | false =>
    have HF : Hid ((txF 4 tx && nuF 4 nn && seF 4 a b c d) = false) := (by show (_ && _) = _; rw [← sq, hz, Bool.and_false])
    rw [hz] at hq
    clear sq hz
    go_enter Try.func70, Try.ntmps70
    go_wp2_with fail
    go_ret
    exact ⟨by rw [HF.out]; rfl, below_two _ _ _⟩
  | true =>
    have hse : seF 4 a b c d = true := by rw [← sq, hz]
    rw [hz] at hq
    clear sq hz
    have HU : Hid (nuF 4 nn = decide (nn = 0)) := rfl
    by_cases n1 : nn < 0
    · have HF : Hid ((txF 4 tx && nuF 4 nn && seF 4 a b c d) = false) := (by show (_ && _) = _; rw [hse, HU.out, decide_eq_false (by omega), Bool.and_true, Bool.and_false])
      clear HU hse
      go_enter Try.func70, Try.ntmps70
      go_wp2_with fail
      go_ret
      exact ⟨by rw [HF.out]; rfl, below_two _ _ _⟩
    by_cases n2 : 50 < nn
    · have HF : Hid ((txF 4 tx && nuF 4 nn && seF 4 a b c d) = false) := (by show (_ && _) = _; rw [hse, HU.out, decide_eq_false (by omega), Bool.and_true, Bool.and_false])
      clear HU hse
      go_enter Try.func70, Try.ntmps70
      go_wp2_with fail
      go_ret
      exact ⟨by rw [HF.out]; rfl, below_two _ _ _⟩
    by_cases n3 : nn = 0
    rotate_left
    · have HF : Hid ((txF 4 tx && nuF 4 nn && seF 4 a b c d) = false) := (by show (_ && _) = _; rw [hse, HU.out, decide_eq_false n3, Bool.and_true, Bool.and_false])
      have f3 : (nn == 0) = false := beq_eq_false_iff_ne.2 n3
      clear HU hse n3
      go_enter Try.func70, Try.ntmps70
      go_wp2_with fail
      go_ret
      exact ⟨by rw [HF.out]; rfl, below_two _ _ _⟩
    have f3 : (nn == 0) = true := beq_iff_eq.2 n3
    have HF : Hid ((txF 4 tx && nuF 4 nn && seF 4 a b c d) = txF 4 tx) := (by show (_ && _) = _; rw [hse, HU.out, decide_eq_true (by omega), Bool.and_true, Bool.and_true])
    clear hse HU n3
    by_cases q0 : (tx.size : Int) < 1
    · have HG : Hid (txF 4 tx = false) := (by show txF 4 tx = _; unfold txF; rw [if_pos rfl, decide_eq_false (by omega)])
      go_enter Try.func70, Try.ntmps70
      go_wp2_with fail
      go_ret
      exact ⟨by rw [HF.out, HG.out]; rfl, below_two _ _ _⟩
    · have HG : Hid (txF 4 tx = decide ((tx.size : Int) ≤ 255)) := (by
        show txF 4 tx = _
        unfold txF
        rw [if_pos rfl]
        by_cases q : tx.size ≤ 255
        · rw [decide_eq_true (by omega), decide_eq_true (by omega)]
        · rw [decide_eq_false (by omega), decide_eq_false (by omega)])
      go_enter Try.func70, Try.ntmps70
      go_wp2_with fail
      go_ret
      exact ⟨by rw [HF.out, HG.out]; rfl, below_two _ _ _⟩

set_option maxRecDepth 100000 in
set_option maxHeartbeats 8000000 in
theorem fieldR_6 (nn : Int) (tx : ByteArray) (a b c d : Int) (hs : tx.size ≤ 140737488355328) (w : World) : Calls Try.prog 70 #[.agg #[.int .i64 6, .int .i64 nn, .string tx, .int .u64 a, .int .u64 b, .int .u64 c, .int .u64 d]] w fun e w' => e = .returned (.bool (txF 6 tx && nuF 6 nn && seF 6 a b c d)) ∧ Below w.heap.size w w' := by
  have sq := seE_zero 6 a b c d (by decide)
  have hq := set_neq a b c d 0 0 0 0
  cases hz : seE a b c d 0 0 0 0 with
  | false =>
    have HF : Hid ((txF 6 tx && nuF 6 nn && seF 6 a b c d) = false) := (by show (_ && _) = _; rw [← sq, hz, Bool.and_false])
    rw [hz] at hq
    clear sq hz
    go_enter Try.func70, Try.ntmps70
    go_wp2_with fail
    go_ret
    exact ⟨by rw [HF.out]; rfl, below_two _ _ _⟩
  | true =>
    have hse : seF 6 a b c d = true := by rw [← sq, hz]
    rw [hz] at hq
    clear sq hz
    have HU : Hid (nuF 6 nn = decide (nn = 0)) := rfl
    by_cases n1 : nn < 0
    · have HF : Hid ((txF 6 tx && nuF 6 nn && seF 6 a b c d) = false) := (by show (_ && _) = _; rw [hse, HU.out, decide_eq_false (by omega), Bool.and_true, Bool.and_false])
      clear HU hse
      go_enter Try.func70, Try.ntmps70
      go_wp2_with fail
      go_ret
      exact ⟨by rw [HF.out]; rfl, below_two _ _ _⟩
    by_cases n2 : 50 < nn
    · have HF : Hid ((txF 6 tx && nuF 6 nn && seF 6 a b c d) = false) := (by show (_ && _) = _; rw [hse, HU.out, decide_eq_false (by omega), Bool.and_true, Bool.and_false])
      clear HU hse
      go_enter Try.func70, Try.ntmps70
      go_wp2_with fail
      go_ret
      exact ⟨by rw [HF.out]; rfl, below_two _ _ _⟩
    by_cases n3 : nn = 0
    rotate_left
    · have HF : Hid ((txF 6 tx && nuF 6 nn && seF 6 a b c d) = false) := (by show (_ && _) = _; rw [hse, HU.out, decide_eq_false n3, Bool.and_true, Bool.and_false])
      have f3 : (nn == 0) = false := beq_eq_false_iff_ne.2 n3
      clear HU hse n3
      go_enter Try.func70, Try.ntmps70
      go_wp2_with fail
      go_ret
      exact ⟨by rw [HF.out]; rfl, below_two _ _ _⟩
    have f3 : (nn == 0) = true := beq_iff_eq.2 n3
    have HF : Hid ((txF 6 tx && nuF 6 nn && seF 6 a b c d) = txF 6 tx) := (by show (_ && _) = _; rw [hse, HU.out, decide_eq_true (by omega), Bool.and_true, Bool.and_true])
    clear hse HU n3
    have HN : Hid (∀ w, Calls Try.prog 14 #[.string tx] w fun e w' => e = .returned (.bool (nmB tx)) ∧ w' = w) := fun w => nameR_any tx hs w
    have HG : Hid (txF 6 tx = nmB tx) := rfl
    go_enter Try.func70, Try.ntmps70
    go_wp2_with fail
    refine (HN.out _).mono ?_
    rintro e w2 ⟨rfl, rfl⟩
    clear HN
    go_wp2_with fail
    go_ret
    exact ⟨by rw [HF.out, HG.out]; rfl, below_two _ _ _⟩

set_option maxRecDepth 100000 in
set_option maxHeartbeats 8000000 in
theorem fieldR_19 (nn : Int) (tx : ByteArray) (a b c d : Int) (hs : tx.size ≤ 140737488355328) (w : World) : Calls Try.prog 70 #[.agg #[.int .i64 19, .int .i64 nn, .string tx, .int .u64 a, .int .u64 b, .int .u64 c, .int .u64 d]] w fun e w' => e = .returned (.bool (txF 19 tx && nuF 19 nn && seF 19 a b c d)) ∧ Below w.heap.size w w' := by
  have sq := seE_zero 19 a b c d (by decide)
  have hq := set_neq a b c d 0 0 0 0
  cases hz : seE a b c d 0 0 0 0 with
  | false =>
    have HF : Hid ((txF 19 tx && nuF 19 nn && seF 19 a b c d) = false) := (by show (_ && _) = _; rw [← sq, hz, Bool.and_false])
    rw [hz] at hq
    clear sq hz
    go_enter Try.func70, Try.ntmps70
    go_wp2_with fail
    go_ret
    exact ⟨by rw [HF.out]; rfl, below_two _ _ _⟩
  | true =>
    have hse : seF 19 a b c d = true := by rw [← sq, hz]
    rw [hz] at hq
    clear sq hz
    have HU : Hid (nuF 19 nn = decide (nn = 0)) := rfl
    by_cases n1 : nn < 0
    · have HF : Hid ((txF 19 tx && nuF 19 nn && seF 19 a b c d) = false) := (by show (_ && _) = _; rw [hse, HU.out, decide_eq_false (by omega), Bool.and_true, Bool.and_false])
      clear HU hse
      go_enter Try.func70, Try.ntmps70
      go_wp2_with fail
      go_ret
      exact ⟨by rw [HF.out]; rfl, below_two _ _ _⟩
    by_cases n2 : 50 < nn
    · have HF : Hid ((txF 19 tx && nuF 19 nn && seF 19 a b c d) = false) := (by show (_ && _) = _; rw [hse, HU.out, decide_eq_false (by omega), Bool.and_true, Bool.and_false])
      clear HU hse
      go_enter Try.func70, Try.ntmps70
      go_wp2_with fail
      go_ret
      exact ⟨by rw [HF.out]; rfl, below_two _ _ _⟩
    by_cases n3 : nn = 0
    rotate_left
    · have HF : Hid ((txF 19 tx && nuF 19 nn && seF 19 a b c d) = false) := (by show (_ && _) = _; rw [hse, HU.out, decide_eq_false n3, Bool.and_true, Bool.and_false])
      have f3 : (nn == 0) = false := beq_eq_false_iff_ne.2 n3
      clear HU hse n3
      go_enter Try.func70, Try.ntmps70
      go_wp2_with fail
      go_ret
      exact ⟨by rw [HF.out]; rfl, below_two _ _ _⟩
    have f3 : (nn == 0) = true := beq_iff_eq.2 n3
    have HF : Hid ((txF 19 tx && nuF 19 nn && seF 19 a b c d) = txF 19 tx) := (by show (_ && _) = _; rw [hse, HU.out, decide_eq_true (by omega), Bool.and_true, Bool.and_true])
    clear hse HU n3
    by_cases q0 : tx.size = 0
    · have HG : Hid (txF 19 tx = true) := (by show txF 19 tx = _; unfold txF; rw [if_neg (by decide), if_neg (by decide), if_pos rfl, decide_eq_true q0]; rfl)
      have t0 := emp_t q0
      clear q0
      go_enter Try.func70, Try.ntmps70
      go_wp2_with fail
      go_ret
      exact ⟨by rw [HF.out, HG.out]; rfl, below_two _ _ _⟩
    · have HG : Hid (txF 19 tx = nmB tx) := (by show txF 19 tx = _; unfold txF; rw [if_neg (by decide), if_neg (by decide), if_pos rfl, decide_eq_false q0]; rfl)
      have t0 := emp_f q0
      have HN : Hid (∀ w, Calls Try.prog 14 #[.string tx] w fun e w' => e = .returned (.bool (nmB tx)) ∧ w' = w) := fun w => nameR_any tx hs w
      clear q0
      go_enter Try.func70, Try.ntmps70
      go_wp2_with fail
      refine (HN.out _).mono ?_
      rintro e w2 ⟨rfl, rfl⟩
      clear HN
      go_wp2_with fail
      go_ret
      exact ⟨by rw [HF.out, HG.out]; rfl, below_two _ _ _⟩

set_option maxRecDepth 100000 in
set_option maxHeartbeats 8000000 in
theorem fieldR_22 (nn : Int) (tx : ByteArray) (a b c d : Int) (hs : tx.size ≤ 140737488355328) (w : World) : Calls Try.prog 70 #[.agg #[.int .i64 22, .int .i64 nn, .string tx, .int .u64 a, .int .u64 b, .int .u64 c, .int .u64 d]] w fun e w' => e = .returned (.bool (txF 22 tx && nuF 22 nn && seF 22 a b c d)) ∧ Below w.heap.size w w' := by
  have sq := seE_zero 22 a b c d (by decide)
  have hq := set_neq a b c d 0 0 0 0
  cases hz : seE a b c d 0 0 0 0 with
  | false =>
    have HF : Hid ((txF 22 tx && nuF 22 nn && seF 22 a b c d) = false) := (by show (_ && _) = _; rw [← sq, hz, Bool.and_false])
    rw [hz] at hq
    clear sq hz
    go_enter Try.func70, Try.ntmps70
    go_wp2_with fail
    go_ret
    exact ⟨by rw [HF.out]; rfl, below_two _ _ _⟩
  | true =>
    have hse : seF 22 a b c d = true := by rw [← sq, hz]
    rw [hz] at hq
    clear sq hz
    have HU : Hid (nuF 22 nn = decide (nn = 0)) := rfl
    by_cases n1 : nn < 0
    · have HF : Hid ((txF 22 tx && nuF 22 nn && seF 22 a b c d) = false) := (by show (_ && _) = _; rw [hse, HU.out, decide_eq_false (by omega), Bool.and_true, Bool.and_false])
      clear HU hse
      go_enter Try.func70, Try.ntmps70
      go_wp2_with fail
      go_ret
      exact ⟨by rw [HF.out]; rfl, below_two _ _ _⟩
    by_cases n2 : 50 < nn
    · have HF : Hid ((txF 22 tx && nuF 22 nn && seF 22 a b c d) = false) := (by show (_ && _) = _; rw [hse, HU.out, decide_eq_false (by omega), Bool.and_true, Bool.and_false])
      clear HU hse
      go_enter Try.func70, Try.ntmps70
      go_wp2_with fail
      go_ret
      exact ⟨by rw [HF.out]; rfl, below_two _ _ _⟩
    by_cases n3 : nn = 0
    rotate_left
    · have HF : Hid ((txF 22 tx && nuF 22 nn && seF 22 a b c d) = false) := (by show (_ && _) = _; rw [hse, HU.out, decide_eq_false n3, Bool.and_true, Bool.and_false])
      have f3 : (nn == 0) = false := beq_eq_false_iff_ne.2 n3
      clear HU hse n3
      go_enter Try.func70, Try.ntmps70
      go_wp2_with fail
      go_ret
      exact ⟨by rw [HF.out]; rfl, below_two _ _ _⟩
    have f3 : (nn == 0) = true := beq_iff_eq.2 n3
    have HF : Hid ((txF 22 tx && nuF 22 nn && seF 22 a b c d) = txF 22 tx) := (by show (_ && _) = _; rw [hse, HU.out, decide_eq_true (by omega), Bool.and_true, Bool.and_true])
    clear hse HU n3
    have HN : Hid (∀ w, Calls Try.prog 77 #[.string tx] w fun e w' => e = .returned (.bool (tmB tx)) ∧ w' = w) := fun w => templateR_any tx hs w
    have HG : Hid (txF 22 tx = tmB tx) := rfl
    go_enter Try.func70, Try.ntmps70
    go_wp2_with fail
    refine (HN.out _).mono ?_
    rintro e w2 ⟨rfl, rfl⟩
    clear HN
    go_wp2_with fail
    go_ret
    exact ⟨by rw [HF.out, HG.out]; rfl, below_two _ _ _⟩

set_option maxRecDepth 100000 in
set_option maxHeartbeats 8000000 in
theorem fieldR_5 (nn : Int) (tx : ByteArray) (a b c d : Int) (_hs : tx.size ≤ 140737488355328) (w : World) : Calls Try.prog 70 #[.agg #[.int .i64 5, .int .i64 nn, .string tx, .int .u64 a, .int .u64 b, .int .u64 c, .int .u64 d]] w fun e w' => e = .returned (.bool (txF 5 tx && nuF 5 nn && seF 5 a b c d)) ∧ Below w.heap.size w w' := by
  have hse : seF 5 a b c d = true := rfl
  have HU : Hid (nuF 5 nn = decide (nn = 0)) := rfl
  by_cases n1 : nn < 0
  · have HF : Hid ((txF 5 tx && nuF 5 nn && seF 5 a b c d) = false) := (by show (_ && _) = _; rw [hse, HU.out, decide_eq_false (by omega), Bool.and_true, Bool.and_false])
    clear HU hse
    go_enter Try.func70, Try.ntmps70
    go_wp2_with fail
    go_ret
    exact ⟨by rw [HF.out]; rfl, below_two _ _ _⟩
  by_cases n2 : 50 < nn
  · have HF : Hid ((txF 5 tx && nuF 5 nn && seF 5 a b c d) = false) := (by show (_ && _) = _; rw [hse, HU.out, decide_eq_false (by omega), Bool.and_true, Bool.and_false])
    clear HU hse
    go_enter Try.func70, Try.ntmps70
    go_wp2_with fail
    go_ret
    exact ⟨by rw [HF.out]; rfl, below_two _ _ _⟩
  by_cases n3 : nn = 0
  rotate_left
  · have HF : Hid ((txF 5 tx && nuF 5 nn && seF 5 a b c d) = false) := (by show (_ && _) = _; rw [hse, HU.out, decide_eq_false n3, Bool.and_true, Bool.and_false])
    have f3 : (nn == 0) = false := beq_eq_false_iff_ne.2 n3
    clear HU hse n3
    go_enter Try.func70, Try.ntmps70
    go_wp2_with fail
    go_ret
    exact ⟨by rw [HF.out]; rfl, below_two _ _ _⟩
  have f3 : (nn == 0) = true := beq_iff_eq.2 n3
  have HF : Hid ((txF 5 tx && nuF 5 nn && seF 5 a b c d) = txF 5 tx) := (by show (_ && _) = _; rw [hse, HU.out, decide_eq_true (by omega), Bool.and_true, Bool.and_true])
  clear hse HU n3
  have HT : Hid (txF 5 tx = decide (tx.size = 0)) := rfl
  by_cases q0 : tx.size = 0
  · have HG : Hid (txF 5 tx = true) := (by show txF _ tx = _; rw [HT.out, decide_eq_true q0])
    have t0 := emp_t q0
    clear q0
    go_enter Try.func70, Try.ntmps70
    go_wp2_with fail
    go_ret
    exact ⟨by rw [HF.out, HG.out]; rfl, below_two _ _ _⟩
  · have HG : Hid (txF 5 tx = false) := (by show txF _ tx = _; rw [HT.out, decide_eq_false q0])
    have t0 := emp_f q0
    clear q0
    go_enter Try.func70, Try.ntmps70
    go_wp2_with fail
    go_ret
    exact ⟨by rw [HF.out, HG.out]; rfl, below_two _ _ _⟩

set_option maxRecDepth 100000 in
set_option maxHeartbeats 8000000 in
theorem fieldR_14 (nn : Int) (tx : ByteArray) (a b c d : Int) (_hs : tx.size ≤ 140737488355328) (w : World) : Calls Try.prog 70 #[.agg #[.int .i64 14, .int .i64 nn, .string tx, .int .u64 a, .int .u64 b, .int .u64 c, .int .u64 d]] w fun e w' => e = .returned (.bool (txF 14 tx && nuF 14 nn && seF 14 a b c d)) ∧ Below w.heap.size w w' := by
  have sq := seE_zero 14 a b c d (by decide)
  have hq := set_neq a b c d 0 0 0 0
  cases hz : seE a b c d 0 0 0 0 with
  | false =>
    have HF : Hid ((txF 14 tx && nuF 14 nn && seF 14 a b c d) = false) := (by show (_ && _) = _; rw [← sq, hz, Bool.and_false])
    rw [hz] at hq
    clear sq hz
    go_enter Try.func70, Try.ntmps70
    go_wp2_with fail
    go_ret
    exact ⟨by rw [HF.out]; rfl, below_two _ _ _⟩
  | true =>
    have hse : seF 14 a b c d = true := by rw [← sq, hz]
    rw [hz] at hq
    clear sq hz
    have HU : Hid (nuF 14 nn = decide (0 ≤ nn ∧ nn ≤ 50)) := rfl
    by_cases n1 : nn < 0
    · have HF : Hid ((txF 14 tx && nuF 14 nn && seF 14 a b c d) = false) := (by show (_ && _) = _; rw [hse, HU.out, decide_eq_false (by omega), Bool.and_true, Bool.and_false])
      clear HU hse
      go_enter Try.func70, Try.ntmps70
      go_wp2_with fail
      go_ret
      exact ⟨by rw [HF.out]; rfl, below_two _ _ _⟩
    by_cases n2 : 50 < nn
    · have HF : Hid ((txF 14 tx && nuF 14 nn && seF 14 a b c d) = false) := (by show (_ && _) = _; rw [hse, HU.out, decide_eq_false (by omega), Bool.and_true, Bool.and_false])
      clear HU hse
      go_enter Try.func70, Try.ntmps70
      go_wp2_with fail
      go_ret
      exact ⟨by rw [HF.out]; rfl, below_two _ _ _⟩
    have HF : Hid ((txF 14 tx && nuF 14 nn && seF 14 a b c d) = txF 14 tx) := (by show (_ && _) = _; rw [hse, HU.out, decide_eq_true (by omega), Bool.and_true, Bool.and_true])
    clear hse HU
    have HT : Hid (txF 14 tx = decide (tx.size = 0)) := rfl
    by_cases q0 : tx.size = 0
    · have HG : Hid (txF 14 tx = true) := (by show txF _ tx = _; rw [HT.out, decide_eq_true q0])
      have t0 := emp_t q0
      clear q0
      go_enter Try.func70, Try.ntmps70
      go_wp2_with fail
      go_ret
      exact ⟨by rw [HF.out, HG.out]; rfl, below_two _ _ _⟩
    · have HG : Hid (txF 14 tx = false) := (by show txF _ tx = _; rw [HT.out, decide_eq_false q0])
      have t0 := emp_f q0
      clear q0
      go_enter Try.func70, Try.ntmps70
      go_wp2_with fail
      go_ret
      exact ⟨by rw [HF.out, HG.out]; rfl, below_two _ _ _⟩

set_option maxRecDepth 100000 in
set_option maxHeartbeats 8000000 in
theorem fieldR_15 (nn : Int) (tx : ByteArray) (a b c d : Int) (_hs : tx.size ≤ 140737488355328) (w : World) : Calls Try.prog 70 #[.agg #[.int .i64 15, .int .i64 nn, .string tx, .int .u64 a, .int .u64 b, .int .u64 c, .int .u64 d]] w fun e w' => e = .returned (.bool (txF 15 tx && nuF 15 nn && seF 15 a b c d)) ∧ Below w.heap.size w w' := by
  have sq := seE_zero 15 a b c d (by decide)
  have hq := set_neq a b c d 0 0 0 0
  cases hz : seE a b c d 0 0 0 0 with
  | false =>
    have HF : Hid ((txF 15 tx && nuF 15 nn && seF 15 a b c d) = false) := (by show (_ && _) = _; rw [← sq, hz, Bool.and_false])
    rw [hz] at hq
    clear sq hz
    go_enter Try.func70, Try.ntmps70
    go_wp2_with fail
    go_ret
    exact ⟨by rw [HF.out]; rfl, below_two _ _ _⟩
  | true =>
    have hse : seF 15 a b c d = true := by rw [← sq, hz]
    rw [hz] at hq
    clear sq hz
    have HU : Hid (nuF 15 nn = decide (0 ≤ nn ∧ nn ≤ 50)) := rfl
    by_cases n1 : nn < 0
    · have HF : Hid ((txF 15 tx && nuF 15 nn && seF 15 a b c d) = false) := (by show (_ && _) = _; rw [hse, HU.out, decide_eq_false (by omega), Bool.and_true, Bool.and_false])
      clear HU hse
      go_enter Try.func70, Try.ntmps70
      go_wp2_with fail
      go_ret
      exact ⟨by rw [HF.out]; rfl, below_two _ _ _⟩
    by_cases n2 : 50 < nn
    · have HF : Hid ((txF 15 tx && nuF 15 nn && seF 15 a b c d) = false) := (by show (_ && _) = _; rw [hse, HU.out, decide_eq_false (by omega), Bool.and_true, Bool.and_false])
      clear HU hse
      go_enter Try.func70, Try.ntmps70
      go_wp2_with fail
      go_ret
      exact ⟨by rw [HF.out]; rfl, below_two _ _ _⟩
    have HF : Hid ((txF 15 tx && nuF 15 nn && seF 15 a b c d) = txF 15 tx) := (by show (_ && _) = _; rw [hse, HU.out, decide_eq_true (by omega), Bool.and_true, Bool.and_true])
    clear hse HU
    have HT : Hid (txF 15 tx = decide (tx.size = 0)) := rfl
    by_cases q0 : tx.size = 0
    · have HG : Hid (txF 15 tx = true) := (by show txF _ tx = _; rw [HT.out, decide_eq_true q0])
      have t0 := emp_t q0
      clear q0
      go_enter Try.func70, Try.ntmps70
      go_wp2_with fail
      go_ret
      exact ⟨by rw [HF.out, HG.out]; rfl, below_two _ _ _⟩
    · have HG : Hid (txF 15 tx = false) := (by show txF _ tx = _; rw [HT.out, decide_eq_false q0])
      have t0 := emp_f q0
      clear q0
      go_enter Try.func70, Try.ntmps70
      go_wp2_with fail
      go_ret
      exact ⟨by rw [HF.out, HG.out]; rfl, below_two _ _ _⟩

set_option maxRecDepth 100000 in
set_option maxHeartbeats 8000000 in
theorem fieldR_16 (nn : Int) (tx : ByteArray) (a b c d : Int) (_hs : tx.size ≤ 140737488355328) (w : World) : Calls Try.prog 70 #[.agg #[.int .i64 16, .int .i64 nn, .string tx, .int .u64 a, .int .u64 b, .int .u64 c, .int .u64 d]] w fun e w' => e = .returned (.bool (txF 16 tx && nuF 16 nn && seF 16 a b c d)) ∧ Below w.heap.size w w' := by
  have sq := seE_zero 16 a b c d (by decide)
  have hq := set_neq a b c d 0 0 0 0
  cases hz : seE a b c d 0 0 0 0 with
  | false =>
    have HF : Hid ((txF 16 tx && nuF 16 nn && seF 16 a b c d) = false) := (by show (_ && _) = _; rw [← sq, hz, Bool.and_false])
    rw [hz] at hq
    clear sq hz
    go_enter Try.func70, Try.ntmps70
    go_wp2_with fail
    go_ret
    exact ⟨by rw [HF.out]; rfl, below_two _ _ _⟩
  | true =>
    have hse : seF 16 a b c d = true := by rw [← sq, hz]
    rw [hz] at hq
    clear sq hz
    have HU : Hid (nuF 16 nn = decide (0 ≤ nn ∧ nn ≤ 50)) := rfl
    by_cases n1 : nn < 0
    · have HF : Hid ((txF 16 tx && nuF 16 nn && seF 16 a b c d) = false) := (by show (_ && _) = _; rw [hse, HU.out, decide_eq_false (by omega), Bool.and_true, Bool.and_false])
      clear HU hse
      go_enter Try.func70, Try.ntmps70
      go_wp2_with fail
      go_ret
      exact ⟨by rw [HF.out]; rfl, below_two _ _ _⟩
    by_cases n2 : 50 < nn
    · have HF : Hid ((txF 16 tx && nuF 16 nn && seF 16 a b c d) = false) := (by show (_ && _) = _; rw [hse, HU.out, decide_eq_false (by omega), Bool.and_true, Bool.and_false])
      clear HU hse
      go_enter Try.func70, Try.ntmps70
      go_wp2_with fail
      go_ret
      exact ⟨by rw [HF.out]; rfl, below_two _ _ _⟩
    have HF : Hid ((txF 16 tx && nuF 16 nn && seF 16 a b c d) = txF 16 tx) := (by show (_ && _) = _; rw [hse, HU.out, decide_eq_true (by omega), Bool.and_true, Bool.and_true])
    clear hse HU
    have HT : Hid (txF 16 tx = decide (tx.size = 0)) := rfl
    by_cases q0 : tx.size = 0
    · have HG : Hid (txF 16 tx = true) := (by show txF _ tx = _; rw [HT.out, decide_eq_true q0])
      have t0 := emp_t q0
      clear q0
      go_enter Try.func70, Try.ntmps70
      go_wp2_with fail
      go_ret
      exact ⟨by rw [HF.out, HG.out]; rfl, below_two _ _ _⟩
    · have HG : Hid (txF 16 tx = false) := (by show txF _ tx = _; rw [HT.out, decide_eq_false q0])
      have t0 := emp_f q0
      clear q0
      go_enter Try.func70, Try.ntmps70
      go_wp2_with fail
      go_ret
      exact ⟨by rw [HF.out, HG.out]; rfl, below_two _ _ _⟩

set_option maxRecDepth 100000 in
set_option maxHeartbeats 8000000 in
theorem fieldR_23 (nn : Int) (tx : ByteArray) (a b c d : Int) (_hs : tx.size ≤ 140737488355328) (w : World) : Calls Try.prog 70 #[.agg #[.int .i64 23, .int .i64 nn, .string tx, .int .u64 a, .int .u64 b, .int .u64 c, .int .u64 d]] w fun e w' => e = .returned (.bool (txF 23 tx && nuF 23 nn && seF 23 a b c d)) ∧ Below w.heap.size w w' := by
  have sq := seE_zero 23 a b c d (by decide)
  have hq := set_neq a b c d 0 0 0 0
  cases hz : seE a b c d 0 0 0 0 with
  | false =>
    have HF : Hid ((txF 23 tx && nuF 23 nn && seF 23 a b c d) = false) := (by show (_ && _) = _; rw [← sq, hz, Bool.and_false])
    rw [hz] at hq
    clear sq hz
    go_enter Try.func70, Try.ntmps70
    go_wp2_with fail
    go_ret
    exact ⟨by rw [HF.out]; rfl, below_two _ _ _⟩
  | true =>
    have hse : seF 23 a b c d = true := by rw [← sq, hz]
    rw [hz] at hq
    clear sq hz
    have HU : Hid (nuF 23 nn = decide (0 ≤ nn ∧ nn ≤ 50)) := rfl
    by_cases n1 : nn < 0
    · have HF : Hid ((txF 23 tx && nuF 23 nn && seF 23 a b c d) = false) := (by show (_ && _) = _; rw [hse, HU.out, decide_eq_false (by omega), Bool.and_true, Bool.and_false])
      clear HU hse
      go_enter Try.func70, Try.ntmps70
      go_wp2_with fail
      go_ret
      exact ⟨by rw [HF.out]; rfl, below_two _ _ _⟩
    by_cases n2 : 50 < nn
    · have HF : Hid ((txF 23 tx && nuF 23 nn && seF 23 a b c d) = false) := (by show (_ && _) = _; rw [hse, HU.out, decide_eq_false (by omega), Bool.and_true, Bool.and_false])
      clear HU hse
      go_enter Try.func70, Try.ntmps70
      go_wp2_with fail
      go_ret
      exact ⟨by rw [HF.out]; rfl, below_two _ _ _⟩
    have HF : Hid ((txF 23 tx && nuF 23 nn && seF 23 a b c d) = txF 23 tx) := (by show (_ && _) = _; rw [hse, HU.out, decide_eq_true (by omega), Bool.and_true, Bool.and_true])
    clear hse HU
    have HT : Hid (txF 23 tx = decide (tx.size = 0)) := rfl
    by_cases q0 : tx.size = 0
    · have HG : Hid (txF 23 tx = true) := (by show txF _ tx = _; rw [HT.out, decide_eq_true q0])
      have t0 := emp_t q0
      clear q0
      go_enter Try.func70, Try.ntmps70
      go_wp2_with fail
      go_ret
      exact ⟨by rw [HF.out, HG.out]; rfl, below_two _ _ _⟩
    · have HG : Hid (txF 23 tx = false) := (by show txF _ tx = _; rw [HT.out, decide_eq_false q0])
      have t0 := emp_f q0
      clear q0
      go_enter Try.func70, Try.ntmps70
      go_wp2_with fail
      go_ret
      exact ⟨by rw [HF.out, HG.out]; rfl, below_two _ _ _⟩

set_option maxRecDepth 100000 in
set_option maxHeartbeats 8000000 in
theorem fieldR_any (op nn : Int) (tx : ByteArray) (a b c d : Int) (_hs : tx.size ≤ 140737488355328) (h4 : ¬ op = 4) (h6 : ¬ op = 6) (h19 : ¬ op = 19) (h22 : ¬ op = 22) (h5 : ¬ op = 5) (h14 : ¬ op = 14) (h15 : ¬ op = 15) (h16 : ¬ op = 16) (h23 : ¬ op = 23) (w : World) : Calls Try.prog 70 #[.agg #[.int .i64 op, .int .i64 nn, .string tx, .int .u64 a, .int .u64 b, .int .u64 c, .int .u64 d]] w fun e w' => e = .returned (.bool (txF op tx && nuF op nn && seF op a b c d)) ∧ Below w.heap.size w w' := by
  have e4 : (op == 4) = false := beq_eq_false_iff_ne.2 h4
  have e6 : (op == 6) = false := beq_eq_false_iff_ne.2 h6
  have e19 : (op == 19) = false := beq_eq_false_iff_ne.2 h19
  have e22 : (op == 22) = false := beq_eq_false_iff_ne.2 h22
  have e5 : (op != 5) = true := by rw [bne, beq_eq_false_iff_ne.2 h5]; rfl
  have e14 : (op == 14) = false := beq_eq_false_iff_ne.2 h14
  have e15 : (op == 15) = false := beq_eq_false_iff_ne.2 h15
  have e16 : (op == 16) = false := beq_eq_false_iff_ne.2 h16
  have e23 : (op == 23) = false := beq_eq_false_iff_ne.2 h23
  have sq := seE_zero op a b c d h5
  have hq := set_neq a b c d 0 0 0 0
  cases hz : seE a b c d 0 0 0 0 with
  | false =>
    have HF : Hid ((txF op tx && nuF op nn && seF op a b c d) = false) := (by show (_ && _) = _; rw [← sq, hz, Bool.and_false])
    rw [hz] at hq
    clear sq hz h4 h6 h19 h22 h5 h14 h15 h16 h23
    go_enter Try.func70, Try.ntmps70
    go_wp2_with fail
    go_ret
    exact ⟨by rw [HF.out]; rfl, below_two _ _ _⟩
  | true =>
    have hse : seF op a b c d = true := by rw [← sq, hz]
    rw [hz] at hq
    clear sq hz
    have HU : Hid (nuF op nn = decide (nn = 0)) := (by show nuF op nn = _; unfold nuF; rw [if_neg (by omega)])
    by_cases n1 : nn < 0
    · have HF : Hid ((txF op tx && nuF op nn && seF op a b c d) = false) := (by show (_ && _) = _; rw [hse, HU.out, decide_eq_false (by omega), Bool.and_true, Bool.and_false])
      clear HU hse h4 h6 h19 h22 h5 h14 h15 h16 h23
      go_enter Try.func70, Try.ntmps70
      go_wp2_with fail
      go_ret
      exact ⟨by rw [HF.out]; rfl, below_two _ _ _⟩
    by_cases n2 : 50 < nn
    · have HF : Hid ((txF op tx && nuF op nn && seF op a b c d) = false) := (by show (_ && _) = _; rw [hse, HU.out, decide_eq_false (by omega), Bool.and_true, Bool.and_false])
      clear HU hse h4 h6 h19 h22 h5 h14 h15 h16 h23
      go_enter Try.func70, Try.ntmps70
      go_wp2_with fail
      go_ret
      exact ⟨by rw [HF.out]; rfl, below_two _ _ _⟩
    by_cases n3 : nn = 0
    rotate_left
    · have HF : Hid ((txF op tx && nuF op nn && seF op a b c d) = false) := (by show (_ && _) = _; rw [hse, HU.out, decide_eq_false n3, Bool.and_true, Bool.and_false])
      have f3 : (nn == 0) = false := beq_eq_false_iff_ne.2 n3
      clear HU hse n3 h4 h6 h19 h22 h5 h14 h15 h16 h23
      go_enter Try.func70, Try.ntmps70
      go_wp2_with fail
      go_ret
      exact ⟨by rw [HF.out]; rfl, below_two _ _ _⟩
    have f3 : (nn == 0) = true := beq_iff_eq.2 n3
    have HF : Hid ((txF op tx && nuF op nn && seF op a b c d) = txF op tx) := (by show (_ && _) = _; rw [hse, HU.out, decide_eq_true (by omega), Bool.and_true, Bool.and_true])
    clear hse HU n3
    have HT : Hid (txF op tx = decide (tx.size = 0)) := (by show txF op tx = _; unfold txF; rw [if_neg h4, if_neg h6, if_neg h19, if_neg h22])
    clear h4 h6 h19 h22 h5 h14 h15 h16 h23
    by_cases q0 : tx.size = 0
    · have HG : Hid (txF op tx = true) := (by show txF _ tx = _; rw [HT.out, decide_eq_true q0])
      have t0 := emp_t q0
      clear q0
      go_enter Try.func70, Try.ntmps70
      go_wp2_with fail
      go_ret
      exact ⟨by rw [HF.out, HG.out]; rfl, below_two _ _ _⟩
    · have HG : Hid (txF op tx = false) := (by show txF _ tx = _; rw [HT.out, decide_eq_false q0])
      have t0 := emp_f q0
      clear q0
      go_enter Try.func70, Try.ntmps70
      go_wp2_with fail
      go_ret
      exact ⟨by rw [HF.out, HG.out]; rfl, below_two _ _ _⟩

theorem fieldR (n : Nd) (hs : n.tx.size ≤ 140737488355328) (w : World) : Calls Try.prog 70 #[ndG n] w fun e w' => e = .returned (.bool (fdF n)) ∧ Below w.heap.size w w' := by
  obtain ⟨op, nn, tx, a, b, c, d⟩ := n
  show Calls Try.prog 70 #[.agg #[.int .i64 op, .int .i64 nn, .string tx, .int .u64 a, .int .u64 b, .int .u64 c, .int .u64 d]] w fun e w' => e = .returned (.bool (txF op tx && nuF op nn && seF op a b c d)) ∧ Below w.heap.size w w'
  by_cases h4 : op = 4
  · subst h4; exact fieldR_4 nn tx a b c d hs w
  by_cases h6 : op = 6
  · subst h6; exact fieldR_6 nn tx a b c d hs w
  by_cases h19 : op = 19
  · subst h19; exact fieldR_19 nn tx a b c d hs w
  by_cases h22 : op = 22
  · subst h22; exact fieldR_22 nn tx a b c d hs w
  by_cases h5 : op = 5
  · subst h5; exact fieldR_5 nn tx a b c d hs w
  by_cases h14 : op = 14
  · subst h14; exact fieldR_14 nn tx a b c d hs w
  by_cases h15 : op = 15
  · subst h15; exact fieldR_15 nn tx a b c d hs w
  by_cases h16 : op = 16
  · subst h16; exact fieldR_16 nn tx a b c d hs w
  by_cases h23 : op = 23
  · subst h23; exact fieldR_23 nn tx a b c d hs w
  exact fieldR_any op nn tx a b c d hs h4 h6 h19 h22 h5 h14 h15 h16 h23 w
end Go.Proofs.Ytppggnmlbcdegaa.T
