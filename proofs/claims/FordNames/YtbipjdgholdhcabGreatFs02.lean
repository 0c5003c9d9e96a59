/- DERIVED. Plain mathematics and walks, laid together (2). -/
import Derived.Test.YtbipjdgholdhcabGreatRows
import Derived.BigQuiet
import Derived.Test.YtbipjdgholdhcabGreatFs01
namespace Go.Proofs.YtbipjdgholdhcabGreat.T
open Go.RowKit
/-- The same but for the greatest length. -/
def eqL (a b : Em) : Prop := a.nu = b.nu ∧ a.cf = b.cf ∧ a.le = b.le
theorem eqL.refl (a : Em) : eqL a a := ⟨rfl, rfl, rfl⟩
theorem eqL.ext {a b : Em} (h : eqL a b) (hm : a.mo = b.mo) : a = b := Em.ext' h.1 h.2.1 h.2.2 hm
theorem emN_L {n : Nd} {x y x' y' : Em} {r r' : ByteArray → Em} (hx : eqL x x') (hy : eqL y y') (hr : n.op = 6 → eqL (r n.tx) (r' n.tx)) : eqL (emN n x y r) (emN n x' y' r') := by
  obtain ⟨a1, a2, a3⟩ := hx
  obtain ⟨b1, b2, b3⟩ := hy
  unfold emN
  by_cases c1 : n.op = 1 ∨ n.op = 17 ∨ ((n.op = 14 ∨ n.op = 16) ∧ n.nn = 0)
  · rw [if_pos c1, if_pos c1]; exact eqL.refl _
  rw [if_neg c1, if_neg c1]
  by_cases c2 : n.op = 9 ∨ (n.op = 15 ∧ n.nn = 0)
  · rw [if_pos c2, if_pos c2]; exact ⟨rfl, rfl, rfl⟩
  rw [if_neg c2, if_neg c2]
  by_cases c3 : n.op = 2
  · rw [if_pos c3, if_pos c3]; exact eqL.refl _
  rw [if_neg c3, if_neg c3]
  by_cases c4 : n.op = 3 ∨ n.op = 5
  · rw [if_pos c4, if_pos c4]; exact eqL.refl _
  rw [if_neg c4, if_neg c4]
  by_cases c5 : n.op = 4
  · rw [if_pos c5, if_pos c5]; exact eqL.refl _
  rw [if_neg c5, if_neg c5]
  by_cases c6 : n.op = 6
  · rw [if_pos c6, if_pos c6]; exact hr c6
  rw [if_neg c6, if_neg c6]
  by_cases c7 : n.op = 7
  · rw [if_pos c7, if_pos c7]; exact ⟨by show (_ && _) = (_ && _); rw [a1, b1], by show (_ || _) = (_ || _); rw [a2, b2], by show leC _ = leC _; rw [a3, b3]⟩
  rw [if_neg c7, if_neg c7]
  by_cases c8 : n.op = 8
  · rw [if_pos c8, if_pos c8]; exact ⟨by show (_ || _) = (_ || _); rw [a1, b1], by show (_ && _) = (_ && _); rw [a2, b2], by show lesE _ _ = lesE _ _; rw [a3, b3]⟩
  rw [if_neg c8, if_neg c8]
  by_cases c10 : n.op = 10
  · rw [if_pos c10, if_pos c10]; exact ⟨a1, a2, a3⟩
  rw [if_neg c10, if_neg c10]
  by_cases c11 : n.op = 11
  · rw [if_pos c11, if_pos c11]; exact ⟨rfl, rfl, rfl⟩
  rw [if_neg c11, if_neg c11]
  by_cases c12 : n.op = 12
  · rw [if_pos c12, if_pos c12]; exact ⟨rfl, a2, rfl⟩
  rw [if_neg c12, if_neg c12]
  by_cases c13 : n.op = 13
  · rw [if_pos c13, if_pos c13]; exact eqL.refl _
  rw [if_neg c13, if_neg c13]
  by_cases c14 : n.op = 14
  · rw [if_pos c14, if_pos c14]; exact ⟨a1, a2, by show leC _ = leC _; rw [a3]⟩
  rw [if_neg c14, if_neg c14]
  by_cases c15 : n.op = 15
  · rw [if_pos c15, if_pos c15]; exact ⟨a1, a2, by show leC _ = leC _; rw [a3]⟩
  rw [if_neg c15, if_neg c15]
  by_cases c16 : n.op = 16
  · rw [if_pos c16, if_pos c16]; exact ⟨rfl, rfl, rfl⟩
  rw [if_neg c16, if_neg c16]
  exact ⟨a1, a2, a3⟩
theorem emN_M {n : Nd} {x y x' y' : Em} {r r' : ByteArray → Em} (hx : x.mo = x'.mo) (hy : y.mo = y'.mo) (hr : n.op = 6 → (r n.tx).mo = (r' n.tx).mo) : (emN n x y r).mo = (emN n x' y' r').mo := by
  unfold emN
  by_cases c1 : n.op = 1 ∨ n.op = 17 ∨ ((n.op = 14 ∨ n.op = 16) ∧ n.nn = 0)
  · rw [if_pos c1, if_pos c1]
  rw [if_neg c1, if_neg c1]
  by_cases c2 : n.op = 9 ∨ (n.op = 15 ∧ n.nn = 0)
  · rw [if_pos c2, if_pos c2]; show agE _ = agE _; rw [hx]
  rw [if_neg c2, if_neg c2]
  by_cases c3 : n.op = 2
  · rw [if_pos c3, if_pos c3]
  rw [if_neg c3, if_neg c3]
  by_cases c4 : n.op = 3 ∨ n.op = 5
  · rw [if_pos c4, if_pos c4]
  rw [if_neg c4, if_neg c4]
  by_cases c5 : n.op = 4
  · rw [if_pos c5, if_pos c5]
  rw [if_neg c5, if_neg c5]
  by_cases c6 : n.op = 6
  · rw [if_pos c6, if_pos c6]; exact hr c6
  rw [if_neg c6, if_neg c6]
  by_cases c7 : n.op = 7
  · rw [if_pos c7, if_pos c7]; show moC _ = moC _; rw [hx, hy]
  rw [if_neg c7, if_neg c7]
  by_cases c8 : n.op = 8
  · rw [if_pos c8, if_pos c8]; show greE _ _ = greE _ _; rw [hx, hy]
  rw [if_neg c8, if_neg c8]
  by_cases c10 : n.op = 10
  · rw [if_pos c10, if_pos c10]; show agE _ = agE _; rw [hx]
  rw [if_neg c10, if_neg c10]
  by_cases c11 : n.op = 11
  · rw [if_pos c11, if_pos c11]; exact hx
  rw [if_neg c11, if_neg c11]
  by_cases c12 : n.op = 12
  · rw [if_pos c12, if_pos c12]
  rw [if_neg c12, if_neg c12]
  by_cases c13 : n.op = 13
  · rw [if_pos c13, if_pos c13]
  rw [if_neg c13, if_neg c13]
  by_cases c14 : n.op = 14
  · rw [if_pos c14, if_pos c14]; show moC _ = moC _; rw [hx]
  rw [if_neg c14, if_neg c14]
  by_cases c15 : n.op = 15
  · rw [if_pos c15, if_pos c15]; show agE _ = agE _; rw [hx]
  rw [if_neg c15, if_neg c15]
  by_cases c16 : n.op = 16
  · rw [if_pos c16, if_pos c16]; show moC _ = moC _; rw [hx]
  rw [if_neg c16, if_neg c16]
  exact hx
/-- Two lists side by side. -/
def Sd (P : Em → Em → Prop) (a b : List Em) : Prop := a.length = b.length ∧ ∀ (i : Nat) x y, a[i]? = some x → b[i]? = some y → P x y
theorem Sd.get {P : Em → Em → Prop} (hP : ∀ a, P a a) {a b : List Em} (h : Sd P a b) (i : Nat) : P ((a[i]?).getD e0) ((b[i]?).getD e0) := by
  by_cases hi : i < a.length
  · have hb : i < b.length := by have := h.1; omega
    have e1 : a[i]? = some a[i] := List.getElem?_eq_getElem hi
    have e2 : b[i]? = some b[i] := List.getElem?_eq_getElem hb
    rw [e1, e2]
    exact h.2 i _ _ e1 e2
  · rw [List.getElem?_eq_none (by omega), List.getElem?_eq_none (by have := h.1; omega)]
    exact hP _
theorem Sd.push {P : Em → Em → Prop} {a b : List Em} {x y : Em} (h : Sd P a b) (hx : P x y) : Sd P (a ++ [x]) (b ++ [y]) := by
  have hl := h.1
  refine ⟨by rw [List.length_append, List.length_append, hl]; rfl, fun i u v hu hv => ?_⟩
  by_cases hi : i < a.length
  · rw [List.getElem?_append_left hi] at hu
    rw [List.getElem?_append_left (by omega)] at hv
    exact h.2 i u v hu hv
  · rw [List.getElem?_append_right (by omega)] at hu
    rw [List.getElem?_append_right (by omega)] at hv
    have e : i - a.length = 0 := by
      have := (List.getElem?_eq_some_iff.1 hu).1
      have h1 : [x].length = 1 := rfl
      omega
    rw [e] at hu
    rw [← hl, e] at hv
    cases hu
    cases hv
    exact hx
theorem emL_Sd {P : Em → Em → Prop} (hP : ∀ a, P a a) (hN : ∀ (n : Nd) (x y x' y' : Em) (r r' : ByteArray → Em), P x x' → P y y' → (n.op = 6 → P (r n.tx) (r' n.tx)) → P (emN n x y r) (emN n x' y' r')) {kd : Nat → List Nat} {r r' : ByteArray → Em} {L : List Nd} (hr : ∀ n ∈ L, n.op = 6 → P (r n.tx) (r' n.tx)) : ∀ k, Sd P (emL kd r L k) (emL kd r' L k) := by
  intro k
  induction k with
  | zero => exact ⟨rfl, fun i x y hx => by cases hx⟩
  | succ k ih =>
    cases hn : L[k]? with
    | none =>
      have e1 : emL kd r L (k + 1) = emL kd r L k := by rw [emL, hn]
      have e2 : emL kd r' L (k + 1) = emL kd r' L k := by rw [emL, hn]
      rw [e1, e2]; exact ih
    | some n =>
      rw [emL_succ hn, emL_succ hn]
      have hk : ∀ i, P (kE (emL kd r L k) (kd k) i) (kE (emL kd r' L k) (kd k) i) := fun i => by
        unfold kE
        cases (kd k)[i]? with
        | none => exact hP _
        | some j => exact ih.get hP j
      exact ih.push (hN n _ _ _ _ r r' (hk 0) (hk 1) (hr n (List.mem_of_getElem? hn)))
theorem laE_Sd {P : Em → Em → Prop} (hP : ∀ a, P a a) (hN : ∀ (n : Nd) (x y x' y' : Em) (r r' : ByteArray → Em), P x x' → P y y' → (n.op = 6 → P (r n.tx) (r' n.tx)) → P (emN n x y r) (emN n x' y' r')) {kd : Nat → List Nat} {r r' : ByteArray → Em} {L : List Nd} (hr : ∀ n ∈ L, n.op = 6 → P (r n.tx) (r' n.tx)) : P (laE kd r L) (laE kd r' L) := by
  have h := emL_Sd hP hN (kd := kd) hr L.length
  unfold laE
  rw [List.getLast?_eq_getElem?, List.getLast?_eq_getElem?, ← h.1]
  exact h.get hP _
/-- A rule's greatest length hangs on those of the rules that it calls. -/
theorem rdE_L {gs : GL} {kd : List Nd → Nat → List Nat} {bd : Nat → Bool} {a b : List Em} (h : Sd eqL a b) : Sd eqL (rdE gs kd bd a) (rdE gs kd bd b) := by
  refine ⟨by rw [rdE_len, rdE_len], fun i x y hx hy => ?_⟩
  have hlt := (List.getElem?_eq_some_iff.1 hx).1
  rw [rdE_len] at hlt
  have hgi : gs[i]? = some gs[i] := List.getElem?_eq_getElem hlt
  rw [rdE_get hgi] at hx hy
  have hl : eqL (laE (kd gs[i].2) (lkE gs a) gs[i].2) (laE (kd gs[i].2) (lkE gs b) gs[i].2) := laE_Sd eqL.refl (fun n x y x' y' r r' h1 h2 h3 => emN_L h1 h2 h3) (fun n _ _ => by
    unfold lkE
    cases fdG gs n.tx with
    | none => exact eqL.refl _
    | some k => exact h.get eqL.refl k)
  have hx : (if bd i then laE (kd gs[i].2) (lkE gs a) gs[i].2 else { laE (kd gs[i].2) (lkE gs a) gs[i].2 with mo := -1 }) = x := Option.some.inj hx
  have hy : (if bd i then laE (kd gs[i].2) (lkE gs b) gs[i].2 else { laE (kd gs[i].2) (lkE gs b) gs[i].2 with mo := -1 }) = y := Option.some.inj hy
  rw [← hx, ← hy]
  cases bd i
  · exact hl
  · exact hl
def moA (a : List Em) (i : Nat) : Int := ((a[i]?).getD e0).mo
theorem rdE_M {gs : GL} {kd : List Nd → Nat → List Nat} {bd : Nat → Bool} {a b : List Em} {i : Nat} (hi : i < gs.length) (h : bd i = true → ∀ j, cG gs i j = true → moA a j = moA b j) : moA (rdE gs kd bd a) i = moA (rdE gs kd bd b) i := by
  have hgi : gs[i]? = some gs[i] := List.getElem?_eq_getElem hi
  unfold moA
  rw [rdE_get hgi, rdE_get hgi]
  show (if bd i then laE (kd gs[i].2) (lkE gs a) gs[i].2 else { laE (kd gs[i].2) (lkE gs a) gs[i].2 with mo := -1 }).mo = (if bd i then laE (kd gs[i].2) (lkE gs b) gs[i].2 else { laE (kd gs[i].2) (lkE gs b) gs[i].2 with mo := -1 }).mo
  cases hb : bd i with
  | false => rfl
  | true =>
    show (laE (kd gs[i].2) (lkE gs a) gs[i].2).mo = (laE (kd gs[i].2) (lkE gs b) gs[i].2).mo
    refine laE_Sd (P := fun x y => x.mo = y.mo) (fun _ => rfl) (fun n x y x' y' r r' h1 h2 h3 => emN_M h1 h2 h3) (fun n hn h6 => ?_)
    show (lkE gs a n.tx).mo = (lkE gs b n.tx).mo
    unfold lkE
    cases hf : fdG gs n.tx with
    | none => rfl
    | some k =>
      refine h hb k ?_
      unfold cG
      rw [hgi]
      simp only [List.any_eq_true, Bool.and_eq_true, decide_eq_true_eq]
      exact ⟨n, hn, h6, hf⟩
/-- The program begins with 0 where the greatest length is bounded at all. -/
def eP : Em := ⟨false, false, -1, 0⟩
def pgS (gs : GL) (bd : Nat → Bool) : List Em := (List.range gs.length).map fun i => if bd i then eP else eB
def pgE (gs : GL) (kd : List Nd → Nat → List Nat) (bd : Nat → Bool) : Nat → List Em
  | 0 => pgS gs bd
  | m + 1 => rdE gs kd bd (pgE gs kd bd m)
theorem pgS_len (gs : GL) (bd : Nat → Bool) : (pgS gs bd).length = gs.length := by unfold pgS; rw [List.length_map, List.length_range]
theorem okP : OkE eP := ⟨by decide, by decide, by decide, by decide, ⟨(fun h => by cases h), (fun h => by cases h)⟩, (fun h => by cases h)⟩
theorem pgE_ok {gs : GL} {kd : List Nd → Nat → List Nat} (hg : GK gs kd) (bd : Nat → Bool) : ∀ m, OkN gs (pgE gs kd bd m) := by
  intro m
  induction m with
  | zero =>
    refine ⟨pgS_len gs bd, fun e he => ?_⟩
    obtain ⟨i, _, rfl⟩ := List.mem_map.1 he
    split
    · exact okP
    · exact okB
  | succ m ih => exact rdE_ok hg ih
theorem pgE_L (gs : GL) (kd : List Nd → Nat → List Nat) (bd : Nat → Bool) : ∀ m, Sd eqL (pgE gs kd bd m) (knE gs kd bd m) := by
  intro m
  induction m with
  | zero =>
    refine ⟨by show (pgS gs bd).length = (List.replicate gs.length eB).length; rw [pgS_len, List.length_replicate], fun i x y hx hy => ?_⟩
    have e2 := List.eq_of_mem_replicate (List.mem_of_getElem? hy)
    obtain ⟨j, _, rfl⟩ := List.mem_map.1 (List.mem_of_getElem? hx)
    rw [e2]
    split
    · exact ⟨rfl, rfl, rfl⟩
    · exact eqL.refl _
  | succ m ih => exact rdE_L ih
end Go.Proofs.YtbipjdgholdhcabGreat.T

namespace Go.Proofs.YtbipjdgholdhcabGreat.N
open Go.RowKit
open Go.Proofs.YtbipjdgholdhcabGreat.T

/-- How many rules a rule comes to. -/
def ctR (n : Nat) (R : Nat → Nat → Bool) (i : Nat) : Nat := ((List.range n).filter fun j => R i j).length
theorem ctR_le (n : Nat) (R : Nat → Nat → Bool) (i : Nat) : ctR n R i ≤ n := by
  unfold ctR
  have := List.length_filter_le (fun j => R i j) (List.range n)
  rw [List.length_range] at this
  exact this
theorem filt_lt {p q : Nat → Bool} : ∀ (l : List Nat), (∀ x ∈ l, p x = true → q x = true) → (∃ x ∈ l, q x = true ∧ p x = false) → (l.filter p).length < (l.filter q).length := by
  intro l
  induction l with
  | nil => rintro _ ⟨x, hx, _⟩; cases hx
  | cons a l ih =>
    intro h1 h2
    have hle : ∀ (l : List Nat), (∀ x ∈ l, p x = true → q x = true) → (l.filter p).length ≤ (l.filter q).length := by
      intro l
      induction l with
      | nil => intro _; exact Nat.le_refl _
      | cons b l ih2 =>
        intro h
        have := ih2 (fun x hx => h x (List.mem_cons_of_mem _ hx))
        rw [List.filter_cons, List.filter_cons]
        cases hp : p b with
        | true => rw [h b List.mem_cons_self hp, if_pos rfl, if_pos rfl, List.length_cons, List.length_cons]; omega
        | false =>
          rw [if_neg Bool.noConfusion]
          split
          · rw [List.length_cons]; omega
          · exact this
    rw [List.filter_cons, List.filter_cons]
    obtain ⟨x, hx, hq, hp⟩ := h2
    have hl := hle l (fun y hy => h1 y (List.mem_cons_of_mem _ hy))
    rcases List.mem_cons.1 hx with e | e
    · subst e
      rw [hp, hq, if_neg Bool.noConfusion, if_pos rfl, List.length_cons]
      omega
    · have := ih (fun y hy => h1 y (List.mem_cons_of_mem _ hy)) ⟨x, e, hq, hp⟩
      cases hpa : p a with
      | true => rw [h1 a List.mem_cons_self hpa, if_pos rfl, if_pos rfl, List.length_cons, List.length_cons]; omega
      | false =>
        rw [if_neg Bool.noConfusion]
        split
        · rw [List.length_cons]; omega
        · exact this
/-- What a rule calls comes to fewer, where the one called does not come to itself. -/
theorem ctR_less {n : Nat} {c R : Mx} (h : IsR n c R) {i j : Nat} (hc : c i j = true) (hj : R j j = false) : ctR n R j < ctR n R i := by
  obtain ⟨hi, hjn⟩ := h.cl i j hc
  refine filt_lt _ (fun x hx q => ?_) ⟨j, List.mem_range.2 hjn, (h.rl i j hi hjn).2 (Rc.of hc), hj⟩
  have hx := List.mem_range.1 hx
  exact (h.rl i x hi hx).2 (Rc.trans hjn (Rc.of hc) ((h.rl j x hjn hx).1 q))
theorem moA_out {a : List Em} {i : Nat} (h : a.length ≤ i) : moA a i = 0 := by unfold moA; rw [List.getElem?_eq_none h]; rfl
section
variable {gs : GL} {kd : List Nd → Nat → List Nat} {R : Mx} {bd : Nat → Bool}
theorem mo_cut {a : List Em} {i : Nat} (hi : i < gs.length) (hb : bd i = false) : moA (rdE gs kd bd a) i = -1 := by
  have hgi : gs[i]? = some gs[i] := List.getElem?_eq_getElem hi
  unfold moA
  rw [rdE_get hgi, hb]
  rfl
theorem mo_kn0 {i : Nat} (hi : i < gs.length) : moA (knE gs kd bd 0) i = -1 := by
  unfold moA
  show (((List.replicate gs.length eB)[i]?).getD e0).mo = -1
  rw [List.getElem?_replicate, if_pos hi]
  rfl
theorem mo_pg0 {i : Nat} (hi : i < gs.length) (hb : bd i = false) : moA (pgE gs kd bd 0) i = -1 := by
  unfold moA
  show (((pgS gs bd)[i]?).getD e0).mo = -1
  unfold pgS
  rw [List.getElem?_map, List.getElem?_range hi, Option.map_some, hb]
  rfl
theorem mo_loop {i : Nat} (hi : i < gs.length) (hb : bd i = false) (m : Nat) : moA (knE gs kd bd m) i = -1 ∧ moA (pgE gs kd bd m) i = -1 := by
  cases m with
  | zero => exact ⟨mo_kn0 hi, mo_pg0 hi hb⟩
  | succ m => exact ⟨mo_cut hi hb, mo_cut hi hb⟩
/-- Behind as many rounds as there are rules a greatest length stays, and is the same for both. -/
theorem mo_stay (hR : IsR gs.length (cG gs) R) (hbd : ∀ i, bd i = !(R i i)) : ∀ (b i : Nat), i < gs.length → ctR gs.length R i ≤ b → ∀ m, b + 1 ≤ m → moA (knE gs kd bd (m + 1)) i = moA (knE gs kd bd m) i ∧ moA (pgE gs kd bd (m + 1)) i = moA (pgE gs kd bd m) i ∧ moA (pgE gs kd bd m) i = moA (knE gs kd bd m) i := by
  intro b
  induction b with
  | zero =>
    intro i hi hc m hm
    obtain ⟨m, rfl⟩ : ∃ k, m = k + 1 := ⟨m - 1, by omega⟩
    cases hb : bd i with
    | false => rw [(mo_loop hi hb (m + 1)).1, (mo_loop hi hb (m + 1)).2, (mo_loop hi hb (m + 1 + 1)).1, (mo_loop hi hb (m + 1 + 1)).2]; exact ⟨rfl, rfl, rfl⟩
    | true =>
      have no : ∀ j, cG gs i j ≠ true := fun j q => by
        have h1 : j ∈ (List.range gs.length).filter fun k => R i k := List.mem_filter.2 ⟨List.mem_range.2 (hR.cl i j q).2, (hR.rl i j hi (hR.cl i j q).2).2 (Rc.of q)⟩
        have h2 : 0 < ctR gs.length R i := List.length_pos_of_mem h1
        omega
      exact ⟨rdE_M hi fun _ j q => absurd q (no j), rdE_M hi fun _ j q => absurd q (no j), rdE_M hi fun _ j q => absurd q (no j)⟩
  | succ b ih =>
    intro i hi hc m hm
    obtain ⟨m, rfl⟩ : ∃ k, m = k + 1 := ⟨m - 1, by omega⟩
    have key : bd i = true → ∀ j, cG gs i j = true → moA (knE gs kd bd (m + 1)) j = moA (knE gs kd bd m) j ∧ moA (pgE gs kd bd (m + 1)) j = moA (pgE gs kd bd m) j ∧ moA (pgE gs kd bd m) j = moA (knE gs kd bd m) j := fun _ j q => by
      have hj := (hR.cl i j q).2
      cases hbj : bd j with
      | false => rw [(mo_loop hj hbj m).1, (mo_loop hj hbj m).2, (mo_loop hj hbj (m + 1)).1, (mo_loop hj hbj (m + 1)).2]; exact ⟨rfl, rfl, rfl⟩
      | true =>
        have hjj : R j j = false := by rw [hbd j] at hbj; simpa using hbj
        have hl := ctR_less hR q hjj
        exact ih j hj (by omega) m (by omega)
    exact ⟨rdE_M hi fun hb j q => (key hb j q).1, rdE_M hi fun hb j q => (key hb j q).2.1, rdE_M hi fun hb j q => (key hb j q).2.2⟩
/-- From some round on both know the same. -/
theorem pg_kn (hg : GK gs kd) (hR : IsR gs.length (cG gs) R) (hbd : ∀ i, bd i = !(R i i)) {m : Nat} (hm : gs.length + 1 ≤ m) : pgE gs kd bd m = knE gs kd bd m := by
  have h1 := pgE_ok hg bd m
  have h2 := knE_ok hg bd m
  have hs := pgE_L gs kd bd m
  refine List.ext_getElem? fun i => ?_
  by_cases hi : i < gs.length
  · have i1 : i < (pgE gs kd bd m).length := by rw [h1.n]; exact hi
    have i2 : i < (knE gs kd bd m).length := by rw [h2.n]; exact hi
    have e1 : (pgE gs kd bd m)[i]? = some (pgE gs kd bd m)[i] := List.getElem?_eq_getElem i1
    have e2 : (knE gs kd bd m)[i]? = some (knE gs kd bd m)[i] := List.getElem?_eq_getElem i2
    have hmo := (mo_stay (kd := kd) hR hbd gs.length i hi (ctR_le _ _ _) m hm).2.2
    unfold moA at hmo
    rw [e1, e2] at hmo ⊢
    exact congrArg some ((hs.2 i _ _ e1 e2).ext hmo)
  · rw [List.getElem?_eq_none (by rw [h1.n]; omega), List.getElem?_eq_none (by rw [h2.n]; omega)]
theorem kn_fix {m : Nat} (h : knE gs kd bd (m + 1) = knE gs kd bd m) : ∀ k, knE gs kd bd (m + k) = knE gs kd bd m := by
  intro k
  induction k with
  | zero => rfl
  | succ k ih =>
    show rdE gs kd bd (knE gs kd bd (m + k)) = _
    rw [ih]
    exact h
theorem pg_fix {m : Nat} (h : pgE gs kd bd (m + 1) = pgE gs kd bd m) : ∀ k, pgE gs kd bd (m + k) = pgE gs kd bd m := by
  intro k
  induction k with
  | zero => rfl
  | succ k ih =>
    show rdE gs kd bd (pgE gs kd bd (m + k)) = _
    rw [ih]
    exact h
/-- Both ends are one. -/
theorem ends_one (hg : GK gs kd) (hR : IsR gs.length (cG gs) R) (hbd : ∀ i, bd i = !(R i i)) {a b : Nat} (ha : pgE gs kd bd (a + 1) = pgE gs kd bd a) (hb : knE gs kd bd (b + 1) = knE gs kd bd b) : pgE gs kd bd a = knE gs kd bd b := by
  rw [← pg_fix ha (b + gs.length + 1), ← kn_fix hb (a + gs.length + 1), show b + (a + gs.length + 1) = a + (b + gs.length + 1) from by omega]
  exact pg_kn hg hR hbd (by omega)
/-- How much is left: what is not known yet, and the rounds until the greatest lengths stay. -/
def pgM (gs : GL) (kd : List Nd → Nat → List Nat) (bd : Nat → Bool) (m : Nat) : Nat := wN (knE gs kd bd m) + (gs.length + 1 - m)
theorem pgM_less (hg : GK gs kd) (hR : IsR gs.length (cG gs) R) (hbd : ∀ i, bd i = !(R i i)) {m : Nat} (hne : pgE gs kd bd (m + 1) ≠ pgE gs kd bd m) : pgM gs kd bd (m + 1) < pgM gs kd bd m := by
  have hle := (wN_le _ _ (by rw [(knE_ok hg bd m).n, (knE_ok hg bd (m + 1)).n]) (knE_ok hg bd m).o (knE_ok hg bd (m + 1)).o (knE_up hg bd m)).1
  unfold pgM
  by_cases hm : m < gs.length + 1
  · omega
  · have e1 := pg_kn hg hR hbd (m := m) (by omega)
    have e2 := pg_kn hg hR hbd (m := m + 1) (by omega)
    rw [e1, e2] at hne
    have := knE_less hg bd m (fun e => hne e.symm)
    omega
end
end Go.Proofs.YtbipjdgholdhcabGreat.N

namespace Go.Proofs.YtbipjdgholdhcabGreat.T
open Go.RowKit
set_option maxRecDepth 100000 in
set_option maxHeartbeats 1000000 in
theorem isDigit_any (c : Int) (w : World) : Calls Tryz.prog 112 #[.int .u8 c] w fun e w' => e = .returned (.bool (dgB c)) ∧ w' = w := by
  by_cases h : 48 ≤ c
  · have HE : Hid (dgB c = decide (c ≤ 57)) := (by show dgB c = _; unfold dgB; rw [decide_eq_true h]; rfl)
    go_enter Tryz.func112, Tryz.ntmps112
    go_wp2
    go_ret
    exact ⟨by rw [HE.out]; rfl, rfl⟩
  · have HE : Hid (dgB c = false) := (by show dgB c = _; unfold dgB; rw [decide_eq_false h]; rfl)
    go_enter Tryz.func112, Tryz.ntmps112
    go_wp2
    go_ret
    exact ⟨by rw [HE.out]; rfl, rfl⟩

set_option maxRecDepth 100000 in
set_option maxHeartbeats 1000000 in
theorem isLetter_any (c : Int) (w : World) : Calls Tryz.prog 113 #[.int .u8 c] w fun e w' => e = .returned (.bool (ltB c)) ∧ w' = w := by
  have HE : Hid (ltB c = ((decide (97 ≤ c) && decide (c ≤ 122)) || (decide (65 ≤ c) && decide (c ≤ 90)))) := rfl
  by_cases h : 97 ≤ c <;> by_cases h1 : c ≤ 122 <;> by_cases h2 : 65 ≤ c <;> by_cases h3 : c ≤ 90
  all_goals
    go_enter Tryz.func113, Tryz.ntmps113
    go_wp2
    go_ret
    refine ⟨ret_bool ?_, rfl⟩
    rw [HE.out]
    simp <;> omega

set_option maxRecDepth 100000 in
set_option maxHeartbeats 2000000 in
theorem arity_any (op : Int) (w : World) : Calls Tryz.prog 41 #[.int .i64 op] w fun e w' => e = .returned (.int .i64 (ar op)) ∧ w' = w := by
  by_cases h1 : op < 1
  · have HE : Hid (ar op = -1) := (by show ar op = _; unfold ar; rw [if_pos (.inl h1)])
    go_enter Tryz.func41, Tryz.ntmps41
    go_wp2
    go_ret
    exact ⟨by rw [HE.out]; rfl, rfl⟩
  by_cases h2 : 23 < op
  · have HE : Hid (ar op = -1) := (by show ar op = _; unfold ar; rw [if_pos (.inr h2)])
    go_enter Tryz.func41, Tryz.ntmps41
    go_wp2
    go_ret
    exact ⟨by rw [HE.out]; rfl, rfl⟩
  by_cases h3 : op ≤ 6
  · have HE : Hid (ar op = 0) := (by show ar op = _; unfold ar; rw [if_neg (by omega), if_pos (.inl h3)])
    go_enter Tryz.func41, Tryz.ntmps41
    go_wp2
    go_ret
    exact ⟨by rw [HE.out]; rfl, rfl⟩
  by_cases h4 : op = 17
  · have HE : Hid (ar op = 0) := (by show ar op = _; unfold ar; rw [if_neg (by omega), if_pos (.inr h4)])
    have e4 : (op == 17) = true := beq_iff_eq.2 h4
    clear h4
    go_enter Tryz.func41, Tryz.ntmps41
    go_wp2
    go_ret
    exact ⟨by rw [HE.out]; rfl, rfl⟩
  have e4 : (op == 17) = false := beq_eq_false_iff_ne.2 h4
  by_cases h5 : op = 7
  · have HE : Hid (ar op = 2) := (by show ar op = _; unfold ar; rw [if_neg (by omega), if_neg (by omega), if_pos (.inl h5)])
    have e5 : (op == 7) = true := beq_iff_eq.2 h5
    clear h5 h4
    go_enter Tryz.func41, Tryz.ntmps41
    go_wp2
    go_ret
    exact ⟨by rw [HE.out]; rfl, rfl⟩
  have e5 : (op == 7) = false := beq_eq_false_iff_ne.2 h5
  by_cases h6 : op = 8
  · have HE : Hid (ar op = 2) := (by show ar op = _; unfold ar; rw [if_neg (by omega), if_neg (by omega), if_pos (.inr h6)])
    have e6 : (op == 8) = true := beq_iff_eq.2 h6
    clear h6 h5 h4
    go_enter Tryz.func41, Tryz.ntmps41
    go_wp2
    go_ret
    exact ⟨by rw [HE.out]; rfl, rfl⟩
  have e6 : (op == 8) = false := beq_eq_false_iff_ne.2 h6
  have HE : Hid (ar op = 1) := (by show ar op = _; unfold ar; rw [if_neg (by omega), if_neg (by omega), if_neg (by omega)])
  clear h6 h5 h4
  go_enter Tryz.func41, Tryz.ntmps41
  go_wp2
  go_ret
  exact ⟨by rw [HE.out]; rfl, rfl⟩

set_option maxRecDepth 100000 in
set_option maxHeartbeats 4000000 in
theorem arityR_any (op : Int) (w : World) : Calls Tryz.prog 76 #[.int .i64 op] w fun e w' => e = .returned (.int .i64 (ar op)) ∧ w' = w := by
  by_cases h1 : op = 1
  · subst h1
    go_enter Tryz.func76, Tryz.ntmps76
    go_wp2
    go_ret
    exact ⟨rfl, rfl⟩
  have e1 : (op == 1) = false := beq_eq_false_iff_ne.2 h1
  by_cases h2 : op = 2
  · subst h2
    go_enter Tryz.func76, Tryz.ntmps76
    go_wp2
    go_ret
    exact ⟨rfl, rfl⟩
  have e2 : (op == 2) = false := beq_eq_false_iff_ne.2 h2
  by_cases h3 : op = 3
  · subst h3
    go_enter Tryz.func76, Tryz.ntmps76
    go_wp2
    go_ret
    exact ⟨rfl, rfl⟩
  have e3 : (op == 3) = false := beq_eq_false_iff_ne.2 h3
  by_cases h4 : op = 4
  · subst h4
    go_enter Tryz.func76, Tryz.ntmps76
    go_wp2
    go_ret
    exact ⟨rfl, rfl⟩
  have e4 : (op == 4) = false := beq_eq_false_iff_ne.2 h4
  by_cases h5 : op = 5
  · subst h5
    go_enter Tryz.func76, Tryz.ntmps76
    go_wp2
    go_ret
    exact ⟨rfl, rfl⟩
  have e5 : (op == 5) = false := beq_eq_false_iff_ne.2 h5
  by_cases h6 : op = 6
  · subst h6
    go_enter Tryz.func76, Tryz.ntmps76
    go_wp2
    go_ret
    exact ⟨rfl, rfl⟩
  have e6 : (op == 6) = false := beq_eq_false_iff_ne.2 h6
  by_cases h17 : op = 17
  · subst h17
    go_enter Tryz.func76, Tryz.ntmps76
    go_wp2
    go_ret
    exact ⟨rfl, rfl⟩
  have e17 : (op == 17) = false := beq_eq_false_iff_ne.2 h17
  by_cases h7 : op = 7
  · subst h7
    go_enter Tryz.func76, Tryz.ntmps76
    go_wp2
    go_ret
    exact ⟨rfl, rfl⟩
  have e7 : (op == 7) = false := beq_eq_false_iff_ne.2 h7
  by_cases h8 : op = 8
  · subst h8
    go_enter Tryz.func76, Tryz.ntmps76
    go_wp2
    go_ret
    exact ⟨rfl, rfl⟩
  have e8 : (op == 8) = false := beq_eq_false_iff_ne.2 h8
  by_cases h9 : op = 9
  · subst h9
    go_enter Tryz.func76, Tryz.ntmps76
    go_wp2
    go_ret
    exact ⟨rfl, rfl⟩
  have e9 : (op == 9) = false := beq_eq_false_iff_ne.2 h9
  by_cases h10 : op = 10
  · subst h10
    go_enter Tryz.func76, Tryz.ntmps76
    go_wp2
    go_ret
    exact ⟨rfl, rfl⟩
  have e10 : (op == 10) = false := beq_eq_false_iff_ne.2 h10
  by_cases h11 : op = 11
  · subst h11
    go_enter Tryz.func76, Tryz.ntmps76
    go_wp2
    go_ret
    exact ⟨rfl, rfl⟩
  have e11 : (op == 11) = false := beq_eq_false_iff_ne.2 h11
  by_cases h12 : op = 12
  · subst h12
    go_enter Tryz.func76, Tryz.ntmps76
    go_wp2
    go_ret
    exact ⟨rfl, rfl⟩
  have e12 : (op == 12) = false := beq_eq_false_iff_ne.2 h12
  by_cases h13 : op = 13
  · subst h13
    go_enter Tryz.func76, Tryz.ntmps76
    go_wp2
    go_ret
    exact ⟨rfl, rfl⟩
  have e13 : (op == 13) = false := beq_eq_false_iff_ne.2 h13
  by_cases h14 : op = 14
  · subst h14
    go_enter Tryz.func76, Tryz.ntmps76
    go_wp2
    go_ret
    exact ⟨rfl, rfl⟩
  have e14 : (op == 14) = false := beq_eq_false_iff_ne.2 h14
  by_cases h15 : op = 15
  · subst h15
    go_enter Tryz.func76, Tryz.ntmps76
    go_wp2
    go_ret
    exact ⟨rfl, rfl⟩
  have e15 : (op == 15) = false := beq_eq_false_iff_ne.2 h15
  by_cases h16 : op = 16
  · subst h16
    go_enter Tryz.func76, Tryz.ntmps76
    go_wp2
    go_ret
    exact ⟨rfl, rfl⟩
  have e16 : (op == 16) = false := beq_eq_false_iff_ne.2 h16
  by_cases h18 : op = 18
  · subst h18
    go_enter Tryz.func76, Tryz.ntmps76
    go_wp2
    go_ret
    exact ⟨rfl, rfl⟩
  have e18 : (op == 18) = false := beq_eq_false_iff_ne.2 h18
  by_cases h19 : op = 19
  · subst h19
    go_enter Tryz.func76, Tryz.ntmps76
    go_wp2
    go_ret
    exact ⟨rfl, rfl⟩
  have e19 : (op == 19) = false := beq_eq_false_iff_ne.2 h19
  by_cases h20 : op = 20
  · subst h20
    go_enter Tryz.func76, Tryz.ntmps76
    go_wp2
    go_ret
    exact ⟨rfl, rfl⟩
  have e20 : (op == 20) = false := beq_eq_false_iff_ne.2 h20
  by_cases h21 : op = 21
  · subst h21
    go_enter Tryz.func76, Tryz.ntmps76
    go_wp2
    go_ret
    exact ⟨rfl, rfl⟩
  have e21 : (op == 21) = false := beq_eq_false_iff_ne.2 h21
  by_cases h22 : op = 22
  · subst h22
    go_enter Tryz.func76, Tryz.ntmps76
    go_wp2
    go_ret
    exact ⟨rfl, rfl⟩
  have e22 : (op == 22) = false := beq_eq_false_iff_ne.2 h22
  by_cases h23 : op = 23
  · subst h23
    go_enter Tryz.func76, Tryz.ntmps76
    go_wp2
    go_ret
    exact ⟨rfl, rfl⟩
  have e23 : (op == 23) = false := beq_eq_false_iff_ne.2 h23
  have HE : Hid (ar op = -1) := (by show ar op = _; unfold ar; rw [if_pos (by omega)])
  clear h1 h2 h3 h4 h5 h6 h17 h7 h8 h9 h10 h11 h12 h13 h14 h15 h16 h18 h19 h20 h21 h22 h23
  go_enter Tryz.func76, Tryz.ntmps76
  go_wp2
  go_ret
  exact ⟨by rw [HE.out]; rfl, rfl⟩
end Go.Proofs.YtbipjdgholdhcabGreat.T

namespace Go.Proofs.YtbipjdgholdhcabGreat.T
open Go.RowKit
set_option maxRecDepth 100000 in
set_option maxHeartbeats 4000000 in
theorem isName_any (s : ByteArray) (hs : s.size ≤ 140737488355328) (w : World) : Calls Tryz.prog 107 #[.string s] w fun e w' => e = .returned (.bool (nmB s)) ∧ w' = w := by
  have HD : Hid (∀ c w, Calls Tryz.prog 112 #[.int .u8 c] w fun e w' => e = .returned (.bool (dgB c)) ∧ w' = w) := fun c w => isDigit_any c w
  have HL : Hid (∀ c w, Calls Tryz.prog 113 #[.int .u8 c] w fun e w' => e = .returned (.bool (ltB c)) ∧ w' = w) := fun c w => isLetter_any c w
  by_cases h0 : s.size = 0
  · have HE : Hid (nmB s = false) := nmB_f (fun h => by have := h.1; omega)
    have q0 := emp_t h0
    clear h0 HD HL hs
    go_enter Tryz.func107, Tryz.ntmps107
    go_wp2_with fail
    go_ret
    exact ⟨by rw [HE.out]; rfl, rfl⟩
  have q0 := emp_f h0
  by_cases h1 : 32 < s.size
  · have HE : Hid (nmB s = false) := nmB_f (fun h => by have := h.2.1; omega)
    have z1 : (32 : Int) < (s.size : Int) := by omega
    clear h0 HD HL hs
    go_enter Tryz.func107, Tryz.ntmps107
    go_wp2_with fail
    go_ret
    exact ⟨by rw [HE.out]; rfl, rfl⟩
  have z1 : ¬ (32 : Int) < (s.size : Int) := by omega
  have hp : 0 < s.size := by omega
  cases hd : dgB (s[0].toNat : Int) with
  | true =>
    have HE : Hid (nmB s = false) := nmB_f (fun h => by have := h.2.2.1 hp; rw [hd] at this; cases this)
    go_enter Tryz.func107, Tryz.ntmps107
    go_wp2_with fail
    refine (HD.out _ _).mono ?_
    rintro e w ⟨rfl, rfl⟩
    rw [hd]
    clear HD HL hd
    go_wp2_with fail
    go_ret
    exact ⟨by rw [HE.out]; rfl, rfl⟩
  | false =>
    have HN : Hid ((∀ (j : Nat) (h : j < s.size), nmC (s[j].toNat : Int) = true) → nmB s = true) := fun h => nmB_t ⟨hp, by omega, fun _ => hd, h⟩
    have HM : Hid (∀ (j : Nat) (h : j < s.size), nmC (s[j].toNat : Int) = false → nmB s = false) := fun j h e => nmB_f (fun q => by have := q.2.2.2 j h; rw [e] at this; cases this)
    go_enter Tryz.func107, Tryz.ntmps107
    go_wp2_with fail
    refine (HD.out _ _).mono ?_
    rintro e w ⟨rfl, rfl⟩
    rw [hd]
    clear hd
    go_wp2_with fail
    go_loopw [18] (fun t wr => ∃ k : Nat, k ≤ s.size ∧ t = .int .i64 k ∧ wr = w ∧ Hid (∀ (j : Nat) (h : j < s.size), j < k → nmC (s[j].toNat : Int) = true)) (fun t _ => s.size - (intOf t).toNat)
    case atStart => exact ⟨0, by omega, by go_num, rfl, fun j h q => by omega⟩
    case round =>
      obtain ⟨k, hk, rfl, rfl, HI⟩ := hrel
      by_cases hlt : k < s.size
      · have z3 : (0 : Int) ≤ (k : Int) := by omega
        have z4 : (k : Int) < (s.size : Int) := by omega
        have HC : Hid (nmC (s[k].toNat : Int) = (dgB (s[k].toNat : Int) || ltB (s[k].toNat : Int) || (s[k].toNat : Int) == 95)) := rfl
        cases hd2 : dgB (s[k].toNat : Int) with
        | true =>
          have HI2 : Hid (∀ (j : Nat) (h : j < s.size), j < k + 1 → nmC (s[j].toNat : Int) = true) := fun j h q => by
            by_cases hj : j < k
            · exact HI.out j h hj
            · obtain rfl : j = k := by omega
              rw [HC.out, hd2]; rfl
          clear HI HC HN HM
          go_wp2_with fail
          refine (HD.out _ _).mono ?_
          rintro e w ⟨rfl, rfl⟩
          rw [hd2]
          clear hd2 HD HL
          go_wp2_with fail
          go_roundw
          case rel => exact ⟨k + 1, by omega, by go_num, trivial, HI2⟩
          case measure => simp [intOf]; omega
        | false =>
          cases hl2 : ltB (s[k].toNat : Int) with
          | true =>
            have HI2 : Hid (∀ (j : Nat) (h : j < s.size), j < k + 1 → nmC (s[j].toNat : Int) = true) := fun j h q => by
              by_cases hj : j < k
              · exact HI.out j h hj
              · obtain rfl : j = k := by omega
                rw [HC.out, hd2, hl2]; rfl
            clear HI HC HN HM
            go_wp2_with fail
            refine (HD.out _ _).mono ?_
            rintro e w ⟨rfl, rfl⟩
            rw [hd2]
            clear hd2 HD
            go_wp2_with fail
            refine (HL.out _ _).mono ?_
            rintro e w ⟨rfl, rfl⟩
            rw [hl2]
            clear hl2 HL
            go_wp2_with fail
            go_roundw
            case rel => exact ⟨k + 1, by omega, by go_num, trivial, HI2⟩
            case measure => simp [intOf]; omega
          | false =>
            by_cases h95 : (s[k].toNat : Int) = 95
            · have e95 : ((s[k].toNat : Int) == 95) = true := beq_iff_eq.2 h95
              have HI2 : Hid (∀ (j : Nat) (h : j < s.size), j < k + 1 → nmC (s[j].toNat : Int) = true) := fun j h q => by
                by_cases hj : j < k
                · exact HI.out j h hj
                · obtain rfl : j = k := by omega
                  rw [HC.out, hd2, hl2, e95]; rfl
              clear HI HC HN HM h95
              go_wp2_with fail
              refine (HD.out _ _).mono ?_
              rintro e w ⟨rfl, rfl⟩
              rw [hd2]
              clear hd2 HD
              go_wp2_with fail
              refine (HL.out _ _).mono ?_
              rintro e w ⟨rfl, rfl⟩
              rw [hl2]
              clear hl2 HL
              go_wp2_with fail
              go_roundw
              case rel => exact ⟨k + 1, by omega, by go_num, trivial, HI2⟩
              case measure => simp [intOf]; omega
            · have e95 : ((s[k].toNat : Int) == 95) = false := beq_eq_false_iff_ne.2 h95
              have HE : Hid (nmB s = false) := HM.out k hlt (by rw [HC.out, hd2, hl2, e95]; rfl)
              clear HI HC HN HM h95
              go_wp2_with fail
              refine (HD.out _ _).mono ?_
              rintro e w ⟨rfl, rfl⟩
              rw [hd2]
              clear hd2 HD
              go_wp2_with fail
              refine (HL.out _ _).mono ?_
              rintro e w ⟨rfl, rfl⟩
              rw [hl2]
              clear hl2 HL
              go_wp2_with fail
              go_ret
              exact ⟨by rw [HE.out]; rfl, rfl⟩
      · obtain rfl : k = s.size := by omega
        have HE : Hid (nmB s = true) := HN.out (fun j h => HI.out j h h)
        clear HD HL HN HM HI
        go_wp2_with fail
        go_ret
        exact ⟨by rw [HE.out]; rfl, rfl⟩

theorem tm_end (s : ByteArray) (m i : Nat) (h : ¬ i < s.size) : tmGo s m i = true := by
  cases m with
  | zero => rfl
  | succ m => rw [tmGo, dif_neg h]
theorem tm_plain {s : ByteArray} {m i : Nat} (h : i < s.size) (q : s.size ≤ i + m) (e : ¬ (s[i].toNat : Int) = 37) : ∃ m2, s.size ≤ i + 1 + m2 ∧ tmGo s m i = tmGo s m2 (i + 1) := by
  cases m with
  | zero => omega
  | succ m => exact ⟨m, by omega, by rw [tmGo, dif_pos h, if_neg e]⟩
theorem tm_two {s : ByteArray} {m i : Nat} (h : i < s.size) (q : s.size ≤ i + m) (e : (s[i].toNat : Int) = 37) (h2 : i + 1 < s.size) (d : (s[i + 1].toNat : Int) = 37 ∨ dgB (s[i + 1].toNat : Int) = true) : ∃ m2, s.size ≤ i + 2 + m2 ∧ tmGo s m i = tmGo s m2 (i + 2) := by
  cases m with
  | zero => omega
  | succ m => exact ⟨m, by omega, by rw [tmGo, dif_pos h, if_pos e, dif_pos h2, if_pos d]⟩
theorem tm_cut {s : ByteArray} {m i : Nat} (h : i < s.size) (q : s.size ≤ i + m) (e : (s[i].toNat : Int) = 37) (h2 : ¬ i + 1 < s.size) : tmGo s m i = false := by
  cases m with
  | zero => omega
  | succ m => rw [tmGo, dif_pos h, if_pos e, dif_neg h2]
theorem tm_bad {s : ByteArray} {m i : Nat} (h : i < s.size) (q : s.size ≤ i + m) (e : (s[i].toNat : Int) = 37) (h2 : i + 1 < s.size) (d : ¬ (s[i + 1].toNat : Int) = 37) (d2 : dgB (s[i + 1].toNat : Int) = false) : tmGo s m i = false := by
  cases m with
  | zero => omega
  | succ m => rw [tmGo, dif_pos h, if_pos e, dif_pos h2, if_neg (by rw [d2]; simp only [Bool.false_eq_true, or_false]; exact d)]

set_option maxRecDepth 100000 in
set_option maxHeartbeats 4000000 in
theorem isTemplate_any (s : ByteArray) (hs : s.size ≤ 140737488355328) (w : World) : Calls Tryz.prog 108 #[.string s] w fun e w' => e = .returned (.bool (tmB s)) ∧ w' = w := by
  have HD : Hid (∀ c w, Calls Tryz.prog 112 #[.int .u8 c] w fun e w' => e = .returned (.bool (dgB c)) ∧ w' = w) := fun c w => isDigit_any c w
  by_cases h1 : 255 < s.size
  · have HE : Hid (tmB s = false) := (by show tmB s = _; unfold tmB; rw [if_neg (by omega)])
    have z1 : (255 : Int) < (s.size : Int) := by omega
    clear HD hs
    go_enter Tryz.func108, Tryz.ntmps108
    go_wp2_with fail
    go_ret
    exact ⟨by rw [HE.out]; rfl, rfl⟩
  have z1 : ¬ (255 : Int) < (s.size : Int) := by omega
  have HB : Hid (tmB s = tmGo s s.size 0) := (by show tmB s = _; unfold tmB; rw [if_pos (by omega)])
  go_enter Tryz.func108, Tryz.ntmps108
  go_wp2_with fail
  go_loopw [3] (fun t wr => ∃ k : Nat, k ≤ s.size ∧ t = .int .i64 k ∧ wr = w ∧ Hid (∃ m, s.size ≤ k + m ∧ tmB s = tmGo s m k)) (fun t _ => s.size - (intOf t).toNat)
  case atStart => exact ⟨0, by omega, by go_num, rfl, ⟨s.size, by omega, HB.out⟩⟩
  case round =>
    obtain ⟨k, hk, rfl, rfl, HI⟩ := hrel
    clear HB
    obtain ⟨m, hm, HJ⟩ := HI.out
    have HJ := (show Hid _ from HJ)
    clear HI
    by_cases hlt : k < s.size
    · have z3 : (0 : Int) ≤ (k : Int) := by omega
      have z4 : (k : Int) < (s.size : Int) := by omega
      by_cases h37 : (s[k].toNat : Int) = 37
      · have e37 : ((s[k].toNat : Int) == 37) = true := beq_iff_eq.2 h37
        by_cases h2 : k + 1 < s.size
        · have z5 : ((k : Int) + 1 == (s.size : Int)) = false := beq_eq_false_iff_ne.2 (by omega)
          have z6 : (k : Int) + 1 < (s.size : Int) := by omega
          by_cases g37 : (s[k + 1].toNat : Int) = 37
          · have f37 : ((s[k + 1].toNat : Int) != 37) = false := by rw [bne, beq_iff_eq.2 g37]; rfl
            have HK : Hid (∃ m2, s.size ≤ k + 2 + m2 ∧ tmB s = tmGo s m2 (k + 2)) := by
              obtain ⟨m2, u, v⟩ := tm_two hlt hm h37 h2 (.inl g37)
              exact ⟨m2, u, HJ.out.trans v⟩
            clear HJ h37 g37 HD
            go_wp2_with fail
            go_roundw
            case rel => exact ⟨k + 2, by omega, by go_num, trivial, HK⟩
            case measure => simp [intOf]; omega
          · have f37 : ((s[k + 1].toNat : Int) != 37) = true := by rw [bne, beq_eq_false_iff_ne.2 g37]; rfl
            cases hd : dgB (s[k + 1].toNat : Int) with
            | true =>
              have HK : Hid (∃ m2, s.size ≤ k + 2 + m2 ∧ tmB s = tmGo s m2 (k + 2)) := by
                obtain ⟨m2, u, v⟩ := tm_two hlt hm h37 h2 (.inr hd)
                exact ⟨m2, u, HJ.out.trans v⟩
              clear HJ h37 g37
              go_wp2_with fail
              refine (HD.out _ _).mono ?_
              rintro e w ⟨rfl, rfl⟩
              rw [hd]
              clear hd HD
              go_wp2_with fail
              go_roundw
              case rel => exact ⟨k + 2, by omega, by go_num, trivial, HK⟩
              case measure => simp [intOf]; omega
            | false =>
              have HE : Hid (tmB s = false) := HJ.out.trans (tm_bad hlt hm h37 h2 g37 hd)
              clear HJ h37 g37
              go_wp2_with fail
              refine (HD.out _ _).mono ?_
              rintro e w ⟨rfl, rfl⟩
              rw [hd]
              clear hd HD
              go_wp2_with fail
              go_ret
              exact ⟨by rw [HE.out]; rfl, rfl⟩
        · have z5 : ((k : Int) + 1 == (s.size : Int)) = true := beq_iff_eq.2 (by omega)
          have HE : Hid (tmB s = false) := HJ.out.trans (tm_cut hlt hm h37 h2)
          clear HJ h37 HD
          go_wp2_with fail
          go_ret
          exact ⟨by rw [HE.out]; rfl, rfl⟩
      · have e37 : ((s[k].toNat : Int) == 37) = false := beq_eq_false_iff_ne.2 h37
        have HK : Hid (∃ m2, s.size ≤ k + 1 + m2 ∧ tmB s = tmGo s m2 (k + 1)) := by
          obtain ⟨m2, u, v⟩ := tm_plain hlt hm h37
          exact ⟨m2, u, HJ.out.trans v⟩
        clear HJ h37 HD
        go_wp2_with fail
        go_roundw
        case rel => exact ⟨k + 1, by omega, by go_num, trivial, HK⟩
        case measure => simp [intOf]; omega
    · obtain rfl : k = s.size := by omega
      have HE : Hid (tmB s = true) := HJ.out.trans (tm_end s m _ (by omega))
      clear HD HJ
      go_wp2_with fail
      go_ret
      exact ⟨by rw [HE.out]; rfl, rfl⟩
end Go.Proofs.YtbipjdgholdhcabGreat.T

namespace Go.Proofs.YtbipjdgholdhcabGreat.T
open Go.RowKit
def seE (a b c d a' b' c' d' : Int) : Bool := (a == a') && ((b == b') && ((c == c') && (d == d')))
theorem tx_ext {a b : ByteArray} (h : a.toList = b.toList) : a = b := by
  rw [ByteArray.toList_eq, ByteArray.toList_eq] at h
  obtain ⟨x⟩ := a
  obtain ⟨y⟩ := b
  have h2 : x.toList = y.toList := h
  rw [Array.ext' h2]
theorem eq41d (m : Nat) (a b c d a' b' c' d' : Int) (w : World) : (Op.equalIn (m + 2) 55 (.agg #[.int .u64 a, .int .u64 b, .int .u64 c, .int .u64 d]) (.agg #[.int .u64 a', .int .u64 b', .int .u64 c', .int .u64 d'])).run Tryz.prog w = .ok (seE a b c d a' b' c' d') w := by
  have u3 := Tryz.underlying54
  have a3 := Tryz.isAgg54
  have z3 := Tryz.sizeOf54
  rw [Op.equalIn]
  simp only [Sem.run_bind, run_underlying Tryz.underlying55, Result.andThen_ok]
  simp only [Std.Legacy.Range.forIn_eq_forIn_range', Std.Legacy.Range.size, Nat.sub_zero, Nat.add_sub_cancel, Nat.div_one, List.range'_succ, List.range'_zero, List.forIn_cons, List.forIn_nil]
  unfold seE
  cases ha : (a == a')
  · go_simp
  cases hb : (b == b')
  · go_simp
  cases hc : (c == c')
  · go_simp
  cases hd : (d == d')
  · go_simp
  go_simp

theorem eq41e (a b c d a' b' c' d' : Int) (w : World) : (Op.equalIn 10000 55 (.agg #[.int .u64 a, .int .u64 b, .int .u64 c, .int .u64 d]) (.agg #[.int .u64 a', .int .u64 b', .int .u64 c', .int .u64 d'])).run Tryz.prog w = .ok (seE a b c d a' b' c' d') w := eq41d 9998 a b c d a' b' c' d' w

theorem set_eql (a b c d a' b' c' d' : Int) (W : World) : (binOp .eql 55 (.agg #[.int .u64 a, .int .u64 b, .int .u64 c, .int .u64 d]) (.agg #[.int .u64 a', .int .u64 b', .int .u64 c', .int .u64 d'])).run Tryz.prog W = .ok (.bool (seE a b c d a' b' c' d')) W := by
  have h := eq41e a b c d a' b' c' d'
  simp [go_sem, h]
theorem set_neq (a b c d a' b' c' d' : Int) (W : World) : (binOp .neq 55 (.agg #[.int .u64 a, .int .u64 b, .int .u64 c, .int .u64 d]) (.agg #[.int .u64 a', .int .u64 b', .int .u64 c', .int .u64 d'])).run Tryz.prog W = .ok (.bool (!seE a b c d a' b' c' d')) W := by
  have h := eq41e a b c d a' b' c' d'
  simp [go_sem, h]
theorem seE_zero (op a b c d : Int) (h : ¬ op = 5) : seE a b c d 0 0 0 0 = seF op a b c d := by
  unfold seE seF
  rw [if_neg h]
  by_cases ha : a = 0 <;> by_cases hb : b = 0 <;> by_cases hc : c = 0 <;> by_cases hd : d = 0 <;> simp [ha, hb, hc, hd]
end Go.Proofs.YtbipjdgholdhcabGreat.T

namespace Go.Proofs.YtbipjdgholdhcabGreat.T
open Go.RowKit
/-- A node, laid in a block. -/
structure NB (W : World) (g o : Nat) (n : Nd) : Prop where
  c0 : W.cell? ⟨g, o, none⟩ = some (.int .i64 n.op)
  c1 : W.cell? ⟨g, o + 1, none⟩ = some (.int .i64 n.nn)
  c2 : W.cell? ⟨g, o + 2, none⟩ = some (.string n.tx)
  c3 : W.cell? ⟨g, o + 3, none⟩ = some (.int .u64 n.s0)
  c4 : W.cell? ⟨g, o + 4, none⟩ = some (.int .u64 n.s1)
  c5 : W.cell? ⟨g, o + 5, none⟩ = some (.int .u64 n.s2)
  c6 : W.cell? ⟨g, o + 6, none⟩ = some (.int .u64 n.s3)
theorem NB.lt {W : World} {g o : Nat} {n : Nd} (h : NB W g o n) : g < W.heap.size := World.block_lt_of_cell? W _ h.c0
theorem NB.same {W W' : World} {g o : Nat} {n : Nd} (h : NB W g o n) (hb : W'.heap[g]? = W.heap[g]?) : NB W' g o n := by
  have key : ∀ j, W'.cell? ⟨g, j, none⟩ = W.cell? ⟨g, j, none⟩ := fun j => World.cell?_of_block (a := ⟨g, j, none⟩) hb
  exact ⟨(key _).trans h.c0, (key _).trans h.c1, (key _).trans h.c2, (key _).trans h.c3, (key _).trans h.c4, (key _).trans h.c5, (key _).trans h.c6⟩
theorem NB.below {W W' : World} {g o : Nat} {n : Nd} (h : NB W g o n) (hb : Below W.heap.size W W') : NB W' g o n := h.same (hb.block g h.lt)
abbrev ndO (n : Nd) : Obj := .cells #[.int .i64 n.op, .int .i64 n.nn, .string n.tx, .int .u64 n.s0, .int .u64 n.s1, .int .u64 n.s2, .int .u64 n.s3] 57
theorem nb_new (w : World) (n : Nd) : NB (w.alloc (ndO n)) w.heap.size 0 n := by
  have key : ∀ (j : Nat) u, (#[Value.int .i64 n.op, .int .i64 n.nn, .string n.tx, .int .u64 n.s0, .int .u64 n.s1, .int .u64 n.s2, .int .u64 n.s3] : Array Value)[j]? = some u → (w.alloc (ndO n)).cell? ⟨w.heap.size, j, none⟩ = some u := fun j u hu => by
    rw [cell_of_row (w.alloc (ndO n)) w.heap.size j _ 57 (0, 0) (heap_alloc_new w _)]
    exact hu
  exact ⟨key 0 _ rfl, key 1 _ rfl, key 2 _ rfl, key 3 _ rfl, key 4 _ rfl, key 5 _ rfl, key 6 _ rfl⟩
theorem below_box (w : World) (o : Obj) : Below w.heap.size w (w.alloc o) := (Below.refl _ _).alloc (Nat.le_refl _) _

set_option maxRecDepth 100000 in
set_option maxHeartbeats 2000000 in
theorem numberFits_any (op nn : Int) (tx : ByteArray) (a b c d : Int) (w : World) : Calls Tryz.prog 96 #[.agg #[.int .i64 op, .int .i64 nn, .string tx, .int .u64 a, .int .u64 b, .int .u64 c, .int .u64 d]] w fun e w' => e = .returned (.bool (nuF op nn)) ∧ Below w.heap.size w w' := by
  have key : ∀ (q : op = 14 ∨ op = 15 ∨ op = 16 ∨ op = 23), Hid (nuF op nn = decide (0 ≤ nn ∧ nn ≤ 50)) := fun q => (by show nuF op nn = _; unfold nuF; rw [if_pos q])
  by_cases h0 : op = 14 ∨ op = 15 ∨ op = 16 ∨ op = 23
  · have HE := key h0
    clear key
    rcases h0 with rfl | rfl | rfl | rfl
    all_goals
      by_cases n0 : 0 ≤ nn
      · have HF : Hid (nuF _ nn = decide (nn ≤ 50)) := (by show nuF _ nn = _; rw [HE.out]; simp only [n0, true_and])
        clear HE
        go_enter Tryz.func96, Tryz.ntmps96
        go_wp2_with fail
        go_ret
        exact ⟨by rw [HF.out]; rfl, below_box _ _⟩
      · have HF : Hid (nuF _ nn = false) := (by show nuF _ nn = _; rw [HE.out]; simp only [n0, false_and, decide_false])
        clear HE
        go_enter Tryz.func96, Tryz.ntmps96
        go_wp2_with fail
        go_ret
        exact ⟨by rw [HF.out]; rfl, below_box _ _⟩
  · have HF : Hid (nuF op nn = (nn == 0)) := (by show nuF op nn = _; unfold nuF; rw [if_neg h0]; rfl)
    have e1 : (op == 14) = false := beq_eq_false_iff_ne.2 (by omega)
    have e2 : (op == 15) = false := beq_eq_false_iff_ne.2 (by omega)
    have e3 : (op == 16) = false := beq_eq_false_iff_ne.2 (by omega)
    have e4 : (op == 23) = false := beq_eq_false_iff_ne.2 (by omega)
    clear h0 key
    go_enter Tryz.func96, Tryz.ntmps96
    go_wp2_with fail
    go_ret
    exact ⟨by rw [HF.out]; rfl, below_box _ _⟩

set_option maxRecDepth 100000 in
set_option maxHeartbeats 2000000 in
theorem setFits_any (op nn : Int) (tx : ByteArray) (a b c d : Int) (w : World) : Calls Tryz.prog 97 #[.agg #[.int .i64 op, .int .i64 nn, .string tx, .int .u64 a, .int .u64 b, .int .u64 c, .int .u64 d]] w fun e w' => e = .returned (.bool (seF op a b c d)) ∧ Below w.heap.size w w' := by
  by_cases h5 : op = 5
  · have HF : Hid (seF op a b c d = true) := (by show seF op a b c d = _; unfold seF; rw [if_pos h5])
    have e5 : (op == 5) = true := beq_iff_eq.2 h5
    clear h5
    go_enter Tryz.func97, Tryz.ntmps97
    go_wp2_with fail
    go_ret
    exact ⟨by rw [HF.out]; rfl, below_box _ _⟩
  · have HF : Hid (seF op a b c d = seE a b c d 0 0 0 0) := (by show seF op a b c d = _; rw [seE_zero op a b c d h5])
    have e5 : (op == 5) = false := beq_eq_false_iff_ne.2 h5
    have hq := set_eql a b c d 0 0 0 0
    clear h5
    go_enter Tryz.func97, Tryz.ntmps97
    go_wp2_with fail
    go_ret
    exact ⟨by rw [HF.out]; rfl, below_box _ _⟩

set_option maxRecDepth 100000 in
set_option maxHeartbeats 4000000 in
theorem textFits_any (op nn : Int) (tx : ByteArray) (a b c d : Int) (hs : tx.size ≤ 140737488355328) (w : World) : Calls Tryz.prog 95 #[.agg #[.int .i64 op, .int .i64 nn, .string tx, .int .u64 a, .int .u64 b, .int .u64 c, .int .u64 d]] w fun e w' => e = .returned (.bool (txF op tx)) ∧ Below w.heap.size w w' := by
  have HN : Hid (∀ w, Calls Tryz.prog 107 #[.string tx] w fun e w' => e = .returned (.bool (nmB tx)) ∧ w' = w) := fun w => isName_any tx hs w
  have HT : Hid (∀ w, Calls Tryz.prog 108 #[.string tx] w fun e w' => e = .returned (.bool (tmB tx)) ∧ w' = w) := fun w => isTemplate_any tx hs w
  by_cases h4 : op = 4
  · have e4 : (op == 4) = true := beq_iff_eq.2 h4
    by_cases q0 : tx.size = 0
    · have HF : Hid (txF op tx = false) := (by show txF op tx = _; unfold txF; rw [if_pos h4, decide_eq_false (by omega)])
      have t0 := emp_t q0
      clear h4 q0 HN HT
      go_enter Tryz.func95, Tryz.ntmps95
      go_wp2_with fail
      go_ret
      exact ⟨by rw [HF.out]; rfl, below_box _ _⟩
    · have HF : Hid (txF op tx = decide ((tx.size : Int) ≤ 255)) := (by
        show txF op tx = _
        unfold txF
        rw [if_pos h4]
        by_cases q : tx.size ≤ 255
        · rw [decide_eq_true (by omega), decide_eq_true (by omega)]
        · rw [decide_eq_false (by omega), decide_eq_false (by omega)])
      have t0 := emp_f q0
      clear h4 q0 HN HT
      go_enter Tryz.func95, Tryz.ntmps95
      go_wp2_with fail
      go_ret
      exact ⟨by rw [HF.out]; rfl, below_box _ _⟩
  have e4 : (op == 4) = false := beq_eq_false_iff_ne.2 h4
  by_cases h6 : op = 6
  · have e6 : (op == 6) = true := beq_iff_eq.2 h6
    have HF : Hid (txF op tx = nmB tx) := (by show txF op tx = _; unfold txF; rw [if_neg h4, if_pos h6])
    clear h4 h6 HT
    go_enter Tryz.func95, Tryz.ntmps95
    go_wp2_with fail
    refine (HN.out _).mono ?_
    rintro e w2 ⟨rfl, rfl⟩
    clear HN
    go_wp2_with fail
    go_ret
    exact ⟨by rw [HF.out]; rfl, below_box _ _⟩
  have e6 : (op == 6) = false := beq_eq_false_iff_ne.2 h6
  by_cases h19 : op = 19
  · have e19 : (op == 19) = true := beq_iff_eq.2 h19
    by_cases q0 : tx.size = 0
    · have HF : Hid (txF op tx = true) := (by show txF op tx = _; unfold txF; rw [if_neg h4, if_neg h6, if_pos h19, decide_eq_true q0]; rfl)
      have t0 := emp_t q0
      clear h4 h6 h19 q0 HN HT
      go_enter Tryz.func95, Tryz.ntmps95
      go_wp2_with fail
      go_ret
      exact ⟨by rw [HF.out]; rfl, below_box _ _⟩
    · have HF : Hid (txF op tx = nmB tx) := (by show txF op tx = _; unfold txF; rw [if_neg h4, if_neg h6, if_pos h19, decide_eq_false q0]; rfl)
      have t0 := emp_f q0
      clear h4 h6 h19 q0 HT
      go_enter Tryz.func95, Tryz.ntmps95
      go_wp2_with fail
      refine (HN.out _).mono ?_
      rintro e w2 ⟨rfl, rfl⟩
      clear HN
      go_wp2_with fail
      go_ret
      exact ⟨by rw [HF.out]; rfl, below_box _ _⟩
  have e19 : (op == 19) = false := beq_eq_false_iff_ne.2 h19
  by_cases h22 : op = 22
  · have e22 : (op == 22) = true := beq_iff_eq.2 h22
    have HF : Hid (txF op tx = tmB tx) := (by show txF op tx = _; unfold txF; rw [if_neg h4, if_neg h6, if_neg h19, if_pos h22])
    clear h4 h6 h19 h22 HN
    go_enter Tryz.func95, Tryz.ntmps95
    go_wp2_with fail
    refine (HT.out _).mono ?_
    rintro e w2 ⟨rfl, rfl⟩
    clear HT
    go_wp2_with fail
    go_ret
    exact ⟨by rw [HF.out]; rfl, below_box _ _⟩
  have e22 : (op == 22) = false := beq_eq_false_iff_ne.2 h22
  by_cases q0 : tx.size = 0
  · have HF : Hid (txF op tx = true) := (by show txF op tx = _; unfold txF; rw [if_neg h4, if_neg h6, if_neg h19, if_neg h22, decide_eq_true q0])
    have t0 := emp_t q0
    clear h4 h6 h19 h22 q0 HN HT
    go_enter Tryz.func95, Tryz.ntmps95
    go_wp2_with fail
    go_ret
    exact ⟨by rw [HF.out]; rfl, below_box _ _⟩
  · have HF : Hid (txF op tx = false) := (by show txF op tx = _; unfold txF; rw [if_neg h4, if_neg h6, if_neg h19, if_neg h22, decide_eq_false q0])
    have t0 := emp_f q0
    clear h4 h6 h19 h22 q0 HN HT
    go_enter Tryz.func95, Tryz.ntmps95
    go_wp2_with fail
    go_ret
    exact ⟨by rw [HF.out]; rfl, below_box _ _⟩

set_option maxRecDepth 100000 in
set_option maxHeartbeats 4000000 in
theorem alone_any (n : Nd) (hs : n.tx.size ≤ 140737488355328) (w : World) : Calls Tryz.prog 87 #[ndG n] w fun e w' => e = .returned (.int .i64 (alE n)) ∧ Below w.heap.size w w' := by
  obtain ⟨op, nn, tx, a, b, c, d⟩ := n
  have HA : Hid (∀ w, Calls Tryz.prog 41 #[.int .i64 op] w fun e w' => e = .returned (.int .i64 (ar op)) ∧ w' = w) := fun w => arity_any op w
  have HT : Hid (∀ w, Calls Tryz.prog 95 #[.agg #[.int .i64 op, .int .i64 nn, .string tx, .int .u64 a, .int .u64 b, .int .u64 c, .int .u64 d]] w fun e w' => e = .returned (.bool (txF op tx)) ∧ Below w.heap.size w w') := fun w => textFits_any op nn tx a b c d hs w
  have HN : Hid (∀ w, Calls Tryz.prog 96 #[.agg #[.int .i64 op, .int .i64 nn, .string tx, .int .u64 a, .int .u64 b, .int .u64 c, .int .u64 d]] w fun e w' => e = .returned (.bool (nuF op nn)) ∧ Below w.heap.size w w') := fun w => numberFits_any op nn tx a b c d w
  have HS : Hid (∀ w, Calls Tryz.prog 97 #[.agg #[.int .i64 op, .int .i64 nn, .string tx, .int .u64 a, .int .u64 b, .int .u64 c, .int .u64 d]] w fun e w' => e = .returned (.bool (seF op a b c d)) ∧ Below w.heap.size w w') := fun w => setFits_any op nn tx a b c d w
  by_cases h0 : ar op < 0
  · have HE : Hid (alE ⟨op, nn, tx, a, b, c, d⟩ = 40) := (by show alE _ = _; unfold alE; rw [if_pos h0])
    go_enter Tryz.func87, Tryz.ntmps87
    go_wp2_with fail
    refine (HA.out _).mono ?_
    rintro e w2 ⟨rfl, rfl⟩
    clear HA HT HN HS
    generalize ar op = k at *
    go_wp2_with fail
    go_ret
    exact ⟨by rw [HE.out]; rfl, below_box _ _⟩
  have HE : Hid (alE ⟨op, nn, tx, a, b, c, d⟩ = if txF op tx && nuF op nn && seF op a b c d then 0 else 41) := (by show alE _ = _; unfold alE; rw [if_neg h0]; rfl)
  go_enter Tryz.func87, Tryz.ntmps87
  go_wp2_with fail
  refine (HA.out _).mono ?_
  rintro e w2 ⟨rfl, rfl⟩
  clear HA
  generalize ar op = k at *
  go_wp2_with fail
  refine (HT.out _).mono ?_
  rintro e w3 ⟨rfl, b3⟩
  have HB : Hid (NB w3 w.heap.size 0 ⟨op, nn, tx, a, b, c, d⟩) := (nb_new w ⟨op, nn, tx, a, b, c, d⟩).below b3
  have HW : Hid (Below w.heap.size w w3) := (below_box _ _).trans (b3.mono (below_box _ _).size)
  clear b3 HT
  obtain ⟨c0, c1, c2, c3, c4, c5, c6⟩ := HB.out
  simp only [Nat.zero_add] at c0 c1 c2 c3 c4 c5 c6
  generalize txF op tx = t1 at *
  cases t1 with
  | false =>
    clear HN HS
    go_wp2_with fail
    go_ret
    exact ⟨by rw [HE.out]; rfl, HW.out⟩
  | true =>
    go_wp2_with fail
    refine (HN.out _).mono ?_
    rintro e w4 ⟨rfl, b4⟩
    clear HN c0 c1 c2 c3 c4 c5 c6
    have HB4 : Hid (NB w4 w.heap.size 0 ⟨op, nn, tx, a, b, c, d⟩) := HB.out.below b4
    have HW4 : Hid (Below w.heap.size w w4) := HW.out.trans (b4.mono HW.out.size)
    clear b4 HB HW
    obtain ⟨c0, c1, c2, c3, c4, c5, c6⟩ := HB4.out
    simp only [Nat.zero_add] at c0 c1 c2 c3 c4 c5 c6
    generalize nuF op nn = t2 at *
    cases t2 with
    | false =>
      clear HS
      go_wp2_with fail
      go_ret
      exact ⟨by rw [HE.out]; rfl, HW4.out⟩
    | true =>
      go_wp2_with fail
      refine (HS.out _).mono ?_
      rintro e w5 ⟨rfl, b5⟩
      clear HS c0 c1 c2 c3 c4 c5 c6
      have HW5 : Hid (Below w.heap.size w w5) := HW4.out.trans (b5.mono HW4.out.size)
      clear b5 HW4 HB4
      generalize seF op a b c d = t3 at *
      cases t3 with
      | false =>
        go_wp2_with fail
        go_ret
        exact ⟨by rw [HE.out]; rfl, HW5.out⟩
      | true =>
        go_wp2_with fail
        go_ret
        exact ⟨by rw [HE.out]; rfl, HW5.out⟩
end Go.Proofs.YtbipjdgholdhcabGreat.T

namespace Go.Proofs.YtbipjdgholdhcabGreat.T
open Go.RowKit
theorem below_drewN {B : Nat} {a w : World} (h : Below B a w) (n : Nat) : Below B a (w.drewN n) := by
  induction n with
  | zero => exact h
  | succ n ih => exact ih.drew
theorem max_int (a b : Nat) : (if a < b then (b : Int) else (a : Int)) = ((max a b : Nat) : Int) := by split <;> omega
theorem max_int1 (a b : Nat) : (if (a : Int) < (b : Int) + 1 then (b : Int) + 1 else (a : Int)) = ((max a (b + 1) : Nat) : Int) := by split <;> omega
/-- A pattern's cells. -/
def NdL (W : World) (g o : Nat) (L : List Nd) : Prop := ∀ (j : Nat) n, L[j]? = some n → NB W g (o + j * 7) n
def RdN (W : World) (A : Option Addr) (L : List Nd) : Prop := L ≠ [] → ∃ g o, A = some ⟨g, o, none⟩ ∧ g < W.heap.size ∧ NdL W g o L
theorem NdL.same {W W' : World} {g o : Nat} {L : List Nd} (h : NdL W g o L) (hb : W'.heap[g]? = W.heap[g]?) : NdL W' g o L := fun j n hj => (h j n hj).same hb
theorem RdN.below {W W' : World} {A : Option Addr} {L : List Nd} {B : Nat} (h : RdN W A L) (hb : Below B W W') (hB : W.heap.size ≤ B) : RdN W' A L := fun hl => by
  obtain ⟨g, o, e, lt, c⟩ := h hl
  exact ⟨g, o, e, Nat.lt_of_lt_of_le lt hb.size, c.same (hb.block g (by omega))⟩

/-- A part in a box of its own. -/
structure PB (W : World) (b : Nat) (f l h : Int) : Prop where
  heap : W.heap[b]? = some (.cells #[.int .i64 f, .int .i64 l, .int .i64 h] 130 (0, 0))
theorem PB.lt {W : World} {b : Nat} {f l h : Int} (x : PB W b f l h) : b < W.heap.size := (Array.getElem?_eq_some_iff.1 x.heap).1
theorem PB.c0 {W : World} {b : Nat} {f l h : Int} (x : PB W b f l h) : W.cell? ⟨b, 0, none⟩ = some (.int .i64 f) := by rw [cell_of_row W b 0 _ 130 (0, 0) x.heap]; rfl
theorem PB.c1 {W : World} {b : Nat} {f l h : Int} (x : PB W b f l h) : W.cell? ⟨b, 1, none⟩ = some (.int .i64 l) := by rw [cell_of_row W b 1 _ 130 (0, 0) x.heap]; rfl
theorem PB.c2 {W : World} {b : Nat} {f l h : Int} (x : PB W b f l h) : W.cell? ⟨b, 2, none⟩ = some (.int .i64 h) := by rw [cell_of_row W b 2 _ 130 (0, 0) x.heap]; rfl
theorem PB.fz {W : World} {b : Nat} {f l h : Int} (x : PB W b f l h) (j : Nat) : W.frozen? ⟨b, j, none⟩ = false := frozen_of_row W b j _ 130 x.heap
theorem PB.same {W W' : World} {b : Nat} {f l h : Int} (x : PB W b f l h) (hb : W'.heap[b]? = W.heap[b]?) : PB W' b f l h := ⟨hb.trans x.heap⟩
theorem PB.new (W : World) (f l h : Int) : PB (W.alloc (.cells #[.int .i64 f, .int .i64 l, .int .i64 h] 130)) W.heap.size f l h := ⟨heap_alloc_new W _⟩
theorem PB.alloc {W : World} {b : Nat} {f l h : Int} (x : PB W b f l h) (o : Obj) : PB (W.alloc o) b f l h := x.same ((below_box W o).block b x.lt)
theorem PB.set0 {W : World} {b : Nat} {f l h : Int} (x : PB W b f l h) (v : Int) : PB (W.setCell ⟨b, 0, none⟩ (.int .i64 v)) b v l h := ⟨by rw [heap_setCell_same W b 0 _ 130 _ x.heap]; rfl⟩
theorem PB.set1 {W : World} {b : Nat} {f l h : Int} (x : PB W b f l h) (v : Int) : PB (W.setCell ⟨b, 1, none⟩ (.int .i64 v)) b f v h := ⟨by rw [heap_setCell_same W b 1 _ 130 _ x.heap]; rfl⟩
theorem PB.set2 {W : World} {b : Nat} {f l h : Int} (x : PB W b f l h) (v : Int) : PB (W.setCell ⟨b, 2, none⟩ (.int .i64 v)) b f l v := ⟨by rw [heap_setCell_same W b 2 _ 130 _ x.heap]; rfl⟩
theorem PB.other {W : World} {b : Nat} {f l h : Int} (x : PB W b f l h) (a : Addr) (v : Value) (ne : b ≠ a.block) : PB (W.setCell a v) b f l h := x.same (heap_setCell_other W a b v ne)

/-- Parts one behind the other. -/
def ptV (p : Pt) : List Value := [.int .i64 p.1, .int .i64 p.2.1, .int .i64 p.2.2]
def ptc (l : List Pt) : List Value := l.flatMap ptV
theorem ptc_len (l : List Pt) : (ptc l).length = l.length * 3 := by
  induction l with
  | nil => rfl
  | cons a l ih => show (ptV a ++ ptc l).length = _; rw [List.length_append, ih, List.length_cons]; show 3 + _ = _; omega
theorem ptc_append (a b : List Pt) : ptc (a ++ b) = ptc a ++ ptc b := List.flatMap_append
structure P3 (W : World) (g o : Nat) (p : Pt) : Prop where
  c0 : W.cell? ⟨g, o, none⟩ = some (.int .i64 p.1)
  c1 : W.cell? ⟨g, o + 1, none⟩ = some (.int .i64 p.2.1)
  c2 : W.cell? ⟨g, o + 2, none⟩ = some (.int .i64 p.2.2)
theorem P3.same {W W' : World} {g o : Nat} {p : Pt} (h : P3 W g o p) (hb : W'.heap[g]? = W.heap[g]?) : P3 W' g o p := by
  have key : ∀ j, W'.cell? ⟨g, j, none⟩ = W.cell? ⟨g, j, none⟩ := fun j => World.cell?_of_block (a := ⟨g, j, none⟩) hb
  exact ⟨(key _).trans h.c0, (key _).trans h.c1, (key _).trans h.c2⟩
def PtL (W : World) (g o : Nat) (l : List Pt) : Prop := ∀ (j : Nat) p, l[j]? = some p → P3 W g (o + j * 3) p
def RdP (W : World) (A : Option Addr) (l : List Pt) : Prop := l ≠ [] → ∃ g o, A = some ⟨g, o, none⟩ ∧ g < W.heap.size ∧ PtL W g o l
theorem PtL.same {W W' : World} {g o : Nat} {l : List Pt} (h : PtL W g o l) (hb : W'.heap[g]? = W.heap[g]?) : PtL W' g o l := fun j n hj => (h j n hj).same hb
theorem RdP.below {W W' : World} {A : Option Addr} {l : List Pt} {B : Nat} (h : RdP W A l) (hb : Below B W W') (hB : W.heap.size ≤ B) : RdP W' A l := fun hl => by
  obtain ⟨g, o, e, lt, c⟩ := h hl
  exact ⟨g, o, e, Nat.lt_of_lt_of_le lt hb.size, c.same (hb.block g (by omega))⟩

/-- The part as it grows. -/
def hgt (L : List Nd) (op : Int) (m i : Nat) (x : Pt) : Nat := if i = 0 ∧ m = 2 ∧ opAt L x.2.1 = op then x.2.2 else x.2.2 + 1
def pw (L : List Nd) (k : Nat) (op : Int) (xs : List Pt) : Nat → Pt
  | 0 => (k, k, 1)
  | i + 1 => match xs[i]? with
    | none => pw L k op xs i
    | some x => ((if i = 0 then x.1 else (pw L k op xs i).1), k, max (pw L k op xs i).2.2 (hgt L op xs.length i x))
theorem pw_last (L : List Nd) (k : Nat) (op : Int) (xs : List Pt) (i : Nat) : (pw L k op xs i).2.1 = k := by
  induction i with
  | zero => rfl
  | succ i ih => rw [pw]; split
                 · exact ih
                 · rfl
theorem pw_succ {L : List Nd} {k : Nat} {op : Int} {xs : List Pt} {i : Nat} {x : Pt} (h : xs[i]? = some x) : pw L k op xs (i + 1) = ((if i = 0 then x.1 else (pw L k op xs i).1), k, max (pw L k op xs i).2.2 (hgt L op xs.length i x)) := by
  rw [pw, h]
theorem pw_mk (L : List Nd) (k : Nat) (op : Int) (st : List Pt) (h : arN op ≤ st.length) : pw L k op (st.take (arN op)).reverse (arN op) = mk L k op st := by
  have h2 := arN_le op
  unfold mk
  by_cases a0 : arN op = 0
  · rw [if_pos a0, a0]; rfl
  rw [if_neg a0]
  by_cases a1 : arN op = 1
  · rw [if_pos a1]
    rw [a1] at h ⊢
    cases st with
    | nil => simp at h
    | cons x r => rw [pw_succ (x := x) (by simp)]; simp [pw, hgt]
  · rw [if_neg a1]
    have e2 : arN op = 2 := by omega
    rw [e2] at h ⊢
    cases st with
    | nil => simp at h
    | cons y r => cases r with
      | nil => simp at h
      | cons x r =>
        rw [pw_succ (x := y) (by simp), pw_succ (x := x) (by simp)]
        simp [pw, hgt]

structure AtA (w wr : World) (p : Pt) : Prop where
  b6 : PB wr w.heap.size 0 0 0
  b7 : PB wr (w.heap.size + 1) p.1 p.2.1 p.2.2
  b : Below w.heap.size w wr

structure AtR (w w2 : World) (bx : Nat) (P x : Pt) (gp op : Nat) (L : List Nd) : Prop where
  b6 : PB w2 w.heap.size 0 0 0
  b7 : PB w2 (w.heap.size + 1) P.1 P.2.1 P.2.2
  bb : PB w2 bx x.1 x.2.1 x.2.2
  b : Below w.heap.size w w2
  p : NdL w2 gp op L
  lp : gp < w.heap.size
theorem AtR.below {w w2 w3 : World} {bx : Nat} {P x : Pt} {gp op : Nat} {L : List Nd} (h : AtR w w2 bx P x gp op L) (hb : Below w2.heap.size w2 w3) : AtR w w3 bx P x gp op L :=
  ⟨h.b6.same (hb.block _ h.b6.lt), h.b7.same (hb.block _ h.b7.lt), h.bb.same (hb.block _ h.bb.lt), h.b.trans (hb.mono h.b.size), h.p.same (hb.block _ (Nat.lt_of_lt_of_le h.lp h.b.size)), h.lp⟩
theorem AtA.box {w wr : World} {P : Pt} (h : AtA w wr P) {gp op : Nat} {L : List Nd} (hp : NdL w gp op L) (lp : gp < w.heap.size) (x : Pt) : AtR w (wr.alloc (.cells #[.int .i64 x.1, .int .i64 x.2.1, .int .i64 x.2.2] 130)) wr.heap.size P x gp op L :=
  ⟨h.b6.alloc _, h.b7.alloc _, PB.new _ _ _ _, h.b.alloc h.b.size _, (hp.same (h.b.block _ lp)).same ((below_box wr _).block _ (Nat.lt_of_lt_of_le lp h.b.size)), lp⟩
theorem AtA.set0 {w wr : World} {P : Pt} (h : AtA w wr P) (v : Nat) : AtA w (wr.setCell ⟨w.heap.size + 1, 0, none⟩ (.int .i64 v)) (v, P.2.1, P.2.2) :=
  ⟨h.b6.other _ _ (by simp), h.b7.set0 _, h.b.setCell (by simp) _⟩
theorem AtR.set2 {w w2 : World} {bx : Nat} {P x : Pt} {gp op : Nat} {L : List Nd} (h : AtR w w2 bx P x gp op L) (v : Nat) : AtA w (w2.setCell ⟨w.heap.size + 1, 2, none⟩ (.int .i64 v)) (P.1, P.2.1, v) :=
  ⟨h.b6.other _ _ (by simp), h.b7.set2 _, h.b.setCell (by simp) _⟩

set_option maxRecDepth 100000 in
set_option maxHeartbeats 8000000 in
theorem above_any (L : List Nd) (Ap : Option Addr) (cp : Nat) (k : Nat) (n : Nd) (hn : L[k]? = some n) (hL : L.length ≤ 2048) (A : Option Addr) (c : Nat) (xs : List Pt) (hx : xs.length ≤ 2) (hxs : ∀ x ∈ xs, x.1 ≤ 2048 ∧ x.2.1 < L.length ∧ x.2.2 ≤ 100) (w : World) (hp : RdN w Ap L) (hr : RdP w A xs) :
    Calls Tryz.prog 88 #[.slice Ap L.length cp, .int .i64 k, .slice A xs.length c] w fun e w' => e = .returned (.agg #[.int .i64 (pw L k n.op xs xs.length).1, .int .i64 (pw L k n.op xs xs.length).2.1, .int .i64 (pw L k n.op xs xs.length).2.2]) ∧ Below w.heap.size w w' := by
  have hk : k < L.length := by
    by_cases q : k < L.length
    · exact q
    · rw [List.getElem?_eq_none (by omega)] at hn; cases hn
  obtain ⟨gp, op, rfl, lp, cpl⟩ := hp (by rintro rfl; simp at hk)
  have HP := (show Hid (NdL w gp op L) from cpl)
  have HR := (show Hid (RdP w A xs) from hr)
  have HX := (show Hid (∀ x ∈ xs, x.1 ≤ 2048 ∧ x.2.1 < L.length ∧ x.2.2 ≤ 100) from hxs)
  have HN := (show Hid (L[k]? = some n) from hn)
  have HG := (show Hid (∀ i, i < xs.length → ∃ x, xs[i]? = some x ∧ x ∈ xs ∧ xs ≠ []) from fun i hi => ⟨xs[i], List.getElem?_eq_getElem hi, List.getElem_mem hi, by rintro rfl; simp at hi⟩)
  have HB : Hid (∀ i, i ≤ xs.length → (pw L k n.op xs i).1 ≤ 2048 ∧ (pw L k n.op xs i).2.2 ≤ 101) := by
    show ∀ i, i ≤ xs.length → _
    intro i
    induction i with
    | zero => intro _; exact ⟨by show k ≤ 2048; omega, by show 1 ≤ 101; omega⟩
    | succ i ih =>
      intro hi
      obtain ⟨i1, i2⟩ := ih (by omega)
      have hxi : xs[i]? = some xs[i] := List.getElem?_eq_getElem (by omega)
      obtain ⟨q1, q2, q3⟩ := hxs xs[i] (List.getElem_mem (by omega))
      rw [pw_succ hxi]
      refine ⟨?_, ?_⟩
      · show (if i = 0 then xs[i].1 else _) ≤ 2048
        split <;> omega
      · show max _ (hgt L n.op xs.length i xs[i]) ≤ 101
        have : hgt L n.op xs.length i xs[i] ≤ 101 := by unfold hgt; split <;> omega
        omega
  have HS := (show Hid (∀ i x, xs[i]? = some x → pw L k n.op xs (i + 1) = ((if i = 0 then x.1 else (pw L k n.op xs i).1), k, max (pw L k n.op xs i).2.2 (hgt L n.op xs.length i x))) from fun i x h => pw_succ h)
  have HLst := (show Hid (∀ i, (pw L k n.op xs i).2.1 = k) from fun i => pw_last L k n.op xs i)
  have H0 := (show Hid (pw L k n.op xs 0 = (k, k, 1)) from rfl)
  have HA := (show Hid (AtA w ((w.alloc (.cells #[.int .i64 0, .int .i64 0, .int .i64 0] 130)).alloc (.cells #[.int .i64 k, .int .i64 k, .int .i64 1] 130)) (k, k, 1)) from by
    have h1 := PB.new w 0 0 0
    have h2 := PB.new (w.alloc (.cells #[.int .i64 0, .int .i64 0, .int .i64 0] 130)) k k 1
    refine ⟨h1.alloc _, ?_, (below_box w _).alloc (below_box w _).size _⟩
    have hsz : (w.alloc (.cells #[.int .i64 0, .int .i64 0, .int .i64 0] 130)).heap.size = w.heap.size + 1 := by simp
    rw [hsz] at h2
    exact h2)
  clear cpl hr hxs hn hp
  go_enter Tryz.func88, Tryz.ntmps88
  go_wp2_with fail
  generalize hm : xs.length = m at *
  go_loopw [16] (fun t wr => ∃ i : Nat, i ≤ m ∧ t = .int .i64 i ∧ Hid (AtA w wr (pw L k n.op xs i))) (fun t _ => m - (intOf t).toNat)
  case atStart => exact ⟨0, by omega, by go_num, HA⟩
  case round =>
    obtain ⟨i, hi, rfl, HW⟩ := hrel
    clear HA H0
    by_cases hlt : i < m
    · obtain ⟨x, hxi, hmem, hne⟩ := HG.out i hlt
      obtain ⟨g, o, rfl, lg, cl⟩ := HR.out hne
      obtain ⟨q1, q2, q3⟩ := HX.out x hmem
      obtain ⟨b6, b7, bw⟩ := HW.out
      obtain ⟨p1, p2⟩ := HB.out i hi
      have HSx := (show Hid _ from HS.out i x hxi)
      have hl2 := HLst.out i
      have hbd : x.2.2 + 1 ≤ 200 := by omega
      obtain ⟨d0, d1, d2⟩ := (cl.same (bw.block g lg)) i x hxi
      have hy : L[x.2.1]? = some L[x.2.1] := List.getElem?_eq_getElem q2
      have HO := (show Hid (L[x.2.1]? = some L[x.2.1] ∧ L[x.2.1].op = opAt L x.2.1) from ⟨hy, (op_of hy).symm⟩)
      have z0 : (0 : Int) ≤ (i : Int) := by omega
      have z1 : (i : Int) < (m : Int) := by omega
      have z2 : (0 : Int) ≤ (k : Int) := by omega
      have z3 : (k : Int) < (L.length : Int) := by omega
      have z4 : (0 : Int) ≤ (x.2.1 : Int) := by omega
      have z5 : (x.2.1 : Int) < (L.length : Int) := by omega
      have c0 := b7.c0
      have f0 := b7.fz 0
      have hsz := b7.lt
      clear HX HB HS HLst HG HR hy cl b6 b7 bw hne hmem
      generalize hP : pw L k n.op xs i = P at *
      clear hP
      obtain ⟨P1, P2, P3⟩ := P
      obtain ⟨x1, x2, x3⟩ := x
      simp only at q1 q2 q3 p1 p2 hl2 hbd d0 d1 d2 z4 z5 c0 HO HSx
      subst hl2
      by_cases hi0 : i = 0
      · have HA2 := (show Hid (AtR w ((wr.setCell ⟨w.heap.size + 1, 0, none⟩ (.int .i64 x1)).alloc (.cells #[.int .i64 x1, .int .i64 x2, .int .i64 x3] 130)) wr.heap.size (x1, P2, P3) (x1, x2, x3) gp op L) from by
          have h := (HW.out.set0 x1).box HP.out lp (x1, x2, x3)
          rw [World.size_setCell] at h
          exact h)
        have ti : ((i : Int) == 0) = true := beq_iff_eq.2 (by omega)
        have HY : Hid (pw L P2 n.op xs (i + 1) = (x1, P2, max P3 (if m = 2 ∧ opAt L x2 = n.op then x3 else x3 + 1))) := by
          show pw L P2 n.op xs (i + 1) = _
          rw [HSx.out, if_pos hi0]
          unfold hgt
          rw [hi0]
          simp only [true_and]
        clear hxi HSx
        by_cases hm2 : m = 2
        · have t1 : ((m : Int) == 2) = true := beq_iff_eq.2 (by omega)
          by_cases ho : opAt L x2 = n.op
          · have HZ : Hid (pw L P2 n.op xs (i + 1) = (x1, P2, max P3 x3)) := by
              show pw L P2 n.op xs (i + 1) = _
              rw [HY.out, if_pos ⟨hm2, ho⟩]
            have t2 : (opAt L x2 == n.op) = true := beq_iff_eq.2 ho
            clear hm2 ho hi0 HY
            go_wp2_with fail
            generalize (wr.setCell ⟨w.heap.size + 1, 0, none⟩ (.int .i64 x1)).alloc (.cells #[.int .i64 x1, .int .i64 x2, .int .i64 x3] 130) = w2 at *
            have e1 := (HA2.out.p x2 _ HO.out.1).c0
            have e2 := (HA2.out.p P2 n HN.out).c0
            rw [HO.out.2] at e1
            have k1 := HA2.out.bb.c1
            have k2 := HA2.out.bb.c2
            clear c0 f0 d0 d1 d2 HW HP HN HO
            generalize opAt L x2 = ox at *
            go_quiet (fail)
            have HA3 := (show Hid (AtR w (w2.drewN nq) wr.heap.size (x1, P2, P3) (x1, x2, x3) gp op L) from HA2.out.below (below_drewN (Below.refl _ _) _))
            generalize w2.drewN nq = w3 at *
            clear e1 e2 k1 k2 HA2
            have k2 := HA3.out.bb.c2
            have c2 := HA3.out.b7.c2
            have f2 := HA3.out.b7.fz 2
            simp only at k2 c2
            go_wp2_with fail
            go_roundw
            case rel =>
              have h := HA3.out.set2 (max P3 x3)
              rw [← max_int] at h
              exact ⟨i + 1, by omega, by go_num, by rw [HZ.out]; exact h⟩
            case measure => simp [intOf]; omega
          · have HZ : Hid (pw L P2 n.op xs (i + 1) = (x1, P2, max P3 (x3 + 1))) := by
              show pw L P2 n.op xs (i + 1) = _
              rw [HY.out, if_neg (fun q => ho q.2)]
            have t2 : (opAt L x2 == n.op) = false := beq_eq_false_iff_ne.2 ho
            clear hm2 ho hi0 HY
            go_wp2_with fail
            generalize (wr.setCell ⟨w.heap.size + 1, 0, none⟩ (.int .i64 x1)).alloc (.cells #[.int .i64 x1, .int .i64 x2, .int .i64 x3] 130) = w2 at *
            have e1 := (HA2.out.p x2 _ HO.out.1).c0
            have e2 := (HA2.out.p P2 n HN.out).c0
            rw [HO.out.2] at e1
            have k1 := HA2.out.bb.c1
            have k2 := HA2.out.bb.c2
            clear c0 f0 d0 d1 d2 HW HP HN HO
            generalize opAt L x2 = ox at *
            go_quiet (fail)
            have HA3 := (show Hid (AtR w (w2.drewN nq) wr.heap.size (x1, P2, P3) (x1, x2, x3) gp op L) from HA2.out.below (below_drewN (Below.refl _ _) _))
            generalize w2.drewN nq = w3 at *
            clear e1 e2 k1 k2 HA2
            have k2 := HA3.out.bb.c2
            have c2 := HA3.out.b7.c2
            have f2 := HA3.out.b7.fz 2
            simp only at k2 c2
            go_wp2_with fail
            go_roundw
            case rel =>
              have h := HA3.out.set2 (max P3 (x3 + 1))
              rw [← max_int1] at h
              exact ⟨i + 1, by omega, by go_num, by rw [HZ.out]; exact h⟩
            case measure => simp [intOf]; omega
        · have t1 : ((m : Int) == 2) = false := beq_eq_false_iff_ne.2 (by omega)
          have HZ : Hid (pw L P2 n.op xs (i + 1) = (x1, P2, max P3 (x3 + 1))) := by
            show pw L P2 n.op xs (i + 1) = _
            rw [HY.out, if_neg (fun q => hm2 q.1)]
          clear hm2 hi0 HY
          go_wp2_with fail
          generalize (wr.setCell ⟨w.heap.size + 1, 0, none⟩ (.int .i64 x1)).alloc (.cells #[.int .i64 x1, .int .i64 x2, .int .i64 x3] 130) = w2 at *
          have e1 := (HA2.out.p x2 _ HO.out.1).c0
          have e2 := (HA2.out.p P2 n HN.out).c0
          rw [HO.out.2] at e1
          have k1 := HA2.out.bb.c1
          have k2 := HA2.out.bb.c2
          clear c0 f0 d0 d1 d2 HW HP HN HO
          generalize opAt L x2 = ox at *
          go_quiet (fail)
          have HA3 := (show Hid (AtR w (w2.drewN nq) wr.heap.size (x1, P2, P3) (x1, x2, x3) gp op L) from HA2.out.below (below_drewN (Below.refl _ _) _))
          generalize w2.drewN nq = w3 at *
          clear e1 e2 k1 k2 HA2
          have k2 := HA3.out.bb.c2
          have c2 := HA3.out.b7.c2
          have f2 := HA3.out.b7.fz 2
          simp only at k2 c2
          go_wp2_with fail
          go_roundw
          case rel =>
            have h := HA3.out.set2 (max P3 (x3 + 1))
            rw [← max_int1] at h
            exact ⟨i + 1, by omega, by go_num, by rw [HZ.out]; exact h⟩
          case measure => simp [intOf]; omega
      · have HA3 := (show Hid (AtR w (wr.alloc (.cells #[.int .i64 x1, .int .i64 x2, .int .i64 x3] 130)) wr.heap.size (P1, P2, P3) (x1, x2, x3) gp op L) from HW.out.box HP.out lp (x1, x2, x3))
        have ti : ((i : Int) == 0) = false := beq_eq_false_iff_ne.2 (by omega)
        have HZ : Hid (pw L P2 n.op xs (i + 1) = (P1, P2, max P3 (x3 + 1))) := by
          show pw L P2 n.op xs (i + 1) = _
          rw [HSx.out, if_neg hi0]
          unfold hgt
          rw [if_neg (fun q => hi0 q.1)]
        have c2 := HW.out.b7.c2
        have f2 := HW.out.b7.fz 2
        simp only at c2
        clear hxi HSx hi0 HO HN HP
        go_wp2_with fail
        go_roundw
        case rel =>
          have h := HA3.out.set2 (max P3 (x3 + 1))
          rw [← max_int1] at h
          refine ⟨i + 1, by omega, by go_num, ?_⟩
          rw [HZ.out]
          have e : ((wr.setCell ⟨w.heap.size + 1, 2, none⟩ (.int .i64 (if (P3 : Int) < (x3 : Int) + 1 then (x3 : Int) + 1 else (P3 : Int)))).alloc (.cells #[.int .i64 x1, .int .i64 x2, .int .i64 x3] 130)) = (wr.alloc (.cells #[.int .i64 x1, .int .i64 x2, .int .i64 x3] 130)).setCell ⟨w.heap.size + 1, 2, none⟩ (.int .i64 (if (P3 : Int) < (x3 : Int) + 1 then (x3 : Int) + 1 else (P3 : Int))) := by
            rw [World.setCell_alloc_past _ _ _ _ hsz]
          rw [e]
          exact h
        case measure => simp [intOf]; omega
    · obtain rfl : i = m := by omega
      have hlen := hm
      subst hlen
      have c0 := HW.out.b7.c0
      have c1 := HW.out.b7.c1
      have c2 := HW.out.b7.c2
      have d0 := HW.out.b6.c0
      have d1 := HW.out.b6.c1
      have d2 := HW.out.b6.c2
      have f0 := HW.out.b6.fz 0
      have f1 := HW.out.b6.fz 1
      have f2 := HW.out.b6.fz 2
      clear HX HB HS HLst HG HR HP HN
      have HV := (show Hid (PB (((wr.setCell ⟨w.heap.size, 0, none⟩ (.int .i64 (pw L k n.op xs xs.length).1)).setCell ⟨w.heap.size, 1, none⟩ (.int .i64 (pw L k n.op xs xs.length).2.1)).setCell ⟨w.heap.size, 2, none⟩ (.int .i64 (pw L k n.op xs xs.length).2.2)) w.heap.size _ _ _) from ((HW.out.b6.set0 _).set1 _).set2 _)
      have HU := (show Hid (Below w.heap.size w (((wr.setCell ⟨w.heap.size, 0, none⟩ (.int .i64 (pw L k n.op xs xs.length).1)).setCell ⟨w.heap.size, 1, none⟩ (.int .i64 (pw L k n.op xs xs.length).2.1)).setCell ⟨w.heap.size, 2, none⟩ (.int .i64 (pw L k n.op xs xs.length).2.2))) from ((HW.out.b.setCell (Nat.le_refl _) _).setCell (Nat.le_refl _) _).setCell (Nat.le_refl _) _)
      clear HW
      generalize hP : pw L k n.op xs xs.length = P at *
      have HP := (show Hid _ from hP)
      clear hP
      go_wp2_with fail
      generalize ((wr.setCell ⟨w.heap.size, 0, none⟩ (.int .i64 P.1)).setCell ⟨w.heap.size, 1, none⟩ (.int .i64 P.2.1)).setCell ⟨w.heap.size, 2, none⟩ (.int .i64 P.2.2) = w9 at *
      clear c0 c1 c2 d0 d1 d2 f0 f1 f2
      have c0 := HV.out.c0
      have c1 := HV.out.c1
      have c2 := HV.out.c2
      rw [HP.out]
      refine bodyPost_ret (v := .agg #[.int .i64 P.1, .int .i64 P.2.1, .int .i64 P.2.2]) (by simp [results, Tryz.results88, go_sem, c0, c1, c2]) rfl ⟨rfl, HU.out⟩
end Go.Proofs.YtbipjdgholdhcabGreat.T
