/- DERIVED. Plain mathematics and walks, laid together (6). -/
import Derived.Test.YtppggnmlbcdegaaRh05
namespace Go.Proofs.Ytppggnmlbcdegaa.N
open Go.RowKit Go.Maps
open Go.Proofs.Ytppggnmlbcdegaa.T

open U (nI own_get own_slice wpList_app1 below_grown TT Out info_split)
theorem lsB_snoc (l : List Bool) (b : Bool) : lsB (l ++ [b]) = lsB l ++ (if b then [l.length] else []) := by
  unfold lsB
  rw [List.length_append, List.length_singleton, List.range_succ, List.filter_append]
  congr 1
  · refine List.filter_congr fun i hi => ?_
    rw [List.getElem?_append_left (List.mem_range.1 hi)]
  · rw [List.filter_cons, List.getElem?_append_right (Nat.le_refl _), Nat.sub_self]
    cases b <;> rfl
theorem lsB_take {l : List Bool} {k : Nat} {b : Bool} (h : l[k]? = some b) : lsB (l.take (k + 1)) = lsB (l.take k) ++ (if b then [k] else []) := by
  have hk := (List.getElem?_eq_some_iff.1 h).1
  rw [List.take_add_one, h]
  have := lsB_snoc (l.take k) b
  rw [List.length_take, Nat.min_eq_left (by omega)] at this
  exact this
theorem lsB_rise (l : List Bool) : (lsB l).Pairwise (· < ·) := List.Pairwise.filter _ List.pairwise_lt_range
/-- While numbers are listed. -/
structure LsS (w wr : World) (u : Value) (ls : List Nat) : Prop where
  b : Below w.heap.size w wr
  o : wr.ownsRow w.heap.size 3 1 u ls.length (ls.map nI)
theorem LsS.push {w wr w5 : World} {u u' : Value} {ls : List Nat} {k : Nat} (h : LsS w wr u ls) (ho : w5.ownsRow w.heap.size 3 1 u' (ls.length + 1) (ls.map nI ++ [nI k])) (hg : wr.grownBy w5 u.ownBlock) : LsS w w5 u' (ls ++ [k]) :=
  ⟨below_grown h.b hg (fun j e => (h.o.lt j e).1), by rw [List.length_append, List.map_append]; exact ho⟩
set_option maxRecDepth 100000 in
set_option maxHeartbeats 8000000 in
theorem marked_any (l : List Bool) (hl : l.length ≤ 200) {B4 : Nat} {v : Value} (w : World) (ho : w.ownsRow B4 4 1 v l.length (l.map Value.bool)) :
    Calls Try.prog 44 #[v] w fun e w' => (∃ u, e = .returned u ∧ w'.ownsRow w.heap.size 3 1 u (lsB l).length ((lsB l).map nI)) ∧ Below w.heap.size w w' := by
  obtain ⟨Av, cv, rfl⟩ := own_slice ho
  have HC := (show Hid (∀ (k : Nat) b, l[k]? = some b → ∃ g, Av = some ⟨g, 0, none⟩ ∧ g < w.heap.size ∧ w.cell? ⟨g, k, none⟩ = some (.bool b)) from fun k b hk => by
    obtain ⟨g, cp, e, _, lt, x, _⟩ := own_get ho (j := k) (x := .bool b) (by rw [List.getElem?_map, hk]; rfl)
    have e1 : Av = some ⟨g, 0, none⟩ := by injection e
    exact ⟨g, e1, lt, x⟩)
  have HS := (show Hid (LsS w w (.slice none 0 0) (lsB (l.take 0))) from ⟨Below.refl _ _, World.ownsRow_nil _ _ _ _⟩)
  clear ho
  go_enter Try.func44, Try.ntmps44
  go_wp2_with fail
  go_loopw [3, 8] (fun u t wr => ∃ (k m : Nat) (ls : List Nat) (A2 : Option Addr) (c2 : Nat), k ≤ l.length ∧ t = .int .i64 (k : Int) ∧ u = .slice A2 m c2 ∧ m ≤ k ∧ Hid (ls.length = m ∧ ls = lsB (l.take k)) ∧ Hid (LsS w wr (.slice A2 m c2) ls)) (fun _ t _ => l.length - (intOf t).toNat)
  case atStart => exact ⟨0, 0, lsB (l.take 0), none, 0, by omega, by go_num, rfl, by omega, ⟨rfl, rfl⟩, HS⟩
  case round =>
    obtain ⟨k, m, ls, A2, c2, hk, rfl, rfl, hm, HL, HW⟩ := hrel
    clear HS
    by_cases hlt : k < l.length
    · obtain ⟨b, hb⟩ : ∃ b, l[k]? = some b := ⟨_, List.getElem?_eq_getElem hlt⟩
      obtain ⟨g, rfl, ltg, xg⟩ := HC.out k b hb
      have xg' := (HW.out.b.cell (p := ⟨g, k, none⟩) ltg).trans xg
      have z0 : (0 : Int) ≤ (k : Int) := by omega
      have z1 : (k : Int) < (l.length : Int) := by omega
      have HT := (show Hid (lsB (l.take (k + 1)) = lsB (l.take k) ++ (if b then [k] else [])) from lsB_take hb)
      clear HC hb xg ltg
      cases b with
      | true =>
        have HL2 := (show Hid ((ls ++ [k]).length = m + 1 ∧ ls ++ [k] = lsB (l.take (k + 1))) from ⟨by rw [List.length_append, HL.out.1]; rfl, by rw [HT.out, ← HL.out.2]; rfl⟩)
        have HO := (show Hid (wr.ownsRow w.heap.size 3 1 (.slice A2 m c2) m (ls.map nI)) from by have h := HW.out.o; rw [HL.out.1] at h; exact h)
        have HBw := (show Hid (w.heap.size ≤ wr.heap.size) from HW.out.b.size)
        have HPu := (show Hid (∀ (u' : Value) (w5 : World), w5.ownsRow w.heap.size 3 1 u' (m + 1) (ls.map nI ++ [nI k]) → wr.grownBy w5 (Value.slice A2 m c2).ownBlock → LsS w w5 u' (ls ++ [k])) from fun u' w5 h1 h2 => HW.out.push (by rw [HL.out.1]; exact h1) h2)
        clear HT HL HW
        go_wp2_with (at_builtin; refine wpList_app1 rfl _ _ 37 rfl (.int .i64 0) 8 Try.underlying37 Try.info3 rfl w.heap.size m _ (ls.map nI) rfl rfl HO.out rfl (by omega) (by decide) HBw.out ?_; intro g3 cap3 w5 ho5 hg5 hat5 hl5; have HW5 := (show Hid (LsS w w5 (.slice (some ⟨g3, 0, none⟩) (m + 1) cap3) (ls ++ [k])) from HPu.out _ _ ho5 hg5); clear ho5 hg5 hat5 hl5 HPu HO HBw xg')
        go_roundw
        case rel => exact ⟨k + 1, m + 1, ls ++ [k], some ⟨g3, 0, none⟩, cap3, by omega, by go_num, rfl, by omega, HL2, HW5⟩
        case measure => simp [intOf]; omega
      | false =>
        have HL2 := (show Hid (ls.length = m ∧ ls = lsB (l.take (k + 1))) from ⟨HL.out.1, by rw [HT.out, ← HL.out.2]; exact (List.append_nil ls).symm⟩)
        clear HT HL
        go_wp2_with fail
        go_roundw
        case rel => exact ⟨k + 1, m, ls, A2, c2, by omega, by go_num, rfl, by omega, HL2, HW⟩
        case measure => simp [intOf]; omega
    · obtain rfl : k = l.length := by omega
      have HO := (show Hid (wr.ownsRow w.heap.size 3 1 (.slice A2 m c2) (lsB l).length ((lsB l).map nI)) from by
        show World.ownsRow _ _ _ _ _ _ _
        have h := HL.out.2
        rw [List.take_length] at h
        rw [← h]
        exact HW.out.o)
      have HB := (show Hid (Below w.heap.size w wr) from HW.out.b)
      clear HW HL HC
      go_wp2_with fail
      go_ret
      exact ⟨⟨_, rfl, HO.out⟩, HB.out⟩
end Go.Proofs.Ytppggnmlbcdegaa.N

namespace Go.Proofs.Ytppggnmlbcdegaa.N
open Go.RowKit Go.Maps
open Go.Proofs.Ytppggnmlbcdegaa.T

open U (nI own_get own_slice wpList_app1 below_grown TT Out info_split)
/-- The rules that are reached, rising. -/
structure IsRh (gs : GL) (r : Nat) (l : List Nat) : Prop where
  u : l.Pairwise (· < ·)
  m : ∀ j, j ∈ l ↔ j < gs.length ∧ (j = r ∨ Rc gs.length (cG gs) r j)
def RhR (gs : GL) (r : Int) (l : List Nat) : Prop := (lkR gs r = 0 → IsRh gs r.toNat l) ∧ (lkR gs r ≠ 0 → l = [])
theorem IsRh.len {gs : GL} {r : Nat} {l : List Nat} (h : IsRh gs r l) : l.length ≤ gs.length := by
  refine few_below gs.length l (h.u.imp fun {a b} q => ?_) fun x hx => ((h.m x).1 hx).1
  omega
theorem isRh_of {gs : GL} {r : Nat} {l : List Bool} (hl : l.length = gs.length) (hr : r < gs.length) (h : ∀ j, l[j]? = some true ↔ Rc gs.length (cG gs) r j) : IsRh gs r (lsB (l.set r true)) := by
  refine ⟨lsB_rise _, fun j => ?_⟩
  rw [lsB_mem, get_set, ← h j]
  constructor
  · rintro (⟨rfl, _⟩ | q)
    · exact ⟨hr, .inl rfl⟩
    · exact ⟨by have := (List.getElem?_eq_some_iff.1 q).1; omega, .inr q⟩
  · rintro ⟨_, rfl | q⟩
    · exact .inl ⟨rfl, by omega⟩
    · exact .inr q
set_option maxRecDepth 100000 in
set_option maxHeartbeats 4000000 in
theorem reachP_any (gs : GL) (A : Option Addr) (c : Nat) (r : Int) (w : World) (hp : GI w A gs) :
    Calls Try.prog 20 #[.agg #[.slice A gs.length c], .int .i64 r] w fun e w' => (∃ v l, e = .returned (.tuple #[v, .int .i64 (lkR gs r)]) ∧ RhR gs r l ∧ w'.ownsRow w.heap.size 3 1 v l.length (l.map nI)) ∧ Below w.heap.size w w' := by
  obtain ⟨w1, hw1⟩ : ∃ w1, w1 = (w.alloc (.cells #[.slice A gs.length c] 24)) := ⟨_, rfl⟩
  have HB1 : Hid (Below w.heap.size w w1) := by show Below _ _ _; rw [hw1]; exact below_box _ _
  have HN := (show Hid (∀ _ : Unit, Calls Try.prog 39 #[.agg #[.slice A gs.length c], .int .i64 r] w1 fun e w' => NwV w1 w' gs (lkR gs r) e ∧ Below w1.heap.size w1 w') from fun _ => netWith_any gs A c r w1 (hp.later HB1.out))
  clear hp
  go_enter Try.func20, Try.ntmps20
  go_wp2_with fail
  rw [← hw1]
  refine (HN.out ()).mono ?_
  rintro e w3 ⟨⟨v, rfl, h1, h2⟩, b3⟩
  have HB := (show Hid (Below w.heap.size w w3) from HB1.out.trans (b3.mono HB1.out.size))
  by_cases hz : lkR gs r = 0
  · obtain ⟨xs, hT⟩ := h2 hz
    have tz : (lkR gs r != 0) = false := by rw [hz]; rfl
    obtain ⟨hR, r0, r1⟩ := lkR_zero hz
    obtain ⟨i, rfl⟩ : ∃ i : Nat, r = (i : Int) := ⟨r.toNat, by omega⟩
    have hi : i < gs.length := by omega
    have HI := (show Hid (i < gs.length) from hi)
    have H200 := (show Hid (gs.length ≤ 200) from hR.n2)
    have HZ := (show Hid (lkR gs i = 0) from hz)
    have HC := (show Hid (∀ _ : Unit, Calls Try.prog 43 #[v, .int .i64 (i : Int)] w3 fun e w' => CmV w3 w' gs i e ∧ Below w3.heap.size w3 w') from fun _ => comesTo_any hR hi w3 hT)
    clear h1 h2 HN b3 hw1 HB1 hT hz hR
    generalize hcd : lkR gs i = cd at *
    have HCD := (show Hid (lkR gs i = cd) from hcd)
    clear hcd
    go_wp2_with fail
    refine (HC.out ()).mono ?_
    rintro e w4 ⟨⟨u, l, rfl, hl, hm, ho, hub⟩, b4⟩
    obtain ⟨gu, cu, rfl, lb, lu, x0, f0⟩ := own_get ho (j := i) (x := .bool ((l[i]?).getD false)) (by rw [List.getElem?_map, List.getElem?_eq_getElem (by omega)]; rfl)
    obtain ⟨st1, st2⟩ := ho.stored i (.bool true)
    have HB4 := (show Hid (Below w.heap.size w w4) from HB.out.trans (b4.mono HB.out.size))
    have HW5 := (show Hid (Below w.heap.size w (w4.setCell ⟨gu, i, none⟩ (.bool true))) from below_grown HB4.out st2 (fun k e => by cases e; have := HB.out.size; omega))
    have HLs := (show Hid (IsRh gs i (lsB (l.set i true))) from isRh_of hl hi hm)
    have HMk := (show Hid (∀ _ : Unit, Calls Try.prog 44 #[.slice (some ⟨gu, 0, none⟩) gs.length cu] (w4.setCell ⟨gu, i, none⟩ (.bool true)) fun e w' => (∃ u, e = .returned u ∧ w'.ownsRow (w4.setCell ⟨gu, i, none⟩ (.bool true)).heap.size 3 1 u (lsB (l.set i true)).length ((lsB (l.set i true)).map nI)) ∧ Below (w4.setCell ⟨gu, i, none⟩ (.bool true)).heap.size (w4.setCell ⟨gu, i, none⟩ (.bool true)) w') from fun _ => by
      refine marked_any (l.set i true) (by rw [List.length_set, hl]; exact H200.out) (B4 := w3.heap.size) (w4.setCell ⟨gu, i, none⟩ (.bool true)) ?_
      rw [List.length_set, hl, List.map_set]
      exact st1)
    have z0 : (0 : Int) ≤ (i : Int) := by omega
    have z1 : (i : Int) < (gs.length : Int) := by omega
    clear HC hl hm ho hub b4 st1 st2 lb lu HB HB4
    go_wp2_with fail
    refine (HMk.out ()).mono ?_
    rintro e w6 ⟨⟨u6, rfl, ho6⟩, b6⟩
    have HB6 := (show Hid (Below w.heap.size w w6) from HW5.out.trans (b6.mono HW5.out.size))
    have HO6 := (show Hid (w6.ownsRow w.heap.size 3 1 u6 (lsB (l.set i true)).length ((lsB (l.set i true)).map nI)) from U.own_base ho6 HW5.out.size)
    clear ho6 b6 HMk HW5
    go_wp2_with fail
    refine bodyPost_ret (v := .tuple #[u6, .int .i64 0]) (by simp [results, Try.results20, go_sem]) rfl ⟨⟨u6, _, by rw [HCD.out, HZ.out], ⟨fun _ => HLs.out, fun q => absurd (HCD.out.trans HZ.out) q⟩, HO6.out⟩, HB6.out⟩
  · obtain rfl := h1 hz
    have tz : (lkR gs r != 0) = true := by rw [bne, beq_eq_false_iff_ne.2 hz]; rfl
    have HZ := (show Hid (lkR gs r ≠ 0) from hz)
    clear h1 h2 HN b3 hw1 HB1 hz
    generalize hcd : lkR gs r = cd at *
    have HCD := (show Hid (lkR gs r = cd) from hcd)
    clear hcd
    go_wp2_with fail
    refine bodyPost_ret (v := .tuple #[.slice none 0 0, .int .i64 cd]) (by simp [results, Try.results20, go_sem]) rfl ⟨⟨_, [], by rw [HCD.out], ⟨fun q => absurd (HCD.out.symm.trans q) HZ.out, fun _ => rfl⟩, World.ownsRow_nil _ _ _ _⟩, HB.out⟩
end Go.Proofs.Ytppggnmlbcdegaa.N

namespace Go.Proofs.Ytppggnmlbcdegaa.N
open Go.RowKit Go.Maps
open Go.Proofs.Ytppggnmlbcdegaa.T

open U (nI own_get own_slice wpList_app1 below_grown TT Out info_split)
/-- A table of truth values, as values. -/
def bM (M : List (List Bool)) : List (List Value) := M.map fun l => l.map Value.bool
theorem bM_len (M : List (List Bool)) : (bM M).length = M.length := by unfold bM; rw [List.length_map]
theorem bM_get {M : List (List Bool)} {i : Nat} {l : List Bool} (h : M[i]? = some l) : (bM M)[i]? = some (l.map Value.bool) := by unfold bM; rw [List.getElem?_map, h]; rfl
theorem bM_app (M : List (List Bool)) (l : List Bool) : bM (M ++ [l]) = bM M ++ [l.map Value.bool] := by unfold bM; rw [List.map_append]; rfl
theorem Try.info45 : (Try.prog.info? 45).map (fun i => (i.zero, i.size, i.bytes)) = some (some (.slice none 0 0), 1, 24) := by kernel_rfl
end Go.Proofs.Ytppggnmlbcdegaa.N

namespace Go.Proofs.Ytppggnmlbcdegaa.N
open Go.RowKit Go.Maps
open Go.Proofs.Ytppggnmlbcdegaa.T

open U (nI own_get own_slice wpList_app1 below_grown TT Out info_split)
theorem cG_lt {gs : GL} {i j : Nat} (q : cG gs i j = true) : i < gs.length ∧ j < gs.length := by
  unfold cG at q
  cases hg : gs[i]? with
  | none => rw [hg] at q; cases q
  | some g =>
    rw [hg] at q
    simp only [List.any_eq_true, Bool.and_eq_true, decide_eq_true_eq] at q
    obtain ⟨nd, _, _, h3⟩ := q
    exact ⟨(List.getElem?_eq_some_iff.1 hg).1, fdG_lt h3⟩
end Go.Proofs.Ytppggnmlbcdegaa.N

namespace Go.Proofs.Ytppggnmlbcdegaa.N
open Go.RowKit Go.Maps
open Go.Proofs.Ytppggnmlbcdegaa.T

open U (nI own_get own_slice wpList_app1 below_grown TT Out info_split)
/-- A table of truth values that is read. -/
structure WyR (w : World) (gs : GL) (v : Value) (M : List (List Bool)) (xs : List Value) (N : Nat) : Prop where
  t : TT w N 45 4 v (bM M) xs
  b : Tb gs.length M
theorem WyR.form {w : World} {gs : GL} {v : Value} {M : List (List Bool)} {xs : List Value} {N : Nat} (h : WyR w gs v M xs N) : ∃ A c, v = .slice A gs.length c := by
  have hlx : xs.length = gs.length := h.t.len.trans ((bM_len M).trans h.b.len)
  obtain ⟨A, c, e⟩ := own_slice h.t.o
  rw [hlx] at e
  exact ⟨A, c, e⟩
theorem WyR.get {w wr : World} {gs : GL} {A : Option Addr} {cv N : Nat} {M : List (List Bool)} {xs : List Value} (h : WyR w gs (.slice A gs.length cv) M xs N) (hb : Below w.heap.size w wr) {i k : Nat} (hi : i < gs.length) (hk : k < gs.length) : ∃ g0 gi ci, A = some ⟨g0, 0, none⟩ ∧ xs[i]? = some (.slice (some ⟨gi, 0, none⟩) gs.length ci) ∧ wr.cell? ⟨g0, i, none⟩ = some (.slice (some ⟨gi, 0, none⟩) gs.length ci) ∧ wr.cell? ⟨gi, k, none⟩ = some (.bool (tb M i k)) := by
  obtain ⟨l, hl, hll⟩ := h.b.at' hi
  obtain ⟨x, r, hx, hr, ho⟩ := h.t.at' (i := i) (by rw [bM_len, h.b.len]; exact hi)
  rw [bM_get hl] at hr
  cases hr
  rw [List.length_map, hll] at ho
  obtain ⟨g1, c1, e1, _, lt1, x1, f1⟩ := own_get ho (j := k) (x := .bool (tb M i k)) (by
    rw [List.getElem?_map, tb_of hl, List.getElem?_eq_getElem (by omega)]; rfl)
  subst e1
  obtain ⟨g2, c2, e2, _, lt2, x2, _⟩ := own_get h.t.o hx
  have e3 : A = some ⟨g2, 0, none⟩ := by injection e2
  exact ⟨g2, g1, c1, e3, hx, (hb.cell (p := ⟨g2, i, none⟩) lt2).trans x2, (hb.cell (p := ⟨g1, k, none⟩) lt1).trans x1⟩
/-- While the ways are found. -/
structure WaS (w wr : World) (gs : GL) (v : Value) (M : List (List Bool)) (xs : List Value) : Prop where
  b : Below w.heap.size w wr
  t : TT wr w.heap.size 45 4 v (bM M) xs
  r : ∀ l ∈ M, l.length = gs.length
  i : ∀ (i : Nat) l, M[i]? = some l → ∀ j, l[j]? = some true ↔ Rc gs.length (cG gs) i j
theorem WaS.push {w wr w4 w5 : World} {gs : GL} {v u : Value} {k g3 cap3 : Nat} {M : List (List Bool)} {xs : List Value} {l : List Bool} (h : WaS w wr gs v M xs) (hx : xs.length = k) (b4 : Below wr.heap.size wr w4) (hl : l.length = gs.length) (hm : ∀ j, l[j]? = some true ↔ Rc gs.length (cG gs) k j) (ho4 : w4.ownsRow wr.heap.size 4 1 u gs.length (l.map Value.bool))
    (ho : w5.ownsRow w.heap.size 45 1 (.slice (some ⟨g3, 0, none⟩) (k + 1) cap3) (k + 1) (xs ++ [u])) (hg : w4.grownBy w5 v.ownBlock) (hat : v.ownBlock = some g3 ∨ g3 = w4.heap.size + 1) : WaS w w5 gs (.slice (some ⟨g3, 0, none⟩) (k + 1) cap3) (M ++ [l]) (xs ++ [u]) := by
  have hb4 : Below w.heap.size w w4 := h.b.trans (b4.mono h.b.size)
  have ht4 := h.t.below b4
  have hML : M.length = k := by have := h.t.len; rw [bM_len] at this; omega
  refine ⟨below_grown hb4 hg (fun j e => (ht4.o.lt j e).1), ?_, fun x hx => ?_, fun i x hi => ?_⟩
  · rw [bM_app]
    have ho' := ho
    rw [← hx] at ho' ⊢
    refine ht4.push (y := u) ?_ (fun j e => ?_) ho' hg (fun j e => ?_)
    · rw [List.length_map, hl]; exact U.own_base ho4 h.b.size
    · have := (ho4.lt j e).1
      exact h.t.new this
    · have e : g3 = j := Option.some.inj e
      subst e
      rcases hat with q | q
      · exact .inl q
      · exact .inr (by omega)
  · rcases List.mem_append.1 hx with q | q
    · exact h.r x q
    · rw [List.mem_singleton.1 q]; exact hl
  · by_cases q : i < M.length
    · rw [List.getElem?_append_left q] at hi; exact h.i i x hi
    · rw [List.getElem?_append_right (by omega)] at hi
      have hi0 : i - M.length = 0 := by
        by_cases q2 : i - M.length = 0
        · exact q2
        · rw [List.getElem?_eq_none (by simp; omega)] at hi; cases hi
      rw [hi0] at hi
      cases hi
      have : i = k := by omega
      rw [this]; exact hm
set_option maxRecDepth 100000 in
set_option maxHeartbeats 8000000 in
theorem ways_any {gs : GL} (hR : RtG gs) {N : Nat} {v : Value} {ys : List Value} (w : World) (hT : TT w N 37 3 v (ntM gs) ys) :
    Calls Try.prog 47 #[v] w fun e w' => (∃ u xs M, e = .returned u ∧ WyR w' gs u M xs w.heap.size ∧ IsR gs.length (cG gs) (tb M)) ∧ Below w.heap.size w w' := by
  have hn := hR.n2
  have hly : ys.length = gs.length := hT.len.trans (ntM_len gs)
  obtain ⟨Av, cv, hv⟩ := own_slice hT.o
  rw [hly] at hv
  subst hv
  have HS := (show Hid (WaS w w gs (.slice none 0 0) [] []) from ⟨Below.refl _ _, TT.nil _ _ _ _, (fun l h => by cases h), fun i l h => by simp at h⟩)
  have HC := (show Hid (∀ (k : Nat) (wr : World), k < gs.length → Below w.heap.size w wr → Calls Try.prog 43 #[.slice Av gs.length cv, .int .i64 (k : Int)] wr fun e w' => CmV wr w' gs k e ∧ Below wr.heap.size wr w') from fun k wr hk hb => comesTo_any hR hk wr (hT.below hb))
  clear hT hR hly
  go_enter Try.func47, Try.ntmps47
  go_wp2_with fail
  go_loopw [3, 7] (fun u t wr => ∃ (k : Nat) (M : List (List Bool)) (xs : List Value) (A2 : Option Addr) (c2 : Nat), k ≤ gs.length ∧ t = .int .i64 (k : Int) ∧ u = .slice A2 k c2 ∧ Hid (xs.length = k) ∧ Hid (WaS w wr gs (.slice A2 k c2) M xs)) (fun _ t _ => gs.length - (intOf t).toNat)
  case atStart => exact ⟨0, [], [], none, 0, by omega, by go_num, rfl, rfl, HS⟩
  case round =>
    obtain ⟨k, M, xs, A2, c2, hk, rfl, rfl, HL, HW⟩ := hrel
    clear HS
    by_cases hlt : k < gs.length
    · have HC2 := (show Hid (∀ _ : Unit, Calls Try.prog 43 #[.slice Av gs.length cv, .int .i64 (k : Int)] wr fun e w' => CmV wr w' gs k e ∧ Below wr.heap.size wr w') from fun _ => HC.out k wr hlt HW.out.b)
      clear HC
      go_wp2_with fail
      refine (HC2.out ()).mono ?_
      rintro e w4 ⟨⟨u, l, rfl, hl, hm, ho4, _⟩, b4⟩
      obtain ⟨A4, c4, rfl⟩ := own_slice ho4
      have HO := (show Hid (w4.ownsRow w.heap.size 45 1 (.slice A2 k c2) k xs) from by have h := (HW.out.t.below b4).o; rw [HL.out] at h; exact h)
      have HBw := (show Hid (w.heap.size ≤ w4.heap.size) from Nat.le_trans HW.out.b.size b4.size)
      have HPu := (show Hid (∀ (g3 cap3 : Nat) (w5 : World), w5.ownsRow w.heap.size 45 1 (.slice (some ⟨g3, 0, none⟩) (k + 1) cap3) (k + 1) (xs ++ [.slice A4 gs.length c4]) → w4.grownBy w5 (Value.slice A2 k c2).ownBlock → ((Value.slice A2 k c2).ownBlock = some g3 ∨ g3 = w4.heap.size + 1) → WaS w w5 gs (.slice (some ⟨g3, 0, none⟩) (k + 1) cap3) (M ++ [l]) (xs ++ [.slice A4 gs.length c4])) from fun g3 cap3 w5 h1 h2 h3 => HW.out.push HL.out b4 hl hm ho4 h1 h2 h3)
      have HL2 := (show Hid ((xs ++ [Value.slice A4 gs.length c4]).length = k + 1) from by show _ = _; rw [List.length_append, HL.out]; rfl)
      clear HC2 hl hm ho4 b4 HW HL
      go_wp2_with (at_builtin; refine wpList_app1 rfl _ _ 80 rfl (.slice none 0 0) 24 Try.underlying80 Try.info45 rfl w.heap.size k _ xs rfl rfl HO.out rfl (by omega) (by decide) HBw.out ?_; intro g3 cap3 w5 ho5 hg5 hat5 hl5; have HW5 := (show Hid (WaS w w5 gs (.slice (some ⟨g3, 0, none⟩) (k + 1) cap3) (M ++ [l]) (xs ++ [.slice A4 gs.length c4])) from HPu.out g3 cap3 w5 ho5 hg5 hat5); clear ho5 hg5 hat5 hl5 HPu HO HBw)
      go_roundw
      case rel => exact ⟨k + 1, M ++ [l], xs ++ [.slice A4 gs.length c4], some ⟨g3, 0, none⟩, cap3, by omega, by go_num, rfl, HL2, HW5⟩
      case measure => simp [intOf]; omega
    · obtain rfl : k = gs.length := by omega
      have hML : M.length = gs.length := by have := HW.out.t.len; rw [bM_len, HL.out] at this; omega
      have HF := (show Hid (WyR wr gs (.slice A2 gs.length c2) M xs w.heap.size ∧ IsR gs.length (cG gs) (tb M)) from by
        have hTb : Tb gs.length M := ⟨hML, HW.out.r⟩
        refine ⟨⟨HW.out.t, hTb⟩, ⟨fun i j q => cG_lt q, fun i j hi hj => ?_⟩⟩
        obtain ⟨l, hl, hll⟩ := hTb.at' hi
        rw [← HW.out.i i l hl j, tb_of hl, List.getElem?_eq_getElem (by omega)]
        simp)
      have HB := (show Hid (Below w.heap.size w wr) from HW.out.b)
      clear HW HL HC hML
      go_wp2_with fail
      go_ret
      exact ⟨⟨_, xs, M, rfl, HF.out.1, HF.out.2⟩, HB.out⟩
end Go.Proofs.Ytppggnmlbcdegaa.N

namespace Go.Proofs.Ytppggnmlbcdegaa.N
open Go.RowKit Go.Maps
open Go.Proofs.Ytppggnmlbcdegaa.T

open U (nI own_get own_slice wpList_app1 below_grown TT Out info_split)
/-- Free, by the marks of what is told. -/
def fP (n : Nat) (M : List (List Bool)) (tl : List Bool) (r : Nat) : Bool := (List.range n).all fun k => !(tb M r k) || (tl[k]?).getD false || tb M k r
theorem fP_t {n : Nat} {M : List (List Bool)} {tl : List Bool} {r : Nat} (h : ∀ k, k < n → tb M r k = true → (tl[k]?).getD false = true ∨ tb M k r = true) : fP n M tl r = true := by
  unfold fP
  rw [List.all_eq_true]
  intro k hk
  rw [Bool.or_eq_true, Bool.or_eq_true]
  cases q : tb M r k
  · exact .inl (.inl rfl)
  · rcases h k (List.mem_range.1 hk) q with e | e
    · exact .inl (.inr e)
    · exact .inr e
theorem fP_f {n : Nat} {M : List (List Bool)} {tl : List Bool} {r k : Nat} (hk : k < n) (h1 : tb M r k = true) (h2 : (tl[k]?).getD false = false) (h3 : tb M k r = false) : fP n M tl r = false := by
  unfold fP
  rw [List.all_eq_false]
  exact ⟨k, List.mem_range.2 hk, by rw [h1, h2, h3]; decide⟩
def nF (n : Nat) (M : List (List Bool)) (tl : List Bool) : Nat := ((List.range n).find? fun r => !((tl[r]?).getD false) && fP n M tl r).getD n
theorem nF_at {n : Nat} {M : List (List Bool)} {tl : List Bool} {k : Nat} (hk : k < n) (h0 : ∀ j, j < k → (!((tl[j]?).getD false) && fP n M tl j) = false) (h1 : (!((tl[k]?).getD false) && fP n M tl k) = true) : nF n M tl = k := by
  have : (List.range n).find? (fun r => !((tl[r]?).getD false) && fP n M tl r) = some k := by
    rw [List.find?_range_eq_some]
    exact ⟨h1, List.mem_range.2 hk, fun j hj => by rw [h0 j hj]; rfl⟩
  unfold nF
  rw [this]
  rfl
theorem nF_end {n : Nat} {M : List (List Bool)} {tl : List Bool} (h0 : ∀ j, j < n → (!((tl[j]?).getD false) && fP n M tl j) = false) : nF n M tl = n := by
  have : (List.range n).find? (fun r => !((tl[r]?).getD false) && fP n M tl r) = none := by
    rw [List.find?_eq_none]
    intro j hj q
    rw [h0 j (List.mem_range.1 hj)] at q
    cases q
  unfold nF
  rw [this]
  rfl
theorem row_get {w wr : World} {B n : Nat} {A : Option Addr} {c : Nat} {tl : List Bool} (ho : w.ownsRow B 4 1 (.slice A n c) n (tl.map Value.bool)) (hb : Below w.heap.size w wr) {k : Nat} (hk : k < n) : ∃ g, A = some ⟨g, 0, none⟩ ∧ wr.cell? ⟨g, k, none⟩ = some (.bool ((tl[k]?).getD false)) := by
  have hl : tl.length = n := by have := ho.1; rw [List.length_map] at this; omega
  obtain ⟨g, cp, e, _, lt, x, _⟩ := own_get ho (j := k) (x := .bool ((tl[k]?).getD false)) (by rw [List.getElem?_map, List.getElem?_eq_getElem (by omega)]; rfl)
  have e1 : A = some ⟨g, 0, none⟩ := by injection e
  exact ⟨g, e1, (hb.cell (p := ⟨g, k, none⟩) lt).trans x⟩
set_option maxRecDepth 100000 in
set_option maxHeartbeats 8000000 in
theorem isFree_any {gs : GL} {M : List (List Bool)} {tl : List Bool} {v tv : Value} {xs : List Value} {N B r : Nat} (hn : gs.length ≤ 200) (hr : r < gs.length) (w : World) (hW : WyR w gs v M xs N) (ht : w.ownsRow B 4 1 tv gs.length (tl.map Value.bool)) :
    Calls Try.prog 75 #[v, .int .i64 (r : Int), tv] w fun e w' => e = .returned (.bool (fP gs.length M tl r)) ∧ w' = w := by
  obtain ⟨A, c, rfl⟩ := hW.form
  obtain ⟨At, ct, rfl⟩ := own_slice ht
  obtain ⟨g0, gr, cr, rfl, hxr, x0, _⟩ := hW.get (Below.refl _ _) hr hr
  have HG := (show Hid (∀ k, k < gs.length → ∃ gk ck gt, w.cell? ⟨gr, k, none⟩ = some (.bool (tb M r k)) ∧ w.cell? ⟨g0, k, none⟩ = some (.slice (some ⟨gk, 0, none⟩) gs.length ck) ∧ w.cell? ⟨gk, r, none⟩ = some (.bool (tb M k r)) ∧ At = some ⟨gt, 0, none⟩ ∧ w.cell? ⟨gt, k, none⟩ = some (.bool ((tl[k]?).getD false))) from fun k hk => by
    obtain ⟨g1, gr1, cr1, e1, hx1, _, y1⟩ := hW.get (Below.refl _ _) hr hk
    rw [hxr] at hx1
    have e2 : gr = gr1 := by have e := Option.some.inj hx1; injection e with e; injection e with e; injection e
    subst e2
    obtain ⟨g2, gk, ck, e3, _, y2, y3⟩ := hW.get (Below.refl _ _) hk hr
    have e4 : g0 = g2 := by injection e3 with e3; injection e3
    subst e4
    obtain ⟨gt, e5, y4⟩ := row_get ht (Below.refl _ _) hk
    exact ⟨gk, ck, gt, y1, y2, y3, e5, y4⟩)
  have z0 : (0 : Int) ≤ (r : Int) := by omega
  have z1 : (r : Int) < (gs.length : Int) := by omega
  clear hW ht hxr
  go_enter Try.func75, Try.ntmps75
  go_wp2_with fail
  go_loopw [15] (fun t wr => ∃ k : Nat, k ≤ gs.length ∧ t = .int .i64 (k : Int) ∧ wr = w ∧ Hid (∀ j, j < k → tb M r j = true → (tl[j]?).getD false = true ∨ tb M j r = true)) (fun t _ => gs.length - (intOf t).toNat)
  case atStart => exact ⟨0, by omega, by go_num, rfl, fun j hj => by omega⟩
  case round =>
    obtain ⟨k, hk, rfl, rfl, HX⟩ := hrel
    by_cases hlt : k < gs.length
    · obtain ⟨gk, ck, gt, y1, y2, y3, rfl, y4⟩ := HG.out k hlt
      have v0 : (0 : Int) ≤ (k : Int) := by omega
      have v1 : (k : Int) < (gs.length : Int) := by omega
      cases h1 : tb M r k with
      | false =>
        rw [h1] at y1
        have HX2 := (show Hid (∀ j, j < k + 1 → tb M r j = true → (tl[j]?).getD false = true ∨ tb M j r = true) from fun j hj q => by
          by_cases e : j = k
          · subst e; rw [h1] at q; cases q
          · exact HX.out j (by omega) q)
        clear HX h1 HG
        go_wp2_with fail
        go_roundw
        case rel => exact ⟨k + 1, by omega, by go_num, by first | rfl | trivial, HX2⟩
        case measure => simp [intOf]; omega
      | true =>
        rw [h1] at y1
        cases h2 : (tl[k]?).getD false with
        | true =>
          rw [h2] at y4
          have HX2 := (show Hid (∀ j, j < k + 1 → tb M r j = true → (tl[j]?).getD false = true ∨ tb M j r = true) from fun j hj q => by
            by_cases e : j = k
            · subst e; exact .inl h2
            · exact HX.out j (by omega) q)
          clear HX h1 h2 HG
          go_wp2_with fail
          go_roundw
          case rel => exact ⟨k + 1, by omega, by go_num, by first | rfl | trivial, HX2⟩
          case measure => simp [intOf]; omega
        | false =>
          rw [h2] at y4
          cases h3 : tb M k r with
          | true =>
            rw [h3] at y3
            have HX2 := (show Hid (∀ j, j < k + 1 → tb M r j = true → (tl[j]?).getD false = true ∨ tb M j r = true) from fun j hj q => by
              by_cases e : j = k
              · subst e; exact .inr h3
              · exact HX.out j (by omega) q)
            clear HX h1 h2 h3 HG
            go_wp2_with fail
            go_roundw
            case rel => exact ⟨k + 1, by omega, by go_num, by first | rfl | trivial, HX2⟩
            case measure => simp [intOf]; omega
          | false =>
            rw [h3] at y3
            have HE := (show Hid (fP gs.length M tl r = false) from fP_f hlt h1 h2 h3)
            clear HX h1 h2 h3 HG
            go_wp2_with fail
            go_ret
            exact ⟨by rw [HE.out]; rfl, rfl⟩
    · obtain rfl : k = gs.length := by omega
      have HE := (show Hid (fP gs.length M tl r = true) from fP_t HX.out)
      clear HX HG
      go_wp2_with fail
      go_ret
      exact ⟨by rw [HE.out]; rfl, rfl⟩
set_option maxRecDepth 100000 in
set_option maxHeartbeats 8000000 in
theorem nextFree_any {gs : GL} {M : List (List Bool)} {tl : List Bool} {v tv : Value} {xs : List Value} {N B : Nat} (hn : gs.length ≤ 200) (w : World) (hW : WyR w gs v M xs N) (ht : w.ownsRow B 4 1 tv gs.length (tl.map Value.bool)) :
    Calls Try.prog 63 #[v, tv] w fun e w' => e = .returned (.int .i64 (nF gs.length M tl : Int)) ∧ w' = w := by
  have HF := (show Hid (∀ r, r < gs.length → Calls Try.prog 75 #[v, .int .i64 (r : Int), tv] w fun e w' => e = .returned (.bool (fP gs.length M tl r)) ∧ w' = w) from fun r hr => isFree_any hn hr w hW ht)
  obtain ⟨A, c, rfl⟩ := hW.form
  obtain ⟨At, ct, rfl⟩ := own_slice ht
  have HT := (show Hid (∀ k, k < gs.length → ∃ gt, At = some ⟨gt, 0, none⟩ ∧ w.cell? ⟨gt, k, none⟩ = some (.bool ((tl[k]?).getD false))) from fun k hk => row_get ht (Below.refl _ _) hk)
  clear hW ht
  go_enter Try.func63, Try.ntmps63
  go_wp2_with fail
  go_loopw [8] (fun t wr => ∃ k : Nat, k ≤ gs.length ∧ t = .int .i64 (k : Int) ∧ wr = w ∧ Hid (∀ j, j < k → (!((tl[j]?).getD false) && fP gs.length M tl j) = false)) (fun t _ => gs.length - (intOf t).toNat)
  case atStart => exact ⟨0, by omega, by go_num, rfl, fun j hj => by omega⟩
  case round =>
    obtain ⟨k, hk, rfl, rfl, HX⟩ := hrel
    by_cases hlt : k < gs.length
    · obtain ⟨gt, rfl, y4⟩ := HT.out k hlt
      have v0 : (0 : Int) ≤ (k : Int) := by omega
      have v1 : (k : Int) < (gs.length : Int) := by omega
      have HF2 := (show Hid (∀ _ : Unit, Calls Try.prog 75 #[.slice A gs.length c, .int .i64 (k : Int), .slice (some ⟨gt, 0, none⟩) gs.length ct] wr fun e w' => e = .returned (.bool (fP gs.length M tl k)) ∧ w' = wr) from fun _ => HF.out k hlt)
      cases h2 : (tl[k]?).getD false with
      | true =>
        rw [h2] at y4
        have HX2 := (show Hid (∀ j, j < k + 1 → (!((tl[j]?).getD false) && fP gs.length M tl j) = false) from fun j hj => by
          by_cases e : j = k
          · subst e; rw [h2]; rfl
          · exact HX.out j (by omega))
        clear HX h2 HT HF HF2
        go_wp2_with fail
        go_roundw
        case rel => exact ⟨k + 1, by omega, by go_num, by first | rfl | trivial, HX2⟩
        case measure => simp [intOf]; omega
      | false =>
        rw [h2] at y4
        cases h3 : fP gs.length M tl k with
        | true =>
          rw [h3] at HF2
          have HE := (show Hid (nF gs.length M tl = k) from nF_at hlt HX.out (by rw [h2, h3]; rfl))
          clear HX h2 HT HF h3
          go_wp2_with fail
          refine (HF2.out ()).mono ?_
          rintro e w2 ⟨rfl, rfl⟩
          clear HF2
          go_wp2_with fail
          go_ret
          exact ⟨by rw [HE.out]; rfl, rfl⟩
        | false =>
          rw [h3] at HF2
          have HX2 := (show Hid (∀ j, j < k + 1 → (!((tl[j]?).getD false) && fP gs.length M tl j) = false) from fun j hj => by
            by_cases e : j = k
            · subst e; rw [h3, Bool.and_false]
            · exact HX.out j (by omega))
          clear HX h2 HT HF h3
          go_wp2_with fail
          refine (HF2.out ()).mono ?_
          rintro e w2 ⟨rfl, rfl⟩
          clear HF2
          go_wp2_with fail
          go_roundw
          case rel => exact ⟨k + 1, by omega, by go_num, by first | rfl | trivial, HX2⟩
          case measure => simp [intOf]; omega
    · obtain rfl : k = gs.length := by omega
      have HE := (show Hid (nF gs.length M tl = gs.length) from nF_end HX.out)
      clear HX HT HF
      go_wp2_with fail
      go_ret
      exact ⟨by rw [HE.out]; rfl, rfl⟩
end Go.Proofs.Ytppggnmlbcdegaa.N

namespace Go.Proofs.Ytppggnmlbcdegaa.N
open Go.RowKit Go.Maps
open Go.Proofs.Ytppggnmlbcdegaa.T

open U (nI own_get own_slice wpList_app1 below_grown TT Out info_split)
def gq (M : List (List Bool)) (r k : Nat) : Bool := k == r || (tb M r k && tb M k r)
def gqL (n : Nat) (M : List (List Bool)) (r k : Nat) : List Bool := (List.range n).map fun j => decide (j < k) && gq M r j
theorem gqL_len (n : Nat) (M : List (List Bool)) (r k : Nat) : (gqL n M r k).length = n := by unfold gqL; rw [List.length_map, List.length_range]
theorem gqL_zero (n : Nat) (M : List (List Bool)) (r : Nat) : gqL n M r 0 = List.replicate n false := by
  unfold gqL
  apply List.ext_getElem?
  intro i
  rw [List.getElem?_map, List.getElem?_replicate]
  by_cases h : i < n
  · rw [List.getElem?_range h, if_pos h]; simp
  · rw [List.getElem?_eq_none (by rw [List.length_range]; omega), if_neg h]; rfl
theorem gqL_set {n : Nat} {M : List (List Bool)} {r k : Nat} (hk : k < n) : gqL n M r (k + 1) = (gqL n M r k).set k (gq M r k) := by
  apply List.ext_getElem?
  intro i
  by_cases hi : i < n
  · by_cases e : i = k
    · subst e
      rw [List.getElem?_set_self (by rw [gqL_len]; exact hi)]
      unfold gqL
      rw [List.getElem?_map, List.getElem?_range hi]
      simp
    · rw [List.getElem?_set_ne (Ne.symm e)]
      unfold gqL
      rw [List.getElem?_map, List.getElem?_map, List.getElem?_range hi]
      have : decide (i < k + 1) = decide (i < k) := by rw [decide_eq_decide]; omega
      simp [this]
  · rw [List.getElem?_eq_none (by rw [gqL_len]; omega), List.getElem?_eq_none (by rw [List.length_set, gqL_len]; omega)]
theorem gqL_end (n : Nat) (M : List (List Bool)) (r : Nat) : lsB (gqL n M r n) = gpL n (tb M) r := by
  unfold lsB gpL
  rw [gqL_len]
  refine List.filter_congr fun k hk => ?_
  unfold gqL
  rw [List.getElem?_map, List.getElem?_range (List.mem_range.1 hk)]
  have : decide (k < n) = true := decide_eq_true (List.mem_range.1 hk)
  simp [this, gq]
/-- A row of marks that is filled. -/
structure GoS (w wr : World) (n g : Nat) (l : List Bool) : Prop where
  b : Below w.heap.size w wr
  o : wr.ownsRow w.heap.size 4 1 (.slice (some ⟨g, 0, none⟩) n n) n (l.map Value.bool)
theorem GoS.set {w wr : World} {n g : Nat} {l : List Bool} (h : GoS w wr n g l) (k : Nat) (b : Bool) : GoS w (wr.setCell ⟨g, k, none⟩ (.bool b)) n g (l.set k b) := by
  obtain ⟨st1, st2⟩ := h.o.stored k (.bool b)
  exact ⟨below_grown h.b st2 (fun j e => by cases e; exact (h.o.lt g rfl).1), by rw [List.map_set]; exact st1⟩
theorem make_bools (w : World) (B n : Nat) (hB : B ≤ w.heap.size) (hn : n ≤ 200) : ∃ w1, (Instr.makeSlice 45 (.int .i64 (n : Int)) (.int .i64 (n : Int))).run Try.prog w = .ok (.slice (some ⟨w.heap.size, 0, none⟩) n n) w1 ∧ w1.ownsRow B 4 1 (.slice (some ⟨w.heap.size, 0, none⟩) n n) n (List.replicate n (.bool false)) ∧ w.grownBy w1 none := by
  obtain ⟨i0, hinf, hz0, hz1, hz2⟩ := info_split Try.info4
  obtain ⟨w2, hmk, ho2, hg2⟩ := run_make_full (P := Try.prog) w B 45 4 i0 (.bool false) 1 Try.underlying45 hinf hz0 hz1 .i64 .i64 n (by rw [hz2]; omega) (by unfold maxLen; omega) hB
  have e : (madeCells (Value.cells (.bool false)) (n * 1)).toList = List.replicate n (Value.bool false) := by rw [Nat.mul_one]; exact toList_madeCells_one _ _
  rw [e] at ho2
  exact ⟨w2, hmk, ho2, hg2⟩
set_option maxRecDepth 100000 in
set_option maxHeartbeats 8000000 in
theorem groupOf_any {gs : GL} {M : List (List Bool)} {v : Value} {xs : List Value} {N r : Nat} (hn : gs.length ≤ 200) (hr : r < gs.length) (w : World) (hW : WyR w gs v M xs N) :
    Calls Try.prog 64 #[v, .int .i64 (r : Int)] w fun e w' => (∃ u, e = .returned u ∧ w'.ownsRow w.heap.size 3 1 u (gpL gs.length (tb M) r).length ((gpL gs.length (tb M) r).map nI)) ∧ Below w.heap.size w w' := by
  obtain ⟨w1, hmk, ho1, hg1⟩ := make_bools w w.heap.size gs.length (Nat.le_refl _) hn
  have HS := (show Hid (GoS w w1 gs.length w.heap.size (gqL gs.length M r 0)) from ⟨below_grown (Below.refl _ _) hg1 (fun j e => by cases e), by rw [gqL_zero, List.map_replicate]; exact ho1⟩)
  obtain ⟨A, c, rfl⟩ := hW.form
  have HG := (show Hid (∀ (k : Nat) (wr : World), k < gs.length → Below w.heap.size w wr → ∃ g0 gr cr gk ck, A = some ⟨g0, 0, none⟩ ∧ wr.cell? ⟨g0, r, none⟩ = some (.slice (some ⟨gr, 0, none⟩) gs.length cr) ∧ wr.cell? ⟨gr, k, none⟩ = some (.bool (tb M r k)) ∧ wr.cell? ⟨g0, k, none⟩ = some (.slice (some ⟨gk, 0, none⟩) gs.length ck) ∧ wr.cell? ⟨gk, r, none⟩ = some (.bool (tb M k r))) from fun k wr hk hb => by
    obtain ⟨g0, gr, cr, e1, _, y1, y2⟩ := hW.get hb hr hk
    obtain ⟨g2, gk, ck, e3, _, y3, y4⟩ := hW.get hb hk hr
    rw [e1] at e3
    have e4 : g0 = g2 := by injection e3 with e3; injection e3
    subst e4
    exact ⟨g0, gr, cr, gk, ck, e1, y1, y2, y3, y4⟩)
  have z0 : (0 : Int) ≤ (r : Int) := by omega
  have z1 : (r : Int) < (gs.length : Int) := by omega
  clear hW ho1 hg1
  go_enter Try.func64, Try.ntmps64
  go_wp2_with fail
  clear hmk
  go_loopw [12] (fun t wr => ∃ k : Nat, k ≤ gs.length ∧ t = .int .i64 (k : Int) ∧ Hid (GoS w wr gs.length w.heap.size (gqL gs.length M r k))) (fun t _ => gs.length - (intOf t).toNat)
  case atStart => exact ⟨0, by omega, by go_num, HS⟩
  case round =>
    obtain ⟨k, hk, rfl, HW⟩ := hrel
    clear HS
    by_cases hlt : k < gs.length
    · obtain ⟨g0, gr, cr, gk, ck, rfl, y1, y2, y3, y4⟩ := HG.out k wr hlt HW.out.b
      obtain ⟨gm, cm, em, _, _, xm, fm⟩ := own_get HW.out.o (j := k) (x := .bool (((gqL gs.length M r k)[k]?).getD false)) (by rw [List.getElem?_map, List.getElem?_eq_getElem (by rw [gqL_len]; exact hlt)]; rfl)
      have emg : w.heap.size = gm := by injection em with e1; injection e1 with e1; injection e1
      clear em
      subst emg
      have v0 : (0 : Int) ≤ (k : Int) := by omega
      have v1 : (k : Int) < (gs.length : Int) := by omega
      by_cases e : k = r
      · have te : ((k : Int) == (r : Int)) = true := beq_iff_eq.2 (by omega)
        have HQ := (show Hid (gq M r k = true) from by show _ = _; unfold gq; rw [e]; simp)
        have HW2 := (show Hid (GoS w (wr.setCell ⟨w.heap.size, k, none⟩ (.bool true)) gs.length w.heap.size (gqL gs.length M r (k + 1))) from by show GoS _ _ _ _ _; rw [gqL_set hlt, HQ.out]; exact HW.out.set k true)
        clear HW HQ HG e
        go_wp2_with fail
        go_roundw
        case rel => exact ⟨k + 1, by omega, by go_num, HW2⟩
        case measure => simp [intOf]; omega
      · have te : ((k : Int) == (r : Int)) = false := beq_eq_false_iff_ne.2 (by omega)
        have hkr : (k == r) = false := beq_eq_false_iff_ne.2 e
        cases h1 : tb M r k with
        | false =>
          rw [h1] at y2
          have HQ := (show Hid (gq M r k = false) from by show _ = _; unfold gq; rw [hkr, h1]; rfl)
          clear h1 hkr
          have HW2 := (show Hid (GoS w (wr.setCell ⟨w.heap.size, k, none⟩ (.bool false)) gs.length w.heap.size (gqL gs.length M r (k + 1))) from by show GoS _ _ _ _ _; rw [gqL_set hlt, HQ.out]; exact HW.out.set k false)
          clear HW HQ HG e
          go_wp2_with fail
          go_roundw
          case rel => exact ⟨k + 1, by omega, by go_num, HW2⟩
          case measure => simp [intOf]; omega
        | true =>
          rw [h1] at y2
          cases h2 : tb M k r with
          | false =>
            rw [h2] at y4
            have HQ := (show Hid (gq M r k = false) from by show _ = _; unfold gq; rw [hkr, h1, h2]; rfl)
            clear h1 hkr h2
            have HW2 := (show Hid (GoS w (wr.setCell ⟨w.heap.size, k, none⟩ (.bool false)) gs.length w.heap.size (gqL gs.length M r (k + 1))) from by show GoS _ _ _ _ _; rw [gqL_set hlt, HQ.out]; exact HW.out.set k false)
            clear HW HQ HG e
            go_wp2_with fail
            go_roundw
            case rel => exact ⟨k + 1, by omega, by go_num, HW2⟩
            case measure => simp [intOf]; omega
          | true =>
            rw [h2] at y4
            have HQ := (show Hid (gq M r k = true) from by show _ = _; unfold gq; rw [hkr, h1, h2]; rfl)
            clear h1 hkr h2
            have HW2 := (show Hid (GoS w (wr.setCell ⟨w.heap.size, k, none⟩ (.bool true)) gs.length w.heap.size (gqL gs.length M r (k + 1))) from by show GoS _ _ _ _ _; rw [gqL_set hlt, HQ.out]; exact HW.out.set k true)
            clear HW HQ HG e
            go_wp2_with fail
            go_roundw
            case rel => exact ⟨k + 1, by omega, by go_num, HW2⟩
            case measure => simp [intOf]; omega
    · obtain rfl : k = gs.length := by omega
      have HMk := (show Hid (∀ _ : Unit, Calls Try.prog 44 #[.slice (some ⟨w.heap.size, 0, none⟩) gs.length gs.length] wr fun e w' => (∃ u, e = .returned u ∧ w'.ownsRow wr.heap.size 3 1 u (gpL gs.length (tb M) r).length ((gpL gs.length (tb M) r).map nI)) ∧ Below wr.heap.size wr w') from fun _ => by
        have h := marked_any (gqL gs.length M r gs.length) (by rw [gqL_len]; exact hn) (B4 := w.heap.size) wr (by rw [gqL_len]; exact HW.out.o)
        rw [gqL_end] at h
        exact h)
      have HB := (show Hid (Below w.heap.size w wr) from HW.out.b)
      clear HW HG
      go_wp2_with fail
      refine (HMk.out ()).mono ?_
      rintro e w6 ⟨⟨u6, rfl, ho6⟩, b6⟩
      have HB6 := (show Hid (Below w.heap.size w w6) from HB.out.trans (b6.mono HB.out.size))
      have HO6 := (show Hid (w6.ownsRow w.heap.size 3 1 u6 (gpL gs.length (tb M) r).length ((gpL gs.length (tb M) r).map nI)) from U.own_base ho6 HB.out.size)
      clear ho6 b6 HMk HB
      go_wp2_with fail
      go_ret
      exact ⟨⟨_, rfl, HO6.out⟩, HB6.out⟩
end Go.Proofs.Ytppggnmlbcdegaa.N

namespace Go.Proofs.Ytppggnmlbcdegaa.N
open Go.RowKit Go.Maps
open Go.Proofs.Ytppggnmlbcdegaa.T

open U (nI own_get own_slice wpList_app1 below_grown TT Out info_split)
/-- Rows of numbers, as values. -/
def nM (o : List (List Nat)) : List (List Value) := o.map fun l => l.map nI
theorem nM_len (o : List (List Nat)) : (nM o).length = o.length := by unfold nM; rw [List.length_map]
theorem nM_app (o : List (List Nat)) (l : List Nat) : nM (o ++ [l]) = nM o ++ [l.map nI] := by unfold nM; rw [List.map_append]; rfl
theorem nM_get {o : List (List Nat)} {i : Nat} {l : List Nat} (h : o[i]? = some l) : (nM o)[i]? = some (l.map nI) := by unfold nM; rw [List.getElem?_map, h]; rfl
theorem gsI_len {n : Nat} {c : Mx} {told : List Nat} {out : List (List Nat)} (h : GsI n c told out) : out.length ≤ told.length := by
  rw [← h.fl]
  have key : ∀ (o : List (List Nat)), (∀ g ∈ o, g ≠ []) → o.length ≤ o.flatten.length := by
    intro o
    induction o with
    | nil => intro _; exact Nat.le_refl _
    | cons g o ih =>
      intro hg
      rw [List.flatten_cons, List.length_append, List.length_cons]
      have h1 := ih fun x hx => hg x (List.mem_cons_of_mem _ hx)
      have h2 : 0 < g.length := List.length_pos_iff.2 (hg g (List.mem_cons_self ..))
      omega
  exact key out h.ne
theorem gsI_few {n : Nat} {c : Mx} {told : List Nat} {out : List (List Nat)} (h : GsI n c told out) : told.length ≤ n := few_below n told h.nd h.lt
/-- The next one, by marks and by list. -/
theorem nF_nx {n : Nat} {c : Mx} {M : List (List Bool)} {tl : List Bool} {told : List Nat} {out : List (List Nat)} (hI : IsR n c (tb M)) (h : GsI n c told out) (hl : tl.length = n) (ht : ∀ k, tl[k]? = some true ↔ k ∈ told) : nF n M tl = (nxG n c (tb M) told).getD n := by
  rw [← nx_same hI h]
  unfold nF nxP
  congr 1
  have hc : ∀ k, k < n → (tl[k]?).getD false = told.contains k := fun k hk => by
    rw [Bool.eq_iff_iff, List.contains_iff_mem, ← ht k, List.getElem?_eq_getElem (by omega)]
    simp
  refine find_same _ fun i hi => ?_
  have hi := List.mem_range.1 hi
  rw [hc i hi]
  congr 1
  unfold fP frP
  rw [Bool.eq_iff_iff, List.all_eq_true, List.all_eq_true]
  constructor
  · intro q k hk
    have := q k hk
    rw [hc k (List.mem_range.1 hk)] at this
    exact this
  · intro q k hk
    rw [hc k (List.mem_range.1 hk)]
    exact q k hk
/-- What is told so far. -/
structure TlI (n : Nat) (c : Mx) (M : List (List Bool)) (told : List Nat) (out : List (List Nat)) (tl : List Bool) : Prop where
  g : GsI n c told out
  l : tl.length = n
  m : ∀ k, tl[k]? = some true ↔ k ∈ told
  f : ∃ f, n < f + told.length ∧ gsG n c (tb M) (n + 1) [] [] = gsG n c (tb M) f told out
theorem TlI.start (n : Nat) (c : Mx) (M : List (List Bool)) : TlI n c M [] [] (List.replicate n false) := by
  refine ⟨GsI.nil n c, List.length_replicate, fun k => ?_, ⟨n + 1, by simp, rfl⟩⟩
  constructor
  · intro q
    rw [List.getElem?_replicate] at q
    split at q <;> cases q
  · intro q; cases q
theorem TlI.done {n : Nat} {c : Mx} {M : List (List Bool)} {told : List Nat} {out : List (List Nat)} {tl : List Bool} (h : TlI n c M told out tl) (hx : nxG n c (tb M) told = none) : out = gsG n c (tb M) (n + 1) [] [] := by
  obtain ⟨f, h1, h2⟩ := h.f
  rw [h2]
  cases f with
  | zero => rfl
  | succ f => rw [gsG, hx]
theorem TlI.step {n : Nat} {c : Mx} {M : List (List Bool)} {told : List Nat} {out : List (List Nat)} {tl tl2 : List Bool} {i : Nat} (hI : IsR n c (tb M)) (h : TlI n c M told out tl) (hx : nxG n c (tb M) told = some i) (hl : tl2.length = n) (hm : ∀ k, tl2[k]? = some true ↔ k ∈ told ∨ k ∈ gpL n (tb M) i) : TlI n c M (told ++ gpL n (tb M) i) (out ++ [gpL n (tb M) i]) tl2 ∧ told.length < (told ++ gpL n (tb M) i).length := by
  obtain ⟨g1, g2⟩ := h.g.step hI hx
  refine ⟨⟨g1, hl, fun k => by rw [hm k, List.mem_append], ?_⟩, g2⟩
  obtain ⟨f, h1, h2⟩ := h.f
  cases f with
  | zero => have := gsI_few h.g; omega
  | succ f => exact ⟨f, by omega, by rw [h2, gsG, hx]⟩
/-- While the groups are told. -/
structure GrS (w wr : World) (gs : GL) (v : Value) (out : List (List Nat)) (xs : List Value) (gt : Nat) (tl : List Bool) : Prop where
  b : Below w.heap.size w wr
  t : TT wr w.heap.size 37 3 v (nM out) xs
  o : wr.ownsRow w.heap.size 4 1 (.slice (some ⟨gt, 0, none⟩) gs.length gs.length) gs.length (tl.map Value.bool)
theorem GrS.out {w wr : World} {gs : GL} {v : Value} {out : List (List Nat)} {xs : List Value} {gt : Nat} {tl : List Bool} (h : GrS w wr gs v out xs gt tl) : Out v xs gt :=
  ⟨own_apart h.o h.t.o (by decide) rfl, fun i x hx => by
    obtain ⟨r, _, hr⟩ := h.t.both hx
    exact own_apart h.o hr (by decide) rfl⟩
theorem GrS.later {w wr W' : World} {gs : GL} {v : Value} {out : List (List Nat)} {xs : List Value} {gt : Nat} {tl : List Bool} (h : GrS w wr gs v out xs gt tl) (hb : Below wr.heap.size wr W') : GrS w W' gs v out xs gt tl := ⟨h.b.trans (hb.mono h.b.size), h.t.below hb, U.own_below h.o hb⟩
/-- .. and a group's members are marked. -/
structure GmS (w wr : World) (gs : GL) (v : Value) (out : List (List Nat)) (xs : List Value) (gt : Nat) (tl : List Bool) (u : Value) (gp : List Nat) : Prop where
  c : GrS w wr gs v out xs gt tl
  r : wr.ownsRow w.heap.size 3 1 u gp.length (gp.map nI)
  q : ∀ k, u.ownBlock = some k → Out v xs k
theorem GmS.set {w wr : World} {gs : GL} {v u : Value} {out : List (List Nat)} {xs : List Value} {gt : Nat} {tl : List Bool} {gp : List Nat} (h : GmS w wr gs v out xs gt tl u gp) (k : Nat) : GmS w (wr.setCell ⟨gt, k, none⟩ (.bool true)) gs v out xs gt (tl.set k true) u gp := by
  obtain ⟨st1, st2⟩ := h.c.o.stored k (.bool true)
  exact ⟨⟨below_grown h.c.b st2 (fun j e => by cases e; exact (h.c.o.lt gt rfl).1), h.c.t.turn h.c.out st2, by rw [List.map_set]; exact st1⟩, U.own_kept h.r st2 (fun j e => by cases e; exact own_apart h.c.o h.r (by decide) rfl), h.q⟩
theorem GmS.push {w wr w5 : World} {gs : GL} {v u : Value} {out : List (List Nat)} {xs : List Value} {gt m g3 cap3 : Nat} {tl : List Bool} {gp : List Nat} (h : GmS w wr gs v out xs gt tl u gp) (hm : xs.length = m)
    (ho : w5.ownsRow w.heap.size 37 1 (.slice (some ⟨g3, 0, none⟩) (m + 1) cap3) (m + 1) (xs ++ [u])) (hg : wr.grownBy w5 v.ownBlock) (hat : v.ownBlock = some g3 ∨ g3 = wr.heap.size + 1) : GrS w w5 gs (.slice (some ⟨g3, 0, none⟩) (m + 1) cap3) (out ++ [gp]) (xs ++ [u]) gt tl := by
  refine ⟨below_grown h.c.b hg (fun j e => (h.c.t.o.lt j e).1), ?_, U.own_kept h.c.o hg (fun j e => own_apart h.c.t.o h.c.o (by decide) e)⟩
  rw [nM_app]
  rw [← hm] at ho ⊢
  refine h.c.t.push (y := u) (by rw [List.length_map]; exact h.r) h.q ho hg (fun j e => ?_)
  have e : g3 = j := Option.some.inj e
  subst e
  rcases hat with q | q
  · exact .inl q
  · exact .inr (by omega)
set_option maxRecDepth 100000 in
set_option maxHeartbeats 16000000 in
theorem groups_any {gs : GL} {M : List (List Bool)} {v : Value} {ys : List Value} {N : Nat} (hn : gs.length ≤ 200) (hI : IsR gs.length (cG gs) (tb M)) (w : World) (hW : WyR w gs v M ys N) :
    Calls Try.prog 48 #[v] w fun e w' => (∃ u xs, e = .returned u ∧ TT w' w.heap.size 37 3 u (nM (gsG gs.length (cG gs) (tb M) (gs.length + 1) [] [])) xs) ∧ Below w.heap.size w w' := by
  obtain ⟨w1, hmk, ho1, hg1⟩ := make_bools w w.heap.size gs.length (Nat.le_refl _) hn
  have HS := (show Hid (GrS w w1 gs (.slice none 0 0) [] [] w.heap.size (List.replicate gs.length false)) from ⟨below_grown (Below.refl _ _) hg1 (fun j e => by cases e), TT.nil _ _ _ _, by rw [List.map_replicate]; exact ho1⟩)
  have HT0 := (show Hid (TlI gs.length (cG gs) M [] [] (List.replicate gs.length false)) from TlI.start _ _ _)
  obtain ⟨A, c, rfl⟩ := hW.form
  have HN := (show Hid (∀ (wr : World) (tl : List Bool) (B : Nat) (tv : Value), Below w.heap.size w wr → wr.ownsRow B 4 1 tv gs.length (tl.map Value.bool) → Calls Try.prog 63 #[.slice A gs.length c, tv] wr fun e w' => e = .returned (.int .i64 (nF gs.length M tl : Int)) ∧ w' = wr) from fun wr tl B tv hb ht => nextFree_any hn wr ⟨hW.t.below hb, hW.b⟩ ht)
  have HGo := (show Hid (∀ (wr : World) (r : Nat), r < gs.length → Below w.heap.size w wr → Calls Try.prog 64 #[.slice A gs.length c, .int .i64 (r : Int)] wr fun e w' => (∃ u, e = .returned u ∧ w'.ownsRow wr.heap.size 3 1 u (gpL gs.length (tb M) r).length ((gpL gs.length (tb M) r).map nI)) ∧ Below wr.heap.size wr w') from fun wr r hr hb => groupOf_any hn hr wr ⟨hW.t.below hb, hW.b⟩)
  have HI := (show Hid (IsR gs.length (cG gs) (tb M)) from hI)
  clear hW ho1 hg1 hI
  go_enter Try.func48, Try.ntmps48
  go_wp2_with fail
  clear hmk
  refine (HN.out w1 _ _ _ HS.out.b HS.out.o).mono ?_
  rintro e w2 ⟨rfl, rfl⟩
  go_wp2_with fail
  go_loopg [3, 5] (gs.length - ([] : List Nat).length) (fun gk u t wr => ∃ (m : Nat) (told : List Nat) (out : List (List Nat)) (tl : List Bool) (xs : List Value) (A2 : Option Addr) (c2 : Nat), u = .slice A2 m c2 ∧ t = .int .i64 (nF gs.length M tl : Int) ∧ m ≤ 200 ∧ Hid (xs.length = m ∧ gs.length - told.length = gk) ∧ Hid (TlI gs.length (cG gs) M told out tl) ∧ Hid (GrS w wr gs (.slice A2 m c2) out xs w.heap.size tl))
  case atStart => exact ⟨0, [], [], List.replicate gs.length false, [], none, 0, rfl, rfl, by omega, ⟨rfl, rfl⟩, HT0, HS⟩
  case round =>
    obtain ⟨m, told, out, tl, xs, A2, c2, rfl, rfl, hm, HL, HT, HW⟩ := hrel
    clear HS HT0
    have hnf := nF_nx HI.out HT.out.g HT.out.l HT.out.m
    cases hx : nxG gs.length (cG gs) (tb M) told with
    | none =>
      rw [hx] at hnf
      have hnf2 : nF gs.length M tl = gs.length := hnf
      rw [hnf2]
      have HE := (show Hid (out = gsG gs.length (cG gs) (tb M) (gs.length + 1) [] []) from HT.out.done hx)
      have HTT := (show Hid (TT wr w.heap.size 37 3 (.slice A2 m c2) (nM (gsG gs.length (cG gs) (tb M) (gs.length + 1) [] [])) xs) from by show TT _ _ _ _ _ _ _; rw [← HE.out]; exact HW.out.t)
      have HB := (show Hid (Below w.heap.size w wr) from HW.out.b)
      clear hx hnf hnf2 HT HW HL HN HGo HI HE
      go_wp2_with fail
      go_ret
      exact ⟨⟨_, xs, rfl, HTT.out⟩, HB.out⟩
    | some i =>
      rw [hx] at hnf
      have hnf2 : nF gs.length M tl = i := hnf
      rw [hnf2]
      have hi := nxG_lt hx
      have z1 : (i : Int) < (gs.length : Int) := by omega
      have HX := (show Hid (nxG gs.length (cG gs) (tb M) told = some i) from hx)
      have HGo2 := (show Hid (∀ _ : Unit, Calls Try.prog 64 #[.slice A gs.length c, .int .i64 (i : Int)] wr fun e w' => (∃ u, e = .returned u ∧ w'.ownsRow wr.heap.size 3 1 u (gpL gs.length (tb M) i).length ((gpL gs.length (tb M) i).map nI)) ∧ Below wr.heap.size wr w') from fun _ => HGo.out wr i hi HW.out.b)
      clear hx hnf hnf2 HGo
      go_wp2_with fail
      refine (HGo2.out ()).mono ?_
      rintro e w4 ⟨⟨u4, rfl, ho4⟩, b4⟩
      obtain ⟨gp, hgp⟩ : ∃ gp, gp = gpL gs.length (tb M) i := ⟨_, rfl⟩
      rw [← hgp] at ho4
      obtain ⟨A4, c4, rfl⟩ := own_slice ho4
      have HS4 := (show Hid (GmS w w4 gs (.slice A2 m c2) out xs w.heap.size tl (.slice A4 gp.length c4) gp) from ⟨HW.out.later b4, U.own_base ho4 HW.out.b.size, fun k e => HW.out.t.new (ho4.lt k e).1⟩)
      have HGp := (show Hid (gp = gpL gs.length (tb M) i ∧ (∀ k ∈ gp, k < gs.length) ∧ gp.length ≤ 200) from ⟨hgp, fun k hk => by
        rw [hgp] at hk
        exact ((gpL_mem HI.out hi).1 hk).1, by
        have := few_below gs.length gp (by rw [hgp]; exact gpL_nodup _ _ _) (fun k hk => by rw [hgp] at hk; exact ((gpL_mem HI.out hi).1 hk).1)
        omega⟩)
      have hgl := HGp.out.2.2
      have HM0 := (show Hid (tl.length = gs.length ∧ ∀ k, tl[k]? = some true ↔ k ∈ told ∨ k ∈ gp.take 0) from ⟨HT.out.l, fun k => by rw [HT.out.m k]; simp⟩)
      clear HGo2 ho4 b4 HW hgp
      go_wp2_with fail
      go_loopw [27] (fun t wr => ∃ (j : Nat) (tl2 : List Bool), j ≤ gp.length ∧ t = .int .i64 (j : Int) ∧ Hid (tl2.length = gs.length ∧ ∀ k, tl2[k]? = some true ↔ k ∈ told ∨ k ∈ gp.take j) ∧ Hid (GmS w wr gs (.slice A2 m c2) out xs w.heap.size tl2 (.slice A4 gp.length c4) gp)) (fun t _ => gp.length - (intOf t).toNat)
      case atStart => exact ⟨0, tl, by omega, by go_num, HM0, HS4⟩
      case round =>
        obtain ⟨j, tl2, hj, rfl, HM, HW⟩ := hrel
        clear HM0 HS4
        by_cases hjl : j < gp.length
        · obtain ⟨y, hy⟩ : ∃ y, gp[j]? = some y := ⟨_, List.getElem?_eq_getElem hjl⟩
          have hyn := HGp.out.2.1 y (List.mem_of_getElem? hy)
          obtain ⟨g6, c6, e6, _, _, x6, _⟩ := own_get HW.out.r (j := j) (x := nI y) (by rw [List.getElem?_map, hy]; rfl)
          have e7 : A4 = some ⟨g6, 0, none⟩ := by injection e6
          clear e6
          subst e7
          have x6' : wr.cell? ⟨g6, j, none⟩ = some (.int .i64 (y : Int)) := x6
          obtain ⟨gm, cm, em, _, _, xm, fm⟩ := own_get HW.out.c.o (j := y) (x := .bool ((tl2[y]?).getD false)) (by rw [List.getElem?_map, List.getElem?_eq_getElem (by have := HM.out.1; omega)]; rfl)
          have emg : w.heap.size = gm := by injection em with e1; injection e1 with e1; injection e1
          clear em
          subst emg
          have HM2 := (show Hid ((tl2.set y true).length = gs.length ∧ ∀ k, (tl2.set y true)[k]? = some true ↔ k ∈ told ∨ k ∈ gp.take (j + 1)) from ⟨by rw [List.length_set]; exact HM.out.1, fun k => by
            rw [get_set, HM.out.2 k, List.take_add_one, hy, List.mem_append]
            have h9 := HM.out.1
            constructor
            · rintro (⟨rfl, _⟩ | q | q)
              · exact .inr (.inr (by simp))
              · exact .inl q
              · exact .inr (.inl q)
            · rintro (q | q | q)
              · exact .inr (.inl q)
              · exact .inr (.inr q)
              · have : k = y := by simpa using q
                exact .inl ⟨this, by omega⟩⟩)
          have HW2 := (show Hid (GmS w (wr.setCell ⟨w.heap.size, y, none⟩ (.bool true)) gs (.slice A2 m c2) out xs w.heap.size (tl2.set y true) (.slice (some ⟨g6, 0, none⟩) gp.length c4) gp) from HW.out.set y)
          have v0 : (0 : Int) ≤ (j : Int) := by omega
          have v1 : (j : Int) < (gp.length : Int) := by omega
          have v2 : (0 : Int) ≤ (y : Int) := by omega
          have v3 : (y : Int) < (gs.length : Int) := by omega
          clear HM HW hy hyn x6 HN HI HX HT HL
          go_wp2_with fail
          go_roundw
          case rel => exact ⟨j + 1, tl2.set y true, by omega, by go_num, HM2, HW2⟩
          case measure => simp [intOf]; omega
        · obtain rfl : j = gp.length := by omega
          obtain ⟨T1, T2⟩ := HT.out.step HI.out HX.out HM.out.1 (fun k => by have h := HM.out.2 k; rw [List.take_length] at h; rw [h, HGp.out.1])
          rw [← HGp.out.1] at T1 T2
          have HT2 := (show Hid (TlI gs.length (cG gs) M (told ++ gp) (out ++ [gp]) tl2) from T1)
          have hm2 : m + 1 ≤ 200 := by
            have h1 := gsI_len T1.g
            have h2 := gsI_few T1.g
            have h3 : (nM out).length = xs.length := HW.out.c.t.len.symm
            rw [nM_len, HL.out.1] at h3
            rw [List.length_append, List.length_singleton] at h1
            omega
          have HL2 := (show Hid ((xs ++ [Value.slice A4 gp.length c4]).length = m + 1) from by show _ = _; rw [List.length_append, HL.out.1]; rfl)
          have HL3 := (show Hid (gs.length - (told ++ gp).length < gk) from by
            have h1 := gsI_few T1.g
            have h2 := HL.out.2
            show gs.length - (told ++ gp).length < gk
            omega)
          have HO := (show Hid (wr.ownsRow w.heap.size 37 1 (.slice A2 m c2) m xs) from by have h := HW.out.c.t.o; rw [HL.out.1] at h; exact h)
          have HBw := (show Hid (w.heap.size ≤ wr.heap.size) from HW.out.c.b.size)
          have HPu := (show Hid (∀ (g3 cap3 : Nat) (w5 : World), w5.ownsRow w.heap.size 37 1 (.slice (some ⟨g3, 0, none⟩) (m + 1) cap3) (m + 1) (xs ++ [.slice A4 gp.length c4]) → wr.grownBy w5 (Value.slice A2 m c2).ownBlock → ((Value.slice A2 m c2).ownBlock = some g3 ∨ g3 = wr.heap.size + 1) → GrS w w5 gs (.slice (some ⟨g3, 0, none⟩) (m + 1) cap3) (out ++ [gp]) (xs ++ [.slice A4 gp.length c4]) w.heap.size tl2) from fun g3 cap3 w5 h1 h2 h3 => HW.out.push HL.out.1 h1 h2 h3)
          clear HM HW HI HX HT HL T1 T2 HGp
          go_wp2_with (at_builtin; refine wpList_app1 rfl _ _ 42 rfl (.slice none 0 0) 24 Try.underlying42 Try.info37 rfl w.heap.size m _ xs rfl rfl HO.out rfl (by omega) (by decide) HBw.out ?_; intro g3 cap3 w5 ho5 hg5 hat5 hl5; have HW5 := (show Hid (GrS w w5 gs (.slice (some ⟨g3, 0, none⟩) (m + 1) cap3) (out ++ [gp]) (xs ++ [.slice A4 gp.length c4]) w.heap.size tl2) from HPu.out g3 cap3 w5 ho5 hg5 hat5); clear ho5 hg5 hat5 hl5 HPu HO HBw)
          refine (HN.out w5 _ _ _ HW5.out.b HW5.out.o).mono ?_
          rintro e w6 ⟨rfl, rfl⟩
          clear HN
          go_wp2_with fail
          go_roundg (gs.length - (told ++ gp).length)
          case measure => exact HL3.out
          case rel => exact ⟨m + 1, told ++ gp, out ++ [gp], tl2, xs ++ [.slice A4 gp.length c4], some ⟨g3, 0, none⟩, cap3, rfl, rfl, hm2, ⟨HL2.out, rfl⟩, HT2, HW5⟩
end Go.Proofs.Ytppggnmlbcdegaa.N

namespace Go.Proofs.Ytppggnmlbcdegaa.N
open Go.RowKit Go.Maps
open Go.Proofs.Ytppggnmlbcdegaa.T

open U (nI own_get own_slice wpList_app1 below_grown TT Out info_split)
/-- What Groups answers. -/
def GpR (gs : GL) (out : List (List Nat)) : Prop := ((ckG gs).2 = 0 → ∃ R, IsR gs.length (cG gs) R ∧ out = gsG gs.length (cG gs) R (gs.length + 1) [] []) ∧ ((ckG gs).2 ≠ 0 → out = [])
set_option maxRecDepth 100000 in
set_option maxHeartbeats 4000000 in
theorem groupsP_any (gs : GL) (A : Option Addr) (c : Nat) (w : World) (hp : GI w A gs) :
    Calls Try.prog 23 #[.agg #[.slice A gs.length c]] w fun e w' => (∃ v xs out, e = .returned (.tuple #[v, .int .i64 (ckG gs).2]) ∧ GpR gs out ∧ TT w' w.heap.size 37 3 v (nM out) xs) ∧ Below w.heap.size w w' := by
  obtain ⟨w1, hw1⟩ : ∃ w1, w1 = (w.alloc (.cells #[.slice A gs.length c] 24)) := ⟨_, rfl⟩
  have HB1 : Hid (Below w.heap.size w w1) := by show Below _ _ _; rw [hw1]; exact below_box _ _
  have HN := (show Hid (∀ _ : Unit, Calls Try.prog 46 #[.agg #[.slice A gs.length c]] w1 fun e w' => NwV w1 w' gs (ckG gs).2 e ∧ Below w1.heap.size w1 w') from fun _ => netOf_any gs A c w1 (hp.later HB1.out))
  clear hp
  go_enter Try.func23, Try.ntmps23
  go_wp2_with fail
  rw [← hw1]
  refine (HN.out ()).mono ?_
  rintro e w3 ⟨⟨v, rfl, h1, h2⟩, b3⟩
  have HB := (show Hid (Below w.heap.size w w3) from HB1.out.trans (b3.mono HB1.out.size))
  clear HN b3 hw1 HB1
  by_cases hz : (ckG gs).2 = 0
  · obtain ⟨xs, hT⟩ := h2 hz
    have tz : ((ckG gs).2 != 0) = false := by rw [hz]; rfl
    have hR := ckG_ok.1 hz
    have HC := (show Hid (∀ _ : Unit, Calls Try.prog 47 #[v] w3 fun e w' => (∃ u xs M, e = .returned u ∧ WyR w' gs u M xs w3.heap.size ∧ IsR gs.length (cG gs) (tb M)) ∧ Below w3.heap.size w3 w') from fun _ => ways_any hR w3 hT)
    have H200 := (show Hid (gs.length ≤ 200) from hR.n2)
    have HZ := (show Hid ((ckG gs).2 = 0) from hz)
    clear h1 h2 hT hz hR
    generalize hcd : (ckG gs).2 = cd at *
    have HCD := (show Hid ((ckG gs).2 = cd) from hcd)
    clear hcd
    go_wp2_with fail
    refine (HC.out ()).mono ?_
    rintro e w4 ⟨⟨u, ys, M, rfl, hW, hI⟩, b4⟩
    have HB4 := (show Hid (Below w.heap.size w w4) from HB.out.trans (b4.mono HB.out.size))
    have HG := (show Hid (∀ _ : Unit, Calls Try.prog 48 #[u] w4 fun e w' => (∃ u xs, e = .returned u ∧ TT w' w4.heap.size 37 3 u (nM (gsG gs.length (cG gs) (tb M) (gs.length + 1) [] [])) xs) ∧ Below w4.heap.size w4 w') from fun _ => groups_any H200.out hI w4 hW)
    have HI := (show Hid (IsR gs.length (cG gs) (tb M)) from hI)
    clear HC hW hI b4 HB
    go_wp2_with fail
    refine (HG.out ()).mono ?_
    rintro e w5 ⟨⟨u5, zs, rfl, hT5⟩, b5⟩
    have HB5 := (show Hid (Below w.heap.size w w5) from HB4.out.trans (b5.mono HB4.out.size))
    have HT5 := (show Hid (TT w5 w.heap.size 37 3 u5 (nM (gsG gs.length (cG gs) (tb M) (gs.length + 1) [] [])) zs) from hT5.base HB4.out.size)
    clear HG hT5 b5 HB4
    go_wp2_with fail
    refine bodyPost_ret (v := .tuple #[u5, .int .i64 0]) (by simp [results, Try.results23, go_sem]) rfl ⟨⟨u5, zs, _, by rw [HCD.out, HZ.out], ⟨fun _ => ⟨tb M, HI.out, rfl⟩, fun q => absurd (HCD.out.trans HZ.out) q⟩, HT5.out⟩, HB5.out⟩
  · obtain rfl := h1 hz
    have tz : ((ckG gs).2 != 0) = true := by rw [bne, beq_eq_false_iff_ne.2 hz]; rfl
    have HZ := (show Hid ((ckG gs).2 ≠ 0) from hz)
    clear h1 h2 hz
    generalize hcd : (ckG gs).2 = cd at *
    have HCD := (show Hid ((ckG gs).2 = cd) from hcd)
    clear hcd
    go_wp2_with fail
    refine bodyPost_ret (v := .tuple #[.slice none 0 0, .int .i64 cd]) (by simp [results, Try.results23, go_sem]) rfl ⟨⟨_, [], [], by rw [HCD.out], ⟨fun q => absurd (HCD.out.symm.trans q) HZ.out, fun _ => rfl⟩, TT.nil _ _ _ _⟩, HB.out⟩
end Go.Proofs.Ytppggnmlbcdegaa.N

namespace Go.Proofs.Ytppggnmlbcdegaa.N
open Go.RowKit Go.Maps
open Go.Proofs.Ytppggnmlbcdegaa.T

open U (nI own_get own_slice TT)
/-- The groups hold each rule once. -/
theorem gpR_all {gs : GL} {out : List (List Nat)} (h : GpR gs out) (q : (ckG gs).2 = 0) : ∃ told, GsI gs.length (cG gs) told out ∧ ∀ i, i < gs.length → i ∈ told := by
  obtain ⟨R, h1, rfl⟩ := h.1 q
  exact gsG_all h1 (gs.length + 1) [] [] (GsI.nil _ _) (by simp)
theorem gsI_row {n : Nat} {c : Mx} {told : List Nat} {out : List (List Nat)} (h : GsI n c told out) {l : List Nat} (hl : l ∈ out) : l.length ≤ n ∧ l.Nodup ∧ (∀ x ∈ l, x < n) := by
  have hsub : l.Sublist told := by rw [← h.fl]; exact List.sublist_flatten_of_mem hl
  have hnd := hsub.nodup h.nd
  have hlt : ∀ x ∈ l, x < n := fun x hx => h.lt x (hsub.subset hx)
  exact ⟨few_below n l hnd hlt, hnd, hlt⟩
end Go.Proofs.Ytppggnmlbcdegaa.N

namespace Go.Proofs.Ytppggnmlbcdegaa.N
open Go.RowKit
/-- Of each group: it is whole, and calls itself or what stands ahead of it. -/
def GsJ (n : Nat) (c : Mx) (out : List (List Nat)) : Prop := ∀ (i : Nat) g, out[i]? = some g → (∃ r, r < n ∧ ∀ k, k ∈ g ↔ k < n ∧ Gp n c r k) ∧ ∀ x ∈ g, ∀ k, c x k = true → k ∈ (out.take i).flatten ∨ k ∈ g
theorem GsJ.nil (n : Nat) (c : Mx) : GsJ n c [] := fun i g h => by simp at h
theorem GsJ.step {n : Nat} {c r : Mx} (h : IsR n c r) {told : List Nat} {out : List (List Nat)} (g : GsI n c told out) (j : GsJ n c out) {i : Nat} (hx : nxG n c r told = some i) : GsJ n c (out ++ [gpL n r i]) := by
  obtain ⟨hi, hnt, hcl⟩ := nx_some h hx
  intro a b hb
  by_cases ha : a < out.length
  · rw [List.getElem?_append_left ha] at hb
    obtain ⟨h1, h2⟩ := j a b hb
    refine ⟨h1, fun x hx2 k hk => ?_⟩
    rw [List.take_append_of_le_length (by omega)]
    exact h2 x hx2 k hk
  · rw [List.getElem?_append_right (by omega)] at hb
    have ha0 : a - out.length = 0 := by
      by_cases q : a - out.length = 0
      · exact q
      · rw [List.getElem?_eq_none (by simp; omega)] at hb; cases hb
    rw [ha0] at hb
    cases hb
    refine ⟨⟨i, hi, fun k => gpL_mem h hi⟩, fun x hx2 k hk => ?_⟩
    have hal : a = out.length := by omega
    rw [hal, List.take_left', g.fl]
    · exact hcl x k hx2 hk
    · rfl
theorem gsG_j {n : Nat} {c r : Mx} (h : IsR n c r) : ∀ (f : Nat) (told : List Nat) (out : List (List Nat)), GsI n c told out → GsJ n c out → GsJ n c (gsG n c r f told out) := by
  intro f
  induction f with
  | zero => intro told out _ j; exact j
  | succ f ih =>
    intro told out g j
    rw [gsG]
    cases hx : nxG n c r told with
    | none => exact j
    | some i => exact ih _ _ (g.step h hx).1 (j.step h g hx)
end Go.Proofs.Ytppggnmlbcdegaa.N

namespace Go.Proofs.Ytppggnmlbcdegaa.N
open Go.RowKit Go.Maps
open Go.Proofs.Ytppggnmlbcdegaa.T

open U (nI own_get own_slice below_grown TT)
set_option maxRecDepth 100000 in
set_option maxHeartbeats 4000000 in
theorem has_any (l : List Nat) (x : Nat) (hl : l.length ≤ 100000) {B : Nat} {v : Value} (w : World) (ho : w.ownsRow B 3 1 v l.length (l.map nI)) :
    Calls Try.prog 32 #[v, .int .i64 (x : Int)] w fun e w' => e = .returned (.bool (decide (x ∈ l))) ∧ w' = w := by
  obtain ⟨A, c, rfl⟩ := own_slice ho
  have HC := (show Hid (∀ (k y : Nat), l[k]? = some y → ∃ g, A = some ⟨g, 0, none⟩ ∧ w.cell? ⟨g, k, none⟩ = some (.int .i64 (y : Int))) from fun k y hk => by
    obtain ⟨g, cp, e, _, _, x, _⟩ := own_get ho (j := k) (x := nI y) (by rw [List.getElem?_map, hk]; rfl)
    have e1 : A = some ⟨g, 0, none⟩ := by injection e
    exact ⟨g, e1, x⟩)
  clear ho
  go_enter Try.func32, Try.ntmps32
  go_wp2_with fail
  go_loopw [5] (fun t wr => ∃ k : Nat, k ≤ l.length ∧ t = .int .i64 (k : Int) ∧ wr = w ∧ Hid (∀ (j y : Nat), j < k → l[j]? = some y → y ≠ x)) (fun t _ => l.length - (intOf t).toNat)
  case atStart => exact ⟨0, by omega, by go_num, rfl, fun j y hj => by omega⟩
  case round =>
    obtain ⟨k, hk, rfl, rfl, HX⟩ := hrel
    by_cases hlt : k < l.length
    · obtain ⟨y, hy⟩ : ∃ y, l[k]? = some y := ⟨_, List.getElem?_eq_getElem hlt⟩
      obtain ⟨g, rfl, xg⟩ := HC.out k y hy
      have z0 : (0 : Int) ≤ (k : Int) := by omega
      have z1 : (k : Int) < (l.length : Int) := by omega
      by_cases e : y = x
      · have te : ((y : Int) == (x : Int)) = true := beq_iff_eq.2 (by omega)
        have HE := (show Hid (decide (x ∈ l) = true) from decide_eq_true (by rw [← e]; exact List.mem_of_getElem? hy))
        clear HX hy HC e
        go_wp2_with fail
        go_ret
        exact ⟨by rw [HE.out]; rfl, rfl⟩
      · have te : ((y : Int) == (x : Int)) = false := beq_eq_false_iff_ne.2 (by omega)
        have HX2 := (show Hid (∀ (j z : Nat), j < k + 1 → l[j]? = some z → z ≠ x) from fun j z hj hz => by
          by_cases q : j = k
          · subst q; rw [hy] at hz; cases hz; exact e
          · exact HX.out j z (by omega) hz)
        clear HX hy HC e
        go_wp2_with fail
        go_roundw
        case rel => exact ⟨k + 1, by omega, by go_num, by first | rfl | trivial, HX2⟩
        case measure => simp [intOf]; omega
    · obtain rfl : k = l.length := by omega
      have HE := (show Hid (decide (x ∈ l) = false) from decide_eq_false (fun q => by
        obtain ⟨j, hj, e⟩ := List.mem_iff_getElem.1 q
        exact HX.out j _ hj (List.getElem?_eq_getElem hj) e))
      clear HX HC
      go_wp2_with fail
      go_ret
      exact ⟨by rw [HE.out]; rfl, rfl⟩
/-- A row of numbers is read at a place. -/
theorem row_at {w W : World} {B n : Nat} {A : Option Addr} {c : Nat} {l : List Nat} (ho : w.ownsRow B 3 1 (.slice A n c) n (l.map nI)) (hb : Below w.heap.size w W) {k x : Nat} (hk : l[k]? = some x) : ∃ g, A = some ⟨g, 0, none⟩ ∧ W.cell? ⟨g, k, none⟩ = some (.int .i64 (x : Int)) := by
  obtain ⟨g, cp, e, _, lt, y, _⟩ := own_get ho (j := k) (x := nI x) (by rw [List.getElem?_map, hk]; rfl)
  have e1 : A = some ⟨g, 0, none⟩ := by injection e
  exact ⟨g, e1, (hb.cell (p := ⟨g, k, none⟩) lt).trans y⟩
theorem row_b {w W : World} {B n : Nat} {A : Option Addr} {c : Nat} {l : List Bool} (ho : w.ownsRow B 4 1 (.slice A n c) n (l.map Value.bool)) (hb : Below w.heap.size w W) {k : Nat} {x : Bool} (hk : l[k]? = some x) : ∃ g, A = some ⟨g, 0, none⟩ ∧ W.cell? ⟨g, k, none⟩ = some (.bool x) := by
  obtain ⟨g, cp, e, _, lt, y, _⟩ := own_get ho (j := k) (x := .bool x) (by rw [List.getElem?_map, hk]; rfl)
  have e1 : A = some ⟨g, 0, none⟩ := by injection e
  exact ⟨g, e1, (hb.cell (p := ⟨g, k, none⟩) lt).trans y⟩
theorem tab_at {w W : World} {B : Nat} {A : Option Addr} {c : Nat} {out : List (List Nat)} {xs : List Value} (h : TT w B 37 3 (.slice A out.length c) (nM out) xs) (hb : Below w.heap.size w W) {i : Nat} {l : List Nat} (hi : out[i]? = some l) : ∃ g0 A3 c3, A = some ⟨g0, 0, none⟩ ∧ W.cell? ⟨g0, i, none⟩ = some (.slice A3 l.length c3) ∧ W.ownsRow B 3 1 (.slice A3 l.length c3) l.length (l.map nI) := by
  obtain ⟨x1, r1, hx1, hr1, ho1⟩ := h.at' (i := i) (by rw [nM_len]; exact (List.getElem?_eq_some_iff.1 hi).1)
  rw [nM_get hi] at hr1
  cases hr1
  rw [List.length_map] at ho1
  obtain ⟨A3, c3, rfl⟩ := own_slice ho1
  obtain ⟨g1, d1, e1, _, l1, y1, _⟩ := own_get h.o hx1
  have f1 : A = some ⟨g1, 0, none⟩ := by injection e1
  exact ⟨g1, A3, c3, f1, (hb.cell (p := ⟨g1, i, none⟩) l1).trans y1, U.own_below ho1 hb⟩
end Go.Proofs.Ytppggnmlbcdegaa.N

namespace Go.Proofs.Ytppggnmlbcdegaa.N
open Go.RowKit Go.Maps
open Go.Proofs.Ytppggnmlbcdegaa.T

open U (nI own_get own_slice below_grown TT info_split)
/-- Which rules of a list are called by others of it, as far as it has been gone over. -/
def ClP (gs : GL) (l : List Nat) (i k : Nat) (z : Nat) : Prop := (∃ a x, a < i ∧ l[a]? = some x ∧ x ≠ z ∧ cG gs x z = true) ∨ (∃ x b, l[i]? = some x ∧ b < k ∧ (cL gs x)[b]? = some z ∧ x ≠ z)
def ClI (gs : GL) (l : List Nat) (i k : Nat) (cl : List Bool) : Prop := cl.length = gs.length ∧ ∀ z, cl[z]? = some true ↔ ClP gs l i k z
theorem ClI.start (gs : GL) (l : List Nat) : ClI gs l 0 0 (List.replicate gs.length false) := ⟨List.length_replicate, fun z => by
  constructor
  · intro q
    rw [List.getElem?_replicate] at q
    split at q <;> cases q
  · rintro (⟨a, x, h, _⟩ | ⟨x, b, _, h, _⟩) <;> omega⟩
theorem ClI.next {gs : GL} {l : List Nat} {i x : Nat} {cl : List Bool} (h : ClI gs l i (cL gs x).length cl) (hx : l[i]? = some x) : ClI gs l (i + 1) 0 cl := ⟨h.1, fun z => by
  rw [h.2 z]
  constructor
  · rintro (⟨a, y, h1, h2⟩ | ⟨y, b, h1, h2, h3, h4⟩)
    · exact .inl ⟨a, y, by omega, h2⟩
    · exact .inl ⟨i, y, by omega, h1, h4, (cL_mem.1 (List.mem_of_getElem? h3)).2⟩
  · rintro (⟨a, y, h1, h2, h3, h4⟩ | ⟨y, b, _, h2, _⟩)
    · by_cases e : a = i
      · subst e
        rw [hx] at h2
        cases h2
        obtain ⟨b, hb, e⟩ := List.mem_iff_getElem.1 (cL_mem.2 ⟨(cG_lt h4).2, h4⟩)
        exact .inr ⟨x, b, hx, hb, by rw [List.getElem?_eq_getElem hb, e], h3⟩
      · exact .inl ⟨a, y, by omega, h2, h3, h4⟩
    · omega⟩
theorem ClI.same {gs : GL} {l : List Nat} {i k x : Nat} {cl : List Bool} (h : ClI gs l i k cl) (hx : l[i]? = some x) (hz : (cL gs x)[k]? = some x) : ClI gs l i (k + 1) cl := ⟨h.1, fun z => by
  rw [h.2 z]
  constructor
  · rintro (q | ⟨y, b, h1, h2, h3⟩)
    · exact .inl q
    · exact .inr ⟨y, b, h1, by omega, h3⟩
  · rintro (q | ⟨y, b, h1, h2, h3, h4⟩)
    · exact .inl q
    · rw [hx] at h1
      cases h1
      by_cases e : b = k
      · subst e; rw [hz] at h3; cases h3; exact absurd rfl h4
      · exact .inr ⟨x, b, hx, by omega, h3, h4⟩⟩
theorem ClI.set {gs : GL} {l : List Nat} {i k x y : Nat} {cl : List Bool} (h : ClI gs l i k cl) (hx : l[i]? = some x) (hy : (cL gs x)[k]? = some y) (hne : y ≠ x) : ClI gs l i (k + 1) (cl.set y true) := ⟨by rw [List.length_set]; exact h.1, fun z => by
  have hyn := cL_lt (List.mem_of_getElem? hy)
  rw [get_set, h.2 z]
  constructor
  · rintro (⟨rfl, _⟩ | q | ⟨u, b, h1, h2, h3⟩)
    · exact .inr ⟨x, k, hx, by omega, hy, Ne.symm hne⟩
    · exact .inl q
    · exact .inr ⟨u, b, h1, by omega, h3⟩
  · rintro (q | ⟨u, b, h1, h2, h3, h4⟩)
    · exact .inr (.inl q)
    · rw [hx] at h1
      cases h1
      by_cases e : b = k
      · subst e; rw [hy] at h3; cases h3; exact .inl ⟨rfl, by have := h.1; omega⟩
      · exact .inr (.inr ⟨x, b, hx, by omega, h3, h4⟩)⟩
/-- Whatever is reached but the first is called by another one that is reached. -/
theorem reach_last {gs : GL} {r : Nat} {l : List Nat} (_hr : r < gs.length) (h : IsRh gs r l) {cl : List Bool} (hc : ClI gs l l.length 0 cl) {y : Nat} (hy : y ∈ l) (hne : y ≠ r) : cl[y]? = some true := by
  rw [hc.2 y]
  left
  obtain ⟨hyn, q⟩ := (h.m y).1 hy
  have hR := q.resolve_left hne
  rcases hR.last (fun i j e => cG_lt e) with e | ⟨j, j1, j2, j3⟩
  · exact absurd e hne
  · have hjl : j ∈ l := (h.m j).2 ⟨(cG_lt j3).1, j2⟩
    obtain ⟨a, ha, e⟩ := List.mem_iff_getElem.1 hjl
    exact ⟨a, j, ha, by rw [List.getElem?_eq_getElem ha, e], j1, j3⟩
end Go.Proofs.Ytppggnmlbcdegaa.N
