/- DERIVED. Plain mathematics and walks, laid together (11). -/
import Derived.Test.YtppggnmlbcdegabGreatRo10
namespace Go.Proofs.YtppggnmlbcdegabGreat.N
open Go.RowKit Go.Maps
open Go.Proofs.YtppggnmlbcdegabGreat.T

open U (nI own_get own_slice wpList_app1 below_grown TT Out info_split)
theorem lsB_snoc (l : List Bool) (b : Bool) : lsB (l ++ [b]) = lsB l ++ (if b then [l.length] else []) := by
  unfold lsB
  rw [List.length_append, List.length_singleton, List.range_succ, List.filter_append]
  congr 1
  · refine List.filter_congr fun i hi => ?_
    rw [List.getElem?_append_left (List.mem_range.1 hi)]
  · rw [List.filter_cons, List.getElem?_append_right (Nat.le_refl _), Nat.sub_self]
    cases b <;> rfl
theorem lsB_take {l : List Bool} {k : Nat} {b : Bool} (h : l[k]? = some b) : lsB (l.take (k + 1)) = lsB (l.take k) ++ (if b then [k] else []) := by
  have hk := (List.getElem?_eq_some_iff.1 h).1
  rw [List.take_add_one, h]
  have := lsB_snoc (l.take k) b
  rw [List.length_take, Nat.min_eq_left (by omega)] at this
  exact this
theorem lsB_rise (l : List Bool) : (lsB l).Pairwise (· < ·) := List.Pairwise.filter _ List.pairwise_lt_range
/-- While numbers are listed. -/
structure LsS (w wr : World) (u : Value) (ls : List Nat) : Prop where
  b : Below w.heap.size w wr
  o : wr.ownsRow w.heap.size 3 1 u ls.length (ls.map nI)
theorem LsS.push {w wr w5 : World} {u u' : Value} {ls : List Nat} {k : Nat} (h : LsS w wr u ls) (ho : w5.ownsRow w.heap.size 3 1 u' (ls.length + 1) (ls.map nI ++ [nI k])) (hg : wr.grownBy w5 u.ownBlock) : LsS w w5 u' (ls ++ [k]) :=
  ⟨below_grown h.b hg (fun j e => (h.o.lt j e).1), by rw [List.length_append, List.map_append]; exact ho⟩
set_option maxRecDepth 100000 in
set_option maxHeartbeats 8000000 in
theorem marked_any (l : List Bool) (hl : l.length ≤ 200) {B4 : Nat} {v : Value} (w : World) (ho : w.ownsRow B4 4 1 v l.length (l.map Value.bool)) :
    Calls Tryz.prog 32 #[v] w fun e w' => (∃ u, e = .returned u ∧ w'.ownsRow w.heap.size 3 1 u (lsB l).length ((lsB l).map nI)) ∧ Below w.heap.size w w' := by
  obtain ⟨Av, cv, rfl⟩ := own_slice ho
  have HC := (show Hid (∀ (k : Nat) b, l[k]? = some b → ∃ g, Av = some ⟨g, 0, none⟩ ∧ g < w.heap.size ∧ w.cell? ⟨g, k, none⟩ = some (.bool b)) from fun k b hk => by
    obtain ⟨g, cp, e, _, lt, x, _⟩ := own_get ho (j := k) (x := .bool b) (by rw [List.getElem?_map, hk]; rfl)
    have e1 : Av = some ⟨g, 0, none⟩ := by injection e
    exact ⟨g, e1, lt, x⟩)
  have HS := (show Hid (LsS w w (.slice none 0 0) (lsB (l.take 0))) from ⟨Below.refl _ _, World.ownsRow_nil _ _ _ _⟩)
  clear ho
  go_enter Tryz.func32, Tryz.ntmps32
  go_wp2_with fail
  go_loopw [3, 8] (fun u t wr => ∃ (k m : Nat) (ls : List Nat) (A2 : Option Addr) (c2 : Nat), k ≤ l.length ∧ t = .int .i64 (k : Int) ∧ u = .slice A2 m c2 ∧ m ≤ k ∧ Hid (ls.length = m ∧ ls = lsB (l.take k)) ∧ Hid (LsS w wr (.slice A2 m c2) ls)) (fun _ t _ => l.length - (intOf t).toNat)
  case atStart => exact ⟨0, 0, lsB (l.take 0), none, 0, by omega, by go_num, rfl, by omega, ⟨rfl, rfl⟩, HS⟩
  case round =>
    obtain ⟨k, m, ls, A2, c2, hk, rfl, rfl, hm, HL, HW⟩ := hrel
    clear HS
    by_cases hlt : k < l.length
    · obtain ⟨b, hb⟩ : ∃ b, l[k]? = some b := ⟨_, List.getElem?_eq_getElem hlt⟩
      obtain ⟨g, rfl, ltg, xg⟩ := HC.out k b hb
      have xg' := (HW.out.b.cell (p := ⟨g, k, none⟩) ltg).trans xg
      have z0 : (0 : Int) ≤ (k : Int) := by omega
      have z1 : (k : Int) < (l.length : Int) := by omega
      have HT := (show Hid (lsB (l.take (k + 1)) = lsB (l.take k) ++ (if b then [k] else [])) from lsB_take hb)
      clear HC hb xg ltg
      cases b with
      | true =>
        have HL2 := (show Hid ((ls ++ [k]).length = m + 1 ∧ ls ++ [k] = lsB (l.take (k + 1))) from ⟨by rw [List.length_append, HL.out.1]; rfl, by rw [HT.out, ← HL.out.2]; rfl⟩)
        have HO := (show Hid (wr.ownsRow w.heap.size 3 1 (.slice A2 m c2) m (ls.map nI)) from by have h := HW.out.o; rw [HL.out.1] at h; exact h)
        have HBw := (show Hid (w.heap.size ≤ wr.heap.size) from HW.out.b.size)
        have HPu := (show Hid (∀ (u' : Value) (w5 : World), w5.ownsRow w.heap.size 3 1 u' (m + 1) (ls.map nI ++ [nI k]) → wr.grownBy w5 (Value.slice A2 m c2).ownBlock → LsS w w5 u' (ls ++ [k])) from fun u' w5 h1 h2 => HW.out.push (by rw [HL.out.1]; exact h1) h2)
        clear HT HL HW
        go_wp2_with (at_builtin; refine wpList_app1 rfl _ _ 36 rfl (.int .i64 0) 8 Tryz.underlying36 Tryz.info3 rfl w.heap.size m _ (ls.map nI) rfl rfl HO.out rfl (by omega) (by decide) HBw.out ?_; intro g3 cap3 w5 ho5 hg5 hat5 hl5; have HW5 := (show Hid (LsS w w5 (.slice (some ⟨g3, 0, none⟩) (m + 1) cap3) (ls ++ [k])) from HPu.out _ _ ho5 hg5); clear ho5 hg5 hat5 hl5 HPu HO HBw xg')
        go_roundw
        case rel => exact ⟨k + 1, m + 1, ls ++ [k], some ⟨g3, 0, none⟩, cap3, by omega, by go_num, rfl, by omega, HL2, HW5⟩
        case measure => simp [intOf]; omega
      | false =>
        have HL2 := (show Hid (ls.length = m ∧ ls = lsB (l.take (k + 1))) from ⟨HL.out.1, by rw [HT.out, ← HL.out.2]; exact (List.append_nil ls).symm⟩)
        clear HT HL
        go_wp2_with fail
        go_roundw
        case rel => exact ⟨k + 1, m, ls, A2, c2, by omega, by go_num, rfl, by omega, HL2, HW⟩
        case measure => simp [intOf]; omega
    · obtain rfl : k = l.length := by omega
      have HO := (show Hid (wr.ownsRow w.heap.size 3 1 (.slice A2 m c2) (lsB l).length ((lsB l).map nI)) from by
        show World.ownsRow _ _ _ _ _ _ _
        have h := HL.out.2
        rw [List.take_length] at h
        rw [← h]
        exact HW.out.o)
      have HB := (show Hid (Below w.heap.size w wr) from HW.out.b)
      clear HW HL HC
      go_wp2_with fail
      go_ret
      exact ⟨⟨_, rfl, HO.out⟩, HB.out⟩
set_option maxRecDepth 100000 in
set_option maxHeartbeats 8000000 in
theorem listed_any (l : List Bool) (hl : l.length ≤ 200) {B4 : Nat} {v : Value} (w : World) (ho : w.ownsRow B4 4 1 v l.length (l.map Value.bool)) :
    Calls Tryz.prog 57 #[v] w fun e w' => (∃ u, e = .returned u ∧ w'.ownsRow w.heap.size 3 1 u (lsB l).length ((lsB l).map nI)) ∧ Below w.heap.size w w' := by
  obtain ⟨Av, cv, rfl⟩ := own_slice ho
  have HC := (show Hid (∀ (k : Nat) b, l[k]? = some b → ∃ g, Av = some ⟨g, 0, none⟩ ∧ g < w.heap.size ∧ w.cell? ⟨g, k, none⟩ = some (.bool b)) from fun k b hk => by
    obtain ⟨g, cp, e, _, lt, x, _⟩ := own_get ho (j := k) (x := .bool b) (by rw [List.getElem?_map, hk]; rfl)
    have e1 : Av = some ⟨g, 0, none⟩ := by injection e
    exact ⟨g, e1, lt, x⟩)
  have HS := (show Hid (LsS w w (.slice none 0 0) (lsB (l.take 0))) from ⟨Below.refl _ _, World.ownsRow_nil _ _ _ _⟩)
  clear ho
  go_enter Tryz.func57, Tryz.ntmps57
  go_wp2_with fail
  go_loopw [3, 4] (fun u t wr => ∃ (k m : Nat) (ls : List Nat) (A2 : Option Addr) (c2 : Nat), k ≤ l.length ∧ t = .int .i64 (k : Int) ∧ u = .slice A2 m c2 ∧ m ≤ k ∧ Hid (ls.length = m ∧ ls = lsB (l.take k)) ∧ Hid (LsS w wr (.slice A2 m c2) ls)) (fun _ t _ => l.length - (intOf t).toNat)
  case atStart => exact ⟨0, 0, lsB (l.take 0), none, 0, by omega, by go_num, rfl, by omega, ⟨rfl, rfl⟩, HS⟩
  case round =>
    obtain ⟨k, m, ls, A2, c2, hk, rfl, rfl, hm, HL, HW⟩ := hrel
    clear HS
    by_cases hlt : k < l.length
    · obtain ⟨b, hb⟩ : ∃ b, l[k]? = some b := ⟨_, List.getElem?_eq_getElem hlt⟩
      obtain ⟨g, rfl, ltg, xg⟩ := HC.out k b hb
      have xg' := (HW.out.b.cell (p := ⟨g, k, none⟩) ltg).trans xg
      have z0 : (0 : Int) ≤ (k : Int) := by omega
      have z1 : (k : Int) < (l.length : Int) := by omega
      have HT := (show Hid (lsB (l.take (k + 1)) = lsB (l.take k) ++ (if b then [k] else [])) from lsB_take hb)
      clear HC hb xg ltg
      cases b with
      | true =>
        have HL2 := (show Hid ((ls ++ [k]).length = m + 1 ∧ ls ++ [k] = lsB (l.take (k + 1))) from ⟨by rw [List.length_append, HL.out.1]; rfl, by rw [HT.out, ← HL.out.2]; rfl⟩)
        have HO := (show Hid (wr.ownsRow w.heap.size 3 1 (.slice A2 m c2) m (ls.map nI)) from by have h := HW.out.o; rw [HL.out.1] at h; exact h)
        have HBw := (show Hid (w.heap.size ≤ wr.heap.size) from HW.out.b.size)
        have HPu := (show Hid (∀ (u' : Value) (w5 : World), w5.ownsRow w.heap.size 3 1 u' (m + 1) (ls.map nI ++ [nI k]) → wr.grownBy w5 (Value.slice A2 m c2).ownBlock → LsS w w5 u' (ls ++ [k])) from fun u' w5 h1 h2 => HW.out.push (by rw [HL.out.1]; exact h1) h2)
        clear HT HL HW
        go_wp2_with (at_builtin; refine wpList_app1 rfl _ _ 36 rfl (.int .i64 0) 8 Tryz.underlying36 Tryz.info3 rfl w.heap.size m _ (ls.map nI) rfl rfl HO.out rfl (by omega) (by decide) HBw.out ?_; intro g3 cap3 w5 ho5 hg5 hat5 hl5; have HW5 := (show Hid (LsS w w5 (.slice (some ⟨g3, 0, none⟩) (m + 1) cap3) (ls ++ [k])) from HPu.out _ _ ho5 hg5); clear ho5 hg5 hat5 hl5 HPu HO HBw xg')
        go_roundw
        case rel => exact ⟨k + 1, m + 1, ls ++ [k], some ⟨g3, 0, none⟩, cap3, by omega, by go_num, rfl, by omega, HL2, HW5⟩
        case measure => simp [intOf]; omega
      | false =>
        have HL2 := (show Hid (ls.length = m ∧ ls = lsB (l.take (k + 1))) from ⟨HL.out.1, by rw [HT.out, ← HL.out.2]; exact (List.append_nil ls).symm⟩)
        clear HT HL
        go_wp2_with fail
        go_roundw
        case rel => exact ⟨k + 1, m, ls, A2, c2, by omega, by go_num, rfl, by omega, HL2, HW⟩
        case measure => simp [intOf]; omega
    · obtain rfl : k = l.length := by omega
      have HO := (show Hid (wr.ownsRow w.heap.size 3 1 (.slice A2 m c2) (lsB l).length ((lsB l).map nI)) from by
        show World.ownsRow _ _ _ _ _ _ _
        have h := HL.out.2
        rw [List.take_length] at h
        rw [← h]
        exact HW.out.o)
      have HB := (show Hid (Below w.heap.size w wr) from HW.out.b)
      clear HW HL HC
      go_wp2_with fail
      go_ret
      exact ⟨⟨_, rfl, HO.out⟩, HB.out⟩
end Go.Proofs.YtppggnmlbcdegabGreat.N

namespace Go.Proofs.YtppggnmlbcdegabGreat.N
open Go.RowKit Go.Maps
open Go.Proofs.YtppggnmlbcdegabGreat.T

open U (nI own_get own_slice wpList_app1 below_grown TT Out info_split)
/-- The rules that are reached, rising. -/
structure IsRh (gs : GL) (r : Nat) (l : List Nat) : Prop where
  u : l.Pairwise (· < ·)
  m : ∀ j, j ∈ l ↔ j < gs.length ∧ (j = r ∨ Rc gs.length (cG gs) r j)
def RhR (gs : GL) (r : Int) (l : List Nat) : Prop := (lkR gs r = 0 → IsRh gs r.toNat l) ∧ (lkR gs r ≠ 0 → l = [])
theorem RhR.same {gs : GL} {r : Int} {a b : List Nat} (h : RhR gs r a) (g : RhR gs r b) : a = b := by
  by_cases q : lkR gs r = 0
  · exact rise_ext (h.1 q).u (g.1 q).u fun x => by rw [(h.1 q).m, (g.1 q).m]
  · rw [h.2 q, g.2 q]
theorem IsRh.len {gs : GL} {r : Nat} {l : List Nat} (h : IsRh gs r l) : l.length ≤ gs.length := by
  refine few_below gs.length l (h.u.imp fun {a b} q => ?_) fun x hx => ((h.m x).1 hx).1
  omega
theorem isRh_of {gs : GL} {r : Nat} {l : List Bool} (hl : l.length = gs.length) (hr : r < gs.length) (h : ∀ j, l[j]? = some true ↔ Rc gs.length (cG gs) r j) : IsRh gs r (lsB (l.set r true)) := by
  refine ⟨lsB_rise _, fun j => ?_⟩
  rw [lsB_mem, get_set, ← h j]
  constructor
  · rintro (⟨rfl, _⟩ | q)
    · exact ⟨hr, .inl rfl⟩
    · exact ⟨by have := (List.getElem?_eq_some_iff.1 q).1; omega, .inr q⟩
  · rintro ⟨_, rfl | q⟩
    · exact .inl ⟨rfl, by omega⟩
    · exact .inr q
set_option maxRecDepth 100000 in
set_option maxHeartbeats 4000000 in
theorem reachP_any (gs : GL) (A : Option Addr) (c : Nat) (r : Int) (w : World) (hp : GI w A gs) :
    Calls Tryz.prog 12 #[.agg #[.slice A gs.length c], .int .i64 r] w fun e w' => (∃ v l, e = .returned (.tuple #[v, .int .i64 (lkR gs r)]) ∧ RhR gs r l ∧ w'.ownsRow w.heap.size 3 1 v l.length (l.map nI)) ∧ Below w.heap.size w w' := by
  obtain ⟨w1, hw1⟩ : ∃ w1, w1 = (w.alloc (.cells #[.slice A gs.length c] 24)) := ⟨_, rfl⟩
  have HB1 : Hid (Below w.heap.size w w1) := by show Below _ _ _; rw [hw1]; exact below_box _ _
  have HN := (show Hid (∀ _ : Unit, Calls Tryz.prog 30 #[.agg #[.slice A gs.length c], .int .i64 r] w1 fun e w' => NwV w1 w' gs (lkR gs r) e ∧ Below w1.heap.size w1 w') from fun _ => netWith_any gs A c r w1 (hp.later HB1.out))
  clear hp
  go_enter Tryz.func12, Tryz.ntmps12
  go_wp2_with fail
  rw [← hw1]
  refine (HN.out ()).mono ?_
  rintro e w3 ⟨⟨v, rfl, h1, h2⟩, b3⟩
  have HB := (show Hid (Below w.heap.size w w3) from HB1.out.trans (b3.mono HB1.out.size))
  by_cases hz : lkR gs r = 0
  · obtain ⟨xs, hT⟩ := h2 hz
    have tz : (lkR gs r != 0) = false := by rw [hz]; rfl
    obtain ⟨hR, r0, r1⟩ := lkR_zero hz
    obtain ⟨i, rfl⟩ : ∃ i : Nat, r = (i : Int) := ⟨r.toNat, by omega⟩
    have hi : i < gs.length := by omega
    have HI := (show Hid (i < gs.length) from hi)
    have H200 := (show Hid (gs.length ≤ 200) from hR.n2)
    have HZ := (show Hid (lkR gs i = 0) from hz)
    have HC := (show Hid (∀ _ : Unit, Calls Tryz.prog 31 #[v, .int .i64 (i : Int)] w3 fun e w' => CmV w3 w' gs i e ∧ Below w3.heap.size w3 w') from fun _ => comesTo_any hR hi w3 hT)
    clear h1 h2 HN b3 hw1 HB1 hT hz hR
    generalize hcd : lkR gs i = cd at *
    have HCD := (show Hid (lkR gs i = cd) from hcd)
    clear hcd
    go_wp2_with fail
    refine (HC.out ()).mono ?_
    rintro e w4 ⟨⟨u, l, rfl, hl, hm, ho, hub⟩, b4⟩
    obtain ⟨gu, cu, rfl, lb, lu, x0, f0⟩ := own_get ho (j := i) (x := .bool ((l[i]?).getD false)) (by rw [List.getElem?_map, List.getElem?_eq_getElem (by omega)]; rfl)
    obtain ⟨st1, st2⟩ := ho.stored i (.bool true)
    have HB4 := (show Hid (Below w.heap.size w w4) from HB.out.trans (b4.mono HB.out.size))
    have HW5 := (show Hid (Below w.heap.size w (w4.setCell ⟨gu, i, none⟩ (.bool true))) from below_grown HB4.out st2 (fun k e => by cases e; have := HB.out.size; omega))
    have HLs := (show Hid (IsRh gs i (lsB (l.set i true))) from isRh_of hl hi hm)
    have HMk := (show Hid (∀ _ : Unit, Calls Tryz.prog 32 #[.slice (some ⟨gu, 0, none⟩) gs.length cu] (w4.setCell ⟨gu, i, none⟩ (.bool true)) fun e w' => (∃ u, e = .returned u ∧ w'.ownsRow (w4.setCell ⟨gu, i, none⟩ (.bool true)).heap.size 3 1 u (lsB (l.set i true)).length ((lsB (l.set i true)).map nI)) ∧ Below (w4.setCell ⟨gu, i, none⟩ (.bool true)).heap.size (w4.setCell ⟨gu, i, none⟩ (.bool true)) w') from fun _ => by
      refine marked_any (l.set i true) (by rw [List.length_set, hl]; exact H200.out) (B4 := w3.heap.size) (w4.setCell ⟨gu, i, none⟩ (.bool true)) ?_
      rw [List.length_set, hl, List.map_set]
      exact st1)
    have z0 : (0 : Int) ≤ (i : Int) := by omega
    have z1 : (i : Int) < (gs.length : Int) := by omega
    clear HC hl hm ho hub b4 st1 st2 lb lu HB HB4
    go_wp2_with fail
    refine (HMk.out ()).mono ?_
    rintro e w6 ⟨⟨u6, rfl, ho6⟩, b6⟩
    have HB6 := (show Hid (Below w.heap.size w w6) from HW5.out.trans (b6.mono HW5.out.size))
    have HO6 := (show Hid (w6.ownsRow w.heap.size 3 1 u6 (lsB (l.set i true)).length ((lsB (l.set i true)).map nI)) from U.own_base ho6 HW5.out.size)
    clear ho6 b6 HMk HW5
    go_wp2_with fail
    refine bodyPost_ret (v := .tuple #[u6, .int .i64 0]) (by simp [results, Tryz.results12, go_sem]) rfl ⟨⟨u6, _, by rw [HCD.out, HZ.out], ⟨fun _ => HLs.out, fun q => absurd (HCD.out.trans HZ.out) q⟩, HO6.out⟩, HB6.out⟩
  · obtain rfl := h1 hz
    have tz : (lkR gs r != 0) = true := by rw [bne, beq_eq_false_iff_ne.2 hz]; rfl
    have HZ := (show Hid (lkR gs r ≠ 0) from hz)
    clear h1 h2 HN b3 hw1 HB1 hz
    generalize hcd : lkR gs r = cd at *
    have HCD := (show Hid (lkR gs r = cd) from hcd)
    clear hcd
    go_wp2_with fail
    refine bodyPost_ret (v := .tuple #[.slice none 0 0, .int .i64 cd]) (by simp [results, Tryz.results12, go_sem]) rfl ⟨⟨_, [], by rw [HCD.out], ⟨fun q => absurd (HCD.out.symm.trans q) HZ.out, fun _ => rfl⟩, World.ownsRow_nil _ _ _ _⟩, HB.out⟩
end Go.Proofs.YtppggnmlbcdegabGreat.N

namespace Go.Proofs.YtppggnmlbcdegabGreat.N
open Go.RowKit Go.Maps
open Go.Proofs.YtppggnmlbcdegabGreat.T

open U (nI own_get own_slice wpList_app1 below_grown TT Out info_split)
/-- A table of truth values, as values. -/
def bM (M : List (List Bool)) : List (List Value) := M.map fun l => l.map Value.bool
theorem bM_len (M : List (List Bool)) : (bM M).length = M.length := by unfold bM; rw [List.length_map]
theorem bM_get {M : List (List Bool)} {i : Nat} {l : List Bool} (h : M[i]? = some l) : (bM M)[i]? = some (l.map Value.bool) := by unfold bM; rw [List.getElem?_map, h]; rfl
theorem bM_app (M : List (List Bool)) (l : List Bool) : bM (M ++ [l]) = bM M ++ [l.map Value.bool] := by unfold bM; rw [List.map_append]; rfl
/-- Which rule calls which, as a table. -/
def cM (gs : GL) : List (List Bool) := (List.range gs.length).map fun i => (List.range gs.length).map (cG gs i)
theorem cM_get {gs : GL} {i : Nat} (h : i < gs.length) : (cM gs)[i]? = some ((List.range gs.length).map (cG gs i)) := by
  unfold cM; rw [List.getElem?_map, List.getElem?_range h]; rfl
theorem cM_len (gs : GL) : (cM gs).length = gs.length := by unfold cM; rw [List.length_map, List.length_range]
theorem cM_take {gs : GL} {k : Nat} (h : k < gs.length) : (cM gs).take (k + 1) = (cM gs).take k ++ [(List.range gs.length).map (cG gs k)] := by
  rw [List.take_add_one, cM_get h]; rfl
/-- What the first nodes of a pattern call. -/
def rwC (gs : GL) (L : List Nd) (j : Nat) : List Bool := (List.range gs.length).map fun z => (L.take j).any fun n => decide (n.op = 6) && decide (fdG gs n.tx = some z)
theorem rwC_len (gs : GL) (L : List Nd) (j : Nat) : (rwC gs L j).length = gs.length := by unfold rwC; rw [List.length_map, List.length_range]
theorem rwC_zero (gs : GL) (L : List Nd) : rwC gs L 0 = List.replicate gs.length false := by
  unfold rwC
  rw [List.take_zero]
  apply List.ext_getElem?
  intro i
  rw [List.getElem?_map, List.getElem?_replicate]
  by_cases h : i < gs.length
  · rw [List.getElem?_range h, if_pos h]; rfl
  · rw [List.getElem?_eq_none (by rw [List.length_range]; omega), if_neg h]; rfl
theorem rwC_end {gs : GL} {i : Nat} {g : ByteArray × List Nd} (h : gs[i]? = some g) : rwC gs g.2 g.2.length = (List.range gs.length).map (cG gs i) := by
  unfold rwC
  rw [List.take_length]
  refine List.map_congr_left fun z _ => ?_
  unfold cG
  rw [h]
theorem rwC_no {gs : GL} {L : List Nd} {j : Nat} {n : Nd} (h : L[j]? = some n) (h6 : ¬ n.op = 6) : rwC gs L (j + 1) = rwC gs L j := by
  unfold rwC
  refine List.map_congr_left fun z _ => ?_
  rw [List.take_add_one, h, List.any_append]
  simp [h6]
theorem rwC_yes {gs : GL} {L : List Nd} {j i : Nat} {n : Nd} (h : L[j]? = some n) (h6 : n.op = 6) (hf : fdG gs n.tx = some i) : rwC gs L (j + 1) = (rwC gs L j).set i true := by
  have hi := fdG_lt hf
  apply List.ext_getElem?
  intro z
  by_cases hz : z < gs.length
  · by_cases e : z = i
    · subst e
      rw [List.getElem?_set_self (by rw [rwC_len]; exact hz)]
      unfold rwC
      rw [List.getElem?_map, List.getElem?_range hz, List.take_add_one, h]
      simp [List.any_append, h6, hf]
    · rw [List.getElem?_set_ne (Ne.symm e)]
      unfold rwC
      rw [List.getElem?_map, List.getElem?_map, List.getElem?_range hz, List.take_add_one, h]
      have : ¬ i = z := Ne.symm e
      simp [List.any_append, h6, hf, this]
  · rw [List.getElem?_eq_none (by rw [rwC_len]; omega), List.getElem?_eq_none (by rw [List.length_set, rwC_len]; omega)]
theorem Tryz.info45 : (Tryz.prog.info? 73).map (fun i => (i.zero, i.size, i.bytes)) = some (some (.slice none 0 0), 1, 24) := by kernel_rfl
/-- While the document's table of calls is made. -/
structure CaS (w wr : World) (gs : GL) (u v : Value) (k : Nat) (xs : List Value) : Prop where
  b : Below w.heap.size w wr
  x : GX wr w.heap.size u
  t : TT wr (w.heap.size + 1) 73 4 v (bM ((cM gs).take k)) xs
theorem CaS.later {w wr W' : World} {gs : GL} {u v : Value} {k : Nat} {xs : List Value} (h : CaS w wr gs u v k xs) (hb : Below wr.heap.size wr W') : CaS w W' gs u v k xs := ⟨h.b.trans (hb.mono h.b.size), h.x.below hb, h.t.below hb⟩
/-- .. and a row of it. -/
structure CrS (w wr : World) (gs : GL) (u v : Value) (k : Nat) (xs : List Value) (g : Nat) (l : List Bool) : Prop where
  c : CaS w wr gs u v k xs
  o : wr.ownsRow (w.heap.size + 1) 4 1 (.slice (some ⟨g, 0, none⟩) gs.length gs.length) gs.length (l.map Value.bool)
  q : Out v xs g
theorem CrS.later {w wr W' : World} {gs : GL} {u v : Value} {k g : Nat} {xs : List Value} {l : List Bool} (h : CrS w wr gs u v k xs g l) (hb : Below wr.heap.size wr W') : CrS w W' gs u v k xs g l := ⟨h.c.later hb, U.own_below h.o hb, h.q⟩
theorem CrS.set {w wr : World} {gs : GL} {u v : Value} {k g : Nat} {xs : List Value} {l : List Bool} (h : CrS w wr gs u v k xs g l) (i : Nat) : CrS w (wr.setCell ⟨g, i, none⟩ (.bool true)) gs u v k xs g (l.set i true) := by
  obtain ⟨st1, st2⟩ := h.o.stored i (.bool true)
  have hg := (h.o.lt g rfl).1
  refine ⟨⟨below_grown h.c.b st2 (fun k e => by cases e; omega), h.c.x.same (st2.block _ h.c.x.lt (fun e => by injection e with e; omega)), h.c.t.turn h.q st2⟩, by rw [List.map_set]; exact st1, h.q⟩
theorem CrS.push {w wr w5 : World} {gs : GL} {u v : Value} {k g g3 cap3 : Nat} {xs : List Value} {gr : ByteArray × List Nd} (h : CrS w wr gs u v k xs g (rwC gs gr.2 gr.2.length)) (hgr : gs[k]? = some gr) (hk : k < gs.length)
    (ho : w5.ownsRow (w.heap.size + 1) 73 1 (.slice (some ⟨g3, 0, none⟩) (xs.length + 1) cap3) (xs.length + 1) (xs ++ [.slice (some ⟨g, 0, none⟩) gs.length gs.length])) (hg : wr.grownBy w5 v.ownBlock) (hat : v.ownBlock = some g3 ∨ g3 = wr.heap.size + 1) :
    CaS w w5 gs u (.slice (some ⟨g3, 0, none⟩) (xs.length + 1) cap3) (k + 1) (xs ++ [.slice (some ⟨g, 0, none⟩) gs.length gs.length]) := by
  have hv : ∀ j, v.ownBlock = some j → w.heap.size + 1 ≤ j := fun j e => (h.c.t.o.lt j e).1
  refine ⟨below_grown h.c.b hg (fun j e => by have := hv j e; omega), h.c.x.same (hg.block _ h.c.x.lt (fun e => by have := hv _ e.symm; omega)), ?_⟩
  rw [cM_take hk, bM_app]
  refine h.c.t.push (y := .slice (some ⟨g, 0, none⟩) gs.length gs.length) ?_ (fun j e => by cases e; exact h.q) ho hg (fun j e => by
    have e : g3 = j := Option.some.inj e
    subst e
    rcases hat with q | q
    · exact .inl q
    · exact .inr (by omega))
  rw [← rwC_end hgr, List.length_map, rwC_len]
  exact h.o
set_option maxRecDepth 100000 in
set_option maxHeartbeats 16000000 in
theorem callsT_any {gs : GL} (hR : RtG gs) (A : Option Addr) (c : Nat) (w : World) (hp : GI w A gs) :
    Calls Tryz.prog 53 #[.agg #[.slice A gs.length c]] w fun e w' => (∃ v xs, e = .returned v ∧ TT w' (w.heap.size + 1) 73 4 v (bM (cM gs)) xs) ∧ Below w.heap.size w w' := by
  have hn := hR.n2
  obtain ⟨w1, hw1⟩ : ∃ w1, w1 = w.alloc (.cells #[.slice A gs.length c] 24) := ⟨_, rfl⟩
  have HE0 := (show Hid (w.alloc (.cells #[.slice A gs.length c] 24) = w1) from hw1.symm)
  have HS := (show Hid (CaS w w1 gs (.slice A gs.length c) (.slice none 0 0) 0 []) from by
    show CaS _ _ _ _ _ _ _
    rw [hw1]
    exact ⟨below_box _ _, GX.mk (heap_alloc_new w _), TT.nil _ _ _ _⟩)
  have HMk := (show Hid (∀ wr : World, Below w.heap.size w wr → w.heap.size + 1 ≤ wr.heap.size → ∃ w2, (Instr.makeSlice 73 (.int .i64 (gs.length : Int)) (.int .i64 (gs.length : Int))).run Tryz.prog wr = .ok (.slice (some ⟨wr.heap.size, 0, none⟩) gs.length gs.length) w2 ∧ w2.ownsRow (w.heap.size + 1) 4 1 (.slice (some ⟨wr.heap.size, 0, none⟩) gs.length gs.length) gs.length (List.replicate gs.length (.bool false)) ∧ wr.grownBy w2 none) from fun wr _ hb => by
    obtain ⟨i0, hinf, hz0, hz1, hz2⟩ := info_split Tryz.info4
    obtain ⟨w2, hmk, ho2, hg2⟩ := run_make_full (P := Tryz.prog) wr (w.heap.size + 1) 73 4 i0 (.bool false) 1 Tryz.underlying73 hinf hz0 hz1 .i64 .i64 gs.length (by rw [hz2]; omega) (by unfold maxLen; omega) hb
    have e : (madeCells (Value.cells (.bool false)) (gs.length * 1)).toList = List.replicate gs.length (Value.bool false) := by rw [Nat.mul_one]; exact toList_madeCells_one _ _
    rw [e] at ho2
    exact ⟨w2, hmk, ho2, hg2⟩)
  have HP := (show Hid (GI w A gs) from hp)
  have HR := (show Hid (RtG gs) from hR)
  clear hp hR hw1
  go_enter Tryz.func53, Tryz.ntmps53
  go_wp2_with (rw [HE0.out])
  clear HE0
  go_loopw [3, 4] (fun v t wr => ∃ (k : Nat) (xs : List Value) (A2 : Option Addr) (c2 : Nat), k ≤ gs.length ∧ t = .int .i64 (k : Int) ∧ v = .slice A2 k c2 ∧ Hid (xs.length = k) ∧ Hid (CaS w wr gs (.slice A gs.length c) (.slice A2 k c2) k xs)) (fun _ t _ => gs.length - (intOf t).toNat)
  case atStart => exact ⟨0, [], none, 0, by omega, by go_num, rfl, rfl, HS⟩
  case round =>
    obtain ⟨k, xs, A2, c2, hk, rfl, rfl, HL, HW⟩ := hrel
    clear HS
    have q1 := HW.out.x.cl
    by_cases hlt : k < gs.length
    · obtain ⟨g, hg⟩ : ∃ g, gs[k]? = some g := ⟨_, List.getElem?_eq_getElem hlt⟩
      obtain ⟨b, o, A3, c3, rfl, lb, _, x1, r2⟩ := HP.out.d k g hg
      obtain ⟨w2, hmk, ho2, hg2⟩ := HMk.out wr HW.out.b HW.out.x.lt
      have HS2 := (show Hid (CrS w w2 gs (.slice (some ⟨b, o, none⟩) gs.length c) (.slice A2 k c2) k xs wr.heap.size (rwC gs g.2 0)) from ⟨HW.out.later (below_grown (Below.refl _ _) hg2 (fun j e => by cases e)), by rw [rwC_zero, List.map_replicate]; exact ho2, HW.out.t.new (Nat.le_refl _)⟩)
      have z0 : (0 : Int) ≤ (k : Int) := by omega
      have z1 : (k : Int) < (gs.length : Int) := by omega
      have HLb := (show Hid (b < w.heap.size ∧ w.cell? ⟨b, o + k * 2 + 1, none⟩ = some (.slice A3 g.2.length c3)) from ⟨lb, x1⟩)
      have HR2 := (show Hid (RdN w A3 g.2) from r2)
      have HGk := (show Hid (gs[k]? = some g) from hg)
      have HN := (show Hid (∀ j, j < g.2.length → ∃ n, g.2[j]? = some n ∧ g.2 ≠ [] ∧ (n.op = 6 → ∃ i, fdG gs n.tx = some i)) from fun j hj => ⟨_, List.getElem?_eq_getElem hj, by (intro q; rw [q] at hj; simp at hj), fun h6 => HR.out.dn.c g (List.mem_of_getElem? hg) _ (List.getElem_mem hj) h6⟩)
      have hgl : g.2.length ≤ 140737488355328 := (HP.out.t g (List.mem_of_getElem? hg)).2.1
      clear hg r2 lb x1 HW ho2 hg2 HMk HR
      go_wp2_with fail
      clear hmk q1
      generalize wr.heap.size = g5 at *
      go_loopw [6] (fun t wr => ∃ j : Nat, j ≤ g.2.length ∧ t = .int .i64 (j : Int) ∧ Hid (CrS w wr gs (.slice (some ⟨b, o, none⟩) gs.length c) (.slice A2 k c2) k xs g5 (rwC gs g.2 j))) (fun t _ => g.2.length - (intOf t).toNat)
      case atStart => exact ⟨0, by omega, by go_num, HS2⟩
      case round =>
        obtain ⟨j, hj, rfl, HW⟩ := hrel
        clear HS2
        have q1 := HW.out.c.x.cl
        have x1' := (HW.out.c.b.cell (p := ⟨b, o + k * 2 + 1, none⟩) HLb.out.1).trans HLb.out.2
        by_cases hjl : j < g.2.length
        · obtain ⟨n, hn1, nl, h6f⟩ := HN.out j hjl
          obtain ⟨g1, o1, rfl, l1, q2⟩ := HR2.out nl
          obtain ⟨a0, a1, a2, a3, a4, a5, a6⟩ := (q2.same (HW.out.c.b.block g1 l1)) j n hn1
          have y0 : (0 : Int) ≤ (j : Int) := by omega
          have y1 : (j : Int) < (g.2.length : Int) := by omega
          have HW2 := (show Hid (CrS w (wr.alloc (ndO n)) gs (.slice (some ⟨b, o, none⟩) gs.length c) (.slice A2 k c2) k xs g5 (rwC gs g.2 j)) from HW.out.later (below_box _ _))
          have q3 := HW2.out.c.x.cl
          clear HN HR2 q2 HW nl
          by_cases h6 : n.op = 6
          · have t6 : (n.op == 6) = true := by rw [h6]; rfl
            obtain ⟨i, hf⟩ := h6f h6
            have hi := fdG_lt hf
            have HFi : Hid (∀ W, Below w.heap.size w W → Calls Tryz.prog 19 #[.agg #[.slice (some ⟨b, o, none⟩) gs.length c], .string n.tx] W fun e w' => e = .returned (.int .i64 (i : Int)) ∧ Below W.heap.size W w') := fun W hW => by
              have h := find_any gs (some ⟨b, o, none⟩) c n.tx W (HP.out.later hW)
              rw [fdN_some hf] at h
              exact h
            have HX := (show Hid (rwC gs g.2 (j + 1) = (rwC gs g.2 j).set i true) from rwC_yes hn1 h6 hf)
            have v0 : (0 : Int) ≤ (i : Int) := by omega
            have v1 : (i : Int) < (gs.length : Int) := by omega
            clear hn1 h6f h6 hf HP
            go_wp2_with fail
            refine (HFi.out _ HW2.out.c.b).mono ?_
            rintro e w4 ⟨rfl, b4⟩
            have HW4 := (show Hid (CrS w w4 gs (.slice (some ⟨b, o, none⟩) gs.length c) (.slice A2 k c2) k xs g5 (rwC gs g.2 j)) from HW2.out.later b4)
            obtain ⟨gm, cm, em, _, _, xm, fm⟩ := own_get HW4.out.o (j := i) (x := .bool (((rwC gs g.2 j)[i]?).getD false)) (by rw [List.getElem?_map, List.getElem?_eq_getElem (by rw [rwC_len]; exact hi)]; rfl)
            have emg : g5 = gm := by injection em with e1; injection e1 with e1; injection e1
            clear em
            subst emg
            have HW5 := (show Hid (CrS w (w4.setCell ⟨g5, i, none⟩ (.bool true)) gs (.slice (some ⟨b, o, none⟩) gs.length c) (.slice A2 k c2) k xs g5 (rwC gs g.2 (j + 1))) from by show CrS _ _ _ _ _ _ _ _ _; rw [HX.out]; exact HW4.out.set i)
            clear HFi b4 HW2 HW4 HX a0 a1 a2 a3 a4 a5 a6 q3 q1 x1' hi
            go_wp2_with fail
            go_roundw
            case rel => exact ⟨j + 1, by omega, by go_num, HW5⟩
            case measure => simp [intOf]; omega
          · have t6 : (n.op == 6) = false := beq_eq_false_iff_ne.2 h6
            have HW5 := (show Hid (CrS w (wr.alloc (ndO n)) gs (.slice (some ⟨b, o, none⟩) gs.length c) (.slice A2 k c2) k xs g5 (rwC gs g.2 (j + 1))) from by show CrS _ _ _ _ _ _ _ _ _; rw [rwC_no hn1 h6]; exact HW2.out)
            clear hn1 h6f h6 HP HW2
            go_wp2_with fail
            go_roundw
            case rel => exact ⟨j + 1, by omega, by go_num, HW5⟩
            case measure => simp [intOf]; omega
        · obtain rfl : j = g.2.length := by omega
          have HO := (show Hid (wr.ownsRow (w.heap.size + 1) 73 1 (.slice A2 k c2) k xs) from by have h := HW.out.c.t.o; rw [HL.out] at h; exact h)
          have HBw := (show Hid (w.heap.size + 1 ≤ wr.heap.size) from HW.out.c.x.lt)
          have HPu := (show Hid (∀ (g3 cap3 : Nat) (w5 : World), w5.ownsRow (w.heap.size + 1) 73 1 (.slice (some ⟨g3, 0, none⟩) (k + 1) cap3) (k + 1) (xs ++ [.slice (some ⟨g5, 0, none⟩) gs.length gs.length]) → wr.grownBy w5 (Value.slice A2 k c2).ownBlock → ((Value.slice A2 k c2).ownBlock = some g3 ∨ g3 = wr.heap.size + 1) → CaS w w5 gs (.slice (some ⟨b, o, none⟩) gs.length c) (.slice (some ⟨g3, 0, none⟩) (k + 1) cap3) (k + 1) (xs ++ [.slice (some ⟨g5, 0, none⟩) gs.length gs.length])) from fun g3 cap3 w5 h1 h2 h3 => by
            have h := HW.out.push (g3 := g3) (cap3 := cap3) HGk.out hlt (by rw [HL.out]; exact h1) h2 h3
            rw [HL.out] at h
            exact h)
          have HL2 := (show Hid ((xs ++ [Value.slice (some ⟨g5, 0, none⟩) gs.length gs.length]).length = k + 1) from by show _ = _; rw [List.length_append, HL.out]; rfl)
          clear HW HL HN HR2 HGk HP
          go_wp2_with (at_builtin; refine wpList_app1 rfl _ _ 68 rfl (.slice none 0 0) 24 Tryz.underlying68 Tryz.info45 rfl (w.heap.size + 1) k _ xs rfl rfl HO.out rfl (by omega) (by decide) HBw.out ?_; intro g3 cap3 w5 ho5 hg5 hat5 hl5; have HW5 := (show Hid (CaS w w5 gs (.slice (some ⟨b, o, none⟩) gs.length c) (.slice (some ⟨g3, 0, none⟩) (k + 1) cap3) (k + 1) (xs ++ [.slice (some ⟨g5, 0, none⟩) gs.length gs.length])) from HPu.out g3 cap3 w5 ho5 hg5 hat5); clear ho5 hg5 hat5 hl5 HPu HO HBw q1 x1')
          go_roundw
          case rel => exact ⟨k + 1, xs ++ [.slice (some ⟨g5, 0, none⟩) gs.length gs.length], some ⟨g3, 0, none⟩, cap3, by omega, by go_num, rfl, HL2, HW5⟩
          case measure => simp [intOf]; omega
    · obtain rfl : k = gs.length := by omega
      have HT := (show Hid (TT wr (w.heap.size + 1) 73 4 (.slice A2 gs.length c2) (bM (cM gs)) xs) from by
        show TT _ _ _ _ _ _ _
        have h := HW.out.t
        rw [show (cM gs).take gs.length = cM gs from List.take_of_length_le (by rw [cM_len]; omega)] at h
        exact h)
      have HB := (show Hid (Below w.heap.size w wr) from HW.out.b)
      clear HW HL HMk HP HR
      go_wp2_with fail
      go_ret
      exact ⟨⟨_, xs, rfl, HT.out⟩, HB.out⟩
end Go.Proofs.YtppggnmlbcdegabGreat.N

namespace Go.Proofs.YtppggnmlbcdegabGreat.N
open Go.RowKit Go.Maps
open Go.Proofs.YtppggnmlbcdegabGreat.T

open U (nI own_get own_slice wpList_app1 below_grown TT Out info_split)
/-- A table of truth values that the call owns, between the calls and what is come to. -/
structure CoS (w wr : World) (gs : GL) (v : Value) (M : List (List Bool)) (xs : List Value) : Prop where
  b : Below w.heap.size w wr
  t : TT wr (w.heap.size + 1) 73 4 v (bM M) xs
  i : MI gs.length (cG gs) M
theorem CoS.get {w wr : World} {gs : GL} {g0 cv : Nat} {M : List (List Bool)} {xs : List Value} (h : CoS w wr gs (.slice (some ⟨g0, 0, none⟩) gs.length cv) M xs) {i k : Nat} (hi : i < gs.length) (hk : k < gs.length) : ∃ gi ci, xs[i]? = some (.slice (some ⟨gi, 0, none⟩) gs.length ci) ∧ wr.cell? ⟨g0, i, none⟩ = some (.slice (some ⟨gi, 0, none⟩) gs.length ci) ∧ wr.cell? ⟨gi, k, none⟩ = some (.bool (tb M i k)) ∧ wr.frozen? ⟨gi, k, none⟩ = false := by
  obtain ⟨l, hl, hll⟩ := h.i.t.at' hi
  obtain ⟨x, r, hx, hr, ho⟩ := h.t.at' (i := i) (by rw [bM_len, h.i.t.len]; exact hi)
  rw [bM_get hl] at hr
  cases hr
  rw [List.length_map, hll] at ho
  obtain ⟨g1, c1, e1, _, _, x1, f1⟩ := own_get ho (j := k) (x := .bool (tb M i k)) (by
    rw [List.getElem?_map, tb_of hl, List.getElem?_eq_getElem (by omega)]; rfl)
  subst e1
  have hlx : xs.length = gs.length := h.t.len.trans ((bM_len M).trans h.i.t.len)
  obtain ⟨g2, c2, e2, _, _, x2, _⟩ := own_get h.t.o hx
  have e3 : g0 = g2 := by injection e2 with e3; injection e3 with e3; injection e3
  subst e3
  exact ⟨g1, c1, hx, x2, x1, f1⟩
theorem bM_tbS {n : Nat} {M : List (List Bool)} (_h : Tb n M) {i j : Nat} {l : List Bool} (hl : M[i]? = some l) : (bM M).set i ((l.map Value.bool).set j (.bool true)) = bM (tbS M i j) := by
  rw [tbS_row hl]
  unfold bM
  rw [List.map_set, List.map_set]
theorem CoS.put {w wr : World} {gs : GL} {g0 cv gi ci : Nat} {M : List (List Bool)} {xs : List Value} (h : CoS w wr gs (.slice (some ⟨g0, 0, none⟩) gs.length cv) M xs) {i k j : Nat} (hx : xs[i]? = some (.slice (some ⟨gi, 0, none⟩) gs.length ci)) (h1 : tb M i k = true) (h2 : tb M k j = true) : CoS w (wr.setCell ⟨gi, j, none⟩ (.bool true)) gs (.slice (some ⟨g0, 0, none⟩) gs.length cv) (tbS M i j) xs := by
  obtain ⟨hi, _⟩ := tb_lt h.i.t h1
  obtain ⟨l, hl, _⟩ := h.i.t.at' hi
  obtain ⟨s1, s2⟩ := h.t.store (j := j) hx (bM_get hl) (.bool true)
  rw [bM_tbS h.i.t hl] at s1
  exact ⟨below_grown h.b s2 (fun q e => by cases e; have h9 : w.heap.size + 1 ≤ gi := (h.t.lt hx rfl).1; omega), s1, h.i.step h1 h2⟩
/-- How far it has been gone over, and what came of it. -/
structure ScI (M0 M : List (List Bool)) (more : Bool) (P : Nat → Nat → Nat → Prop) : Prop where
  a : more = false → M = M0 ∧ ∀ i k j, P i k j → tb M i k = true → tb M k j = true → tb M i j = true
  c : more = true → cnT M + 1 ≤ cnT M0
theorem ScI.mono {M0 M : List (List Bool)} {more : Bool} {P Q : Nat → Nat → Nat → Prop} (h : ScI M0 M more P) (hq : ∀ i k j, Q i k j → P i k j ∨ (tb M i k = true → tb M k j = true → tb M i j = true)) : ScI M0 M more Q :=
  ⟨fun e => ⟨(h.a e).1, fun i k j q h1 h2 => by
    rcases hq i k j q with p | p
    · exact (h.a e).2 i k j p h1 h2
    · exact p h1 h2⟩, h.c⟩
theorem ScI.less {n : Nat} {M0 M : List (List Bool)} {more : Bool} {P Q : Nat → Nat → Nat → Prop} (h : ScI M0 M more P) (ht : Tb n M) {i j : Nat} (hi : i < n) (hj : j < n) (q : tb M i j = false) : ScI M0 (tbS M i j) true Q := by
  have hc := cnT_less ht hi hj q
  refine ⟨(fun e => by cases e), fun _ => ?_⟩
  cases hm : more
  · rw [(h.a hm).1] at hc ⊢; omega
  · have := h.c hm; omega
def V2 (n i a b c : Nat) : Prop := a < i ∧ b < n ∧ c < n
def V3 (n i k a b c : Nat) : Prop := V2 n i a b c ∨ (a = i ∧ b < k ∧ c < n)
def V4 (n i k j a b c : Nat) : Prop := V3 n i k a b c ∨ (a = i ∧ b = k ∧ c < j)
/-- Behind a round of the whole: the table so far, closed where nothing was added. -/
structure CmR (n : Nat) (M : List (List Bool)) (more : Bool) (gk : Nat) : Prop where
  z : more = false → ∀ i k j, i < n → k < n → j < n → tb M i k = true → tb M k j = true → tb M i j = true
  m : cnT M + (if more then 1 else 0) ≤ gk
set_option maxRecDepth 100000 in
set_option maxHeartbeats 32000000 in
theorem comes_any {gs : GL} (hR : RtG gs) (A : Option Addr) (c : Nat) (w : World) (hp : GI w A gs) :
    Calls Tryz.prog 54 #[.agg #[.slice A gs.length c]] w fun e w' => (∃ v xs M, e = .returned v ∧ TT w' w.heap.size 73 4 v (bM M) xs ∧ Tb gs.length M ∧ IsR gs.length (cG gs) (tb M)) ∧ Below w.heap.size w w' := by
  have hn := hR.n2
  have hcG : ∀ i j, cG gs i j = true → i < gs.length ∧ j < gs.length := fun i j q => by
    unfold cG at q
    cases hg : gs[i]? with
    | none => rw [hg] at q; cases q
    | some g =>
      rw [hg] at q
      simp only [List.any_eq_true, Bool.and_eq_true, decide_eq_true_eq] at q
      obtain ⟨nd, _, _, h3⟩ := q
      exact ⟨(List.getElem?_eq_some_iff.1 hg).1, fdG_lt h3⟩
  have hMI : MI gs.length (cG gs) (cM gs) := by
    have htb : ∀ i j, i < gs.length → j < gs.length → tb (cM gs) i j = cG gs i j := fun i j hi hj => by
      rw [tb_of (cM_get hi), List.getElem?_map, List.getElem?_range hj]; rfl
    have hT : Tb gs.length (cM gs) := ⟨cM_len gs, fun l hl => by
      obtain ⟨i, hi, rfl⟩ := List.mem_iff_getElem.1 hl
      have h2 := cM_get (gs := gs) (i := i) (by rw [cM_len] at hi; exact hi)
      rw [List.getElem?_eq_getElem hi] at h2
      rw [Option.some.inj h2, List.length_map, List.length_range]⟩
    exact ⟨hT, fun i j q => by rw [htb i j (hcG i j q).1 (hcG i j q).2]; exact q, fun i j q => by
      obtain ⟨hi, hj⟩ := tb_lt hT q
      rw [htb i j hi hj] at q
      exact Rc.of q⟩
  obtain ⟨w1, hw1⟩ : ∃ w1, w1 = w.alloc (.cells #[.slice A gs.length c] 24) := ⟨_, rfl⟩
  have HE0 := (show Hid (w.alloc (.cells #[.slice A gs.length c] 24) = w1) from hw1.symm)
  have q1 : w1.cell? ⟨w.heap.size, 0, none⟩ = some (.slice A gs.length c) := by rw [hw1]; exact (GX.mk (heap_alloc_new w _)).cl
  have hb1 : Below w.heap.size w w1 := by rw [hw1]; exact below_box _ _
  have hs1 : w1.heap.size = w.heap.size + 1 := by rw [hw1, World.size_alloc]
  have HC := (show Hid (∀ _ : Unit, Calls Tryz.prog 53 #[.agg #[.slice A gs.length c]] w1 fun e w' => (∃ v xs, e = .returned v ∧ TT w' (w1.heap.size + 1) 73 4 v (bM (cM gs)) xs) ∧ Below w1.heap.size w1 w') from fun _ => callsT_any hR A c w1 (hp.later hb1))
  have HcG := (show Hid (∀ i j, cG gs i j = true → i < gs.length ∧ j < gs.length) from hcG)
  have HMI := (show Hid (MI gs.length (cG gs) (cM gs)) from hMI)
  have HB1 := (show Hid (Below w.heap.size w w1 ∧ w1.heap.size = w.heap.size + 1) from ⟨hb1, hs1⟩)
  have HN1 := (show Hid (1 ≤ gs.length) from hR.n1)
  clear hp hR hw1 hcG hMI hb1 hs1
  go_enter Tryz.func54, Tryz.ntmps54
  go_wp2_with (rw [HE0.out])
  refine (HC.out ()).mono ?_
  rintro e w2 ⟨⟨v, xs, rfl, hT⟩, b2⟩
  have HS : Hid (CoS w w2 gs v (cM gs) xs) := ⟨HB1.out.1.trans (b2.mono HB1.out.1.size), hT.base (by have := HB1.out.2; omega), HMI.out⟩
  have hlx : xs.length = gs.length := hT.len.trans ((bM_len _).trans (cM_len gs))
  obtain ⟨g0, cv, rfl, _, _⟩ := hT.o.form (by rw [hlx]; exact HN1.out)
  rw [hlx] at HS ⊢
  clear HC HE0 b2 hT hlx HMI HB1 HN1 q1
  go_wp2_with fail
  go_loopg [4] (cnT (cM gs) + 1) (fun gk mv wr => ∃ (more : Bool) (M : List (List Bool)), mv = .bool more ∧ Hid (CoS w wr gs (.slice (some ⟨g0, 0, none⟩) gs.length cv) M xs) ∧ Hid (CmR gs.length M more gk))
  case atStart => exact ⟨true, cM gs, rfl, HS, ⟨(fun q => by cases q), by simp⟩⟩
  case round =>
    obtain ⟨more, M0, rfl, HW, HG⟩ := hrel
    clear HS
    cases more with
    | false =>
      have HT := (show Hid (TT wr w.heap.size 73 4 (.slice (some ⟨g0, 0, none⟩) gs.length cv) (bM M0) xs) from HW.out.t.base (Nat.le_succ _))
      have HI := (show Hid (IsR gs.length (cG gs) (tb M0)) from HW.out.i.done HcG.out (fun i k j h1 h2 h3 => HG.out.z rfl i k j h1 h2 h3))
      have HTb := (show Hid (Tb gs.length M0) from HW.out.i.t)
      have HB := (show Hid (Below w.heap.size w wr) from HW.out.b)
      clear HW HG HcG
      go_wp2_with fail
      go_ret
      exact ⟨⟨_, xs, M0, rfl, HT.out, HTb.out, HI.out⟩, HB.out⟩
    | true =>
      have HGk := (show Hid (cnT M0 + 1 ≤ gk) from by show cnT M0 + 1 ≤ gk; have h := HG.out.m; simpa using h)
      have HSc := (show Hid (ScI M0 M0 false (V2 gs.length 0)) from ⟨(fun _ => ⟨rfl, fun i k j q => by have := q.1; omega⟩), (fun q => by cases q)⟩)
      clear HG
      go_wp2_with fail
      go_loopw [4, 5] (fun mv t wr => ∃ (more : Bool) (i : Nat) (M : List (List Bool)), i ≤ gs.length ∧ t = .int .i64 (i : Int) ∧ mv = .bool more ∧ Hid (CoS w wr gs (.slice (some ⟨g0, 0, none⟩) gs.length cv) M xs) ∧ Hid (ScI M0 M more (V2 gs.length i))) (fun _ t _ => gs.length - (intOf t).toNat)
      case atStart => exact ⟨false, 0, M0, by omega, by go_num, rfl, HW, HSc⟩
      case round =>
        obtain ⟨more, i, M, hi, rfl, rfl, HW, HX⟩ := hrel
        clear HSc
        by_cases hil : i < gs.length
        · have HSc := (show Hid (ScI M0 M more (V3 gs.length i 0)) from HX.out.mono (fun a b c q => by
            rcases q with q | ⟨_, q, _⟩
            · exact .inl q
            · omega))
          clear HX
          go_wp2_with fail
          go_loopw [4, 6] (fun mv t wr => ∃ (more : Bool) (k : Nat) (M : List (List Bool)), k ≤ gs.length ∧ t = .int .i64 (k : Int) ∧ mv = .bool more ∧ Hid (CoS w wr gs (.slice (some ⟨g0, 0, none⟩) gs.length cv) M xs) ∧ Hid (ScI M0 M more (V3 gs.length i k))) (fun _ t _ => gs.length - (intOf t).toNat)
          case atStart => exact ⟨more, 0, M, by omega, by go_num, rfl, HW, HSc⟩
          case round =>
            obtain ⟨more, k, M, hk, rfl, rfl, HW, HX⟩ := hrel
            clear HSc
            by_cases hkl : k < gs.length
            · have HSc := (show Hid (ScI M0 M more (V4 gs.length i k 0)) from HX.out.mono (fun a b c q => by
                rcases q with q | ⟨_, _, q⟩
                · exact .inl q
                · omega))
              clear HX
              go_wp2_with fail
              go_loopw [4, 7] (fun mv t wr => ∃ (more : Bool) (j : Nat) (M : List (List Bool)), j ≤ gs.length ∧ t = .int .i64 (j : Int) ∧ mv = .bool more ∧ Hid (CoS w wr gs (.slice (some ⟨g0, 0, none⟩) gs.length cv) M xs) ∧ Hid (ScI M0 M more (V4 gs.length i k j))) (fun _ t _ => gs.length - (intOf t).toNat)
              case atStart => exact ⟨more, 0, M, by omega, by go_num, rfl, HW, HSc⟩
              case round =>
                obtain ⟨more, j, M, hj, rfl, rfl, HW, HX⟩ := hrel
                clear HSc
                have z0 : (0 : Int) ≤ (i : Int) := by omega
                have z1 : (i : Int) < (gs.length : Int) := by omega
                have z2 : (0 : Int) ≤ (k : Int) := by omega
                have z3 : (k : Int) < (gs.length : Int) := by omega
                obtain ⟨gi, ci, hxi, c1, d1, _⟩ := HW.out.get hil hkl
                cases hik : tb M i k with
                | false =>
                  rw [hik] at d1
                  have HX2 := (show Hid (ScI M0 M more (V3 gs.length i (k + 1))) from HX.out.mono (fun a b c q => by
                    rcases q with q | ⟨rfl, q1, q2⟩
                    · exact .inl (.inl (.inl q))
                    · by_cases e : b = k
                      · subst e; exact .inr (fun h => by rw [hik] at h; cases h)
                      · exact .inl (.inl (.inr ⟨rfl, by omega, q2⟩))))
                  clear HX hxi hik
                  go_wp2_with fail
                  go_roundw
                  case rel => exact ⟨more, k + 1, M, by omega, by go_num, rfl, HW, HX2⟩
                  case measure => simp [intOf]; omega
                | true =>
                  rw [hik] at d1
                  by_cases hjl : j < gs.length
                  · have y0 : (0 : Int) ≤ (j : Int) := by omega
                    have y1 : (j : Int) < (gs.length : Int) := by omega
                    obtain ⟨gk2, ck2, _, c2, d2, _⟩ := HW.out.get hkl hjl
                    obtain ⟨gi', ci', hxi', c3, d3, f3⟩ := HW.out.get hil hjl
                    rw [hxi] at hxi'
                    obtain ⟨rfl, rfl⟩ : gi = gi' ∧ ci = ci' := by
                      have e := Option.some.inj hxi'
                      injection e with e1 _ e3
                      injection e1 with e1
                      injection e1 with e1
                      exact ⟨e1, e3⟩
                    clear c3 hxi'
                    cases hkj : tb M k j with
                    | false =>
                      rw [hkj] at d2
                      have HX2 := (show Hid (ScI M0 M more (V4 gs.length i k (j + 1))) from HX.out.mono (fun a b c q => by
                        rcases q with q | ⟨rfl, rfl, q⟩
                        · exact .inl (.inl q)
                        · by_cases e : c = j
                          · subst e; exact .inr (fun _ h => by rw [hkj] at h; cases h)
                          · exact .inl (.inr ⟨rfl, rfl, by omega⟩)))
                      clear HX hxi hik hkj
                      go_wp2_with fail
                      go_roundw
                      case rel => exact ⟨more, j + 1, M, by omega, by go_num, rfl, HW, HX2⟩
                      case measure => simp [intOf]; omega
                    | true =>
                      rw [hkj] at d2
                      cases hij : tb M i j with
                      | true =>
                        rw [hij] at d3
                        have HX2 := (show Hid (ScI M0 M more (V4 gs.length i k (j + 1))) from HX.out.mono (fun a b c q => by
                          rcases q with q | ⟨rfl, rfl, q⟩
                          · exact .inl (.inl q)
                          · by_cases e : c = j
                            · subst e; exact .inr (fun _ _ => hij)
                            · exact .inl (.inr ⟨rfl, rfl, by omega⟩)))
                        clear HX hxi hik hkj hij
                        go_wp2_with fail
                        go_roundw
                        case rel => exact ⟨more, j + 1, M, by omega, by go_num, rfl, HW, HX2⟩
                        case measure => simp [intOf]; omega
                      | false =>
                        rw [hij] at d3
                        have HX2 := (show Hid (ScI M0 (tbS M i j) true (V4 gs.length i k (j + 1))) from HX.out.less HW.out.i.t hil hjl hij)
                        have HW2 := (show Hid (CoS w (wr.setCell ⟨gi, j, none⟩ (.bool true)) gs (.slice (some ⟨g0, 0, none⟩) gs.length cv) (tbS M i j) xs) from HW.out.put hxi hik hkj)
                        clear HX hxi hik hkj hij HW
                        go_wp2_with fail
                        go_roundw
                        case rel => exact ⟨true, j + 1, tbS M i j, by omega, by go_num, rfl, HW2, HX2⟩
                        case measure => simp [intOf]; omega
                  · obtain rfl : j = gs.length := by omega
                    have HX2 := (show Hid (ScI M0 M more (V3 gs.length i (k + 1))) from HX.out.mono (fun a b c q => by
                      rcases q with q | ⟨rfl, q1, q2⟩
                      · exact .inl (.inl (.inl q))
                      · by_cases e : b = k
                        · subst e; exact .inl (.inr ⟨rfl, rfl, q2⟩)
                        · exact .inl (.inl (.inr ⟨rfl, by omega, q2⟩))))
                    clear HX hxi hik
                    go_wp2_with fail
                    go_roundw
                    case rel => exact ⟨more, k + 1, M, by omega, by go_num, rfl, HW, HX2⟩
                    case measure => simp [intOf]; omega
            · obtain rfl : k = gs.length := by omega
              have HX2 := (show Hid (ScI M0 M more (V2 gs.length (i + 1))) from HX.out.mono (fun a b c q => by
                by_cases e : a = i
                · subst e; exact .inl (.inr ⟨rfl, q.2.1, q.2.2⟩)
                · exact .inl (.inl ⟨by have := q.1; omega, q.2.1, q.2.2⟩)))
              clear HX
              go_wp2_with fail
              go_roundw
              case rel => exact ⟨more, i + 1, M, by omega, by go_num, rfl, HW, HX2⟩
              case measure => simp [intOf]; omega
        · obtain rfl : i = gs.length := by omega
          have HR2 := (show Hid (CmR gs.length M more (cnT M + (if more then 1 else 0))) from ⟨fun q i k j h1 h2 h3 => (HX.out.a q).2 i k j ⟨h1, h2, h3⟩, Nat.le_refl _⟩)
          have HL2 := (show Hid (cnT M + (if more then 1 else 0) < gk) from by
            have h0 := HGk.out
            show cnT M + (if more then 1 else 0) < gk
            cases hm : more
            · have h1 := (HX.out.a hm).1
              rw [h1]; simp; omega
            · have h1 := HX.out.c hm
              simp; omega)
          clear HX HGk HcG
          go_wp2_with fail
          go_roundg (cnT M + (if more then 1 else 0))
          case measure => exact HL2.out
          case rel => exact ⟨more, M, rfl, HW, HR2⟩
end Go.Proofs.YtppggnmlbcdegabGreat.N

namespace Go.Proofs.YtppggnmlbcdegabGreat.N
open Go.RowKit Go.Maps
open Go.Proofs.YtppggnmlbcdegabGreat.T

open U (nI own_get own_slice wpList_app1 below_grown TT Out info_split)
set_option maxRecDepth 100000 in
set_option maxHeartbeats 4000000 in
theorem sameI_any (v1 v2 : Value) (B1 B2 n : Nat) (l : List Nat) (hl : n ≤ 100000) (w : World) (h1 : w.ownsRow B1 3 1 v1 n (l.map nI)) (h2 : w.ownsRow B2 3 1 v2 n (l.map nI)) :
    Calls Tryz.prog 37 #[v1, v2] w fun e w' => e = .returned (.bool true) ∧ Below w.heap.size w w' := by
  have form : ∀ (v : Value) (B : Nat), w.ownsRow B 3 1 v n (l.map nI) → ∃ A c, v = .slice A n c ∧ (0 < n → ∃ g, A = some ⟨g, 0, none⟩ ∧ g < w.heap.size ∧ ∀ (j : Nat) (x : Nat), l[j]? = some x → w.cell? ⟨g, j, none⟩ = some (nI x)) := fun v B h => by
    have hc := h
    rcases h.2 with ⟨rfl, h0⟩ | ⟨g, cap, cur, rfl, _⟩
    · exact ⟨none, 0, by rw [h0], fun q => by omega⟩
    · refine ⟨_, cap, rfl, fun _ => ⟨g, rfl, (hc.lt g rfl).2, fun j x hj => ?_⟩⟩
      have := hc.cells (g := g) rfl j (nI x) (by rw [List.getElem?_map, hj]; rfl)
      rwa [Addr.add_lit, Nat.zero_add] at this
  obtain ⟨A1, c1, rfl, f1⟩ := form v1 B1 h1
  obtain ⟨A2, c2, rfl, f2⟩ := form v2 B2 h2
  have hll : l.length = n := by have := h1.1; rw [List.length_map] at this; omega
  have H1 := (show Hid _ from f1)
  have H2 := (show Hid _ from f2)
  have HG := (show Hid (∀ k, k < n → ∃ x, l[k]? = some x) from fun k hk => ⟨_, List.getElem?_eq_getElem (by omega)⟩)
  clear h1 h2 form f1 f2 hll
  go_enter Tryz.func37, Tryz.ntmps37
  go_wp2_with fail
  go_loopw [5] (fun t wr => ∃ k : Nat, k ≤ n ∧ t = .int .i64 k ∧ Hid (Below w.heap.size w wr)) (fun t _ => n - (intOf t).toNat)
  case atStart => exact ⟨0, by omega, by go_num, Below.refl _ _⟩
  case round =>
    obtain ⟨k, hk, rfl, HW⟩ := hrel
    by_cases hlt : k < n
    · obtain ⟨x, hx⟩ := HG.out k hlt
      obtain ⟨g1, rfl, l1, q1⟩ := H1.out (by omega)
      obtain ⟨g2, rfl, l2, q2⟩ := H2.out (by omega)
      have e1 := (HW.out.cell (p := ⟨g1, k, none⟩) l1).trans (q1 k x hx)
      have e2 := (HW.out.cell (p := ⟨g2, k, none⟩) l2).trans (q2 k x hx)
      have z0 : (0 : Int) ≤ (k : Int) := by omega
      have z1 : (k : Int) < (n : Int) := by omega
      unfold nI at e1 e2
      clear HG H1 H2 q1 q2 hx
      go_wp2_with fail
      go_quiet (fail)
      have HW2 := (show Hid (Below w.heap.size w (wr.drewN nq)) from HW.out.trans (below_drewN (Below.refl _ _) _))
      generalize wr.drewN nq = w2 at *
      clear e1 e2 HW
      go_wp2
      go_roundw
      case rel => exact ⟨k + 1, by omega, by go_num, HW2⟩
      case measure => simp [intOf]; omega
    · obtain rfl : k = n := by omega
      clear HG H1 H2
      go_wp2
      go_ret
      exact ⟨rfl, HW.out⟩
set_option maxRecDepth 100000 in
set_option maxHeartbeats 4000000 in
theorem sameB_any (v1 v2 : Value) (B1 B2 n : Nat) (l : List Bool) (hl : n ≤ 100000) (w : World) (h1 : w.ownsRow B1 4 1 v1 n (l.map Value.bool)) (h2 : w.ownsRow B2 4 1 v2 n (l.map Value.bool)) :
    Calls Tryz.prog 36 #[v1, v2] w fun e w' => e = .returned (.bool true) ∧ Below w.heap.size w w' := by
  have form : ∀ (v : Value) (B : Nat), w.ownsRow B 4 1 v n (l.map Value.bool) → ∃ A c, v = .slice A n c ∧ (0 < n → ∃ g, A = some ⟨g, 0, none⟩ ∧ g < w.heap.size ∧ ∀ (j : Nat) (x : Bool), l[j]? = some x → w.cell? ⟨g, j, none⟩ = some (Value.bool x)) := fun v B h => by
    have hc := h
    rcases h.2 with ⟨rfl, h0⟩ | ⟨g, cap, cur, rfl, _⟩
    · exact ⟨none, 0, by rw [h0], fun q => by omega⟩
    · refine ⟨_, cap, rfl, fun _ => ⟨g, rfl, (hc.lt g rfl).2, fun j x hj => ?_⟩⟩
      have := hc.cells (g := g) rfl j (Value.bool x) (by rw [List.getElem?_map, hj]; rfl)
      rwa [Addr.add_lit, Nat.zero_add] at this
  obtain ⟨A1, c1, rfl, f1⟩ := form v1 B1 h1
  obtain ⟨A2, c2, rfl, f2⟩ := form v2 B2 h2
  have hll : l.length = n := by have := h1.1; rw [List.length_map] at this; omega
  have H1 := (show Hid _ from f1)
  have H2 := (show Hid _ from f2)
  have HG := (show Hid (∀ k, k < n → ∃ x, l[k]? = some x) from fun k hk => ⟨_, List.getElem?_eq_getElem (by omega)⟩)
  clear h1 h2 form f1 f2 hll
  go_enter Tryz.func36, Tryz.ntmps36
  go_wp2_with fail
  go_loopw [5] (fun t wr => ∃ k : Nat, k ≤ n ∧ t = .int .i64 k ∧ Hid (Below w.heap.size w wr)) (fun t _ => n - (intOf t).toNat)
  case atStart => exact ⟨0, by omega, by go_num, Below.refl _ _⟩
  case round =>
    obtain ⟨k, hk, rfl, HW⟩ := hrel
    by_cases hlt : k < n
    · obtain ⟨x, hx⟩ := HG.out k hlt
      obtain ⟨g1, rfl, l1, q1⟩ := H1.out (by omega)
      obtain ⟨g2, rfl, l2, q2⟩ := H2.out (by omega)
      have e1 := (HW.out.cell (p := ⟨g1, k, none⟩) l1).trans (q1 k x hx)
      have e2 := (HW.out.cell (p := ⟨g2, k, none⟩) l2).trans (q2 k x hx)
      have z0 : (0 : Int) ≤ (k : Int) := by omega
      have z1 : (k : Int) < (n : Int) := by omega
      skip
      clear HG H1 H2 q1 q2 hx
      go_wp2_with fail
      go_quiet (fail)
      have HW2 := (show Hid (Below w.heap.size w (wr.drewN nq)) from HW.out.trans (below_drewN (Below.refl _ _) _))
      generalize wr.drewN nq = w2 at *
      clear e1 e2 HW
      go_wp2
      go_roundw
      case rel => exact ⟨k + 1, by omega, by go_num, HW2⟩
      case measure => simp [intOf]; omega
    · obtain rfl : k = n := by omega
      clear HG H1 H2
      go_wp2
      go_ret
      exact ⟨rfl, HW.out⟩
theorem cG_lt {gs : GL} {i j : Nat} (q : cG gs i j = true) : i < gs.length ∧ j < gs.length := by
  unfold cG at q
  cases hg : gs[i]? with
  | none => rw [hg] at q; cases q
  | some g =>
    rw [hg] at q
    simp only [List.any_eq_true, Bool.and_eq_true, decide_eq_true_eq] at q
    obtain ⟨nd, _, _, h3⟩ := q
    exact ⟨(List.getElem?_eq_some_iff.1 hg).1, fdG_lt h3⟩
theorem ls_cM (gs : GL) (i : Nat) : lsB ((List.range gs.length).map (cG gs i)) = cL gs i := by
  unfold lsB cL
  rw [List.length_map, List.length_range]
  refine List.filter_congr fun j hj => ?_
  rw [List.getElem?_map, List.getElem?_range (List.mem_range.1 hj)]
  rfl
set_option maxRecDepth 100000 in
set_option maxHeartbeats 4000000 in
theorem callsD_any (gs : GL) (A : Option Addr) (c : Nat) (r : Int) (w : World) (hp : GI w A gs) :
    Calls Tryz.prog 41 #[.agg #[.slice A gs.length c], .int .i64 r] w fun e w' => (∃ v, e = .returned (.tuple #[v, .int .i64 (lkR gs r)]) ∧ w'.ownsRow w.heap.size 3 1 v (clR gs r).length ((clR gs r).map nI)) ∧ Below w.heap.size w w' := by
  obtain ⟨w1, hw1⟩ : ∃ w1, w1 = (w.alloc (.cells #[.slice A gs.length c] 24)) := ⟨_, rfl⟩
  have HB1 : Hid (Below w.heap.size w w1) := by show Below _ _ _; rw [hw1]; exact below_box _ _
  have HG1 : Hid (GX w1 w.heap.size (.slice A gs.length c)) := by show GX _ _ _; rw [hw1]; exact GX.mk (heap_alloc_new w _)
  have HN := (show Hid (∀ _ : Unit, Calls Tryz.prog 17 #[.agg #[.slice A gs.length c], .int .i64 r] w1 fun e w' => e = .returned (.int .i64 (lkR gs r)) ∧ Below w1.heap.size w1 w') from fun _ => lookD_any gs A c r w1 (hp.later HB1.out))
  have HP := (show Hid (GI w A gs) from hp)
  clear hp
  go_enter Tryz.func41, Tryz.ntmps41
  go_wp2_with fail
  rw [← hw1]
  refine (HN.out ()).mono ?_
  rintro e w3 ⟨rfl, b3⟩
  have HB := (show Hid (Below w.heap.size w w3) from HB1.out.trans (b3.mono HB1.out.size))
  have q1 := (HG1.out.below b3).cl
  clear HN b3 hw1 HB1 HG1
  by_cases hz : lkR gs r = 0
  · have tz : (lkR gs r != 0) = false := by rw [hz]; rfl
    obtain ⟨hR, r0, r1⟩ := lkR_zero hz
    obtain ⟨i, rfl⟩ : ∃ i : Nat, r = (i : Int) := ⟨r.toNat, by omega⟩
    have hi : i < gs.length := by omega
    have HRr := (show Hid (clR gs i = cL gs i) from by show clR gs i = _; unfold clR; rw [if_pos hz]; rfl)
    have HC := (show Hid (∀ _ : Unit, Calls Tryz.prog 53 #[.agg #[.slice A gs.length c]] w3 fun e w' => (∃ v xs, e = .returned v ∧ TT w' (w3.heap.size + 1) 73 4 v (bM (cM gs)) xs) ∧ Below w3.heap.size w3 w') from fun _ => callsT_any hR A c w3 (HP.out.later HB.out))
    have H200 := (show Hid (gs.length ≤ 200) from hR.n2)
    have HZ := (show Hid (lkR gs i = 0) from hz)
    clear hz HP hR
    generalize hcd : lkR gs i = cd at *
    have HCD := (show Hid (lkR gs i = cd) from hcd)
    clear hcd
    go_wp2_with fail
    refine (HC.out ()).mono ?_
    rintro e w4 ⟨⟨v, xs, rfl, hT⟩, b4⟩
    have HB4 := (show Hid (Below w.heap.size w w4) from HB.out.trans (b4.mono HB.out.size))
    have hlx : xs.length = gs.length := hT.len.trans ((bM_len _).trans (cM_len gs))
    obtain ⟨x, row, hx, hrow, hox⟩ := hT.at' (i := i) (by rw [bM_len, cM_len]; exact hi)
    rw [bM_get (cM_get hi)] at hrow
    cases hrow
    obtain ⟨g0, cv, rfl, _, _, x0, _⟩ := own_get hT.o hx
    rw [hlx]
    have HLs := (show Hid (∀ _ : Unit, Calls Tryz.prog 57 #[x] w4 fun e w' => (∃ u, e = .returned u ∧ w'.ownsRow w4.heap.size 3 1 u (cL gs i).length ((cL gs i).map nI)) ∧ Below w4.heap.size w4 w') from fun _ => by
      have h := listed_any ((List.range gs.length).map (cG gs i)) (by rw [List.length_map, List.length_range]; exact H200.out) (B4 := w3.heap.size + 1) (v := x) w4 (by rw [List.length_map] at hox; exact hox)
      rw [ls_cM] at h
      exact h)
    have z0 : (0 : Int) ≤ (i : Int) := by omega
    have z1 : (i : Int) < (gs.length : Int) := by omega
    clear HC b4 hT hlx hx hox HB q1
    go_wp2_with fail
    refine (HLs.out ()).mono ?_
    rintro e w5 ⟨⟨u, rfl, ho5⟩, b5⟩
    have HB5 := (show Hid (Below w.heap.size w w5) from HB4.out.trans (b5.mono HB4.out.size))
    have HO := (show Hid (w5.ownsRow w.heap.size 3 1 u (clR gs i).length ((clR gs i).map nI)) from by show World.ownsRow _ _ _ _ _ _ _; rw [HRr.out]; exact U.own_base ho5 HB4.out.size)
    clear HLs ho5 b5 HB4 x0
    go_wp2_with fail
    refine bodyPost_ret (v := .tuple #[u, .int .i64 0]) (by simp [results, Tryz.results41, go_sem]) rfl ⟨⟨u, by rw [HCD.out, HZ.out], HO.out⟩, HB5.out⟩
  · have tz : (lkR gs r != 0) = true := by rw [bne, beq_eq_false_iff_ne.2 hz]; rfl
    have HRr := (show Hid (clR gs r = []) from by show clR gs r = _; unfold clR; rw [if_neg hz])
    clear hz HP
    generalize hcd : lkR gs r = cd at *
    have HCD := (show Hid (lkR gs r = cd) from hcd)
    clear hcd
    go_wp2_with fail
    refine bodyPost_ret (v := .tuple #[.slice none 0 0, .int .i64 cd]) (by simp [results, Tryz.results41, go_sem]) rfl ⟨⟨_, by rw [HCD.out], by rw [HRr.out]; exact World.ownsRow_nil _ _ _ _⟩, HB.out⟩
set_option maxRecDepth 100000 in
set_option maxHeartbeats 4000000 in
theorem reachD_any (gs : GL) (A : Option Addr) (c : Nat) (r : Int) (w : World) (hp : GI w A gs) :
    Calls Tryz.prog 42 #[.agg #[.slice A gs.length c], .int .i64 r] w fun e w' => (∃ v l, e = .returned (.tuple #[v, .int .i64 (lkR gs r)]) ∧ RhR gs r l ∧ w'.ownsRow w.heap.size 3 1 v l.length (l.map nI)) ∧ Below w.heap.size w w' := by
  obtain ⟨w1, hw1⟩ : ∃ w1, w1 = (w.alloc (.cells #[.slice A gs.length c] 24)) := ⟨_, rfl⟩
  have HB1 : Hid (Below w.heap.size w w1) := by show Below _ _ _; rw [hw1]; exact below_box _ _
  have HG1 : Hid (GX w1 w.heap.size (.slice A gs.length c)) := by show GX _ _ _; rw [hw1]; exact GX.mk (heap_alloc_new w _)
  have HN := (show Hid (∀ _ : Unit, Calls Tryz.prog 17 #[.agg #[.slice A gs.length c], .int .i64 r] w1 fun e w' => e = .returned (.int .i64 (lkR gs r)) ∧ Below w1.heap.size w1 w') from fun _ => lookD_any gs A c r w1 (hp.later HB1.out))
  have HP := (show Hid (GI w A gs) from hp)
  clear hp
  go_enter Tryz.func42, Tryz.ntmps42
  go_wp2_with fail
  rw [← hw1]
  refine (HN.out ()).mono ?_
  rintro e w3 ⟨rfl, b3⟩
  have HB := (show Hid (Below w.heap.size w w3) from HB1.out.trans (b3.mono HB1.out.size))
  have q1 := (HG1.out.below b3).cl
  clear HN b3 hw1 HB1 HG1
  by_cases hz : lkR gs r = 0
  · have tz : (lkR gs r != 0) = false := by rw [hz]; rfl
    obtain ⟨hR, r0, r1⟩ := lkR_zero hz
    obtain ⟨i, rfl⟩ : ∃ i : Nat, r = (i : Int) := ⟨r.toNat, by omega⟩
    have hi : i < gs.length := by omega
    have HC := (show Hid (∀ _ : Unit, Calls Tryz.prog 54 #[.agg #[.slice A gs.length c]] w3 fun e w' => (∃ v xs M, e = .returned v ∧ TT w' w3.heap.size 73 4 v (bM M) xs ∧ Tb gs.length M ∧ IsR gs.length (cG gs) (tb M)) ∧ Below w3.heap.size w3 w') from fun _ => comes_any hR A c w3 (HP.out.later HB.out))
    have H200 := (show Hid (gs.length ≤ 200) from hR.n2)
    have HZ := (show Hid (lkR gs i = 0) from hz)
    clear hz HP hR
    generalize hcd : lkR gs i = cd at *
    have HCD := (show Hid (lkR gs i = cd) from hcd)
    clear hcd
    go_wp2_with fail
    refine (HC.out ()).mono ?_
    rintro e w4 ⟨⟨v, xs, M, rfl, hT, hTb, hI⟩, b4⟩
    have HB4 := (show Hid (Below w.heap.size w w4) from HB.out.trans (b4.mono HB.out.size))
    obtain ⟨l, hl, hll⟩ := hTb.at' hi
    have hlx : xs.length = gs.length := hT.len.trans ((bM_len _).trans hTb.len)
    obtain ⟨x, row, hx, hrow, hox⟩ := hT.at' (i := i) (by rw [bM_len, hTb.len]; exact hi)
    rw [bM_get hl] at hrow
    cases hrow
    rw [List.length_map, hll] at hox
    obtain ⟨g0, cv, rfl, _, _, x0, _⟩ := own_get hT.o hx
    rw [hlx]
    obtain ⟨gu, cu, rfl, lb, lu, xu, fu⟩ := own_get hox (j := i) (x := .bool ((l[i]?).getD false)) (by rw [List.getElem?_map, List.getElem?_eq_getElem (by omega)]; rfl)
    obtain ⟨st1, st2⟩ := hox.stored i (.bool true)
    have HW5 := (show Hid (Below w.heap.size w (w4.setCell ⟨gu, i, none⟩ (.bool true))) from below_grown HB4.out st2 (fun k e => by cases e; have := HB.out.size; omega))
    have HLs := (show Hid (IsRh gs i (lsB (l.set i true))) from isRh_of hll hi (fun j => by
      by_cases hj : j < gs.length
      · rw [← hI.rl i j hi hj, tb_of hl, List.getElem?_eq_getElem (by omega)]; simp
      · constructor
        · intro q; have := (List.getElem?_eq_some_iff.1 q).1; omega
        · intro q
          have := Rc.least (d := fun _ b => b < gs.length) (fun a b h => (cG_lt h).2) (fun a k b _ _ h => h) q
          omega))
    have HMk := (show Hid (∀ _ : Unit, Calls Tryz.prog 57 #[.slice (some ⟨gu, 0, none⟩) gs.length cu] (w4.setCell ⟨gu, i, none⟩ (.bool true)) fun e w' => (∃ u, e = .returned u ∧ w'.ownsRow (w4.setCell ⟨gu, i, none⟩ (.bool true)).heap.size 3 1 u (lsB (l.set i true)).length ((lsB (l.set i true)).map nI)) ∧ Below (w4.setCell ⟨gu, i, none⟩ (.bool true)).heap.size (w4.setCell ⟨gu, i, none⟩ (.bool true)) w') from fun _ => by
      refine listed_any (l.set i true) (by rw [List.length_set, hll]; exact H200.out) (B4 := w3.heap.size) (w4.setCell ⟨gu, i, none⟩ (.bool true)) ?_
      rw [List.length_set, hll, List.map_set]
      exact st1)
    have z0 : (0 : Int) ≤ (i : Int) := by omega
    have z1 : (i : Int) < (gs.length : Int) := by omega
    clear HC b4 hT hlx hx hox HB q1 hTb hI hl hll st1 st2 lb lu HB4
    go_wp2_with fail
    refine (HMk.out ()).mono ?_
    rintro e w6 ⟨⟨u6, rfl, ho6⟩, b6⟩
    have HB6 := (show Hid (Below w.heap.size w w6) from HW5.out.trans (b6.mono HW5.out.size))
    have HO6 := (show Hid (w6.ownsRow w.heap.size 3 1 u6 (lsB (l.set i true)).length ((lsB (l.set i true)).map nI)) from U.own_base ho6 HW5.out.size)
    clear ho6 b6 HMk HW5
    go_wp2_with fail
    refine bodyPost_ret (v := .tuple #[u6, .int .i64 0]) (by simp [results, Tryz.results42, go_sem]) rfl ⟨⟨u6, _, by rw [HCD.out, HZ.out], ⟨fun _ => HLs.out, fun q => absurd (HCD.out.trans HZ.out) q⟩, HO6.out⟩, HB6.out⟩
  · have tz : (lkR gs r != 0) = true := by rw [bne, beq_eq_false_iff_ne.2 hz]; rfl
    have HZ := (show Hid (lkR gs r ≠ 0) from hz)
    clear hz HP
    generalize hcd : lkR gs r = cd at *
    have HCD := (show Hid (lkR gs r = cd) from hcd)
    clear hcd
    go_wp2_with fail
    refine bodyPost_ret (v := .tuple #[.slice none 0 0, .int .i64 cd]) (by simp [results, Tryz.results42, go_sem]) rfl ⟨⟨_, [], by rw [HCD.out], ⟨fun q => absurd (HCD.out.symm.trans q) HZ.out, fun _ => rfl⟩, World.ownsRow_nil _ _ _ _⟩, HB.out⟩
end Go.Proofs.YtppggnmlbcdegabGreat.N

namespace Go.Proofs.YtppggnmlbcdegabGreat.N
open Go.RowKit Go.Maps
open Go.Proofs.YtppggnmlbcdegabGreat.T

open U (nI)
theorem clR_len (gs : GL) (r : Int) : (clR gs r).length ≤ 100000 := by
  unfold clR
  split
  · rename_i h
    have h1 := cL_len gs r.toNat
    have h2 := (lkR_zero h).1.n2
    omega
  · exact Nat.zero_le _
theorem rhR_len {gs : GL} {r : Int} {l : List Nat} (h : RhR gs r l) : l.length ≤ 100000 := by
  by_cases q : lkR gs r = 0
  · have h1 := (h.1 q).len
    have h2 := (lkR_zero q).1.n2
    omega
  · rw [h.2 q]; exact Nat.zero_le _
set_option maxRecDepth 100000 in
set_option maxHeartbeats 8000000 in
theorem calls_law (gs : GL) (A : Option Addr) (c : Nat) (r : Int) (s : ByteArray) (hs : s.size ≤ 140737488355328) (w : World) (hg : GrIn w A c gs) : Calls Tryz.prog 14 #[.agg #[.slice A gs.length c], .int .i64 r, .string s] w fun e w' => e = .returned (.bool true) ∧ Below w.heap.size w w' := by
  have hl := hg.len
  obtain ⟨w0, hw0⟩ : ∃ w0, w0 = w.alloc (.cells #[.slice A gs.length c] 24) := ⟨_, rfl⟩
  have hb0 : Below w.heap.size w w0 := by rw [hw0]; exact below_box w _
  have HX0 := (show Hid (GX w0 w.heap.size (.slice A gs.length c)) from by rw [hw0]; exact GX.mk (heap_alloc_new w _))
  have HE0 := (show Hid (w.alloc (.cells #[.slice A gs.length c] 24) = w0) from hw0.symm)
  have hg0 : GrIn w0 A c gs := hg.later hb0
  have HLe : Hid (∀ _ : Unit, Calls Tryz.prog 4 #[.agg #[.slice A gs.length c]] w0 fun e w' => ∃ g cap ov, e = .returned (.agg #[.slice (some ⟨g, 0, none⟩) gs.length cap]) ∧ ov.map (·.1) = gs ∧ LgB w0 w' g cap ov) := fun _ => lendG_any gs A c w0 hg0
  have HK : Hid (∀ (w' : World) (g cap : Nat) (ov : List Le), ov.map (·.1) = gs → LgB w0 w' g cap ov → GrD w' A gs → Calls Tryz.prog 15 #[.agg #[.slice (some ⟨g, 0, none⟩) gs.length cap], .agg #[.slice A gs.length c]] w' fun e w'' => e = .returned (.bool true) ∧ Below w'.heap.size w' w'') := fun w' g cap ov h0 h1 h2 => keptG_any h0 (fun r hr => by
    obtain ⟨k, hk⟩ := List.getElem?_of_mem hr
    obtain ⟨_, _, h6, _⟩ := hg.each k r hk
    exact h6.2.2.2.1) hl h1 h2
  have HWk := (show Hid (∀ W, Calls Tryz.prog 8 #[] W fun e w' => e = .returned (.bool true) ∧ Below W.heap.size W w') from lives_any)
  have HP := (show Hid (GI w0 A gs) from hg0.gi)
  have HB0 := (show Hid (Below w.heap.size w w0) from hb0)
  have x0 := HX0.out.cl
  have HA1 : Hid (∀ (w' : World) (Ap : Option Addr) (cp : Nat), GI w' Ap gs → Calls Tryz.prog 38 #[.agg #[.slice Ap gs.length cp], .string s] w' fun e w'' => e = .returned (.tuple #[.int .i64 (fnR gs s).1, .int .i64 (fnR gs s).2]) ∧ Below w'.heap.size w' w'') := fun w' Ap cp h => findP_any gs Ap cp s hs w' h
  have HD1 : Hid (∀ (w' : World) (Ap : Option Addr) (cp : Nat), GI w' Ap gs → Calls Tryz.prog 39 #[.agg #[.slice Ap gs.length cp], .string s] w' fun e w'' => e = .returned (.tuple #[.int .i64 (fnR gs s).1, .int .i64 (fnR gs s).2]) ∧ Below w'.heap.size w' w'') := fun w' Ap cp h => findD_any gs Ap cp s w' h
  have HA2 : Hid (∀ (w' : World) (Ap : Option Addr) (cp : Nat), GI w' Ap gs → Calls Tryz.prog 40 #[.agg #[.slice Ap gs.length cp], .int .i64 r] w' fun e w'' => (∃ v, e = .returned (.tuple #[v, .int .i64 (lkR gs r)]) ∧ w''.ownsRow w'.heap.size 3 1 v (clR gs r).length ((clR gs r).map nI)) ∧ Below w'.heap.size w' w'') := fun w' Ap cp h => callsP_any gs Ap cp r w' h
  have HD2 : Hid (∀ (w' : World) (Ap : Option Addr) (cp : Nat), GI w' Ap gs → Calls Tryz.prog 41 #[.agg #[.slice Ap gs.length cp], .int .i64 r] w' fun e w'' => (∃ v, e = .returned (.tuple #[v, .int .i64 (lkR gs r)]) ∧ w''.ownsRow w'.heap.size 3 1 v (clR gs r).length ((clR gs r).map nI)) ∧ Below w'.heap.size w' w'') := fun w' Ap cp h => callsD_any gs Ap cp r w' h
  have HA3 : Hid (∀ (w' : World) (Ap : Option Addr) (cp : Nat), GI w' Ap gs → Calls Tryz.prog 12 #[.agg #[.slice Ap gs.length cp], .int .i64 r] w' fun e w'' => (∃ v l, e = .returned (.tuple #[v, .int .i64 (lkR gs r)]) ∧ RhR gs r l ∧ w''.ownsRow w'.heap.size 3 1 v l.length (l.map nI)) ∧ Below w'.heap.size w' w'') := fun w' Ap cp h => reachP_any gs Ap cp r w' h
  have HD3 : Hid (∀ (w' : World) (Ap : Option Addr) (cp : Nat), GI w' Ap gs → Calls Tryz.prog 42 #[.agg #[.slice Ap gs.length cp], .int .i64 r] w' fun e w'' => (∃ v l, e = .returned (.tuple #[v, .int .i64 (lkR gs r)]) ∧ RhR gs r l ∧ w''.ownsRow w'.heap.size 3 1 v l.length (l.map nI)) ∧ Below w'.heap.size w' w'') := fun w' Ap cp h => reachD_any gs Ap cp r w' h
  have HLa := (show Hid ((clR gs r).length ≤ 100000) from clR_len gs r)
  generalize (fnR gs s).1 = f1 at *
  generalize (fnR gs s).2 = f2 at *
  clear hg hl hg0 hw0 hb0
  go_enter Tryz.func14, Tryz.ntmps14
  go_wp2_with (rw [HE0.out])
  refine (HLe.out ()).mono ?_
  rintro e w1 ⟨g, cap, ov, rfl, hm, ho⟩
  have HM := (show Hid (ov.map (·.1) = gs) from hm)
  obtain ⟨w2, hw2⟩ : ∃ w2, w2 = w1.alloc (.cells #[.slice (some ⟨g, 0, none⟩) gs.length cap] 24) := ⟨_, rfl⟩
  have HE2 := (show Hid (w1.alloc (.cells #[.slice (some ⟨g, 0, none⟩) gs.length cap] 24) = w2) from hw2.symm)
  have HS2 := (show Hid (LyS w0 w2 w.heap.size w1.heap.size (.slice A gs.length c) (.slice (some ⟨g, 0, none⟩) gs.length cap) g cap ov) from by
    have hb : Below w1.heap.size w1 w2 := by rw [hw2]; exact below_box w1 _
    have hX1 : GX w1 w.heap.size (.slice A gs.length c) := HX0.out.same (ho.b.block _ HX0.out.lt)
    exact ⟨ho.later hb, hX1.below hb, by rw [hw2]; exact GX.mk (heap_alloc_new w1 _)⟩)
  have y1 := HS2.out.x1.cl
  have y2 := HS2.out.x2.cl
  have HIn := (show Hid (∀ W, LyS w0 W w.heap.size w1.heap.size (.slice A gs.length c) (.slice (some ⟨g, 0, none⟩) gs.length cap) g cap ov → GI W (some ⟨g, 0, none⟩) gs ∧ GI W A gs) from fun W h => ⟨⟨h.l.gr HM.out, HP.out.l, HP.out.t⟩, HP.out.later h.l.b⟩)
  clear ho hm HLe hw2 x0 HX0
  go_wp2_with (rw [HE2.out])
  generalize w1.heap.size = k1 at *
  refine (HA1.out w2 _ _ (HIn.out _ HS2.out).1).mono ?_
  rintro e w3 ⟨rfl, b3⟩
  have HS3 := (show Hid (LyS w0 w3 w.heap.size k1 (.slice A gs.length c) (.slice (some ⟨g, 0, none⟩) gs.length cap) g cap ov) from HS2.out.later b3)
  clear b3 HS2 y1 y2 HA1 HE2
  have y1 := HS3.out.x1.cl
  have y2 := HS3.out.x2.cl
  go_wp2_with fail
  refine (HD1.out w3 _ _ (HIn.out _ HS3.out).2).mono ?_
  rintro e w4 ⟨rfl, b4⟩
  have HS4 := (show Hid (LyS w0 w4 w.heap.size k1 (.slice A gs.length c) (.slice (some ⟨g, 0, none⟩) gs.length cap) g cap ov) from HS3.out.later b4)
  clear b4 HS3 y1 y2 HD1
  have y1 := HS4.out.x1.cl
  have y2 := HS4.out.x2.cl
  go_wp2_with fail
  refine (HA2.out w4 _ _ (HIn.out _ HS4.out).1).mono ?_
  rintro e w5 ⟨⟨va, rfl, oa⟩, b5⟩
  have HS5 := (show Hid (LyS w0 w5 w.heap.size k1 (.slice A gs.length c) (.slice (some ⟨g, 0, none⟩) gs.length cap) g cap ov) from HS4.out.later b5)
  generalize w4.heap.size = ba at oa
  have HOa_5 := (show Hid (World.ownsRow w5 ba 3 1 va (clR gs r).length ((clR gs r).map nI)) from oa)
  clear b5 HS4 y1 y2 HA2 oa
  have y1 := HS5.out.x1.cl
  have y2 := HS5.out.x2.cl
  go_wp2_with fail
  refine (HD2.out w5 _ _ (HIn.out _ HS5.out).2).mono ?_
  rintro e w6 ⟨⟨vb, rfl, ob⟩, b6⟩
  have HS6 := (show Hid (LyS w0 w6 w.heap.size k1 (.slice A gs.length c) (.slice (some ⟨g, 0, none⟩) gs.length cap) g cap ov) from HS5.out.later b6)
  have HOa_6 := (show Hid (World.ownsRow w6 ba 3 1 va (clR gs r).length ((clR gs r).map nI)) from U.own_below HOa_5.out b6)
  generalize w5.heap.size = bb at ob
  have HOb_6 := (show Hid (World.ownsRow w6 bb 3 1 vb (clR gs r).length ((clR gs r).map nI)) from ob)
  clear b6 HS5 HOa_5 y1 y2 HD2 ob
  have y1 := HS6.out.x1.cl
  have y2 := HS6.out.x2.cl
  go_wp2_with fail
  refine (HA3.out w6 _ _ (HIn.out _ HS6.out).1).mono ?_
  rintro e w7 ⟨⟨vc, lc, rfl, rc, oc⟩, b7⟩
  have HS7 := (show Hid (LyS w0 w7 w.heap.size k1 (.slice A gs.length c) (.slice (some ⟨g, 0, none⟩) gs.length cap) g cap ov) from HS6.out.later b7)
  have HOa_7 := (show Hid (World.ownsRow w7 ba 3 1 va (clR gs r).length ((clR gs r).map nI)) from U.own_below HOa_6.out b7)
  have HOb_7 := (show Hid (World.ownsRow w7 bb 3 1 vb (clR gs r).length ((clR gs r).map nI)) from U.own_below HOb_6.out b7)
  generalize w6.heap.size = bc at oc
  have HRc := (show Hid (RhR gs r lc) from rc)
  clear rc
  have HOc_7 := (show Hid (World.ownsRow w7 bc 3 1 vc lc.length (lc.map nI)) from oc)
  clear b7 HS6 HOa_6 HOb_6 y1 y2 HA3 oc
  have y1 := HS7.out.x1.cl
  have y2 := HS7.out.x2.cl
  go_wp2_with fail
  refine (HD3.out w7 _ _ (HIn.out _ HS7.out).2).mono ?_
  rintro e w8 ⟨⟨vd, ld, rfl, rd, od⟩, b8⟩
  have HS8 := (show Hid (LyS w0 w8 w.heap.size k1 (.slice A gs.length c) (.slice (some ⟨g, 0, none⟩) gs.length cap) g cap ov) from HS7.out.later b8)
  have HOa_8 := (show Hid (World.ownsRow w8 ba 3 1 va (clR gs r).length ((clR gs r).map nI)) from U.own_below HOa_7.out b8)
  have HOb_8 := (show Hid (World.ownsRow w8 bb 3 1 vb (clR gs r).length ((clR gs r).map nI)) from U.own_below HOb_7.out b8)
  have HOc_8 := (show Hid (World.ownsRow w8 bc 3 1 vc lc.length (lc.map nI)) from U.own_below HOc_7.out b8)
  generalize w7.heap.size = bd at od
  obtain rfl : lc = ld := HRc.out.same rd
  clear rd
  have HOd_8 := (show Hid (World.ownsRow w8 bd 3 1 vd lc.length (lc.map nI)) from od)
  clear b8 HS7 HOa_7 HOb_7 HOc_7 y1 y2 HD3 od
  have y1 := HS8.out.x1.cl
  have y2 := HS8.out.x2.cl
  go_wp2_with fail
  refine (HWk.out w8).mono ?_
  rintro e w9 ⟨rfl, b9⟩
  have HS9 := (show Hid (LyS w0 w9 w.heap.size k1 (.slice A gs.length c) (.slice (some ⟨g, 0, none⟩) gs.length cap) g cap ov) from HS8.out.later b9)
  have HOa_9 := (show Hid (World.ownsRow w9 ba 3 1 va (clR gs r).length ((clR gs r).map nI)) from U.own_below HOa_8.out b9)
  have HOb_9 := (show Hid (World.ownsRow w9 bb 3 1 vb (clR gs r).length ((clR gs r).map nI)) from U.own_below HOb_8.out b9)
  have HOc_9 := (show Hid (World.ownsRow w9 bc 3 1 vc lc.length (lc.map nI)) from U.own_below HOc_8.out b9)
  have HOd_9 := (show Hid (World.ownsRow w9 bd 3 1 vd lc.length (lc.map nI)) from U.own_below HOd_8.out b9)
  clear b9 HS8 HOa_8 HOb_8 HOc_8 HOd_8 y1 y2 HWk
  have HLc := (show Hid (lc.length ≤ 100000) from rhR_len HRc.out)
  clear HRc
  have y1 := HS9.out.x1.cl
  have y2 := HS9.out.x2.cl
  go_wp2_with fail
  refine (sameI_any _ _ _ _ _ (clR gs r) HLa.out w9 HOa_9.out HOb_9.out).mono ?_
  rintro e w10 ⟨rfl, b10⟩
  have HS10 := (show Hid (LyS w0 w10 w.heap.size k1 (.slice A gs.length c) (.slice (some ⟨g, 0, none⟩) gs.length cap) g cap ov) from HS9.out.later b10)
  have HOa_10 := (show Hid (World.ownsRow w10 ba 3 1 va (clR gs r).length ((clR gs r).map nI)) from U.own_below HOa_9.out b10)
  have HOb_10 := (show Hid (World.ownsRow w10 bb 3 1 vb (clR gs r).length ((clR gs r).map nI)) from U.own_below HOb_9.out b10)
  have HOc_10 := (show Hid (World.ownsRow w10 bc 3 1 vc lc.length (lc.map nI)) from U.own_below HOc_9.out b10)
  have HOd_10 := (show Hid (World.ownsRow w10 bd 3 1 vd lc.length (lc.map nI)) from U.own_below HOd_9.out b10)
  clear b10 HS9 HOa_9 HOb_9 HOc_9 HOd_9 y1 y2 
  have y1 := HS10.out.x1.cl
  have y2 := HS10.out.x2.cl
  go_wp2_with fail
  refine (sameI_any _ _ _ _ _ lc HLc.out w10 HOc_10.out HOd_10.out).mono ?_
  rintro e w11 ⟨rfl, b11⟩
  have HS11 := (show Hid (LyS w0 w11 w.heap.size k1 (.slice A gs.length c) (.slice (some ⟨g, 0, none⟩) gs.length cap) g cap ov) from HS10.out.later b11)
  have HOa_11 := (show Hid (World.ownsRow w11 ba 3 1 va (clR gs r).length ((clR gs r).map nI)) from U.own_below HOa_10.out b11)
  have HOb_11 := (show Hid (World.ownsRow w11 bb 3 1 vb (clR gs r).length ((clR gs r).map nI)) from U.own_below HOb_10.out b11)
  have HOc_11 := (show Hid (World.ownsRow w11 bc 3 1 vc lc.length (lc.map nI)) from U.own_below HOc_10.out b11)
  have HOd_11 := (show Hid (World.ownsRow w11 bd 3 1 vd lc.length (lc.map nI)) from U.own_below HOd_10.out b11)
  clear b11 HS10 HOa_10 HOb_10 HOc_10 HOd_10 y1 y2 
  have y1 := HS11.out.x1.cl
  have y2 := HS11.out.x2.cl
  go_wp2_with fail
  refine (HK.out _ g cap ov HM.out HS11.out.l (HP.out.d.later HS11.out.l.b)).mono ?_
  rintro e wz ⟨rfl, bz⟩
  have HBz := (show Hid (Below w.heap.size w wz) from HB0.out.trans ((HS11.out.l.b.trans (bz.mono HS11.out.l.b.size)).mono HB0.out.size))
  clear bz HK HS11 HP y1 y2 HOa_11 HOb_11 HOc_11 HOd_11
  go_wp2_with fail
  go_ret
  exact ⟨rfl, HBz.out⟩
end Go.Proofs.YtppggnmlbcdegabGreat.N
