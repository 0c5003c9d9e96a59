/- FordOrders (10.4): of any grammar, the order of the rules that the program tells is the one that the document tells, and the grammar stays as it is; for grammars within the reach of the form. -/
import Derived.Deep.LoopGhost
import Derived.BigQuiet
import Derived.Deep.RegionHeld3
import Derived.Deep.MidRow
import Derived.Test.YtbipjdgholdhcaaGreatRows
import Derived.Test.YtbipjdgholdhcaaGreatFi19
namespace Go.Proofs.YtbipjdgholdhcaaGreat.N
open Go.RowKit Go.Maps
open Go.Proofs.YtbipjdgholdhcaaGreat.T
/-- A rule that is free: not told yet, all its heads told. -/
def frO (n : Nat) (c : Mx) (l : List Nat) (r : Nat) : Bool := !l.contains r && (hdl n c r).all fun q => l.contains q
/-- The first free rule. -/
def nxO (n : Nat) (c : Mx) (l : List Nat) : Option Nat := (List.range n).find? (frO n c l)
/-- The order after so many rounds. -/
def ordK (n : Nat) (c : Mx) : Nat → List Nat
  | 0 => []
  | k + 1 => match nxO n c (ordK n c k) with
    | none => ordK n c k
    | some r => ordK n c k ++ [r]
theorem nxO_some {n : Nat} {c : Mx} {l : List Nat} {r : Nat} (hr : r < n) (h : frO n c l r = true) (hb : ∀ q, q < r → frO n c l q = false) : nxO n c l = some r := by
  unfold nxO
  rw [List.find?_eq_some_iff_append]
  refine ⟨h, List.range r, (List.range (n - r - 1)).map (· + (r + 1)), ?_, fun q hq => by rw [hb q (List.mem_range.1 hq)]; rfl⟩
  apply List.ext_getElem?
  intro i
  by_cases hi : i < r
  · rw [List.getElem?_append_left (by rw [List.length_range]; exact hi), List.getElem?_range (by omega), List.getElem?_range hi]
  · rw [List.getElem?_append_right (by rw [List.length_range]; omega), List.length_range]
    by_cases he : i = r
    · rw [he, Nat.sub_self, List.getElem?_range hr]; rfl
    · obtain ⟨d, rfl⟩ : ∃ d, i = r + 1 + d := ⟨i - (r + 1), by omega⟩
      rw [show r + 1 + d - r = d + 1 from by omega, List.getElem?_cons_succ, List.getElem?_map]
      by_cases hd : r + 1 + d < n
      · rw [List.getElem?_range hd, List.getElem?_range (by omega)]
        show some _ = some _
        rw [show r + 1 + d = d + (r + 1) from by omega]
      · rw [List.getElem?_eq_none (by rw [List.length_range]; omega), List.getElem?_eq_none (by rw [List.length_range]; omega)]
        rfl
theorem nxO_none {n : Nat} {c : Mx} {l : List Nat} (h : ∀ q, q < n → frO n c l q = false) : nxO n c l = none := by
  unfold nxO
  rw [List.find?_eq_none]
  intro q hq
  rw [h q (List.mem_range.1 hq)]
  decide
theorem nxO_lt {n : Nat} {c : Mx} {l : List Nat} {r : Nat} (h : nxO n c l = some r) : r < n ∧ r ∉ l := by
  unfold nxO at h
  have h1 := List.mem_of_find?_eq_some h
  have h2 := List.find?_some h
  refine ⟨List.mem_range.1 h1, fun q => ?_⟩
  unfold frO at h2
  rw [Bool.and_eq_true] at h2
  have h3 := h2.1
  rw [List.contains_iff_mem.2 q] at h3
  cases h3
theorem ordK_none {n : Nat} {c : Mx} {k : Nat} (h : nxO n c (ordK n c k) = none) : ∀ d, ordK n c (k + d) = ordK n c k := by
  intro d
  induction d with
  | zero => rfl
  | succ d ih =>
    show (match nxO n c (ordK n c (k + d)) with | none => ordK n c (k + d) | some r => ordK n c (k + d) ++ [r]) = _
    rw [ih, h]
theorem ordK_some {n : Nat} {c : Mx} {k r : Nat} (h : nxO n c (ordK n c k) = some r) : ordK n c (k + 1) = ordK n c k ++ [r] := by
  show (match nxO n c (ordK n c k) with | none => ordK n c k | some r => ordK n c k ++ [r]) = _
  rw [h]
theorem ordK_nd {n : Nat} {c : Mx} : ∀ k, (ordK n c k).Nodup ∧ ∀ x ∈ ordK n c k, x < n := by
  intro k
  induction k with
  | zero => exact ⟨List.nodup_nil, fun x h => by cases h⟩
  | succ k ih =>
    cases h : nxO n c (ordK n c k) with
    | none => have e := ordK_none h 1; rw [e]; exact ih
    | some r =>
      rw [ordK_some h]
      obtain ⟨h1, h2⟩ := nxO_lt h
      refine ⟨List.nodup_append.2 ⟨ih.1, List.pairwise_singleton _ r, fun a ha b hb e => h2 ?_⟩, fun x hx => ?_⟩
      · rw [List.mem_singleton] at hb
        rw [← hb, ← e]; exact ha
      · rcases List.mem_append.1 hx with h | h
        · exact ih.2 x h
        · rw [List.mem_singleton.1 h]; exact h1
theorem ordK_few {n : Nat} {c : Mx} (k : Nat) : (ordK n c k).length ≤ n := few_below n _ (ordK_nd k).1 (ordK_nd k).2
/-- A list that the rounds come to, with no rule free behind it, is the whole order. -/
theorem ordK_fin {n : Nat} {c : Mx} {k : Nat} (hl : (ordK n c k).length = k) (h : nxO n c (ordK n c k) = none) : ordK n c n = ordK n c k := by
  have hk := ordK_few (n := n) (c := c) k
  rw [hl] at hk
  have e := ordK_none h (n - k)
  rwa [show k + (n - k) = n from by omega] at e
end Go.Proofs.YtbipjdgholdhcaaGreat.N

namespace Go.Proofs.YtbipjdgholdhcaaGreat.N
open Go.RowKit Go.Maps
open Go.Proofs.YtbipjdgholdhcaaGreat.T

open U (below_grown own_get own_slice)
/-- Numbers, read. -/
def RdI (W : World) (A : Option Addr) (l : List Nat) : Prop := ∀ (j : Nat) x, l[j]? = some x → ∃ g o, A = some ⟨g, o, none⟩ ∧ g < W.heap.size ∧ W.cell? ⟨g, o + j, none⟩ = some (.int .i64 (x : Int))
set_option maxRecDepth 100000 in
set_option maxHeartbeats 8000000 in
theorem hasAll_any (f : Nat → Bool) (l : List Nat) (hl : l.length ≤ 200) (hx : ∀ x ∈ l, x < 200) (A : Option Addr) (c : Nat) (w : World) (hp : RdI w A l) :
    Calls Tryz.prog 54 #[.agg (mkA f), .slice A l.length c] w fun e w' => e = .returned (.bool (l.all f)) ∧ Below w.heap.size w w' := by
  obtain ⟨w1, hw1⟩ : ∃ w1, w1 = w.alloc (.cells (mkA f) 94) := ⟨_, rfl⟩
  have HE1 := (show Hid (w.alloc (.cells (mkA f) 94) = w1) from hw1.symm)
  have HS := (show Hid (Below w.heap.size w w1 ∧ MX w1 w.heap.size f) from by rw [hw1]; exact ⟨below_box _ _, MX.new w f⟩)
  have HX := (show Hid (RdI w A l ∧ ∀ x ∈ l, x < 200) from ⟨hp, hx⟩)
  have HA0 := (show Hid (∀ j x, j < 0 → l[j]? = some x → f x = true) from fun j x h => absurd h (Nat.not_lt_zero _))
  clear hp hx hw1
  go_enter Tryz.func54, Tryz.ntmps54
  go_wp2_with (rw [HE1.out])
  clear HE1
  go_loopw [9] (fun t wr => ∃ k : Nat, k ≤ l.length ∧ t = .int .i64 (k : Int) ∧ wr = w1 ∧ Hid (∀ j x, j < k → l[j]? = some x → f x = true)) (fun t _ => l.length - (intOf t).toNat)
  case atStart => exact ⟨0, Nat.zero_le _, by go_num, by first | rfl | trivial, HA0⟩
  case round =>
    obtain ⟨k, hk, rfl, rfl, HA⟩ := hrel
    clear HA0
    by_cases hlt : k < l.length
    · obtain ⟨x, hx⟩ : ∃ x, l[k]? = some x := ⟨_, List.getElem?_eq_getElem hlt⟩
      obtain ⟨g, o, rfl, lg, y⟩ := HX.out.1 k x hx
      have hx2 := HX.out.2 x (List.mem_of_getElem? hx)
      have y1 := (HS.out.1.cell (p := ⟨g, o + k, none⟩) lg).trans y
      have m1 := HS.out.2.cl hx2
      have z0 : (0 : Int) ≤ (k : Int) := by omega
      have z1 : (k : Int) < (l.length : Int) := by omega
      have z2 : (0 : Int) ≤ (x : Int) := by omega
      have z3 : (x : Int) < 200 := by omega
      have HXk := (show Hid (l[k]? = some x) from hx)
      clear lg y hx
      cases hf : f x with
      | true =>
        rw [hf] at m1
        have HN := (show Hid (∀ j x, j < k + 1 → l[j]? = some x → f x = true) from fun j x2 hj h2 => by
          by_cases e : j = k
          · subst e
            rw [HXk.out] at h2
            cases h2
            exact hf
          · exact HA.out j x2 (by omega) h2)
        clear HXk HA hf
        go_wp2_with fail
        go_roundw
        case rel => exact ⟨k + 1, by omega, by go_num, by first | rfl | trivial, HN⟩
        case measure => simp [intOf]; omega
      | false =>
        rw [hf] at m1
        have HV := (show Hid (l.all f = false) from by
          cases e : l.all f with
          | false => rfl
          | true =>
            have := List.all_eq_true.1 e x (List.mem_of_getElem? HXk.out)
            rw [hf] at this
            cases this)
        have HB := (show Hid (Below w.heap.size w wr) from HS.out.1)
        clear HXk HA hf HS HX
        go_wp2_with fail
        go_ret
        exact ⟨by rw [HV.out]; rfl, HB.out⟩
    · obtain rfl : k = l.length := by omega
      have HV := (show Hid (l.all f = true) from List.all_eq_true.2 fun x hx => by
        obtain ⟨j, hj⟩ := List.getElem?_of_mem hx
        exact HA.out j x (List.getElem?_eq_some_iff.1 hj).1 hj)
      have HB := (show Hid (Below w.heap.size w wr) from HS.out.1)
      clear HA HS HX
      go_wp2_with fail
      go_ret
      exact ⟨by rw [HV.out]; rfl, HB.out⟩
end Go.Proofs.YtbipjdgholdhcaaGreat.N

namespace Go.Proofs.YtbipjdgholdhcaaGreat.N
open Go.RowKit Go.Maps
open Go.Proofs.YtbipjdgholdhcaaGreat.T

open U (below_grown own_get own_slice TT info_split)
theorem frO_succ (j : Nat) (c : Mx) (l : List Nat) (r : Nat) : frO (j + 1) c l r = (frO j c l r && (!c r j || l.contains j)) := by
  unfold frO hdl
  rw [List.range_succ, List.filter_append, List.all_append, ← Bool.and_assoc]
  congr 1
  cases h : c r j with
  | true => rw [List.filter_cons_of_pos h, List.filter_nil, List.all_cons, List.all_nil, Bool.and_true]; rfl
  | false => rw [List.filter_cons_of_neg (by rw [h]; exact Bool.noConfusion), List.filter_nil]; rfl
theorem frO_off {c : Mx} {l : List Nat} {r j : Nat} (h : frO j c l r = false) : ∀ d, frO (j + d) c l r = false := by
  intro d
  induction d with
  | zero => exact h
  | succ d ih => rw [show j + (d + 1) = (j + d) + 1 from rfl, frO_succ, ih, Bool.false_and]
theorem frO_zero (c : Mx) (l : List Nat) (r : Nat) : frO 0 c l r = !l.contains r := by
  unfold frO hdl
  rw [List.range_zero, List.filter_nil, List.all_nil, Bool.and_true]
/-- While the order is told: which ones are told, and the list. -/
structure OdS (w5 wr : World) (n gT : Nat) (l : List Nat) (v : Value) : Prop where
  b : Below w5.heap.size w5 wr
  t : wr.ownsRow w5.heap.size 4 1 (.slice (some ⟨gT, 0, none⟩) n n) n (((List.range n).map fun q => l.contains q).map Value.bool)
  o : wr.ownsRow w5.heap.size 3 1 v l.length (l.map U.nI)
theorem OdS.at' {w5 wr : World} {n gT : Nat} {l : List Nat} {v : Value} (h : OdS w5 wr n gT l v) {q : Nat} (hq : q < n) : wr.cell? ⟨gT, q, none⟩ = some (.bool (l.contains q)) ∧ wr.frozen? ⟨gT, q, none⟩ = false := by
  obtain ⟨g', c', e, _, _, x, f⟩ := own_get h.t (j := q) (x := .bool (l.contains q)) (by rw [List.getElem?_map, List.getElem?_map, List.getElem?_range hq]; rfl)
  have e1 : gT = g' := by injection e with e1; injection e1 with e1; injection e1
  subst e1
  exact ⟨x, f⟩
/-- A rule is marked as told. -/
theorem OdS.mark {w5 wr : World} {n gT : Nat} {l : List Nat} {v : Value} (h : OdS w5 wr n gT l v) {r : Nat} (hr : r < n) : Below w5.heap.size w5 (wr.setCell ⟨gT, r, none⟩ (.bool true)) ∧ (wr.setCell ⟨gT, r, none⟩ (.bool true)).ownsRow w5.heap.size 4 1 (.slice (some ⟨gT, 0, none⟩) n n) n (((List.range n).map fun q => (l ++ [r]).contains q).map Value.bool) ∧ (wr.setCell ⟨gT, r, none⟩ (.bool true)).ownsRow w5.heap.size 3 1 v l.length (l.map U.nI) := by
  obtain ⟨s1, s2⟩ := h.t.stored r (.bool true)
  refine ⟨below_grown h.b s2 (fun k e => by cases e; exact (h.t.lt gT rfl).1), ?_, U.own_kept h.o s2 (fun k e q => by cases e; exact own_apart h.t h.o (by decide) rfl q)⟩
  have e : ((List.range n).map fun q => (l ++ [r]).contains q).map Value.bool = (((List.range n).map fun q => l.contains q).map Value.bool).set r (.bool true) := by
    apply List.ext_getElem?
    intro i
    rw [List.getElem?_set, List.getElem?_map, List.getElem?_map, List.getElem?_map, List.getElem?_map]
    by_cases hi : i < n
    · rw [List.getElem?_range hi]
      by_cases he : r = i
      · subst he
        rw [if_pos rfl, if_pos (by rw [List.length_map, List.length_map, List.length_range]; exact hi)]
        show some (Value.bool ((l ++ [r]).contains r)) = _
        rw [show (l ++ [r]).contains r = true from List.contains_iff_mem.2 (List.mem_append_right _ (List.mem_singleton.2 rfl))]
      · rw [if_neg he]
        show some (Value.bool _) = some (Value.bool _)
        congr 2
        rw [Bool.eq_iff_iff, List.contains_iff_mem, List.contains_iff_mem, List.mem_append, List.mem_singleton]
        exact ⟨fun q => q.resolve_right (Ne.symm he), .inl⟩
    · rw [List.getElem?_eq_none (by rw [List.length_range]; omega), if_neg (by omega)]
      rfl
  rw [e]
  exact s1
/-- What Order says, by the document. -/
def OrD (gs : GL) (now : List Em) (B : Nat) (w' : World) (e : Ending) : Prop := ∃ l p q cd, VdD gs now l p q cd ∧ (cd ≠ 0 → e = .returned (.tuple #[.slice none 0 0, .int .i64 cd])) ∧ (cd = 0 → ∃ v, e = .returned (.tuple #[v, .int .i64 0]) ∧ w'.ownsRow B 3 1 v (ordK gs.length (hdM gs (nbE now)) gs.length).length ((ordK gs.length (hdM gs (nbE now)) gs.length).map U.nI))
set_option maxRecDepth 100000 in
set_option maxHeartbeats 32000000 in
/-- The document's Order. -/
theorem orderD10_any {gs : GL} {now : List Em} (hk : (ckG gs).2 = 0 → KnF gs now ∧ now.length = gs.length) (A : Option Addr) (c : Nat) (w : World) (hp : GI w A gs) :
    Calls Tryz.prog 19 #[.agg #[.slice A gs.length c]] w fun e w' => OrD gs now w.heap.size w' e ∧ Below w.heap.size w w' := by
  obtain ⟨w1, hw1⟩ : ∃ w1, w1 = w.alloc (.cells #[.slice A gs.length c] 24) := ⟨_, rfl⟩
  have HE1 := (show Hid (w.alloc (.cells #[.slice A gs.length c] 24) = w1) from hw1.symm)
  have HS := (show Hid (Below w.heap.size w w1 ∧ GX w1 w.heap.size (.slice A gs.length c)) from by rw [hw1]; exact ⟨below_box _ _, GX.mk (heap_alloc_new w _)⟩)
  have HCk := (show Hid (∀ _ : Unit, Calls Tryz.prog 9 #[.agg #[.slice A gs.length c]] w1 fun e w' => (∃ (vc : Value) (l : List Nat) (p q : Nat) (cd : Int), e = .returned (.tuple #[.agg #[vc, .int .i64 (p : Int), .int .i64 (q : Int)], .int .i64 cd]) ∧ VdD gs now l p q cd ∧ w'.ownsRow w1.heap.size 3 1 vc l.length (l.map U.nI)) ∧ Below w1.heap.size w1 w') from fun _ => checkD10_any hk A c w1 (hp.later HS.out.1))
  have HP := (show Hid (GI w A gs ∧ ((ckG gs).2 = 0 → KnF gs now ∧ now.length = gs.length)) from ⟨hp, hk⟩)
  have q1 := HS.out.2.cl
  clear hw1 hp hk
  go_enter Tryz.func19, Tryz.ntmps19
  go_wp2_with (rw [HE1.out])
  refine (HCk.out ()).mono ?_
  rintro e w2 ⟨⟨vc, lc, p, q, cd, rfl, hvd, ho2⟩, b2⟩
  obtain ⟨Ac, cc, rfl⟩ := own_slice ho2
  obtain ⟨w3, hw3⟩ : ∃ w3, w3 = w2.alloc (.cells #[.slice Ac lc.length cc, .int .i64 (p : Int), .int .i64 (q : Int)] 30) := ⟨_, rfl⟩
  have HE3 := (show Hid (w2.alloc (.cells #[.slice Ac lc.length cc, .int .i64 (p : Int), .int .i64 (q : Int)] 30) = w3) from hw3.symm)
  have hb3 : Below w2.heap.size w2 w3 := by rw [hw3]; exact below_box _ _
  have HB3 := (show Hid (Below w.heap.size w w3 ∧ GX w3 w.heap.size (.slice A gs.length c)) from ⟨(HS.out.1.trans (b2.mono HS.out.1.size)).trans (hb3.mono (HS.out.1.trans (b2.mono HS.out.1.size)).size), (HS.out.2.below b2).below hb3⟩)
  have HVd := (show Hid (VdD gs now lc p q cd) from hvd)
  have q3 := HB3.out.2.cl
  clear HCk HE1 q1 HS b2 hw3 hb3 ho2 hvd
  by_cases hcd : cd = 0
  · subst hcd
    have hz : (ckG gs).2 = 0 := by
      by_cases e : (ckG gs).2 = 0
      · exact e
      · exact (HVd.out.1 e).2.2.symm ▸ rfl
    have hR := ckG_ok.1 hz
    have hn1 := hR.n1
    have hn2 := hR.n2
    have HAh := (show Hid (∀ _ : Unit, Calls Tryz.prog 25 #[.agg #[.slice A gs.length c]] w3 fun e w' => (∃ v xs, e = .returned v ∧ xs.length = gs.length ∧ TT w' w3.heap.size 76 4 v (hbT gs.length (hdM gs (nbE now)) gs.length) xs) ∧ Below w3.heap.size w3 w') from fun _ => allHeads_any hR (HP.out.2 hz).1 (HP.out.2 hz).2 A c w3 (HP.out.1.later HB3.out.1))
    clear hz hR
    go_wp2_with (rw [HE3.out])
    refine (HAh.out ()).mono ?_
    rintro e w4 ⟨⟨vh, xs, rfl, hxl, hT⟩, b4⟩
    obtain ⟨Ah, ch, hAh⟩ := own_slice hT.o
    rw [hxl] at hAh
    subst hAh
    have HRd4 := (show Hid (RdM w4 Ah gs.length (hdM gs (nbE now))) from rdM_tt hT hxl)
    have HB4 := (show Hid (Below w.heap.size w w4) from HB3.out.1.trans (b4.mono HB3.out.1.size))
    clear hT hxl b4 HAh HB3 q3 HE3
    obtain ⟨i0, hinf, hz0, hz1, hz2⟩ := info_split Tryz.info4
    obtain ⟨w5, hmk, ho5, hg5⟩ := run_make_full (P := Tryz.prog) w4 w4.heap.size 76 4 i0 (.bool false) 1 Tryz.underlying76 hinf hz0 hz1 .i64 .i64 gs.length (by rw [hz2]; omega) (by unfold maxLen; omega) (by omega)
    have hb45 : Below w4.heap.size w4 w5 := below_grown (Below.refl _ _) hg5 (fun k e => by cases e)
    have HS5 := (show Hid (OdS w4 w5 gs.length w4.heap.size (ordK gs.length (hdM gs (nbE now)) 0) (.slice none 0 0)) from by
      refine ⟨hb45, ?_, World.ownsRow_nil _ _ _ _⟩
      have e : (madeCells (Value.cells (.bool false)) (gs.length * 1)).toList = List.replicate gs.length (Value.bool false) := by rw [Nat.mul_one]; exact toList_madeCells_one _ _
      rw [e] at ho5
      have e2 : (((List.range gs.length).map fun q => (ordK gs.length (hdM gs (nbE now)) 0).contains q).map Value.bool) = List.replicate gs.length (Value.bool false) := by
        rw [List.map_map, List.eq_replicate_iff]
        refine ⟨by rw [List.length_map, List.length_range], fun v hv => ?_⟩
        obtain ⟨x, _, rfl⟩ := List.mem_map.1 hv
        rfl
      rw [e2]
      exact ho5)
    clear ho5 hg5 hb45 hinf hz0 hz1 hz2 i0
    obtain ⟨n, hn⟩ : ∃ n, n = gs.length := ⟨_, rfl⟩
    obtain ⟨cx, hcx⟩ : ∃ cx, cx = hdM gs (nbE now) := ⟨_, rfl⟩
    have HNC := (show Hid (n = gs.length ∧ cx = hdM gs (nbE now)) from ⟨hn, hcx⟩)
    rw [← hn, ← hcx] at HS5 HRd4
    rw [← hn] at hmk hn1 hn2 ⊢
    clear hn hcx
    go_wp2_with fail
    clear hmk
    generalize w4.heap.size = gT at *
    go_loopg [8, 9] (n * (n + 1) + n) (fun gk u t wr => ∃ (k r ln : Nat) (A8 : Option Addr) (c8 : Nat), u = .slice A8 ln c8 ∧ ln ≤ 200 ∧ t = .int .i64 (r : Int) ∧ r ≤ n ∧ Hid ((n - k) * (n + 1) + (n - r) = gk) ∧ Hid (ln = k ∧ (ordK n cx k).length = k) ∧ Hid (OdS w4 wr n gT (ordK n cx k) (.slice A8 ln c8)) ∧ Hid (∀ q, q < r → frO n cx (ordK n cx k) q = false))
    case atStart => exact ⟨0, 0, 0, none, 0, rfl, by omega, by go_num, by omega, rfl, ⟨rfl, rfl⟩, HS5, fun q h => absurd h (Nat.not_lt_zero _)⟩
    case round =>
      obtain ⟨k, r, ln, A8, c8, rfl, hln, rfl, hr, HM, HL, HW, HF⟩ := hrel
      clear HS5
      by_cases hlt : r < n
      · obtain ⟨x0, f0⟩ := HW.out.at' hlt
        obtain ⟨l, hl⟩ : ∃ l, l = ordK n cx k := ⟨_, rfl⟩
        have HLl := (show Hid (l = ordK n cx k) from hl)
        rw [← hl] at HW HF HL x0
        clear hl
        obtain ⟨tb, htb⟩ : ∃ tb, tb = l.contains r := ⟨_, rfl⟩
        rw [← htb] at x0
        have HT0 := (show Hid ((!tb) = frO 0 cx l r) from by rw [htb]; exact (frO_zero cx l r).symm)
        obtain ⟨b, g2, c2, rfl, lb, x1, lg, y1⟩ := HRd4.out r hlt
        have x1' := (HW.out.b.cell (p := ⟨b, r, none⟩) lb).trans x1
        have HY := (show Hid (∀ q, q < n → wr.cell? ⟨g2, q, none⟩ = some (.bool (cx r q)) ∧ wr.cell? ⟨gT, q, none⟩ = some (.bool (l.contains q))) from fun q hq => ⟨(HW.out.b.cell (p := ⟨g2, q, none⟩) lg).trans (y1 q hq), (HW.out.at' hq).1⟩)
        have z0 : (0 : Int) ≤ (r : Int) := by omega
        have z1 : (r : Int) < (n : Int) := by omega
        clear lb x1 lg y1 htb
        go_wp2_with fail
        go_loopw [10, 11] (fun s t wr2 => ∃ (j : Nat) (rd : Bool), s = .bool rd ∧ t = .int .i64 (j : Int) ∧ j ≤ n ∧ wr2 = wr ∧ Hid (rd = frO j cx l r)) (fun _ t _ => n - (intOf t).toNat)
        case atStart => exact ⟨0, !tb, rfl, by go_num, by omega, by first | rfl | trivial, HT0⟩
        case round =>
          obtain ⟨j, rd, rfl, rfl, hj, rfl, HR⟩ := hrel
          clear HT0
          cases rd with
          | false =>
            have HF2 := (show Hid (∀ q, q < r + 1 → frO n cx l q = false) from fun q hq => by
              by_cases e : q = r
              · subst e
                have h := frO_off HR.out.symm (n - j)
                rwa [show j + (n - j) = n from by omega] at h
              · exact HF.out q (by omega))
            have HW2 := (show Hid (OdS w4 wr n gT (ordK n cx k) (.slice A8 ln c8)) from by rw [← HLl.out]; exact HW.out)
            have HF3 := (show Hid (∀ q, q < r + 1 → frO n cx (ordK n cx k) q = false) from by rw [← HLl.out]; exact HF2.out)
            have HL2 := (show Hid (ln = k ∧ (ordK n cx k).length = k) from by rw [← HLl.out]; exact HL.out)
            clear HR HY HF HF2 HW HL x0 f0 x1'
            go_wp2_with fail
            go_roundg ((n - k) * (n + 1) + (n - (r + 1)))
            case measure => have := HM.out; omega
            case rel => exact ⟨k, r + 1, ln, A8, c8, rfl, hln, by go_num, by omega, rfl, HL2, HW2, HF3⟩
          | true =>
            by_cases hjn : j < n
            · obtain ⟨y0, y2⟩ := HY.out j hjn
              have z2 : (0 : Int) ≤ (j : Int) := by omega
              have z3 : (j : Int) < (n : Int) := by omega
              cases hcx : cx r j with
              | false =>
                rw [hcx] at y0
                have HR2 := (show Hid (true = frO (j + 1) cx l r) from by rw [frO_succ, ← HR.out, hcx]; rfl)
                clear HR hcx
                go_wp2_with fail
                go_roundw
                case rel => exact ⟨j + 1, true, rfl, by go_num, by omega, by first | rfl | trivial, HR2⟩
                case measure => simp [intOf]; omega
              | true =>
                rw [hcx] at y0
                obtain ⟨tj, htj⟩ : ∃ tj, tj = l.contains j := ⟨_, rfl⟩
                rw [← htj] at y2
                have HR2 := (show Hid (tj = frO (j + 1) cx l r) from by rw [frO_succ, ← HR.out, hcx, htj]; rfl)
                clear HR hcx htj
                go_wp2_with fail
                go_roundw
                case rel => exact ⟨j + 1, tj, rfl, by go_num, by omega, by first | rfl | trivial, HR2⟩
                case measure => simp [intOf]; omega
            · obtain rfl : j = n := by omega
              have HNx := (show Hid (ordK j cx (k + 1) = l ++ [r]) from by rw [HLl.out]; exact ordK_some (nxO_some hlt (by rw [← HLl.out]; exact HR.out.symm) (by rw [← HLl.out]; exact HF.out)))
              obtain ⟨w6, hw6⟩ : ∃ w6, w6 = wr.setCell ⟨gT, r, none⟩ (.bool true) := ⟨_, rfl⟩
              have HE6 := (show Hid (wr.setCell ⟨gT, r, none⟩ (.bool true) = w6) from hw6.symm)
              obtain ⟨m1, m2, m3⟩ := HW.out.mark hlt
              rw [← hw6] at m1 m2 m3
              have hlk : l.length = k := HL.out.2
              have hlnk : ln = k := HL.out.1
              have HO6 := (show Hid (w6.ownsRow w4.heap.size 3 1 (.slice A8 ln c8) ln (l.map U.nI)) from by rw [hlk, ← hlnk] at m3; exact m3)
              have HN6 := (show Hid (w4.heap.size ≤ w6.heap.size) from m1.size)
              have hk1 : k + 1 ≤ j := by
                have h := ordK_few (n := j) (c := cx) (k + 1)
                rw [HNx.out, List.length_append, List.length_singleton, hlk] at h
                exact h
              have HPu := (show Hid (∀ (g9 cap9 : Nat) (w9 : World), w9.ownsRow w4.heap.size 3 1 (.slice (some ⟨g9, 0, none⟩) (ln + 1) cap9) (ln + 1) (l.map U.nI ++ [U.nI r]) → w6.grownBy w9 (Value.slice A8 ln c8).ownBlock → OdS w4 w9 j gT (ordK j cx (k + 1)) (.slice (some ⟨g9, 0, none⟩) (ln + 1) cap9)) from fun g9 cap9 w9 h1 h2 => by
                rw [HNx.out]
                refine ⟨below_grown m1 h2 (fun x hx => (HO6.out.lt x hx).1), U.own_kept m2 h2 (fun x e q => own_apart HO6.out m2 (by decide) e q), ?_⟩
                rw [List.length_append, List.length_singleton, hlk, ← hlnk, List.map_append]
                exact h1)
              have HL2 := (show Hid (ln + 1 = k + 1 ∧ (ordK j cx (k + 1)).length = k + 1) from ⟨by omega, by rw [HNx.out, List.length_append, List.length_singleton, hlk]⟩)
              have hM : (j - (k + 1)) * (j + 1) + (j - 0) < (j - k) * (j + 1) + (j - r) := by
                obtain ⟨d, hd⟩ : ∃ d, j - k = d + 1 := ⟨j - k - 1, by omega⟩
                rw [hd, show j - (k + 1) = d from by omega, Nat.succ_mul]
                omega
              have HM2 := (show Hid ((j - (k + 1)) * (j + 1) + (j - 0) < (j - k) * (j + 1) + (j - r)) from hM)
              have hln1 : ln + 1 ≤ 200 := by omega
              clear HR HY HF HW HL x1' m1 m2 m3 hw6 hlk hlnk hM HNx HLl
              go_wp2_with (first | rw [HE6.out] | (at_builtin; refine U.wpList_app1 rfl _ _ 26 rfl (.int .i64 0) 8 Tryz.underlying26 Tryz.info3 rfl w4.heap.size ln _ (l.map U.nI) rfl rfl HO6.out rfl (by omega) (by decide) HN6.out ?_; intro g9 cap9 w9 ho9 hg9 hat9 hl9; have HV9 := hid_of (HPu.out g9 cap9 w9 ho9 hg9); clear ho9 hg9 hat9 hl9 HPu HO6 HN6 x0 f0))
              go_roundg ((j - (k + 1)) * (j + 1) + (j - 0))
              case measure => have := HM.out; have := HM2.out; omega
              case rel => exact ⟨k + 1, 0, ln + 1, _, _, rfl, hln1, by go_num, by omega, rfl, HL2, HV9, fun q h => absurd h (Nat.not_lt_zero _)⟩
      · obtain rfl : r = n := by omega
        have HFin := (show Hid (ordK r cx r = ordK r cx k ∧ wr.ownsRow w.heap.size 3 1 (.slice A8 ln c8) (ordK r cx k).length ((ordK r cx k).map U.nI) ∧ Below w.heap.size w wr) from ⟨ordK_fin HL.out.2 (nxO_none HF.out), own_base HW.out.o HB4.out.size, HB4.out.trans (HW.out.b.mono HB4.out.size)⟩)
        clear HF HW HL HM
        go_wp2_with fail
        refine bodyPost_ret (v := .tuple #[.slice A8 ln c8, .int .i64 0]) (by simp [results, Tryz.results19, go_sem]) rfl ?_
        refine ⟨⟨lc, p, q, 0, HVd.out, fun e => absurd rfl e, fun _ => ⟨_, rfl, ?_⟩⟩, HFin.out.2.2⟩
        obtain ⟨hn, hcx⟩ := HNC.out
        rw [← hn, ← hcx, HFin.out.1]
        exact HFin.out.2.1
  · have tz : (cd != 0) = true := by rw [bne, beq_eq_false_iff_ne.2 hcd]; rfl
    have HZ := (show Hid (cd ≠ 0) from hcd)
    clear hcd HP
    go_wp2_with (rw [HE3.out])
    refine bodyPost_ret (v := .tuple #[.slice none 0 0, .int .i64 cd]) (by simp [results, Tryz.results19, go_sem]) rfl ?_
    exact ⟨⟨lc, p, q, cd, HVd.out, fun _ => rfl, fun e => absurd e HZ.out⟩, HB3.out.1⟩
end Go.Proofs.YtbipjdgholdhcaaGreat.N

namespace Go.Proofs.YtbipjdgholdhcaaGreat.N
open Go.RowKit Go.Maps
open Go.Proofs.YtbipjdgholdhcaaGreat.T

open U (below_grown own_get own_slice)
/-- While the order is told by the program. -/
structure PoS (w wr : World) (l : List Nat) (v : Value) : Prop where
  b : Below w.heap.size w wr
  m : MX wr w.heap.size (fun q => l.contains q)
  o : wr.ownsRow (w.heap.size + 1) 3 1 v l.length (l.map U.nI)
  n : w.heap.size + 1 ≤ wr.heap.size
theorem PoS.later {w wr w2 : World} {l : List Nat} {v : Value} (h : PoS w wr l v) (hb : Below wr.heap.size wr w2) : PoS w w2 l v := ⟨h.b.trans (hb.mono h.b.size), h.m.below hb, U.own_below h.o hb, Nat.le_trans h.n hb.size⟩
set_option maxRecDepth 100000 in
set_option maxHeartbeats 32000000 in
theorem order_any {n : Nat} {cx : Mx} (hc : ∀ i j, cx i j = true → i < n ∧ j < n) (hn : n ≤ 200) (A : Option Addr) (c : Nat) (w : World) (hp : RdL w A ((List.range n).map (hdl n cx))) :
    Calls Tryz.prog 34 #[.slice A n c] w fun e w' => (∃ v, e = .returned v ∧ w'.ownsRow w.heap.size 3 1 v (ordK n cx n).length ((ordK n cx n).map U.nI)) ∧ Below w.heap.size w w' := by
  have hv := zero_mk
  obtain ⟨w1, hw1⟩ : ∃ w1, w1 = w.alloc (.cells (mkA fun _ => false) 94) := ⟨_, rfl⟩
  have HE1 := (show Hid (w.alloc (.cells (mkA fun _ => false) 94) = w1) from hw1.symm)
  have hs1 : w1.heap.size = w.heap.size + 1 := by rw [hw1, World.size_alloc]
  have HS := (show Hid (PoS w w1 (ordK n cx 0) (.slice none 0 0)) from ⟨by rw [hw1]; exact below_box _ _, by rw [hw1]; exact MX.new w _, World.ownsRow_nil _ _ _ _, by omega⟩)
  have HRd := (show Hid (RdL w A ((List.range n).map (hdl n cx))) from hp)
  have HC := (show Hid ((∀ i j, cx i j = true → i < n ∧ j < n) ∧ n ≤ 200) from ⟨hc, hn⟩)
  clear hw1 hs1 hc hp
  go_enter Tryz.func34, Tryz.ntmps34
  go_wp2_with (rw [HE1.out])
  go_step3
  go_wp2_with (rw [HE1.out])
  go_step3
  go_wp2_with (rw [HE1.out])
  clear HE1 hv
  go_loopw [4, 8] (fun u t wr => ∃ (k ln : Nat) (A4 : Option Addr) (c4 : Nat), k ≤ n ∧ t = .int .i64 (k : Int) ∧ u = .slice A4 ln c4 ∧ ln ≤ 200 ∧ Hid (ln = (ordK n cx k).length) ∧ Hid (PoS w wr (ordK n cx k) (.slice A4 ln c4))) (fun _ t _ => n - (intOf t).toNat)
  case atStart => exact ⟨0, 0, none, 0, Nat.zero_le _, by go_num, rfl, by omega, rfl, HS⟩
  case round =>
    obtain ⟨k, ln, A4, c4, hk, rfl, rfl, hln, HL, HW⟩ := hrel
    clear HS
    by_cases hlt : k < n
    · obtain ⟨l, hl⟩ : ∃ l, l = ordK n cx k := ⟨_, rfl⟩
      have HLl := (show Hid (l = ordK n cx k) from hl)
      rw [← hl] at HW HL
      clear hl
      have HF0 := (show Hid (∀ q, q < 0 → frO n cx l q = false) from fun q h => absurd h (Nat.not_lt_zero _))
      go_wp2_with fail
      try go_step3
      try go_wp2_with fail
      go_loopw [4, 12] (fun u t wr => ∃ (r : Nat), r ≤ n ∧ t = .int .i64 (r : Int) ∧ u = .slice A4 ln c4 ∧ Hid (PoS w wr l (.slice A4 ln c4)) ∧ Hid (∀ q, q < r → frO n cx l q = false)) (fun _ t _ => n - (intOf t).toNat)
      case atStart => exact ⟨0, Nat.zero_le _, by go_num, rfl, HW, HF0⟩
      case round =>
        obtain ⟨r, hr, rfl, rfl, HV, HF⟩ := hrel
        clear HW HF0
        by_cases hrn : r < n
        · have z0 : (0 : Int) ≤ (r : Int) := by omega
          have z1 : (r : Int) < (n : Int) := by omega
          have z2 : (r : Int) < 200 := by omega
          have x0 : wr.cell? ⟨w.heap.size, r, none⟩ = some (.bool (l.contains r)) := HV.out.m.cl (by omega)
          cases hto : l.contains r with
          | true =>
            rw [hto] at x0
            have HF2 := (show Hid (∀ q, q < r + 1 → frO n cx l q = false) from fun q hq => by
              by_cases e : q = r
              · subst e; unfold frO; rw [hto]; rfl
              · exact HF.out q (by omega))
            clear HF hto
            go_wp2_with fail
            go_big_quiet (fail)
            have HV2 := (show Hid (PoS w (wr.drewN nq) l (.slice A4 ln c4)) from HV.out.later (below_dn _))
            generalize wr.drewN nq = w9 at *
            clear HV x0
            go_wp2_with fail
            go_roundw
            case rel => exact ⟨r + 1, by omega, by go_num, rfl, HV2, HF2⟩
            case measure => simp [intOf]; omega
          | false =>
            rw [hto] at x0
            obtain ⟨b, o, A2, c2, rfl, lb, xb, hrow⟩ := HRd.out r (hdl n cx r) (by rw [List.getElem?_map, List.getElem?_range hrn]; rfl)
            have xb' := (HV.out.b.cell (p := ⟨b, o + r, none⟩) lb).trans xb
            obtain ⟨Lm, hLm⟩ : ∃ Lm, Lm = mkL (fun q => l.contains q) := ⟨_, rfl⟩
            obtain ⟨va, hva⟩ : ∃ va, va = (hdl n cx r).all fun q => l.contains q := ⟨_, rfl⟩
            have HLe := (show Hid (Lm.length = 200) from by rw [hLm]; exact mkL_len _)
            have HVa := (show Hid (frO n cx l r = va) from by rw [hva]; unfold frO; rw [hto]; rfl)
            have HHa := (show Hid (∀ W, Below wr.heap.size wr W → Calls Tryz.prog 54 #[.agg Lm.toArray, .slice A2 (hdl n cx r).length c2] W fun e w' => e = .returned (.bool va) ∧ Below wr.heap.size wr w') from fun W hW => by
              rw [hLm, hva]
              refine (hasAll_any (fun q => l.contains q) (hdl n cx r) (Nat.le_trans (hdl_len n cx r) HC.out.2) (fun x hx => by have := (HC.out.1 r x ((hdl_mem HC.out.1).1 hx)).2; have := HC.out.2; omega) A2 c2 W (fun j x hj => ?_)).mono fun e w' ⟨h1, h2⟩ => ⟨h1, hW.trans (h2.mono hW.size)⟩
              obtain ⟨g2, o2, e1, l2, y⟩ := hrow j x hj
              have hbw := HV.out.b.trans (hW.mono HV.out.b.size)
              exact ⟨g2, o2, e1, Nat.lt_of_lt_of_le l2 hbw.size, (hbw.cell (p := ⟨g2, o2 + j, none⟩) l2).trans y⟩)
            have HKe := (show Hid (∀ W, Below wr.heap.size wr W → W.cell? ⟨w.heap.size, r, none⟩ = some (.bool false) ∧ W.cell? ⟨b, o + r, none⟩ = some (.slice A2 (hdl n cx r).length c2) ∧ W.rangeAt w.heap.size 0 Lm) from fun W hW => by
              have hm := HV.out.m.below hW
              have hok : OkR W w.heap.size 0 Lm := by rw [hLm]; exact ⟨mkL_len _, hm.at'⟩
              refine ⟨?_, (hW.cell (p := ⟨b, o + r, none⟩) (Nat.lt_of_lt_of_le lb HV.out.b.size)).trans xb', hok.2⟩
              have h := hm.cl (q := r) (by omega)
              rw [hto] at h
              exact h)
            have HT := (show Hid (l.contains r = false) from hto)
            generalize (hdl n cx r).length = ln2 at *
            have k0 := (HKe.out wr.drew ((Below.refl _ _).drew)).2.2
            have hu0 : Tryz.prog.underlying 94 = some (.array 200 4) := Tryz.underlying94
            have hsz : (Tryz.prog.info? 94).map (·.size) = some Lm.length := by rw [HLe.out]; exact Tryz.size94
            clear lb xb hrow hLm hva hto hu0 hsz
            go_wp2_with fail
            have hu0 : Tryz.prog.underlying 94 = some (.array 200 4) := Tryz.underlying94
            have hsz : (Tryz.prog.info? 94).map (·.size) = some Lm.length := by rw [HLe.out]; exact Tryz.size94
            go_region_held3 (fun W => W.cell? ⟨w.heap.size, r, none⟩ = some (.bool false) ∧ W.cell? ⟨b, o + r, none⟩ = some (.slice A2 ln2 c2) ∧ W.rangeAt w.heap.size 0 Lm) (first | go_keep | exact HKe.out _ b4 | exact HKe.out _ (Below.refl _ _) | exact HKe.out _ ((Below.refl _ _).drew)) ((go_at_call 54; with_reducible refine (HHa.out _ ((Below.refl _ _).drew)).mono ?_; rintro e w4 ⟨rfl, b4⟩))
            rename_i hHeld
            have HV4 := (show Hid (PoS w w4 l (.slice A4 ln c4)) from HV.out.later b4)
            clear hHeld hu0 hsz b4 HHa HKe HV HLe x0 xb'
            cases hvt : va with
            | false =>
              have HF2 := (show Hid (∀ q, q < r + 1 → frO n cx l q = false) from fun q hq => by
                by_cases e : q = r
                · subst e; rw [HVa.out]; exact hvt
                · exact HF.out q (by omega))
              clear HF HVa HT hvt
              go_wp2_with fail
              go_roundw
              case rel => exact ⟨r + 1, by omega, by go_num, rfl, HV4, HF2⟩
              case measure => simp [intOf]; omega
            | true =>
              have HNx := (show Hid (ordK n cx (k + 1) = l ++ [r]) from by rw [HLl.out]; exact ordK_some (nxO_some hrn (by rw [← HLl.out, HVa.out]; exact hvt) (by rw [← HLl.out]; exact HF.out)))
              obtain ⟨w6, hw6⟩ : ∃ w6, w6 = w4.setCell ⟨w.heap.size, r, none⟩ (.bool true) := ⟨_, rfl⟩
              have HE6 := (show Hid (w4.setCell ⟨w.heap.size, r, none⟩ (.bool true) = w6) from hw6.symm)
              have x4 := HV4.out.m.cl (q := r) (by omega)
              have f4 := HV4.out.m.fz r
              have hm6 : MX w6 w.heap.size (fun q => (l ++ [r]).contains q) := by
                have h := HV4.out.m.set (r := r) true
                rw [← hw6] at h
                have e : upM (fun q => l.contains q) r true = fun q => (l ++ [r]).contains q := by
                  funext q
                  unfold upM
                  by_cases e : q = r
                  · rw [if_pos e, e]
                    exact (List.contains_iff_mem.2 (List.mem_append_right _ (List.mem_singleton.2 rfl))).symm
                  · rw [if_neg e, Bool.eq_iff_iff, List.contains_iff_mem, List.contains_iff_mem, List.mem_append, List.mem_singleton]
                    exact ⟨.inl, fun h => h.resolve_right e⟩
                rw [e] at h
                exact h
              have hb6 : Below w.heap.size w w6 := by rw [hw6]; exact HV4.out.b.setCell (p := ⟨w.heap.size, r, none⟩) (Nat.le_refl _) _
              have hlnl : ln = l.length := HL.out
              have HO6 := (show Hid (w6.ownsRow (w.heap.size + 1) 3 1 (.slice A4 ln c4) ln (l.map U.nI)) from by
                have h := HV4.out.o
                rw [← hlnl] at h
                exact own_same h fun q e => by
                  have h1 := (h.lt q e).1
                  rw [hw6]
                  exact heap_setCell_other _ ⟨w.heap.size, r, none⟩ _ _ (show q ≠ w.heap.size by omega))
              have HN6 := (show Hid (w.heap.size + 1 ≤ w6.heap.size) from by
                show _ ≤ _
                rw [hw6, World.size_setCell]
                exact HV4.out.n)
              have hl1 : ln + 1 ≤ 200 := by
                have h := ordK_few (n := n) (c := cx) (k + 1)
                rw [HNx.out, List.length_append, List.length_singleton, ← hlnl] at h
                omega
              have HPu := (show Hid (∀ (g9 cap9 : Nat) (w9 : World), w9.ownsRow (w.heap.size + 1) 3 1 (.slice (some ⟨g9, 0, none⟩) (ln + 1) cap9) (ln + 1) (l.map U.nI ++ [U.nI r]) → w6.grownBy w9 (Value.slice A4 ln c4).ownBlock → PoS w w9 (ordK n cx (k + 1)) (.slice (some ⟨g9, 0, none⟩) (ln + 1) cap9)) from fun g9 cap9 w9 h1 h2 => by
                have hlow : ∀ q, (Value.slice A4 ln c4).ownBlock = some q → w.heap.size + 1 ≤ q := fun q hq => (HO6.out.lt q hq).1
                rw [HNx.out]
                refine ⟨below_grown hb6 h2 (fun q e => by have := hlow q e; omega), hm6.same (h2.block _ hm6.lt (fun e => by have := hlow _ e.symm; omega)), ?_, Nat.le_trans HN6.out h2.size⟩
                rw [List.length_append, List.length_singleton, ← hlnl, List.map_append]
                exact h1)
              have HL2 := (show Hid (ln + 1 = (ordK n cx (k + 1)).length) from by show _ = _; rw [HNx.out, List.length_append, List.length_singleton, ← hlnl])
              clear HF HVa HT hvt hw6 hm6 hb6 hlnl HV4 HNx HL HLl
              go_wp2_with (first | rw [HE6.out] | (at_builtin; refine U.wpList_app1 rfl _ _ 26 rfl (.int .i64 0) 8 Tryz.underlying26 Tryz.info3 rfl (w.heap.size + 1) ln _ (l.map U.nI) rfl rfl HO6.out rfl (by omega) (by decide) HN6.out ?_; intro g9 cap9 w9 ho9 hg9 hat9 hl9; have HV9 := hid_of (HPu.out g9 cap9 w9 ho9 hg9); clear ho9 hg9 hat9 hl9 HPu HO6 HN6 x4 f4))
              go_roundw
              case rel => exact ⟨k + 1, ln + 1, _, _, by omega, by go_num, rfl, hl1, HL2, HV9⟩
              case measure => simp [intOf]; omega
        · obtain rfl : r = n := by omega
          have HK1 := (show Hid (ordK r cx (k + 1) = l) from by rw [HLl.out]; exact ordK_none (nxO_none (by rw [← HLl.out]; exact HF.out)) 1)
          have HV2 := (show Hid (PoS w wr (ordK r cx (k + 1)) (.slice A4 ln c4)) from by rw [HK1.out]; exact HV.out)
          have HL2 := (show Hid (ln = (ordK r cx (k + 1)).length) from by rw [HK1.out]; exact HL.out)
          clear HF HV HL HLl HK1
          go_wp2_with fail
          go_roundw
          case rel => exact ⟨k + 1, ln, A4, c4, by omega, by go_num, rfl, hln, HL2, HV2⟩
          case measure => simp [intOf]; omega
    · obtain rfl : k = n := by omega
      have HFin := (show Hid (wr.ownsRow w.heap.size 3 1 (.slice A4 ln c4) (ordK k cx k).length ((ordK k cx k).map U.nI) ∧ Below w.heap.size w wr) from ⟨own_base HW.out.o (Nat.le_succ _), HW.out.b⟩)
      clear HW HL HC HRd
      go_wp2_with fail
      unfold Exit.noGoto
      go_ret
      exact ⟨⟨_, rfl, HFin.out.1⟩, HFin.out.2⟩
end Go.Proofs.YtbipjdgholdhcaaGreat.N

namespace Go.Proofs.YtbipjdgholdhcaaGreat.N
open Go.RowKit Go.Maps
open Go.Proofs.YtbipjdgholdhcaaGreat.T
/-- While a grammar is lent: its box, the lent one's, and what was lent. -/
structure LyS (w0 wr : World) (wb k : Nat) (u1 u2 : Value) (g cap : Nat) (ov : List Le) : Prop where
  l : LgB w0 wr g cap ov
  x1 : GX wr wb u1
  x2 : GX wr k u2
theorem LyS.later {w0 wr W' : World} {wb k : Nat} {u1 u2 : Value} {g cap : Nat} {ov : List Le} (h : LyS w0 wr wb k u1 u2 g cap ov) (hb : Below wr.heap.size wr W') : LyS w0 W' wb k u1 u2 g cap ov := ⟨h.l.later hb, h.x1.below hb, h.x2.below hb⟩
theorem LyS.box {w0 w2 wr : World} {wb k : Nat} {u1 u2 : Value} {g cap : Nat} {ov : List Le} (h : LyS w0 w2 wb k u1 u2 g cap ov) (hb : Below w2.heap.size w2 wr) : wr.cell? ⟨wb, 0, none⟩ = some u1 ∧ wr.cell? ⟨k, 0, none⟩ = some u2 := ⟨(h.later hb).x1.cl, (h.later hb).x2.cl⟩
theorem vd_doc {gs : GL} {l : List Nat} {p q : Nat} {cd : Int} (h : VdR gs l p q cd) : ∃ now, ((ckG gs).2 = 0 → KnF gs now ∧ now.length = gs.length) ∧ VdD gs now l p q cd := by
  by_cases hz : (ckG gs).2 = 0
  · obtain ⟨now, h1, h2, h3⟩ := h.2 hz
    exact ⟨now, fun _ => ⟨h1, h2⟩, fun q => absurd hz q, fun _ => h3⟩
  · exact ⟨[], fun q => absurd q hz, h.1, fun q => absurd q hz⟩
theorem vd_one {gs : GL} {now : List Em} {l l2 : List Nat} {p q p2 q2 : Nat} {cd cd2 : Int} (h : VdD gs now l p q cd) (g : VdD gs now l2 p2 q2 cd2) : l2 = l ∧ p2 = p ∧ q2 = q ∧ cd2 = cd := by
  by_cases hz : (ckG gs).2 = 0
  · have hc := hdM_lt (nb := nbE now) (ckG_ok.1 hz)
    obtain ⟨cy, h1, h2⟩ := h.2 hz
    obtain ⟨cy2, g1, g2⟩ := g.2 hz
    obtain rfl := h1.one hc g1
    rcases h2 with ⟨a1, rfl, rfl, rfl, rfl⟩ | ⟨a1, rfl, h2⟩
    · rcases g2 with ⟨_, rfl, rfl, rfl, rfl⟩ | ⟨b1, _⟩
      · exact ⟨rfl, rfl, rfl, rfl⟩
      · exact absurd b1 a1
    · rcases g2 with ⟨b1, _⟩ | ⟨_, rfl, g2⟩
      · exact absurd a1 b1
      · rcases h2 with ⟨s, r, e1, rfl, rfl, rfl⟩ | ⟨e1, rfl, rfl, rfl⟩
        · rcases g2 with ⟨s2, r2, e2, rfl, rfl, rfl⟩ | ⟨e2, _⟩
          · rw [e1] at e2
            obtain ⟨rfl, _⟩ := List.cons.inj e2
            exact ⟨rfl, rfl, rfl, rfl⟩
          · rw [e1] at e2; cases e2
        · rcases g2 with ⟨s2, r2, e2, _⟩ | ⟨_, rfl, rfl, rfl⟩
          · rw [e1] at e2; cases e2
          · exact ⟨rfl, rfl, rfl, rfl⟩
  · obtain ⟨rfl, h1, rfl⟩ := h.1 hz
    obtain ⟨rfl, g1, rfl⟩ := g.1 hz
    rw [← g1] at h1
    obtain ⟨rfl, rfl⟩ := Prod.mk.inj h1
    exact ⟨rfl, rfl, rfl, rfl⟩
end Go.Proofs.YtbipjdgholdhcaaGreat.N

namespace Go.Proofs.YtbipjdgholdhcaaGreat.N
open Go.RowKit Go.Maps
open Go.Proofs.YtbipjdgholdhcaaGreat.T

open U (own_get own_slice below_grown TT)
theorem pgS_bd {gs : GL} {bd bd2 : Nat → Bool} (h : ∀ i, i < gs.length → bd i = bd2 i) : pgS gs bd = pgS gs bd2 := by
  unfold pgS
  refine List.map_congr_left fun i hi => ?_
  rw [h i (List.mem_range.1 hi)]
theorem rdE_bd0 {gs : GL} {kd : List Nd → Nat → List Nat} {bd bd2 : Nat → Bool} (h : ∀ i, i < gs.length → bd i = bd2 i) (now : List Em) : rdE gs kd bd now = rdE gs kd bd2 now := by
  apply List.ext_getElem?
  intro i
  by_cases hi : i < gs.length
  · have hg : gs[i]? = some gs[i] := List.getElem?_eq_getElem hi
    rw [rdE_get hg, rdE_get hg, h i hi]
  · rw [List.getElem?_eq_none (by rw [rdE_len]; omega), List.getElem?_eq_none (by rw [rdE_len]; omega)]
theorem pgE_bd {gs : GL} {kd : List Nd → Nat → List Nat} {bd bd2 : Nat → Bool} (h : ∀ i, i < gs.length → bd i = bd2 i) : ∀ m, pgE gs kd bd m = pgE gs kd bd2 m := by
  intro m
  induction m with
  | zero => exact pgS_bd h
  | succ m ih =>
    show rdE gs kd bd (pgE gs kd bd m) = rdE gs kd bd2 (pgE gs kd bd2 m)
    rw [ih, rdE_bd0 h]
theorem kf_same {gs : GL} {a b : List Em} (h1 : KnF gs a) (h2 : KnF gs b) : a = b := by
  obtain ⟨R, bd, m, hI, hbd, rfl, he⟩ := h1
  obtain ⟨R2, bd2, m2, hI2, hbd2, rfl, he2⟩ := h2
  have hs : ∀ i, i < gs.length → bd2 i = bd i := fun i hi => by
    rw [hbd2 i, hbd i]
    congr 1
    rw [Bool.eq_iff_iff, hI2.rl i i hi hi, hI.rl i i hi hi]
  rw [pgE_bd hs] at he2 ⊢
  rw [pgE_bd hs] at he2
  have e1 := pg_fix he m2
  have e2 := pg_fix he2 m
  rw [← e1, ← e2, Nat.add_comm]

theorem od_val {gs : GL} {now : List Em} {B : Nat} {w' : World} {e : Ending} {l : List Nat} {p q : Nat} {cd : Int} (hv : VdD gs now l p q cd) (h : OrD gs now B w' e) : ∃ (A1 : Option Addr) (c1 : Nat), e = .returned (.tuple #[.slice A1 (if cd = 0 then ordK gs.length (hdM gs (nbE now)) gs.length else []).length c1, .int .i64 cd]) ∧ w'.ownsRow B 3 1 (.slice A1 (if cd = 0 then ordK gs.length (hdM gs (nbE now)) gs.length else []).length c1) (if cd = 0 then ordK gs.length (hdM gs (nbE now)) gs.length else []).length ((if cd = 0 then ordK gs.length (hdM gs (nbE now)) gs.length else []).map U.nI) := by
  obtain ⟨l2, p2, q2, cd2, hv2, h1, h2⟩ := h
  obtain ⟨_, _, _, rfl⟩ := vd_one hv hv2
  by_cases hc : cd2 = 0
  · subst hc
    rw [if_pos rfl]
    obtain ⟨v, rfl, ho⟩ := h2 rfl
    obtain ⟨A1, c1, rfl⟩ := own_slice ho
    exact ⟨A1, c1, rfl, ho⟩
  · rw [if_neg hc, h1 hc]
    exact ⟨none, 0, rfl, World.ownsRow_nil _ _ _ _⟩
set_option maxRecDepth 100000 in
set_option maxHeartbeats 16000000 in
/-- Order, by the program. -/
theorem forder_any (gs : GL) (A : Option Addr) (c : Nat) (w : World) (hp : GI w A gs) :
    Calls Tryz.prog 18 #[.agg #[.slice A gs.length c]] w fun e w' => (∃ now l p q cd, ((ckG gs).2 = 0 → KnF gs now ∧ now.length = gs.length) ∧ VdD gs now l p q cd ∧ OrD gs now w.heap.size w' e) ∧ Below w.heap.size w w' := by
  obtain ⟨w1, hw1⟩ : ∃ w1, w1 = w.alloc (.cells #[.slice A gs.length c] 24) := ⟨_, rfl⟩
  have HE1 := (show Hid (w.alloc (.cells #[.slice A gs.length c] 24) = w1) from hw1.symm)
  have HS := (show Hid (Below w.heap.size w w1 ∧ GX w1 w.heap.size (.slice A gs.length c)) from by rw [hw1]; exact ⟨below_box _ _, GX.mk (heap_alloc_new w _)⟩)
  have HJ := (show Hid (∀ _ : Unit, Calls Tryz.prog 23 #[.agg #[.slice A gs.length c]] w1 fun e w' => (∃ (hv vc : Value) (l : List Nat) (p q : Nat) (cd : Int), e = .returned (.tuple #[hv, .agg #[vc, .int .i64 (p : Int), .int .i64 (q : Int)], .int .i64 cd]) ∧ VdR gs l p q cd ∧ w'.ownsRow w1.heap.size 3 1 vc l.length (l.map U.nI) ∧ (cd = 0 → ∃ now xs, KnF gs now ∧ now.length = gs.length ∧ xs.length = gs.length ∧ TT w' w1.heap.size 26 3 hv (hdT gs.length (hdM gs (nbE now)) gs.length) xs)) ∧ Below w1.heap.size w1 w') from fun _ => judged_any gs A c w1 (hp.later HS.out.1))
  have q1 := HS.out.2.cl
  clear hw1 hp
  go_enter Tryz.func18, Tryz.ntmps18
  go_wp2_with (rw [HE1.out])
  refine (HJ.out ()).mono ?_
  rintro e w2 ⟨⟨hv, vc, l, p, q, cd, rfl, hvd, ho, hT⟩, b2⟩
  obtain ⟨Ac, cc, rfl⟩ := own_slice ho
  obtain ⟨now, hkn, hvd2⟩ := vd_doc hvd
  have HV := (show Hid (((ckG gs).2 = 0 → KnF gs now ∧ now.length = gs.length) ∧ VdD gs now l p q cd) from ⟨hkn, hvd2⟩)
  obtain ⟨w3, hw3⟩ : ∃ w3, w3 = w2.alloc (.cells #[.slice Ac l.length cc, .int .i64 (p : Int), .int .i64 (q : Int)] 30) := ⟨_, rfl⟩
  have HE3 := (show Hid (w2.alloc (.cells #[.slice Ac l.length cc, .int .i64 (p : Int), .int .i64 (q : Int)] 30) = w3) from hw3.symm)
  have hb3 : Below w2.heap.size w2 w3 := by rw [hw3]; exact below_box _ _
  have HB3 := (show Hid (Below w.heap.size w w3) from (HS.out.1.trans (b2.mono HS.out.1.size)).trans (hb3.mono (HS.out.1.trans (b2.mono HS.out.1.size)).size))
  clear hvd hkn hvd2 ho b2 hw3 HS HE1 HJ q1
  by_cases hcd : cd = 0
  · subst hcd
    have hz : (ckG gs).2 = 0 := by
      by_cases e : (ckG gs).2 = 0
      · exact e
      · exact (HV.out.2.1 e).2.2.symm ▸ rfl
    have hR := ckG_ok.1 hz
    obtain ⟨now2, xs, k2, n2, hxl, hT2⟩ := hT rfl
    obtain rfl := kf_same (HV.out.1 hz).1 k2
    obtain ⟨Ah, ch, hAh⟩ := own_slice hT2.o
    rw [hxl] at hAh
    subst hAh
    have HOr := (show Hid (∀ _ : Unit, Calls Tryz.prog 34 #[.slice Ah gs.length ch] w3 fun e w' => (∃ v, e = .returned v ∧ w'.ownsRow w3.heap.size 3 1 v (ordK gs.length (hdM gs (nbE now)) gs.length).length ((ordK gs.length (hdM gs (nbE now)) gs.length).map U.nI)) ∧ Below w3.heap.size w3 w') from fun _ => order_any (hdM_lt hR) hR.n2 Ah ch w3 (tt_rdl (hT2.below hb3) hxl hR.n1))
    clear hz hR k2 n2 hxl hT2 hT hb3
    go_wp2_with (rw [HE3.out])
    refine (HOr.out ()).mono ?_
    rintro e w4 ⟨⟨v, rfl, ho⟩, b4⟩
    have HF := (show Hid (w4.ownsRow w.heap.size 3 1 v (ordK gs.length (hdM gs (nbE now)) gs.length).length ((ordK gs.length (hdM gs (nbE now)) gs.length).map U.nI) ∧ Below w.heap.size w w4) from ⟨own_base ho HB3.out.size, HB3.out.trans (b4.mono HB3.out.size)⟩)
    clear ho b4 HOr HE3
    go_wp2_with fail
    refine bodyPost_ret (v := .tuple #[v, .int .i64 0]) (by simp [results, Tryz.results18, go_sem]) rfl ?_
    exact ⟨⟨now, l, p, q, 0, HV.out.1, HV.out.2, l, p, q, 0, HV.out.2, fun e => absurd rfl e, fun _ => ⟨v, rfl, HF.out.1⟩⟩, HF.out.2⟩
  · have tz : (cd != 0) = true := by rw [bne, beq_eq_false_iff_ne.2 hcd]; rfl
    have HZ := (show Hid (cd ≠ 0) from hcd)
    clear hcd hT hb3
    go_wp2_with (rw [HE3.out])
    refine bodyPost_ret (v := .tuple #[.slice none 0 0, .int .i64 cd]) (by simp [results, Tryz.results18, go_sem]) rfl ?_
    exact ⟨⟨now, l, p, q, cd, HV.out.1, HV.out.2, l, p, q, cd, HV.out.2, fun _ => rfl, fun e => absurd e HZ.out⟩, HB3.out⟩

set_option maxRecDepth 100000 in
set_option maxHeartbeats 32000000 in
theorem orders_law (gs : GL) (A : Option Addr) (c : Nat) (w : World) (hg : GrIn w A c gs) : Calls Tryz.prog 5 #[.agg #[.slice A gs.length c]] w fun e w' => e = .returned (.bool true) ∧ Below w.heap.size w w' := by
  have hl := hg.len
  obtain ⟨w0, hw0⟩ : ∃ w0, w0 = w.alloc (.cells #[.slice A gs.length c] 24) := ⟨_, rfl⟩
  have hb0 : Below w.heap.size w w0 := by rw [hw0]; exact below_box w _
  have HX0 := (show Hid (GX w0 w.heap.size (.slice A gs.length c)) from by rw [hw0]; exact GX.mk (heap_alloc_new w _))
  have HE0 := (show Hid (w.alloc (.cells #[.slice A gs.length c] 24) = w0) from hw0.symm)
  have hg0 : GrIn w0 A c gs := hg.later hb0
  have HLe : Hid (∀ _ : Unit, Calls Tryz.prog 7 #[.agg #[.slice A gs.length c]] w0 fun e w' => ∃ g cap ov, e = .returned (.agg #[.slice (some ⟨g, 0, none⟩) gs.length cap]) ∧ ov.map (·.1) = gs ∧ LgB w0 w' g cap ov) := fun _ => lendG_any gs A c w0 hg0
  have HK : Hid (∀ (w' : World) (g cap : Nat) (ov : List Le), ov.map (·.1) = gs → LgB w0 w' g cap ov → GrD w' A gs → Calls Tryz.prog 12 #[.agg #[.slice (some ⟨g, 0, none⟩) gs.length cap], .agg #[.slice A gs.length c]] w' fun e w'' => e = .returned (.bool true) ∧ Below w'.heap.size w' w'') := fun w' g cap ov h0 h1 h2 => keptG_any h0 (fun r hr => by
    obtain ⟨k, hk⟩ := List.getElem?_of_mem hr
    obtain ⟨_, _, h6, _⟩ := hg.each k r hk
    exact h6.2.2.2.1) hl h1 h2
  have HWk := (show Hid (∀ W, Calls Tryz.prog 10 #[] W fun e w' => e = .returned (.bool true) ∧ Below W.heap.size W w') from lives_any)
  have HP := (show Hid (GI w0 A gs) from hg0.gi)
  have HB0 := (show Hid (Below w.heap.size w w0) from hb0)
  have x0 := HX0.out.cl
  have HA : Hid (∀ (w' : World) (Ap : Option Addr) (cp : Nat), GI w' Ap gs → Calls Tryz.prog 18 #[.agg #[.slice Ap gs.length cp]] w' fun e w'' => (∃ (A1 : Option Addr) (c1 : Nat) (l : List Nat) (cd : Int), e = .returned (.tuple #[.slice A1 l.length c1, .int .i64 cd]) ∧ l.length ≤ 1000000 ∧ Hid (∀ (w' : World) (Ap : Option Addr) (cp : Nat), GI w' Ap gs → Calls Tryz.prog 19 #[.agg #[.slice Ap gs.length cp]] w' fun e w'' => (∃ (A1 : Option Addr) (c1 : Nat), e = .returned (.tuple #[.slice A1 l.length c1, .int .i64 cd]) ∧ w''.ownsRow w'.heap.size 3 1 (.slice A1 l.length c1) l.length (l.map U.nI)) ∧ Below w'.heap.size w' w'') ∧ w''.ownsRow w'.heap.size 3 1 (.slice A1 l.length c1) l.length (l.map U.nI)) ∧ Below w'.heap.size w' w'') := fun w' Ap cp h => by
    refine (forder_any gs Ap cp w' h).mono ?_
    rintro e w'' ⟨⟨now, l, p, q, cd, hk, hv, hd⟩, b⟩
    obtain ⟨A1, c1, rfl, ho⟩ := od_val hv hd
    refine ⟨⟨A1, c1, _, cd, rfl, ?_, fun w' Ap cp h => ?_, ho⟩, b⟩
    · by_cases hc : cd = 0
      · rw [if_pos hc]
        have hz : (ckG gs).2 = 0 := by
          by_cases e : (ckG gs).2 = 0
          · exact e
          · rw [← (hv.1 e).2.2]; exact hc
        exact Nat.le_trans (ordK_few _) (Nat.le_trans (ckG_ok.1 hz).n2 (by omega))
      · rw [if_neg hc]; exact Nat.zero_le _
    · refine (orderD10_any hk Ap cp w' h).mono ?_
      rintro e w'' ⟨hd, b⟩
      obtain ⟨A2, c2, rfl, ho⟩ := od_val hv hd
      exact ⟨⟨A2, c2, rfl, ho⟩, b⟩
  clear hg hl hg0 hw0 hb0
  go_enter Tryz.func5, Tryz.ntmps5
  go_wp2_with (rw [HE0.out])
  refine (HLe.out ()).mono ?_
  rintro e w1 ⟨g, cap, ov, rfl, hm, ho⟩
  have HM := (show Hid (ov.map (·.1) = gs) from hm)
  obtain ⟨w2, hw2⟩ : ∃ w2, w2 = w1.alloc (.cells #[.slice (some ⟨g, 0, none⟩) gs.length cap] 24) := ⟨_, rfl⟩
  have HE2 := (show Hid (w1.alloc (.cells #[.slice (some ⟨g, 0, none⟩) gs.length cap] 24) = w2) from hw2.symm)
  have HS2 := (show Hid (LyS w0 w2 w.heap.size w1.heap.size (.slice A gs.length c) (.slice (some ⟨g, 0, none⟩) gs.length cap) g cap ov) from by
    have hb : Below w1.heap.size w1 w2 := by rw [hw2]; exact below_box w1 _
    have hX1 : GX w1 w.heap.size (.slice A gs.length c) := HX0.out.same (ho.b.block _ HX0.out.lt)
    exact ⟨ho.later hb, hX1.below hb, by rw [hw2]; exact GX.mk (heap_alloc_new w1 _)⟩)
  have y1 := HS2.out.x1.cl
  have y2 := HS2.out.x2.cl
  have HIn := (show Hid (∀ W, LyS w0 W w.heap.size w1.heap.size (.slice A gs.length c) (.slice (some ⟨g, 0, none⟩) gs.length cap) g cap ov → GI W (some ⟨g, 0, none⟩) gs ∧ GI W A gs) from fun W h => ⟨⟨h.l.gr HM.out, HP.out.l, HP.out.t⟩, HP.out.later h.l.b⟩)
  clear ho hm HLe hw2 x0 HX0
  go_wp2_with (rw [HE2.out])
  generalize w1.heap.size = k1 at *
  refine (HA.out w2 _ _ (HIn.out _ HS2.out).1).mono ?_
  rintro e w3 ⟨⟨A1, c1, l1, cd1, rfl, hl1, HD1, ho1⟩, b3⟩
  have HL1 := (show Hid (l1.length ≤ 1000000) from hl1)
  have HB3 := (show Hid (Below w2.heap.size w2 w3) from b3)
  have H1 := (show Hid (w3.ownsRow w2.heap.size 3 1 (.slice A1 l1.length c1) l1.length (l1.map U.nI)) from ho1)
  have p1 := (HS2.out.box HB3.out).1
  have p2 := (HS2.out.box HB3.out).2
  clear ho1 b3 HE2 y1 y2 HA hl1
  go_wp2_with fail
  refine (HD1.out w3 _ _ (HIn.out _ (HS2.out.later HB3.out)).2).mono ?_
  rintro e w4 ⟨⟨A2, c2, rfl, ho2⟩, b4⟩
  have HB4 := (show Hid (Below w2.heap.size w2 w4) from HB3.out.trans (b4.mono HB3.out.size))
  have H4 := (show Hid (w4.ownsRow w2.heap.size 3 1 (.slice A1 l1.length c1) l1.length (l1.map U.nI) ∧ w4.ownsRow w3.heap.size 3 1 (.slice A2 l1.length c2) l1.length (l1.map U.nI)) from ⟨own_below H1.out b4, ho2⟩)
  clear ho2 b4 p1 p2 HB3 H1 HD1
  go_wp2_with fail
  refine (HWk.out w4).mono ?_
  rintro e w7 ⟨rfl, b7⟩
  have HB7 := (show Hid (Below w2.heap.size w2 w7) from HB4.out.trans (b7.mono HB4.out.size))
  have HSa := (show Hid (∀ _ : Unit, Calls Tryz.prog 11 #[.slice A1 l1.length c1, .slice A2 l1.length c2] w7 fun e w' => e = .returned (.bool true) ∧ Below w7.heap.size w7 w') from fun _ => SameInts_any l1 HL1.out w7 (own_below H4.out.1 b7) (own_below H4.out.2 b7))
  clear b7 HB4 H4 HWk HL1
  go_wp2_with fail
  refine (HSa.out ()).mono ?_
  rintro e w8 ⟨rfl, b8⟩
  have HB8 := (show Hid (Below w2.heap.size w2 w8) from HB7.out.trans (b8.mono HB7.out.size))
  have p1 := (HS2.out.box HB8.out).1
  have p2 := (HS2.out.box HB8.out).2
  clear b8 HB7 HSa
  go_wp2_with fail
  refine (HK.out w8 g cap ov HM.out (HS2.out.later HB8.out).l (HP.out.d.later (HS2.out.later HB8.out).l.b)).mono ?_
  rintro e w9 ⟨rfl, b9⟩
  have HB9 := (show Hid (Below w2.heap.size w2 w9) from HB8.out.trans (b9.mono HB8.out.size))
  clear b9 HB8 p1 p2 HK
  go_wp2_with fail
  go_ret
  exact ⟨rfl, HB0.out.trans (((HS2.out.l.b).trans (HB9.out.mono HS2.out.l.b.size)).mono HB0.out.size)⟩
end Go.Proofs.YtbipjdgholdhcaaGreat.N

namespace Go.Proofs.YtbipjdgholdhcaaGreat
open Go.ChangeShapes Go.WideShapes Go.ChangeAt Go.RowKit
open Go.ChangeMaps (open_string shut_string)
set_option maxRecDepth 100000 in
theorem fordOrders_lifted (os : Os) (started : os.Started) (H : Type) (enc : TypeId × Value → H) :
    ReturnsInHanded {} Tryz.checked os 5 .any (Rows.fordOrdersSpec.pre6 enc Tryz.prog Tryz.f5 Rows.fordOrdersRow.domain false) (Rows.fordOrdersSpec.post enc Tryz.prog Tryz.f5 false true false false) := by
  refine returnsInHanded_of_change_sized (C := Tryz.checked) T.own started (by kernel_rfl) Tryz.func5
    (ChangeSpec.witness6 (enc := enc) (C := Tryz.checked) false ⟨#[], #[.agg #[.slice none 0 0]], []⟩ 8 (by kernel_rfl) (by kernel_rfl) (by kernel_rfl) (by kernel_rfl)) ?_
  intro W base args ds gs before hval0 hW hcnd hsz _
  have hval : ∀ (j : Nat) t v, Tryz.f5.params[j]? = some t → args[j]? = some v → Value.okWide Tryz.prog W .any base t v := hval0
  have hW' := hW
  obtain ⟨p, q, hA0, hV, rfl, hfz, hnd⟩ := hW
  have hA : DataW.TrodAll enc Tryz.prog W 0 (fun _ => true) true Tryz.f5.params.toList args.toList ds p := hA0
  rw [Tryz.params5] at hA hval
  have hsz : (DataW.weightsEach Tryz.prog (#[24].toList ++ Rows.fordOrdersSpec.plain.varTypes Tryz.prog) (ds ++ gs)).all (· ≤ reachBytes) = true := hsz
  obtain ⟨v0, d0, rfl, rfl, h0⟩ := trodAll_one hA
  obtain ⟨rfl, rfl⟩ := trodVars_none hV
  have lt0 : ∀ x ∈ p, x.block < W.heap.size := by obtain ⟨m, hm⟩ := h0; exact DataW.trod_lt m _ _ _ hm
  obtain ⟨A0, c0, L0, rfl, r0⟩ := N.open_gram h0 (hval 0 24 v0 rfl rfl) (T.sized_at hsz (j := 0) rfl rfl)
  clear hA0 hval0
  refine (N.orders_law L0 A0 c0 W r0).mono fun e W' ⟨he, bel⟩ => ?_
  subst he
  exact ⟨_, rfl, _, _, _, [], _, [], hW', trodAll_mk1 (shut_bool Tryz.underlying4 _), (trodAll_mk1 (Below.trod T.laidOut (by kernel_rfl) (of_decide_eq_true (by kernel_rfl)) h0 bel lt0)), rfl, bel.frame _, fun h => by cases h⟩

theorem fordOrders_holds : Rows.FordOrdersSaid :=
  OpenClaim.holds_of_wide 5 Tryz.f5 rfl rfl rfl rfl rfl rfl rfl ⟨rfl, rfl, rfl, rfl, rfl⟩ rfl rfl rfl rfl rfl (by kernel_rfl) Tryz.func5 (by kernel_rfl)
    (of_decide_eq_true (by kernel_rfl)) (by unfold Func.isWrapper; first | (rw [if_pos (by decide +kernel)]; kernel_rfl) | (rw [if_neg (by decide +kernel)]; exact ⟨rfl, rfl⟩))
    (fun os started H enc _ => fordOrders_lifted os started H enc)
end Go.Proofs.YtbipjdgholdhcaaGreat
