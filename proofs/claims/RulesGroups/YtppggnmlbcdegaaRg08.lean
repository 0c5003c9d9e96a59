/- DERIVED. Plain mathematics and walks, laid together (8). -/
import Derived.Test.YtppggnmlbcdegaaRg07
namespace Go.Proofs.Ytppggnmlbcdegaa.N
open Go.RowKit Go.Maps
open Go.Proofs.Ytppggnmlbcdegaa.T

open U (nI own_get own_slice wpList_app1 below_grown TT Out info_split)
theorem lsB_snoc (l : List Bool) (b : Bool) : lsB (l ++ [b]) = lsB l ++ (if b then [l.length] else []) := by
  unfold lsB
  rw [List.length_append, List.length_singleton, List.range_succ, List.filter_append]
  congr 1
  · refine List.filter_congr fun i hi => ?_
    rw [List.getElem?_append_left (List.mem_range.1 hi)]
  · rw [List.filter_cons, List.getElem?_append_right (Nat.le_refl _), Nat.sub_self]
    cases b <;> rfl
theorem lsB_take {l : List Bool} {k : Nat} {b : Bool} (h : l[k]? = some b) : lsB (l.take (k + 1)) = lsB (l.take k) ++ (if b then [k] else []) := by
  have hk := (List.getElem?_eq_some_iff.1 h).1
  rw [List.take_add_one, h]
  have := lsB_snoc (l.take k) b
  rw [List.length_take, Nat.min_eq_left (by omega)] at this
  exact this
/-- While numbers are listed. -/
structure LsS (w wr : World) (u : Value) (ls : List Nat) : Prop where
  b : Below w.heap.size w wr
  o : wr.ownsRow w.heap.size 3 1 u ls.length (ls.map nI)
theorem LsS.push {w wr w5 : World} {u u' : Value} {ls : List Nat} {k : Nat} (h : LsS w wr u ls) (ho : w5.ownsRow w.heap.size 3 1 u' (ls.length + 1) (ls.map nI ++ [nI k])) (hg : wr.grownBy w5 u.ownBlock) : LsS w w5 u' (ls ++ [k]) :=
  ⟨below_grown h.b hg (fun j e => (h.o.lt j e).1), by rw [List.length_append, List.map_append]; exact ho⟩
set_option maxRecDepth 100000 in
set_option maxHeartbeats 8000000 in
theorem marked_any (l : List Bool) (hl : l.length ≤ 200) {B4 : Nat} {v : Value} (w : World) (ho : w.ownsRow B4 4 1 v l.length (l.map Value.bool)) :
    Calls Try.prog 44 #[v] w fun e w' => (∃ u, e = .returned u ∧ w'.ownsRow w.heap.size 3 1 u (lsB l).length ((lsB l).map nI)) ∧ Below w.heap.size w w' := by
  obtain ⟨Av, cv, rfl⟩ := own_slice ho
  have HC := (show Hid (∀ (k : Nat) b, l[k]? = some b → ∃ g, Av = some ⟨g, 0, none⟩ ∧ g < w.heap.size ∧ w.cell? ⟨g, k, none⟩ = some (.bool b)) from fun k b hk => by
    obtain ⟨g, cp, e, _, lt, x, _⟩ := own_get ho (j := k) (x := .bool b) (by rw [List.getElem?_map, hk]; rfl)
    have e1 : Av = some ⟨g, 0, none⟩ := by injection e
    exact ⟨g, e1, lt, x⟩)
  have HS := (show Hid (LsS w w (.slice none 0 0) (lsB (l.take 0))) from ⟨Below.refl _ _, World.ownsRow_nil _ _ _ _⟩)
  clear ho
  go_enter Try.func44, Try.ntmps44
  go_wp2_with fail
  go_loopw [3, 8] (fun u t wr => ∃ (k m : Nat) (ls : List Nat) (A2 : Option Addr) (c2 : Nat), k ≤ l.length ∧ t = .int .i64 (k : Int) ∧ u = .slice A2 m c2 ∧ m ≤ k ∧ Hid (ls.length = m ∧ ls = lsB (l.take k)) ∧ Hid (LsS w wr (.slice A2 m c2) ls)) (fun _ t _ => l.length - (intOf t).toNat)
  case atStart => exact ⟨0, 0, lsB (l.take 0), none, 0, by omega, by go_num, rfl, by omega, ⟨rfl, rfl⟩, HS⟩
  case round =>
    obtain ⟨k, m, ls, A2, c2, hk, rfl, rfl, hm, HL, HW⟩ := hrel
    clear HS
    by_cases hlt : k < l.length
    · obtain ⟨b, hb⟩ : ∃ b, l[k]? = some b := ⟨_, List.getElem?_eq_getElem hlt⟩
      obtain ⟨g, rfl, ltg, xg⟩ := HC.out k b hb
      have xg' := (HW.out.b.cell (p := ⟨g, k, none⟩) ltg).trans xg
      have z0 : (0 : Int) ≤ (k : Int) := by omega
      have z1 : (k : Int) < (l.length : Int) := by omega
      have HT := (show Hid (lsB (l.take (k + 1)) = lsB (l.take k) ++ (if b then [k] else [])) from lsB_take hb)
      clear HC hb xg ltg
      cases b with
      | true =>
        have HL2 := (show Hid ((ls ++ [k]).length = m + 1 ∧ ls ++ [k] = lsB (l.take (k + 1))) from ⟨by rw [List.length_append, HL.out.1]; rfl, by rw [HT.out, ← HL.out.2]; rfl⟩)
        have HO := (show Hid (wr.ownsRow w.heap.size 3 1 (.slice A2 m c2) m (ls.map nI)) from by have h := HW.out.o; rw [HL.out.1] at h; exact h)
        have HBw := (show Hid (w.heap.size ≤ wr.heap.size) from HW.out.b.size)
        have HPu := (show Hid (∀ (u' : Value) (w5 : World), w5.ownsRow w.heap.size 3 1 u' (m + 1) (ls.map nI ++ [nI k]) → wr.grownBy w5 (Value.slice A2 m c2).ownBlock → LsS w w5 u' (ls ++ [k])) from fun u' w5 h1 h2 => HW.out.push (by rw [HL.out.1]; exact h1) h2)
        clear HT HL HW
        go_wp2_with (at_builtin; refine wpList_app1 rfl _ _ 37 rfl (.int .i64 0) 8 Try.underlying37 Try.info3 rfl w.heap.size m _ (ls.map nI) rfl rfl HO.out rfl (by omega) (by decide) HBw.out ?_; intro g3 cap3 w5 ho5 hg5 hat5 hl5; have HW5 := (show Hid (LsS w w5 (.slice (some ⟨g3, 0, none⟩) (m + 1) cap3) (ls ++ [k])) from HPu.out _ _ ho5 hg5); clear ho5 hg5 hat5 hl5 HPu HO HBw xg')
        go_roundw
        case rel => exact ⟨k + 1, m + 1, ls ++ [k], some ⟨g3, 0, none⟩, cap3, by omega, by go_num, rfl, by omega, HL2, HW5⟩
        case measure => simp [intOf]; omega
      | false =>
        have HL2 := (show Hid (ls.length = m ∧ ls = lsB (l.take (k + 1))) from ⟨HL.out.1, by rw [HT.out, ← HL.out.2]; exact (List.append_nil ls).symm⟩)
        clear HT HL
        go_wp2_with fail
        go_roundw
        case rel => exact ⟨k + 1, m, ls, A2, c2, by omega, by go_num, rfl, by omega, HL2, HW⟩
        case measure => simp [intOf]; omega
    · obtain rfl : k = l.length := by omega
      have HO := (show Hid (wr.ownsRow w.heap.size 3 1 (.slice A2 m c2) (lsB l).length ((lsB l).map nI)) from by
        show World.ownsRow _ _ _ _ _ _ _
        have h := HL.out.2
        rw [List.take_length] at h
        rw [← h]
        exact HW.out.o)
      have HB := (show Hid (Below w.heap.size w wr) from HW.out.b)
      clear HW HL HC
      go_wp2_with fail
      go_ret
      exact ⟨⟨_, rfl, HO.out⟩, HB.out⟩
end Go.Proofs.Ytppggnmlbcdegaa.N

namespace Go.Proofs.Ytppggnmlbcdegaa.N
open Go.RowKit Go.Maps
open Go.Proofs.Ytppggnmlbcdegaa.T

open U (nI own_get own_slice wpList_app1 below_grown TT Out info_split)
/-- A table of truth values, as values. -/
def bM (M : List (List Bool)) : List (List Value) := M.map fun l => l.map Value.bool
theorem bM_len (M : List (List Bool)) : (bM M).length = M.length := by unfold bM; rw [List.length_map]
theorem bM_get {M : List (List Bool)} {i : Nat} {l : List Bool} (h : M[i]? = some l) : (bM M)[i]? = some (l.map Value.bool) := by unfold bM; rw [List.getElem?_map, h]; rfl
theorem bM_app (M : List (List Bool)) (l : List Bool) : bM (M ++ [l]) = bM M ++ [l.map Value.bool] := by unfold bM; rw [List.map_append]; rfl
/-- Which rule calls which, as a table. -/
def cM (gs : GL) : List (List Bool) := (List.range gs.length).map fun i => (List.range gs.length).map (cG gs i)
theorem cM_get {gs : GL} {i : Nat} (h : i < gs.length) : (cM gs)[i]? = some ((List.range gs.length).map (cG gs i)) := by
  unfold cM; rw [List.getElem?_map, List.getElem?_range h]; rfl
theorem cM_len (gs : GL) : (cM gs).length = gs.length := by unfold cM; rw [List.length_map, List.length_range]
theorem cM_take {gs : GL} {k : Nat} (h : k < gs.length) : (cM gs).take (k + 1) = (cM gs).take k ++ [(List.range gs.length).map (cG gs k)] := by
  rw [List.take_add_one, cM_get h]; rfl
/-- What the first nodes of a pattern call. -/
def rwC (gs : GL) (L : List Nd) (j : Nat) : List Bool := (List.range gs.length).map fun z => (L.take j).any fun n => decide (n.op = 6) && decide (fdG gs n.tx = some z)
theorem rwC_len (gs : GL) (L : List Nd) (j : Nat) : (rwC gs L j).length = gs.length := by unfold rwC; rw [List.length_map, List.length_range]
theorem rwC_zero (gs : GL) (L : List Nd) : rwC gs L 0 = List.replicate gs.length false := by
  unfold rwC
  rw [List.take_zero]
  apply List.ext_getElem?
  intro i
  rw [List.getElem?_map, List.getElem?_replicate]
  by_cases h : i < gs.length
  · rw [List.getElem?_range h, if_pos h]; rfl
  · rw [List.getElem?_eq_none (by rw [List.length_range]; omega), if_neg h]; rfl
theorem rwC_end {gs : GL} {i : Nat} {g : ByteArray × List Nd} (h : gs[i]? = some g) : rwC gs g.2 g.2.length = (List.range gs.length).map (cG gs i) := by
  unfold rwC
  rw [List.take_length]
  refine List.map_congr_left fun z _ => ?_
  unfold cG
  rw [h]
theorem rwC_no {gs : GL} {L : List Nd} {j : Nat} {n : Nd} (h : L[j]? = some n) (h6 : ¬ n.op = 6) : rwC gs L (j + 1) = rwC gs L j := by
  unfold rwC
  refine List.map_congr_left fun z _ => ?_
  rw [List.take_add_one, h, List.any_append]
  simp [h6]
theorem rwC_yes {gs : GL} {L : List Nd} {j i : Nat} {n : Nd} (h : L[j]? = some n) (h6 : n.op = 6) (hf : fdG gs n.tx = some i) : rwC gs L (j + 1) = (rwC gs L j).set i true := by
  have hi := fdG_lt hf
  apply List.ext_getElem?
  intro z
  by_cases hz : z < gs.length
  · by_cases e : z = i
    · subst e
      rw [List.getElem?_set_self (by rw [rwC_len]; exact hz)]
      unfold rwC
      rw [List.getElem?_map, List.getElem?_range hz, List.take_add_one, h]
      simp [List.any_append, h6, hf]
    · rw [List.getElem?_set_ne (Ne.symm e)]
      unfold rwC
      rw [List.getElem?_map, List.getElem?_map, List.getElem?_range hz, List.take_add_one, h]
      have : ¬ i = z := Ne.symm e
      simp [List.any_append, h6, hf, this]
  · rw [List.getElem?_eq_none (by rw [rwC_len]; omega), List.getElem?_eq_none (by rw [List.length_set, rwC_len]; omega)]
theorem Try.info45 : (Try.prog.info? 45).map (fun i => (i.zero, i.size, i.bytes)) = some (some (.slice none 0 0), 1, 24) := by kernel_rfl
/-- While the document's table of calls is made. -/
structure CaS (w wr : World) (gs : GL) (u v : Value) (k : Nat) (xs : List Value) : Prop where
  b : Below w.heap.size w wr
  x : GX wr w.heap.size u
  t : TT wr (w.heap.size + 1) 45 4 v (bM ((cM gs).take k)) xs
theorem CaS.later {w wr W' : World} {gs : GL} {u v : Value} {k : Nat} {xs : List Value} (h : CaS w wr gs u v k xs) (hb : Below wr.heap.size wr W') : CaS w W' gs u v k xs := ⟨h.b.trans (hb.mono h.b.size), h.x.below hb, h.t.below hb⟩
/-- .. and a row of it. -/
structure CrS (w wr : World) (gs : GL) (u v : Value) (k : Nat) (xs : List Value) (g : Nat) (l : List Bool) : Prop where
  c : CaS w wr gs u v k xs
  o : wr.ownsRow (w.heap.size + 1) 4 1 (.slice (some ⟨g, 0, none⟩) gs.length gs.length) gs.length (l.map Value.bool)
  q : Out v xs g
theorem CrS.later {w wr W' : World} {gs : GL} {u v : Value} {k g : Nat} {xs : List Value} {l : List Bool} (h : CrS w wr gs u v k xs g l) (hb : Below wr.heap.size wr W') : CrS w W' gs u v k xs g l := ⟨h.c.later hb, U.own_below h.o hb, h.q⟩
theorem CrS.set {w wr : World} {gs : GL} {u v : Value} {k g : Nat} {xs : List Value} {l : List Bool} (h : CrS w wr gs u v k xs g l) (i : Nat) : CrS w (wr.setCell ⟨g, i, none⟩ (.bool true)) gs u v k xs g (l.set i true) := by
  obtain ⟨st1, st2⟩ := h.o.stored i (.bool true)
  have hg := (h.o.lt g rfl).1
  refine ⟨⟨below_grown h.c.b st2 (fun k e => by cases e; omega), h.c.x.same (st2.block _ h.c.x.lt (fun e => by injection e with e; omega)), h.c.t.turn h.q st2⟩, by rw [List.map_set]; exact st1, h.q⟩
theorem CrS.push {w wr w5 : World} {gs : GL} {u v : Value} {k g g3 cap3 : Nat} {xs : List Value} {gr : ByteArray × List Nd} (h : CrS w wr gs u v k xs g (rwC gs gr.2 gr.2.length)) (hgr : gs[k]? = some gr) (hk : k < gs.length)
    (ho : w5.ownsRow (w.heap.size + 1) 45 1 (.slice (some ⟨g3, 0, none⟩) (xs.length + 1) cap3) (xs.length + 1) (xs ++ [.slice (some ⟨g, 0, none⟩) gs.length gs.length])) (hg : wr.grownBy w5 v.ownBlock) (hat : v.ownBlock = some g3 ∨ g3 = wr.heap.size + 1) :
    CaS w w5 gs u (.slice (some ⟨g3, 0, none⟩) (xs.length + 1) cap3) (k + 1) (xs ++ [.slice (some ⟨g, 0, none⟩) gs.length gs.length]) := by
  have hv : ∀ j, v.ownBlock = some j → w.heap.size + 1 ≤ j := fun j e => (h.c.t.o.lt j e).1
  refine ⟨below_grown h.c.b hg (fun j e => by have := hv j e; omega), h.c.x.same (hg.block _ h.c.x.lt (fun e => by have := hv _ e.symm; omega)), ?_⟩
  rw [cM_take hk, bM_app]
  refine h.c.t.push (y := .slice (some ⟨g, 0, none⟩) gs.length gs.length) ?_ (fun j e => by cases e; exact h.q) ho hg (fun j e => by
    have e : g3 = j := Option.some.inj e
    subst e
    rcases hat with q | q
    · exact .inl q
    · exact .inr (by omega))
  rw [← rwC_end hgr, List.length_map, rwC_len]
  exact h.o
set_option maxRecDepth 100000 in
set_option maxHeartbeats 16000000 in
theorem callsT_any {gs : GL} (hR : RtG gs) (A : Option Addr) (c : Nat) (w : World) (hp : GI w A gs) :
    Calls Try.prog 42 #[.agg #[.slice A gs.length c]] w fun e w' => (∃ v xs, e = .returned v ∧ TT w' (w.heap.size + 1) 45 4 v (bM (cM gs)) xs) ∧ Below w.heap.size w w' := by
  have hn := hR.n2
  obtain ⟨w1, hw1⟩ : ∃ w1, w1 = w.alloc (.cells #[.slice A gs.length c] 24) := ⟨_, rfl⟩
  have HE0 := (show Hid (w.alloc (.cells #[.slice A gs.length c] 24) = w1) from hw1.symm)
  have HS := (show Hid (CaS w w1 gs (.slice A gs.length c) (.slice none 0 0) 0 []) from by
    show CaS _ _ _ _ _ _ _
    rw [hw1]
    exact ⟨below_box _ _, GX.mk (heap_alloc_new w _), TT.nil _ _ _ _⟩)
  have HMk := (show Hid (∀ wr : World, Below w.heap.size w wr → w.heap.size + 1 ≤ wr.heap.size → ∃ w2, (Instr.makeSlice 45 (.int .i64 (gs.length : Int)) (.int .i64 (gs.length : Int))).run Try.prog wr = .ok (.slice (some ⟨wr.heap.size, 0, none⟩) gs.length gs.length) w2 ∧ w2.ownsRow (w.heap.size + 1) 4 1 (.slice (some ⟨wr.heap.size, 0, none⟩) gs.length gs.length) gs.length (List.replicate gs.length (.bool false)) ∧ wr.grownBy w2 none) from fun wr _ hb => by
    obtain ⟨i0, hinf, hz0, hz1, hz2⟩ := info_split Try.info4
    obtain ⟨w2, hmk, ho2, hg2⟩ := run_make_full (P := Try.prog) wr (w.heap.size + 1) 45 4 i0 (.bool false) 1 Try.underlying45 hinf hz0 hz1 .i64 .i64 gs.length (by rw [hz2]; omega) (by unfold maxLen; omega) hb
    have e : (madeCells (Value.cells (.bool false)) (gs.length * 1)).toList = List.replicate gs.length (Value.bool false) := by rw [Nat.mul_one]; exact toList_madeCells_one _ _
    rw [e] at ho2
    exact ⟨w2, hmk, ho2, hg2⟩)
  have HP := (show Hid (GI w A gs) from hp)
  have HR := (show Hid (RtG gs) from hR)
  clear hp hR hw1
  go_enter Try.func42, Try.ntmps42
  go_wp2_with (rw [HE0.out])
  clear HE0
  go_loopw [3, 4] (fun v t wr => ∃ (k : Nat) (xs : List Value) (A2 : Option Addr) (c2 : Nat), k ≤ gs.length ∧ t = .int .i64 (k : Int) ∧ v = .slice A2 k c2 ∧ Hid (xs.length = k) ∧ Hid (CaS w wr gs (.slice A gs.length c) (.slice A2 k c2) k xs)) (fun _ t _ => gs.length - (intOf t).toNat)
  case atStart => exact ⟨0, [], none, 0, by omega, by go_num, rfl, rfl, HS⟩
  case round =>
    obtain ⟨k, xs, A2, c2, hk, rfl, rfl, HL, HW⟩ := hrel
    clear HS
    have q1 := HW.out.x.cl
    by_cases hlt : k < gs.length
    · obtain ⟨g, hg⟩ : ∃ g, gs[k]? = some g := ⟨_, List.getElem?_eq_getElem hlt⟩
      obtain ⟨b, o, A3, c3, rfl, lb, _, x1, r2⟩ := HP.out.d k g hg
      obtain ⟨w2, hmk, ho2, hg2⟩ := HMk.out wr HW.out.b HW.out.x.lt
      have HS2 := (show Hid (CrS w w2 gs (.slice (some ⟨b, o, none⟩) gs.length c) (.slice A2 k c2) k xs wr.heap.size (rwC gs g.2 0)) from ⟨HW.out.later (below_grown (Below.refl _ _) hg2 (fun j e => by cases e)), by rw [rwC_zero, List.map_replicate]; exact ho2, HW.out.t.new (Nat.le_refl _)⟩)
      have z0 : (0 : Int) ≤ (k : Int) := by omega
      have z1 : (k : Int) < (gs.length : Int) := by omega
      have HLb := (show Hid (b < w.heap.size ∧ w.cell? ⟨b, o + k * 2 + 1, none⟩ = some (.slice A3 g.2.length c3)) from ⟨lb, x1⟩)
      have HR2 := (show Hid (RdN w A3 g.2) from r2)
      have HGk := (show Hid (gs[k]? = some g) from hg)
      have HN := (show Hid (∀ j, j < g.2.length → ∃ n, g.2[j]? = some n ∧ g.2 ≠ [] ∧ (n.op = 6 → ∃ i, fdG gs n.tx = some i)) from fun j hj => ⟨_, List.getElem?_eq_getElem hj, by (intro q; rw [q] at hj; simp at hj), fun h6 => HR.out.dn.c g (List.mem_of_getElem? hg) _ (List.getElem_mem hj) h6⟩)
      have hgl : g.2.length ≤ 140737488355328 := (HP.out.t g (List.mem_of_getElem? hg)).2.1
      clear hg r2 lb x1 HW ho2 hg2 HMk HR
      go_wp2_with fail
      clear hmk q1
      generalize wr.heap.size = g5 at *
      go_loopw [6] (fun t wr => ∃ j : Nat, j ≤ g.2.length ∧ t = .int .i64 (j : Int) ∧ Hid (CrS w wr gs (.slice (some ⟨b, o, none⟩) gs.length c) (.slice A2 k c2) k xs g5 (rwC gs g.2 j))) (fun t _ => g.2.length - (intOf t).toNat)
      case atStart => exact ⟨0, by omega, by go_num, HS2⟩
      case round =>
        obtain ⟨j, hj, rfl, HW⟩ := hrel
        clear HS2
        have q1 := HW.out.c.x.cl
        have x1' := (HW.out.c.b.cell (p := ⟨b, o + k * 2 + 1, none⟩) HLb.out.1).trans HLb.out.2
        by_cases hjl : j < g.2.length
        · obtain ⟨n, hn1, nl, h6f⟩ := HN.out j hjl
          obtain ⟨g1, o1, rfl, l1, q2⟩ := HR2.out nl
          obtain ⟨a0, a1, a2, a3, a4, a5, a6⟩ := (q2.same (HW.out.c.b.block g1 l1)) j n hn1
          have y0 : (0 : Int) ≤ (j : Int) := by omega
          have y1 : (j : Int) < (g.2.length : Int) := by omega
          have HW2 := (show Hid (CrS w (wr.alloc (ndO n)) gs (.slice (some ⟨b, o, none⟩) gs.length c) (.slice A2 k c2) k xs g5 (rwC gs g.2 j)) from HW.out.later (below_box _ _))
          have q3 := HW2.out.c.x.cl
          clear HN HR2 q2 HW nl
          by_cases h6 : n.op = 6
          · have t6 : (n.op == 6) = true := by rw [h6]; rfl
            obtain ⟨i, hf⟩ := h6f h6
            have hi := fdG_lt hf
            have HFi : Hid (∀ W, Below w.heap.size w W → Calls Try.prog 35 #[.agg #[.slice (some ⟨b, o, none⟩) gs.length c], .string n.tx] W fun e w' => e = .returned (.int .i64 (i : Int)) ∧ Below W.heap.size W w') := fun W hW => by
              have h := find_any gs (some ⟨b, o, none⟩) c n.tx W (HP.out.later hW)
              rw [fdN_some hf] at h
              exact h
            have HX := (show Hid (rwC gs g.2 (j + 1) = (rwC gs g.2 j).set i true) from rwC_yes hn1 h6 hf)
            have v0 : (0 : Int) ≤ (i : Int) := by omega
            have v1 : (i : Int) < (gs.length : Int) := by omega
            clear hn1 h6f h6 hf HP
            go_wp2_with fail
            refine (HFi.out _ HW2.out.c.b).mono ?_
            rintro e w4 ⟨rfl, b4⟩
            have HW4 := (show Hid (CrS w w4 gs (.slice (some ⟨b, o, none⟩) gs.length c) (.slice A2 k c2) k xs g5 (rwC gs g.2 j)) from HW2.out.later b4)
            obtain ⟨gm, cm, em, _, _, xm, fm⟩ := own_get HW4.out.o (j := i) (x := .bool (((rwC gs g.2 j)[i]?).getD false)) (by rw [List.getElem?_map, List.getElem?_eq_getElem (by rw [rwC_len]; exact hi)]; rfl)
            have emg : g5 = gm := by injection em with e1; injection e1 with e1; injection e1
            clear em
            subst emg
            have HW5 := (show Hid (CrS w (w4.setCell ⟨g5, i, none⟩ (.bool true)) gs (.slice (some ⟨b, o, none⟩) gs.length c) (.slice A2 k c2) k xs g5 (rwC gs g.2 (j + 1))) from by show CrS _ _ _ _ _ _ _ _ _; rw [HX.out]; exact HW4.out.set i)
            clear HFi b4 HW2 HW4 HX a0 a1 a2 a3 a4 a5 a6 q3 q1 x1' hi
            go_wp2_with fail
            go_roundw
            case rel => exact ⟨j + 1, by omega, by go_num, HW5⟩
            case measure => simp [intOf]; omega
          · have t6 : (n.op == 6) = false := beq_eq_false_iff_ne.2 h6
            have HW5 := (show Hid (CrS w (wr.alloc (ndO n)) gs (.slice (some ⟨b, o, none⟩) gs.length c) (.slice A2 k c2) k xs g5 (rwC gs g.2 (j + 1))) from by show CrS _ _ _ _ _ _ _ _ _; rw [rwC_no hn1 h6]; exact HW2.out)
            clear hn1 h6f h6 HP HW2
            go_wp2_with fail
            go_roundw
            case rel => exact ⟨j + 1, by omega, by go_num, HW5⟩
            case measure => simp [intOf]; omega
        · obtain rfl : j = g.2.length := by omega
          have HO := (show Hid (wr.ownsRow (w.heap.size + 1) 45 1 (.slice A2 k c2) k xs) from by have h := HW.out.c.t.o; rw [HL.out] at h; exact h)
          have HBw := (show Hid (w.heap.size + 1 ≤ wr.heap.size) from HW.out.c.x.lt)
          have HPu := (show Hid (∀ (g3 cap3 : Nat) (w5 : World), w5.ownsRow (w.heap.size + 1) 45 1 (.slice (some ⟨g3, 0, none⟩) (k + 1) cap3) (k + 1) (xs ++ [.slice (some ⟨g5, 0, none⟩) gs.length gs.length]) → wr.grownBy w5 (Value.slice A2 k c2).ownBlock → ((Value.slice A2 k c2).ownBlock = some g3 ∨ g3 = wr.heap.size + 1) → CaS w w5 gs (.slice (some ⟨b, o, none⟩) gs.length c) (.slice (some ⟨g3, 0, none⟩) (k + 1) cap3) (k + 1) (xs ++ [.slice (some ⟨g5, 0, none⟩) gs.length gs.length])) from fun g3 cap3 w5 h1 h2 h3 => by
            have h := HW.out.push (g3 := g3) (cap3 := cap3) HGk.out hlt (by rw [HL.out]; exact h1) h2 h3
            rw [HL.out] at h
            exact h)
          have HL2 := (show Hid ((xs ++ [Value.slice (some ⟨g5, 0, none⟩) gs.length gs.length]).length = k + 1) from by show _ = _; rw [List.length_append, HL.out]; rfl)
          clear HW HL HN HR2 HGk HP
          go_wp2_with (at_builtin; refine wpList_app1 rfl _ _ 76 rfl (.slice none 0 0) 24 Try.underlying76 Try.info45 rfl (w.heap.size + 1) k _ xs rfl rfl HO.out rfl (by omega) (by decide) HBw.out ?_; intro g3 cap3 w5 ho5 hg5 hat5 hl5; have HW5 := (show Hid (CaS w w5 gs (.slice (some ⟨b, o, none⟩) gs.length c) (.slice (some ⟨g3, 0, none⟩) (k + 1) cap3) (k + 1) (xs ++ [.slice (some ⟨g5, 0, none⟩) gs.length gs.length])) from HPu.out g3 cap3 w5 ho5 hg5 hat5); clear ho5 hg5 hat5 hl5 HPu HO HBw q1 x1')
          go_roundw
          case rel => exact ⟨k + 1, xs ++ [.slice (some ⟨g5, 0, none⟩) gs.length gs.length], some ⟨g3, 0, none⟩, cap3, by omega, by go_num, rfl, HL2, HW5⟩
          case measure => simp [intOf]; omega
    · obtain rfl : k = gs.length := by omega
      have HT := (show Hid (TT wr (w.heap.size + 1) 45 4 (.slice A2 gs.length c2) (bM (cM gs)) xs) from by
        show TT _ _ _ _ _ _ _
        have h := HW.out.t
        rw [show (cM gs).take gs.length = cM gs from List.take_of_length_le (by rw [cM_len]; omega)] at h
        exact h)
      have HB := (show Hid (Below w.heap.size w wr) from HW.out.b)
      clear HW HL HMk HP HR
      go_wp2_with fail
      go_ret
      exact ⟨⟨_, xs, rfl, HT.out⟩, HB.out⟩
end Go.Proofs.Ytppggnmlbcdegaa.N

namespace Go.Proofs.Ytppggnmlbcdegaa.N
open Go.RowKit Go.Maps
open Go.Proofs.Ytppggnmlbcdegaa.T

open U (nI own_get own_slice wpList_app1 below_grown TT Out info_split)
/-- A table of truth values that the call owns, between the calls and what is come to. -/
structure CoS (w wr : World) (gs : GL) (v : Value) (M : List (List Bool)) (xs : List Value) : Prop where
  b : Below w.heap.size w wr
  t : TT wr (w.heap.size + 1) 45 4 v (bM M) xs
  i : MI gs.length (cG gs) M
theorem CoS.get {w wr : World} {gs : GL} {g0 cv : Nat} {M : List (List Bool)} {xs : List Value} (h : CoS w wr gs (.slice (some ⟨g0, 0, none⟩) gs.length cv) M xs) {i k : Nat} (hi : i < gs.length) (hk : k < gs.length) : ∃ gi ci, xs[i]? = some (.slice (some ⟨gi, 0, none⟩) gs.length ci) ∧ wr.cell? ⟨g0, i, none⟩ = some (.slice (some ⟨gi, 0, none⟩) gs.length ci) ∧ wr.cell? ⟨gi, k, none⟩ = some (.bool (tb M i k)) ∧ wr.frozen? ⟨gi, k, none⟩ = false := by
  obtain ⟨l, hl, hll⟩ := h.i.t.at' hi
  obtain ⟨x, r, hx, hr, ho⟩ := h.t.at' (i := i) (by rw [bM_len, h.i.t.len]; exact hi)
  rw [bM_get hl] at hr
  cases hr
  rw [List.length_map, hll] at ho
  obtain ⟨g1, c1, e1, _, _, x1, f1⟩ := own_get ho (j := k) (x := .bool (tb M i k)) (by
    rw [List.getElem?_map, tb_of hl, List.getElem?_eq_getElem (by omega)]; rfl)
  subst e1
  have hlx : xs.length = gs.length := h.t.len.trans ((bM_len M).trans h.i.t.len)
  obtain ⟨g2, c2, e2, _, _, x2, _⟩ := own_get h.t.o hx
  have e3 : g0 = g2 := by injection e2 with e3; injection e3 with e3; injection e3
  subst e3
  exact ⟨g1, c1, hx, x2, x1, f1⟩
theorem bM_tbS {n : Nat} {M : List (List Bool)} (_h : Tb n M) {i j : Nat} {l : List Bool} (hl : M[i]? = some l) : (bM M).set i ((l.map Value.bool).set j (.bool true)) = bM (tbS M i j) := by
  rw [tbS_row hl]
  unfold bM
  rw [List.map_set, List.map_set]
theorem CoS.put {w wr : World} {gs : GL} {g0 cv gi ci : Nat} {M : List (List Bool)} {xs : List Value} (h : CoS w wr gs (.slice (some ⟨g0, 0, none⟩) gs.length cv) M xs) {i k j : Nat} (hx : xs[i]? = some (.slice (some ⟨gi, 0, none⟩) gs.length ci)) (h1 : tb M i k = true) (h2 : tb M k j = true) : CoS w (wr.setCell ⟨gi, j, none⟩ (.bool true)) gs (.slice (some ⟨g0, 0, none⟩) gs.length cv) (tbS M i j) xs := by
  obtain ⟨hi, _⟩ := tb_lt h.i.t h1
  obtain ⟨l, hl, _⟩ := h.i.t.at' hi
  obtain ⟨s1, s2⟩ := h.t.store (j := j) hx (bM_get hl) (.bool true)
  rw [bM_tbS h.i.t hl] at s1
  exact ⟨below_grown h.b s2 (fun q e => by cases e; have h9 : w.heap.size + 1 ≤ gi := (h.t.lt hx rfl).1; omega), s1, h.i.step h1 h2⟩
/-- How far it has been gone over, and what came of it. -/
structure ScI (M0 M : List (List Bool)) (more : Bool) (P : Nat → Nat → Nat → Prop) : Prop where
  a : more = false → M = M0 ∧ ∀ i k j, P i k j → tb M i k = true → tb M k j = true → tb M i j = true
  c : more = true → cnT M + 1 ≤ cnT M0
theorem ScI.mono {M0 M : List (List Bool)} {more : Bool} {P Q : Nat → Nat → Nat → Prop} (h : ScI M0 M more P) (hq : ∀ i k j, Q i k j → P i k j ∨ (tb M i k = true → tb M k j = true → tb M i j = true)) : ScI M0 M more Q :=
  ⟨fun e => ⟨(h.a e).1, fun i k j q h1 h2 => by
    rcases hq i k j q with p | p
    · exact (h.a e).2 i k j p h1 h2
    · exact p h1 h2⟩, h.c⟩
theorem ScI.less {n : Nat} {M0 M : List (List Bool)} {more : Bool} {P Q : Nat → Nat → Nat → Prop} (h : ScI M0 M more P) (ht : Tb n M) {i j : Nat} (hi : i < n) (hj : j < n) (q : tb M i j = false) : ScI M0 (tbS M i j) true Q := by
  have hc := cnT_less ht hi hj q
  refine ⟨(fun e => by cases e), fun _ => ?_⟩
  cases hm : more
  · rw [(h.a hm).1] at hc ⊢; omega
  · have := h.c hm; omega
def V2 (n i a b c : Nat) : Prop := a < i ∧ b < n ∧ c < n
def V3 (n i k a b c : Nat) : Prop := V2 n i a b c ∨ (a = i ∧ b < k ∧ c < n)
def V4 (n i k j a b c : Nat) : Prop := V3 n i k a b c ∨ (a = i ∧ b = k ∧ c < j)
/-- Behind a round of the whole: the table so far, closed where nothing was added. -/
structure CmR (n : Nat) (M : List (List Bool)) (more : Bool) (gk : Nat) : Prop where
  z : more = false → ∀ i k j, i < n → k < n → j < n → tb M i k = true → tb M k j = true → tb M i j = true
  m : cnT M + (if more then 1 else 0) ≤ gk
set_option maxRecDepth 100000 in
set_option maxHeartbeats 32000000 in
theorem comes_any {gs : GL} (hR : RtG gs) (A : Option Addr) (c : Nat) (w : World) (hp : GI w A gs) :
    Calls Try.prog 45 #[.agg #[.slice A gs.length c]] w fun e w' => (∃ v xs M, e = .returned v ∧ TT w' w.heap.size 45 4 v (bM M) xs ∧ Tb gs.length M ∧ IsR gs.length (cG gs) (tb M)) ∧ Below w.heap.size w w' := by
  have hn := hR.n2
  have hcG : ∀ i j, cG gs i j = true → i < gs.length ∧ j < gs.length := fun i j q => by
    unfold cG at q
    cases hg : gs[i]? with
    | none => rw [hg] at q; cases q
    | some g =>
      rw [hg] at q
      simp only [List.any_eq_true, Bool.and_eq_true, decide_eq_true_eq] at q
      obtain ⟨nd, _, _, h3⟩ := q
      exact ⟨(List.getElem?_eq_some_iff.1 hg).1, fdG_lt h3⟩
  have hMI : MI gs.length (cG gs) (cM gs) := by
    have htb : ∀ i j, i < gs.length → j < gs.length → tb (cM gs) i j = cG gs i j := fun i j hi hj => by
      rw [tb_of (cM_get hi), List.getElem?_map, List.getElem?_range hj]; rfl
    have hT : Tb gs.length (cM gs) := ⟨cM_len gs, fun l hl => by
      obtain ⟨i, hi, rfl⟩ := List.mem_iff_getElem.1 hl
      have h2 := cM_get (gs := gs) (i := i) (by rw [cM_len] at hi; exact hi)
      rw [List.getElem?_eq_getElem hi] at h2
      rw [Option.some.inj h2, List.length_map, List.length_range]⟩
    exact ⟨hT, fun i j q => by rw [htb i j (hcG i j q).1 (hcG i j q).2]; exact q, fun i j q => by
      obtain ⟨hi, hj⟩ := tb_lt hT q
      rw [htb i j hi hj] at q
      exact Rc.of q⟩
  obtain ⟨w1, hw1⟩ : ∃ w1, w1 = w.alloc (.cells #[.slice A gs.length c] 24) := ⟨_, rfl⟩
  have HE0 := (show Hid (w.alloc (.cells #[.slice A gs.length c] 24) = w1) from hw1.symm)
  have q1 : w1.cell? ⟨w.heap.size, 0, none⟩ = some (.slice A gs.length c) := by rw [hw1]; exact (GX.mk (heap_alloc_new w _)).cl
  have hb1 : Below w.heap.size w w1 := by rw [hw1]; exact below_box _ _
  have hs1 : w1.heap.size = w.heap.size + 1 := by rw [hw1, World.size_alloc]
  have HC := (show Hid (∀ _ : Unit, Calls Try.prog 42 #[.agg #[.slice A gs.length c]] w1 fun e w' => (∃ v xs, e = .returned v ∧ TT w' (w1.heap.size + 1) 45 4 v (bM (cM gs)) xs) ∧ Below w1.heap.size w1 w') from fun _ => callsT_any hR A c w1 (hp.later hb1))
  have HcG := (show Hid (∀ i j, cG gs i j = true → i < gs.length ∧ j < gs.length) from hcG)
  have HMI := (show Hid (MI gs.length (cG gs) (cM gs)) from hMI)
  have HB1 := (show Hid (Below w.heap.size w w1 ∧ w1.heap.size = w.heap.size + 1) from ⟨hb1, hs1⟩)
  have HN1 := (show Hid (1 ≤ gs.length) from hR.n1)
  clear hp hR hw1 hcG hMI hb1 hs1
  go_enter Try.func45, Try.ntmps45
  go_wp2_with (rw [HE0.out])
  refine (HC.out ()).mono ?_
  rintro e w2 ⟨⟨v, xs, rfl, hT⟩, b2⟩
  have HS : Hid (CoS w w2 gs v (cM gs) xs) := ⟨HB1.out.1.trans (b2.mono HB1.out.1.size), hT.base (by have := HB1.out.2; omega), HMI.out⟩
  have hlx : xs.length = gs.length := hT.len.trans ((bM_len _).trans (cM_len gs))
  obtain ⟨g0, cv, rfl, _, _⟩ := hT.o.form (by rw [hlx]; exact HN1.out)
  rw [hlx] at HS ⊢
  clear HC HE0 b2 hT hlx HMI HB1 HN1 q1
  go_wp2_with fail
  go_loopg [4] (cnT (cM gs) + 1) (fun gk mv wr => ∃ (more : Bool) (M : List (List Bool)), mv = .bool more ∧ Hid (CoS w wr gs (.slice (some ⟨g0, 0, none⟩) gs.length cv) M xs) ∧ Hid (CmR gs.length M more gk))
  case atStart => exact ⟨true, cM gs, rfl, HS, ⟨(fun q => by cases q), by simp⟩⟩
  case round =>
    obtain ⟨more, M0, rfl, HW, HG⟩ := hrel
    clear HS
    cases more with
    | false =>
      have HT := (show Hid (TT wr w.heap.size 45 4 (.slice (some ⟨g0, 0, none⟩) gs.length cv) (bM M0) xs) from HW.out.t.base (Nat.le_succ _))
      have HI := (show Hid (IsR gs.length (cG gs) (tb M0)) from HW.out.i.done HcG.out (fun i k j h1 h2 h3 => HG.out.z rfl i k j h1 h2 h3))
      have HTb := (show Hid (Tb gs.length M0) from HW.out.i.t)
      have HB := (show Hid (Below w.heap.size w wr) from HW.out.b)
      clear HW HG HcG
      go_wp2_with fail
      go_ret
      exact ⟨⟨_, xs, M0, rfl, HT.out, HTb.out, HI.out⟩, HB.out⟩
    | true =>
      have HGk := (show Hid (cnT M0 + 1 ≤ gk) from by show cnT M0 + 1 ≤ gk; have h := HG.out.m; simpa using h)
      have HSc := (show Hid (ScI M0 M0 false (V2 gs.length 0)) from ⟨(fun _ => ⟨rfl, fun i k j q => by have := q.1; omega⟩), (fun q => by cases q)⟩)
      clear HG
      go_wp2_with fail
      go_loopw [4, 5] (fun mv t wr => ∃ (more : Bool) (i : Nat) (M : List (List Bool)), i ≤ gs.length ∧ t = .int .i64 (i : Int) ∧ mv = .bool more ∧ Hid (CoS w wr gs (.slice (some ⟨g0, 0, none⟩) gs.length cv) M xs) ∧ Hid (ScI M0 M more (V2 gs.length i))) (fun _ t _ => gs.length - (intOf t).toNat)
      case atStart => exact ⟨false, 0, M0, by omega, by go_num, rfl, HW, HSc⟩
      case round =>
        obtain ⟨more, i, M, hi, rfl, rfl, HW, HX⟩ := hrel
        clear HSc
        by_cases hil : i < gs.length
        · have HSc := (show Hid (ScI M0 M more (V3 gs.length i 0)) from HX.out.mono (fun a b c q => by
            rcases q with q | ⟨_, q, _⟩
            · exact .inl q
            · omega))
          clear HX
          go_wp2_with fail
          go_loopw [4, 6] (fun mv t wr => ∃ (more : Bool) (k : Nat) (M : List (List Bool)), k ≤ gs.length ∧ t = .int .i64 (k : Int) ∧ mv = .bool more ∧ Hid (CoS w wr gs (.slice (some ⟨g0, 0, none⟩) gs.length cv) M xs) ∧ Hid (ScI M0 M more (V3 gs.length i k))) (fun _ t _ => gs.length - (intOf t).toNat)
          case atStart => exact ⟨more, 0, M, by omega, by go_num, rfl, HW, HSc⟩
          case round =>
            obtain ⟨more, k, M, hk, rfl, rfl, HW, HX⟩ := hrel
            clear HSc
            by_cases hkl : k < gs.length
            · have HSc := (show Hid (ScI M0 M more (V4 gs.length i k 0)) from HX.out.mono (fun a b c q => by
                rcases q with q | ⟨_, _, q⟩
                · exact .inl q
                · omega))
              clear HX
              go_wp2_with fail
              go_loopw [4, 7] (fun mv t wr => ∃ (more : Bool) (j : Nat) (M : List (List Bool)), j ≤ gs.length ∧ t = .int .i64 (j : Int) ∧ mv = .bool more ∧ Hid (CoS w wr gs (.slice (some ⟨g0, 0, none⟩) gs.length cv) M xs) ∧ Hid (ScI M0 M more (V4 gs.length i k j))) (fun _ t _ => gs.length - (intOf t).toNat)
              case atStart => exact ⟨more, 0, M, by omega, by go_num, rfl, HW, HSc⟩
              case round =>
                obtain ⟨more, j, M, hj, rfl, rfl, HW, HX⟩ := hrel
                clear HSc
                have z0 : (0 : Int) ≤ (i : Int) := by omega
                have z1 : (i : Int) < (gs.length : Int) := by omega
                have z2 : (0 : Int) ≤ (k : Int) := by omega
                have z3 : (k : Int) < (gs.length : Int) := by omega
                obtain ⟨gi, ci, hxi, c1, d1, _⟩ := HW.out.get hil hkl
                cases hik : tb M i k with
                | false =>
                  rw [hik] at d1
                  have HX2 := (show Hid (ScI M0 M more (V3 gs.length i (k + 1))) from HX.out.mono (fun a b c q => by
                    rcases q with q | ⟨rfl, q1, q2⟩
                    · exact .inl (.inl (.inl q))
                    · by_cases e : b = k
                      · subst e; exact .inr (fun h => by rw [hik] at h; cases h)
                      · exact .inl (.inl (.inr ⟨rfl, by omega, q2⟩))))
                  clear HX hxi hik
                  go_wp2_with fail
                  go_roundw
                  case rel => exact ⟨more, k + 1, M, by omega, by go_num, rfl, HW, HX2⟩
                  case measure => simp [intOf]; omega
                | true =>
                  rw [hik] at d1
                  by_cases hjl : j < gs.length
                  · have y0 : (0 : Int) ≤ (j : Int) := by omega
                    have y1 : (j : Int) < (gs.length : Int) := by omega
                    obtain ⟨gk2, ck2, _, c2, d2, _⟩ := HW.out.get hkl hjl
                    obtain ⟨gi', ci', hxi', c3, d3, f3⟩ := HW.out.get hil hjl
                    rw [hxi] at hxi'
                    obtain ⟨rfl, rfl⟩ : gi = gi' ∧ ci = ci' := by
                      have e := Option.some.inj hxi'
                      injection e with e1 _ e3
                      injection e1 with e1
                      injection e1 with e1
                      exact ⟨e1, e3⟩
                    clear c3 hxi'
                    cases hkj : tb M k j with
                    | false =>
                      rw [hkj] at d2
                      have HX2 := (show Hid (ScI M0 M more (V4 gs.length i k (j + 1))) from HX.out.mono (fun a b c q => by
                        rcases q with q | ⟨rfl, rfl, q⟩
                        · exact .inl (.inl q)
                        · by_cases e : c = j
                          · subst e; exact .inr (fun _ h => by rw [hkj] at h; cases h)
                          · exact .inl (.inr ⟨rfl, rfl, by omega⟩)))
                      clear HX hxi hik hkj
                      go_wp2_with fail
                      go_roundw
                      case rel => exact ⟨more, j + 1, M, by omega, by go_num, rfl, HW, HX2⟩
                      case measure => simp [intOf]; omega
                    | true =>
                      rw [hkj] at d2
                      cases hij : tb M i j with
                      | true =>
                        rw [hij] at d3
                        have HX2 := (show Hid (ScI M0 M more (V4 gs.length i k (j + 1))) from HX.out.mono (fun a b c q => by
                          rcases q with q | ⟨rfl, rfl, q⟩
                          · exact .inl (.inl q)
                          · by_cases e : c = j
                            · subst e; exact .inr (fun _ _ => hij)
                            · exact .inl (.inr ⟨rfl, rfl, by omega⟩)))
                        clear HX hxi hik hkj hij
                        go_wp2_with fail
                        go_roundw
                        case rel => exact ⟨more, j + 1, M, by omega, by go_num, rfl, HW, HX2⟩
                        case measure => simp [intOf]; omega
                      | false =>
                        rw [hij] at d3
                        have HX2 := (show Hid (ScI M0 (tbS M i j) true (V4 gs.length i k (j + 1))) from HX.out.less HW.out.i.t hil hjl hij)
                        have HW2 := (show Hid (CoS w (wr.setCell ⟨gi, j, none⟩ (.bool true)) gs (.slice (some ⟨g0, 0, none⟩) gs.length cv) (tbS M i j) xs) from HW.out.put hxi hik hkj)
                        clear HX hxi hik hkj hij HW
                        go_wp2_with fail
                        go_roundw
                        case rel => exact ⟨true, j + 1, tbS M i j, by omega, by go_num, rfl, HW2, HX2⟩
                        case measure => simp [intOf]; omega
                  · obtain rfl : j = gs.length := by omega
                    have HX2 := (show Hid (ScI M0 M more (V3 gs.length i (k + 1))) from HX.out.mono (fun a b c q => by
                      rcases q with q | ⟨rfl, q1, q2⟩
                      · exact .inl (.inl (.inl q))
                      · by_cases e : b = k
                        · subst e; exact .inl (.inr ⟨rfl, rfl, q2⟩)
                        · exact .inl (.inl (.inr ⟨rfl, by omega, q2⟩))))
                    clear HX hxi hik
                    go_wp2_with fail
                    go_roundw
                    case rel => exact ⟨more, k + 1, M, by omega, by go_num, rfl, HW, HX2⟩
                    case measure => simp [intOf]; omega
            · obtain rfl : k = gs.length := by omega
              have HX2 := (show Hid (ScI M0 M more (V2 gs.length (i + 1))) from HX.out.mono (fun a b c q => by
                by_cases e : a = i
                · subst e; exact .inl (.inr ⟨rfl, q.2.1, q.2.2⟩)
                · exact .inl (.inl ⟨by have := q.1; omega, q.2.1, q.2.2⟩)))
              clear HX
              go_wp2_with fail
              go_roundw
              case rel => exact ⟨more, i + 1, M, by omega, by go_num, rfl, HW, HX2⟩
              case measure => simp [intOf]; omega
        · obtain rfl : i = gs.length := by omega
          have HR2 := (show Hid (CmR gs.length M more (cnT M + (if more then 1 else 0))) from ⟨fun q i k j h1 h2 h3 => (HX.out.a q).2 i k j ⟨h1, h2, h3⟩, Nat.le_refl _⟩)
          have HL2 := (show Hid (cnT M + (if more then 1 else 0) < gk) from by
            have h0 := HGk.out
            show cnT M + (if more then 1 else 0) < gk
            cases hm : more
            · have h1 := (HX.out.a hm).1
              rw [h1]; simp; omega
            · have h1 := HX.out.c hm
              simp; omega)
          clear HX HGk HcG
          go_wp2_with fail
          go_roundg (cnT M + (if more then 1 else 0))
          case measure => exact HL2.out
          case rel => exact ⟨more, M, rfl, HW, HR2⟩
end Go.Proofs.Ytppggnmlbcdegaa.N

namespace Go.Proofs.Ytppggnmlbcdegaa.N
open Go.RowKit Go.Maps
open Go.Proofs.Ytppggnmlbcdegaa.T

open U (nI own_get own_slice wpList_app1 below_grown TT Out info_split)
set_option maxRecDepth 100000 in
set_option maxHeartbeats 4000000 in
theorem sameI_any (v1 v2 : Value) (B1 B2 n : Nat) (l : List Nat) (hl : n ≤ 100000) (w : World) (h1 : w.ownsRow B1 3 1 v1 n (l.map nI)) (h2 : w.ownsRow B2 3 1 v2 n (l.map nI)) :
    Calls Try.prog 22 #[v1, v2] w fun e w' => e = .returned (.bool true) ∧ Below w.heap.size w w' := by
  have form : ∀ (v : Value) (B : Nat), w.ownsRow B 3 1 v n (l.map nI) → ∃ A c, v = .slice A n c ∧ (0 < n → ∃ g, A = some ⟨g, 0, none⟩ ∧ g < w.heap.size ∧ ∀ (j : Nat) (x : Nat), l[j]? = some x → w.cell? ⟨g, j, none⟩ = some (nI x)) := fun v B h => by
    have hc := h
    rcases h.2 with ⟨rfl, h0⟩ | ⟨g, cap, cur, rfl, _⟩
    · exact ⟨none, 0, by rw [h0], fun q => by omega⟩
    · refine ⟨_, cap, rfl, fun _ => ⟨g, rfl, (hc.lt g rfl).2, fun j x hj => ?_⟩⟩
      have := hc.cells (g := g) rfl j (nI x) (by rw [List.getElem?_map, hj]; rfl)
      rwa [Addr.add_lit, Nat.zero_add] at this
  obtain ⟨A1, c1, rfl, f1⟩ := form v1 B1 h1
  obtain ⟨A2, c2, rfl, f2⟩ := form v2 B2 h2
  have hll : l.length = n := by have := h1.1; rw [List.length_map] at this; omega
  have H1 := (show Hid _ from f1)
  have H2 := (show Hid _ from f2)
  have HG := (show Hid (∀ k, k < n → ∃ x, l[k]? = some x) from fun k hk => ⟨_, List.getElem?_eq_getElem (by omega)⟩)
  clear h1 h2 form f1 f2 hll
  go_enter Try.func22, Try.ntmps22
  go_wp2_with fail
  go_loopw [5] (fun t wr => ∃ k : Nat, k ≤ n ∧ t = .int .i64 k ∧ Hid (Below w.heap.size w wr)) (fun t _ => n - (intOf t).toNat)
  case atStart => exact ⟨0, by omega, by go_num, Below.refl _ _⟩
  case round =>
    obtain ⟨k, hk, rfl, HW⟩ := hrel
    by_cases hlt : k < n
    · obtain ⟨x, hx⟩ := HG.out k hlt
      obtain ⟨g1, rfl, l1, q1⟩ := H1.out (by omega)
      obtain ⟨g2, rfl, l2, q2⟩ := H2.out (by omega)
      have e1 := (HW.out.cell (p := ⟨g1, k, none⟩) l1).trans (q1 k x hx)
      have e2 := (HW.out.cell (p := ⟨g2, k, none⟩) l2).trans (q2 k x hx)
      have z0 : (0 : Int) ≤ (k : Int) := by omega
      have z1 : (k : Int) < (n : Int) := by omega
      unfold nI at e1 e2
      clear HG H1 H2 q1 q2 hx
      go_wp2_with fail
      go_quiet (fail)
      have HW2 := (show Hid (Below w.heap.size w (wr.drewN nq)) from HW.out.trans (below_drewN (Below.refl _ _) _))
      generalize wr.drewN nq = w2 at *
      clear e1 e2 HW
      go_wp2
      go_roundw
      case rel => exact ⟨k + 1, by omega, by go_num, HW2⟩
      case measure => simp [intOf]; omega
    · obtain rfl : k = n := by omega
      clear HG H1 H2
      go_wp2
      go_ret
      exact ⟨rfl, HW.out⟩
set_option maxRecDepth 100000 in
set_option maxHeartbeats 4000000 in
theorem sameB_any (v1 v2 : Value) (B1 B2 n : Nat) (l : List Bool) (hl : n ≤ 100000) (w : World) (h1 : w.ownsRow B1 4 1 v1 n (l.map Value.bool)) (h2 : w.ownsRow B2 4 1 v2 n (l.map Value.bool)) :
    Calls Try.prog 27 #[v1, v2] w fun e w' => e = .returned (.bool true) ∧ Below w.heap.size w w' := by
  have form : ∀ (v : Value) (B : Nat), w.ownsRow B 4 1 v n (l.map Value.bool) → ∃ A c, v = .slice A n c ∧ (0 < n → ∃ g, A = some ⟨g, 0, none⟩ ∧ g < w.heap.size ∧ ∀ (j : Nat) (x : Bool), l[j]? = some x → w.cell? ⟨g, j, none⟩ = some (Value.bool x)) := fun v B h => by
    have hc := h
    rcases h.2 with ⟨rfl, h0⟩ | ⟨g, cap, cur, rfl, _⟩
    · exact ⟨none, 0, by rw [h0], fun q => by omega⟩
    · refine ⟨_, cap, rfl, fun _ => ⟨g, rfl, (hc.lt g rfl).2, fun j x hj => ?_⟩⟩
      have := hc.cells (g := g) rfl j (Value.bool x) (by rw [List.getElem?_map, hj]; rfl)
      rwa [Addr.add_lit, Nat.zero_add] at this
  obtain ⟨A1, c1, rfl, f1⟩ := form v1 B1 h1
  obtain ⟨A2, c2, rfl, f2⟩ := form v2 B2 h2
  have hll : l.length = n := by have := h1.1; rw [List.length_map] at this; omega
  have H1 := (show Hid _ from f1)
  have H2 := (show Hid _ from f2)
  have HG := (show Hid (∀ k, k < n → ∃ x, l[k]? = some x) from fun k hk => ⟨_, List.getElem?_eq_getElem (by omega)⟩)
  clear h1 h2 form f1 f2 hll
  go_enter Try.func27, Try.ntmps27
  go_wp2_with fail
  go_loopw [5] (fun t wr => ∃ k : Nat, k ≤ n ∧ t = .int .i64 k ∧ Hid (Below w.heap.size w wr)) (fun t _ => n - (intOf t).toNat)
  case atStart => exact ⟨0, by omega, by go_num, Below.refl _ _⟩
  case round =>
    obtain ⟨k, hk, rfl, HW⟩ := hrel
    by_cases hlt : k < n
    · obtain ⟨x, hx⟩ := HG.out k hlt
      obtain ⟨g1, rfl, l1, q1⟩ := H1.out (by omega)
      obtain ⟨g2, rfl, l2, q2⟩ := H2.out (by omega)
      have e1 := (HW.out.cell (p := ⟨g1, k, none⟩) l1).trans (q1 k x hx)
      have e2 := (HW.out.cell (p := ⟨g2, k, none⟩) l2).trans (q2 k x hx)
      have z0 : (0 : Int) ≤ (k : Int) := by omega
      have z1 : (k : Int) < (n : Int) := by omega
      skip
      clear HG H1 H2 q1 q2 hx
      go_wp2_with fail
      go_quiet (fail)
      have HW2 := (show Hid (Below w.heap.size w (wr.drewN nq)) from HW.out.trans (below_drewN (Below.refl _ _) _))
      generalize wr.drewN nq = w2 at *
      clear e1 e2 HW
      go_wp2
      go_roundw
      case rel => exact ⟨k + 1, by omega, by go_num, HW2⟩
      case measure => simp [intOf]; omega
    · obtain rfl : k = n := by omega
      clear HG H1 H2
      go_wp2
      go_ret
      exact ⟨rfl, HW.out⟩
theorem cG_lt {gs : GL} {i j : Nat} (q : cG gs i j = true) : i < gs.length ∧ j < gs.length := by
  unfold cG at q
  cases hg : gs[i]? with
  | none => rw [hg] at q; cases q
  | some g =>
    rw [hg] at q
    simp only [List.any_eq_true, Bool.and_eq_true, decide_eq_true_eq] at q
    obtain ⟨nd, _, _, h3⟩ := q
    exact ⟨(List.getElem?_eq_some_iff.1 hg).1, fdG_lt h3⟩
end Go.Proofs.Ytppggnmlbcdegaa.N

namespace Go.Proofs.Ytppggnmlbcdegaa.N
open Go.RowKit Go.Maps
open Go.Proofs.Ytppggnmlbcdegaa.T

open U (nI own_get own_slice wpList_app1 below_grown TT Out info_split)
/-- A table of truth values that is read. -/
structure WyR (w : World) (gs : GL) (v : Value) (M : List (List Bool)) (xs : List Value) (N : Nat) : Prop where
  t : TT w N 45 4 v (bM M) xs
  b : Tb gs.length M
theorem WyR.form {w : World} {gs : GL} {v : Value} {M : List (List Bool)} {xs : List Value} {N : Nat} (h : WyR w gs v M xs N) : ∃ A c, v = .slice A gs.length c := by
  have hlx : xs.length = gs.length := h.t.len.trans ((bM_len M).trans h.b.len)
  obtain ⟨A, c, e⟩ := own_slice h.t.o
  rw [hlx] at e
  exact ⟨A, c, e⟩
theorem WyR.get {w wr : World} {gs : GL} {A : Option Addr} {cv N : Nat} {M : List (List Bool)} {xs : List Value} (h : WyR w gs (.slice A gs.length cv) M xs N) (hb : Below w.heap.size w wr) {i k : Nat} (hi : i < gs.length) (hk : k < gs.length) : ∃ g0 gi ci, A = some ⟨g0, 0, none⟩ ∧ xs[i]? = some (.slice (some ⟨gi, 0, none⟩) gs.length ci) ∧ wr.cell? ⟨g0, i, none⟩ = some (.slice (some ⟨gi, 0, none⟩) gs.length ci) ∧ wr.cell? ⟨gi, k, none⟩ = some (.bool (tb M i k)) := by
  obtain ⟨l, hl, hll⟩ := h.b.at' hi
  obtain ⟨x, r, hx, hr, ho⟩ := h.t.at' (i := i) (by rw [bM_len, h.b.len]; exact hi)
  rw [bM_get hl] at hr
  cases hr
  rw [List.length_map, hll] at ho
  obtain ⟨g1, c1, e1, _, lt1, x1, f1⟩ := own_get ho (j := k) (x := .bool (tb M i k)) (by
    rw [List.getElem?_map, tb_of hl, List.getElem?_eq_getElem (by omega)]; rfl)
  subst e1
  obtain ⟨g2, c2, e2, _, lt2, x2, _⟩ := own_get h.t.o hx
  have e3 : A = some ⟨g2, 0, none⟩ := by injection e2
  exact ⟨g2, g1, c1, e3, hx, (hb.cell (p := ⟨g2, i, none⟩) lt2).trans x2, (hb.cell (p := ⟨g1, k, none⟩) lt1).trans x1⟩
/-- While the ways are found. -/
structure WaS (w wr : World) (gs : GL) (v : Value) (M : List (List Bool)) (xs : List Value) : Prop where
  b : Below w.heap.size w wr
  t : TT wr w.heap.size 45 4 v (bM M) xs
  r : ∀ l ∈ M, l.length = gs.length
  i : ∀ (i : Nat) l, M[i]? = some l → ∀ j, l[j]? = some true ↔ Rc gs.length (cG gs) i j
theorem WaS.push {w wr w4 w5 : World} {gs : GL} {v u : Value} {k g3 cap3 : Nat} {M : List (List Bool)} {xs : List Value} {l : List Bool} (h : WaS w wr gs v M xs) (hx : xs.length = k) (b4 : Below wr.heap.size wr w4) (hl : l.length = gs.length) (hm : ∀ j, l[j]? = some true ↔ Rc gs.length (cG gs) k j) (ho4 : w4.ownsRow wr.heap.size 4 1 u gs.length (l.map Value.bool))
    (ho : w5.ownsRow w.heap.size 45 1 (.slice (some ⟨g3, 0, none⟩) (k + 1) cap3) (k + 1) (xs ++ [u])) (hg : w4.grownBy w5 v.ownBlock) (hat : v.ownBlock = some g3 ∨ g3 = w4.heap.size + 1) : WaS w w5 gs (.slice (some ⟨g3, 0, none⟩) (k + 1) cap3) (M ++ [l]) (xs ++ [u]) := by
  have hb4 : Below w.heap.size w w4 := h.b.trans (b4.mono h.b.size)
  have ht4 := h.t.below b4
  have hML : M.length = k := by have := h.t.len; rw [bM_len] at this; omega
  refine ⟨below_grown hb4 hg (fun j e => (ht4.o.lt j e).1), ?_, fun x hx => ?_, fun i x hi => ?_⟩
  · rw [bM_app]
    have ho' := ho
    rw [← hx] at ho' ⊢
    refine ht4.push (y := u) ?_ (fun j e => ?_) ho' hg (fun j e => ?_)
    · rw [List.length_map, hl]; exact U.own_base ho4 h.b.size
    · have := (ho4.lt j e).1
      exact h.t.new this
    · have e : g3 = j := Option.some.inj e
      subst e
      rcases hat with q | q
      · exact .inl q
      · exact .inr (by omega)
  · rcases List.mem_append.1 hx with q | q
    · exact h.r x q
    · rw [List.mem_singleton.1 q]; exact hl
  · by_cases q : i < M.length
    · rw [List.getElem?_append_left q] at hi; exact h.i i x hi
    · rw [List.getElem?_append_right (by omega)] at hi
      have hi0 : i - M.length = 0 := by
        by_cases q2 : i - M.length = 0
        · exact q2
        · rw [List.getElem?_eq_none (by simp; omega)] at hi; cases hi
      rw [hi0] at hi
      cases hi
      have : i = k := by omega
      rw [this]; exact hm
set_option maxRecDepth 100000 in
set_option maxHeartbeats 8000000 in
theorem ways_any {gs : GL} (hR : RtG gs) {N : Nat} {v : Value} {ys : List Value} (w : World) (hT : TT w N 37 3 v (ntM gs) ys) :
    Calls Try.prog 47 #[v] w fun e w' => (∃ u xs M, e = .returned u ∧ WyR w' gs u M xs w.heap.size ∧ IsR gs.length (cG gs) (tb M)) ∧ Below w.heap.size w w' := by
  have hn := hR.n2
  have hly : ys.length = gs.length := hT.len.trans (ntM_len gs)
  obtain ⟨Av, cv, hv⟩ := own_slice hT.o
  rw [hly] at hv
  subst hv
  have HS := (show Hid (WaS w w gs (.slice none 0 0) [] []) from ⟨Below.refl _ _, TT.nil _ _ _ _, (fun l h => by cases h), fun i l h => by simp at h⟩)
  have HC := (show Hid (∀ (k : Nat) (wr : World), k < gs.length → Below w.heap.size w wr → Calls Try.prog 43 #[.slice Av gs.length cv, .int .i64 (k : Int)] wr fun e w' => CmV wr w' gs k e ∧ Below wr.heap.size wr w') from fun k wr hk hb => comesTo_any hR hk wr (hT.below hb))
  clear hT hR hly
  go_enter Try.func47, Try.ntmps47
  go_wp2_with fail
  go_loopw [3, 7] (fun u t wr => ∃ (k : Nat) (M : List (List Bool)) (xs : List Value) (A2 : Option Addr) (c2 : Nat), k ≤ gs.length ∧ t = .int .i64 (k : Int) ∧ u = .slice A2 k c2 ∧ Hid (xs.length = k) ∧ Hid (WaS w wr gs (.slice A2 k c2) M xs)) (fun _ t _ => gs.length - (intOf t).toNat)
  case atStart => exact ⟨0, [], [], none, 0, by omega, by go_num, rfl, rfl, HS⟩
  case round =>
    obtain ⟨k, M, xs, A2, c2, hk, rfl, rfl, HL, HW⟩ := hrel
    clear HS
    by_cases hlt : k < gs.length
    · have HC2 := (show Hid (∀ _ : Unit, Calls Try.prog 43 #[.slice Av gs.length cv, .int .i64 (k : Int)] wr fun e w' => CmV wr w' gs k e ∧ Below wr.heap.size wr w') from fun _ => HC.out k wr hlt HW.out.b)
      clear HC
      go_wp2_with fail
      refine (HC2.out ()).mono ?_
      rintro e w4 ⟨⟨u, l, rfl, hl, hm, ho4, _⟩, b4⟩
      obtain ⟨A4, c4, rfl⟩ := own_slice ho4
      have HO := (show Hid (w4.ownsRow w.heap.size 45 1 (.slice A2 k c2) k xs) from by have h := (HW.out.t.below b4).o; rw [HL.out] at h; exact h)
      have HBw := (show Hid (w.heap.size ≤ w4.heap.size) from Nat.le_trans HW.out.b.size b4.size)
      have HPu := (show Hid (∀ (g3 cap3 : Nat) (w5 : World), w5.ownsRow w.heap.size 45 1 (.slice (some ⟨g3, 0, none⟩) (k + 1) cap3) (k + 1) (xs ++ [.slice A4 gs.length c4]) → w4.grownBy w5 (Value.slice A2 k c2).ownBlock → ((Value.slice A2 k c2).ownBlock = some g3 ∨ g3 = w4.heap.size + 1) → WaS w w5 gs (.slice (some ⟨g3, 0, none⟩) (k + 1) cap3) (M ++ [l]) (xs ++ [.slice A4 gs.length c4])) from fun g3 cap3 w5 h1 h2 h3 => HW.out.push HL.out b4 hl hm ho4 h1 h2 h3)
      have HL2 := (show Hid ((xs ++ [Value.slice A4 gs.length c4]).length = k + 1) from by show _ = _; rw [List.length_append, HL.out]; rfl)
      clear HC2 hl hm ho4 b4 HW HL
      go_wp2_with (at_builtin; refine wpList_app1 rfl _ _ 80 rfl (.slice none 0 0) 24 Try.underlying80 Try.info45 rfl w.heap.size k _ xs rfl rfl HO.out rfl (by omega) (by decide) HBw.out ?_; intro g3 cap3 w5 ho5 hg5 hat5 hl5; have HW5 := (show Hid (WaS w w5 gs (.slice (some ⟨g3, 0, none⟩) (k + 1) cap3) (M ++ [l]) (xs ++ [.slice A4 gs.length c4])) from HPu.out g3 cap3 w5 ho5 hg5 hat5); clear ho5 hg5 hat5 hl5 HPu HO HBw)
      go_roundw
      case rel => exact ⟨k + 1, M ++ [l], xs ++ [.slice A4 gs.length c4], some ⟨g3, 0, none⟩, cap3, by omega, by go_num, rfl, HL2, HW5⟩
      case measure => simp [intOf]; omega
    · obtain rfl : k = gs.length := by omega
      have hML : M.length = gs.length := by have := HW.out.t.len; rw [bM_len, HL.out] at this; omega
      have HF := (show Hid (WyR wr gs (.slice A2 gs.length c2) M xs w.heap.size ∧ IsR gs.length (cG gs) (tb M)) from by
        have hTb : Tb gs.length M := ⟨hML, HW.out.r⟩
        refine ⟨⟨HW.out.t, hTb⟩, ⟨fun i j q => cG_lt q, fun i j hi hj => ?_⟩⟩
        obtain ⟨l, hl, hll⟩ := hTb.at' hi
        rw [← HW.out.i i l hl j, tb_of hl, List.getElem?_eq_getElem (by omega)]
        simp)
      have HB := (show Hid (Below w.heap.size w wr) from HW.out.b)
      clear HW HL HC hML
      go_wp2_with fail
      go_ret
      exact ⟨⟨_, xs, M, rfl, HF.out.1, HF.out.2⟩, HB.out⟩
end Go.Proofs.Ytppggnmlbcdegaa.N

namespace Go.Proofs.Ytppggnmlbcdegaa.N
open Go.RowKit Go.Maps
open Go.Proofs.Ytppggnmlbcdegaa.T

open U (nI own_get own_slice wpList_app1 below_grown TT Out info_split)
/-- Free, by the marks of what is told. -/
def fP (n : Nat) (M : List (List Bool)) (tl : List Bool) (r : Nat) : Bool := (List.range n).all fun k => !(tb M r k) || (tl[k]?).getD false || tb M k r
theorem fP_t {n : Nat} {M : List (List Bool)} {tl : List Bool} {r : Nat} (h : ∀ k, k < n → tb M r k = true → (tl[k]?).getD false = true ∨ tb M k r = true) : fP n M tl r = true := by
  unfold fP
  rw [List.all_eq_true]
  intro k hk
  rw [Bool.or_eq_true, Bool.or_eq_true]
  cases q : tb M r k
  · exact .inl (.inl rfl)
  · rcases h k (List.mem_range.1 hk) q with e | e
    · exact .inl (.inr e)
    · exact .inr e
theorem fP_f {n : Nat} {M : List (List Bool)} {tl : List Bool} {r k : Nat} (hk : k < n) (h1 : tb M r k = true) (h2 : (tl[k]?).getD false = false) (h3 : tb M k r = false) : fP n M tl r = false := by
  unfold fP
  rw [List.all_eq_false]
  exact ⟨k, List.mem_range.2 hk, by rw [h1, h2, h3]; decide⟩
def nF (n : Nat) (M : List (List Bool)) (tl : List Bool) : Nat := ((List.range n).find? fun r => !((tl[r]?).getD false) && fP n M tl r).getD n
theorem nF_at {n : Nat} {M : List (List Bool)} {tl : List Bool} {k : Nat} (hk : k < n) (h0 : ∀ j, j < k → (!((tl[j]?).getD false) && fP n M tl j) = false) (h1 : (!((tl[k]?).getD false) && fP n M tl k) = true) : nF n M tl = k := by
  have : (List.range n).find? (fun r => !((tl[r]?).getD false) && fP n M tl r) = some k := by
    rw [List.find?_range_eq_some]
    exact ⟨h1, List.mem_range.2 hk, fun j hj => by rw [h0 j hj]; rfl⟩
  unfold nF
  rw [this]
  rfl
theorem nF_end {n : Nat} {M : List (List Bool)} {tl : List Bool} (h0 : ∀ j, j < n → (!((tl[j]?).getD false) && fP n M tl j) = false) : nF n M tl = n := by
  have : (List.range n).find? (fun r => !((tl[r]?).getD false) && fP n M tl r) = none := by
    rw [List.find?_eq_none]
    intro j hj q
    rw [h0 j (List.mem_range.1 hj)] at q
    cases q
  unfold nF
  rw [this]
  rfl
theorem row_get {w wr : World} {B n : Nat} {A : Option Addr} {c : Nat} {tl : List Bool} (ho : w.ownsRow B 4 1 (.slice A n c) n (tl.map Value.bool)) (hb : Below w.heap.size w wr) {k : Nat} (hk : k < n) : ∃ g, A = some ⟨g, 0, none⟩ ∧ wr.cell? ⟨g, k, none⟩ = some (.bool ((tl[k]?).getD false)) := by
  have hl : tl.length = n := by have := ho.1; rw [List.length_map] at this; omega
  obtain ⟨g, cp, e, _, lt, x, _⟩ := own_get ho (j := k) (x := .bool ((tl[k]?).getD false)) (by rw [List.getElem?_map, List.getElem?_eq_getElem (by omega)]; rfl)
  have e1 : A = some ⟨g, 0, none⟩ := by injection e
  exact ⟨g, e1, (hb.cell (p := ⟨g, k, none⟩) lt).trans x⟩
set_option maxRecDepth 100000 in
set_option maxHeartbeats 8000000 in
theorem isFree_any {gs : GL} {M : List (List Bool)} {tl : List Bool} {v tv : Value} {xs : List Value} {N B r : Nat} (hn : gs.length ≤ 200) (hr : r < gs.length) (w : World) (hW : WyR w gs v M xs N) (ht : w.ownsRow B 4 1 tv gs.length (tl.map Value.bool)) :
    Calls Try.prog 75 #[v, .int .i64 (r : Int), tv] w fun e w' => e = .returned (.bool (fP gs.length M tl r)) ∧ w' = w := by
  obtain ⟨A, c, rfl⟩ := hW.form
  obtain ⟨At, ct, rfl⟩ := own_slice ht
  obtain ⟨g0, gr, cr, rfl, hxr, x0, _⟩ := hW.get (Below.refl _ _) hr hr
  have HG := (show Hid (∀ k, k < gs.length → ∃ gk ck gt, w.cell? ⟨gr, k, none⟩ = some (.bool (tb M r k)) ∧ w.cell? ⟨g0, k, none⟩ = some (.slice (some ⟨gk, 0, none⟩) gs.length ck) ∧ w.cell? ⟨gk, r, none⟩ = some (.bool (tb M k r)) ∧ At = some ⟨gt, 0, none⟩ ∧ w.cell? ⟨gt, k, none⟩ = some (.bool ((tl[k]?).getD false))) from fun k hk => by
    obtain ⟨g1, gr1, cr1, e1, hx1, _, y1⟩ := hW.get (Below.refl _ _) hr hk
    rw [hxr] at hx1
    have e2 : gr = gr1 := by have e := Option.some.inj hx1; injection e with e; injection e with e; injection e
    subst e2
    obtain ⟨g2, gk, ck, e3, _, y2, y3⟩ := hW.get (Below.refl _ _) hk hr
    have e4 : g0 = g2 := by injection e3 with e3; injection e3
    subst e4
    obtain ⟨gt, e5, y4⟩ := row_get ht (Below.refl _ _) hk
    exact ⟨gk, ck, gt, y1, y2, y3, e5, y4⟩)
  have z0 : (0 : Int) ≤ (r : Int) := by omega
  have z1 : (r : Int) < (gs.length : Int) := by omega
  clear hW ht hxr
  go_enter Try.func75, Try.ntmps75
  go_wp2_with fail
  go_loopw [15] (fun t wr => ∃ k : Nat, k ≤ gs.length ∧ t = .int .i64 (k : Int) ∧ wr = w ∧ Hid (∀ j, j < k → tb M r j = true → (tl[j]?).getD false = true ∨ tb M j r = true)) (fun t _ => gs.length - (intOf t).toNat)
  case atStart => exact ⟨0, by omega, by go_num, rfl, fun j hj => by omega⟩
  case round =>
    obtain ⟨k, hk, rfl, rfl, HX⟩ := hrel
    by_cases hlt : k < gs.length
    · obtain ⟨gk, ck, gt, y1, y2, y3, rfl, y4⟩ := HG.out k hlt
      have v0 : (0 : Int) ≤ (k : Int) := by omega
      have v1 : (k : Int) < (gs.length : Int) := by omega
      cases h1 : tb M r k with
      | false =>
        rw [h1] at y1
        have HX2 := (show Hid (∀ j, j < k + 1 → tb M r j = true → (tl[j]?).getD false = true ∨ tb M j r = true) from fun j hj q => by
          by_cases e : j = k
          · subst e; rw [h1] at q; cases q
          · exact HX.out j (by omega) q)
        clear HX h1 HG
        go_wp2_with fail
        go_roundw
        case rel => exact ⟨k + 1, by omega, by go_num, by first | rfl | trivial, HX2⟩
        case measure => simp [intOf]; omega
      | true =>
        rw [h1] at y1
        cases h2 : (tl[k]?).getD false with
        | true =>
          rw [h2] at y4
          have HX2 := (show Hid (∀ j, j < k + 1 → tb M r j = true → (tl[j]?).getD false = true ∨ tb M j r = true) from fun j hj q => by
            by_cases e : j = k
            · subst e; exact .inl h2
            · exact HX.out j (by omega) q)
          clear HX h1 h2 HG
          go_wp2_with fail
          go_roundw
          case rel => exact ⟨k + 1, by omega, by go_num, by first | rfl | trivial, HX2⟩
          case measure => simp [intOf]; omega
        | false =>
          rw [h2] at y4
          cases h3 : tb M k r with
          | true =>
            rw [h3] at y3
            have HX2 := (show Hid (∀ j, j < k + 1 → tb M r j = true → (tl[j]?).getD false = true ∨ tb M j r = true) from fun j hj q => by
              by_cases e : j = k
              · subst e; exact .inr h3
              · exact HX.out j (by omega) q)
            clear HX h1 h2 h3 HG
            go_wp2_with fail
            go_roundw
            case rel => exact ⟨k + 1, by omega, by go_num, by first | rfl | trivial, HX2⟩
            case measure => simp [intOf]; omega
          | false =>
            rw [h3] at y3
            have HE := (show Hid (fP gs.length M tl r = false) from fP_f hlt h1 h2 h3)
            clear HX h1 h2 h3 HG
            go_wp2_with fail
            go_ret
            exact ⟨by rw [HE.out]; rfl, rfl⟩
    · obtain rfl : k = gs.length := by omega
      have HE := (show Hid (fP gs.length M tl r = true) from fP_t HX.out)
      clear HX HG
      go_wp2_with fail
      go_ret
      exact ⟨by rw [HE.out]; rfl, rfl⟩
set_option maxRecDepth 100000 in
set_option maxHeartbeats 8000000 in
theorem nextFree_any {gs : GL} {M : List (List Bool)} {tl : List Bool} {v tv : Value} {xs : List Value} {N B : Nat} (hn : gs.length ≤ 200) (w : World) (hW : WyR w gs v M xs N) (ht : w.ownsRow B 4 1 tv gs.length (tl.map Value.bool)) :
    Calls Try.prog 63 #[v, tv] w fun e w' => e = .returned (.int .i64 (nF gs.length M tl : Int)) ∧ w' = w := by
  have HF := (show Hid (∀ r, r < gs.length → Calls Try.prog 75 #[v, .int .i64 (r : Int), tv] w fun e w' => e = .returned (.bool (fP gs.length M tl r)) ∧ w' = w) from fun r hr => isFree_any hn hr w hW ht)
  obtain ⟨A, c, rfl⟩ := hW.form
  obtain ⟨At, ct, rfl⟩ := own_slice ht
  have HT := (show Hid (∀ k, k < gs.length → ∃ gt, At = some ⟨gt, 0, none⟩ ∧ w.cell? ⟨gt, k, none⟩ = some (.bool ((tl[k]?).getD false))) from fun k hk => row_get ht (Below.refl _ _) hk)
  clear hW ht
  go_enter Try.func63, Try.ntmps63
  go_wp2_with fail
  go_loopw [8] (fun t wr => ∃ k : Nat, k ≤ gs.length ∧ t = .int .i64 (k : Int) ∧ wr = w ∧ Hid (∀ j, j < k → (!((tl[j]?).getD false) && fP gs.length M tl j) = false)) (fun t _ => gs.length - (intOf t).toNat)
  case atStart => exact ⟨0, by omega, by go_num, rfl, fun j hj => by omega⟩
  case round =>
    obtain ⟨k, hk, rfl, rfl, HX⟩ := hrel
    by_cases hlt : k < gs.length
    · obtain ⟨gt, rfl, y4⟩ := HT.out k hlt
      have v0 : (0 : Int) ≤ (k : Int) := by omega
      have v1 : (k : Int) < (gs.length : Int) := by omega
      have HF2 := (show Hid (∀ _ : Unit, Calls Try.prog 75 #[.slice A gs.length c, .int .i64 (k : Int), .slice (some ⟨gt, 0, none⟩) gs.length ct] wr fun e w' => e = .returned (.bool (fP gs.length M tl k)) ∧ w' = wr) from fun _ => HF.out k hlt)
      cases h2 : (tl[k]?).getD false with
      | true =>
        rw [h2] at y4
        have HX2 := (show Hid (∀ j, j < k + 1 → (!((tl[j]?).getD false) && fP gs.length M tl j) = false) from fun j hj => by
          by_cases e : j = k
          · subst e; rw [h2]; rfl
          · exact HX.out j (by omega))
        clear HX h2 HT HF HF2
        go_wp2_with fail
        go_roundw
        case rel => exact ⟨k + 1, by omega, by go_num, by first | rfl | trivial, HX2⟩
        case measure => simp [intOf]; omega
      | false =>
        rw [h2] at y4
        cases h3 : fP gs.length M tl k with
        | true =>
          rw [h3] at HF2
          have HE := (show Hid (nF gs.length M tl = k) from nF_at hlt HX.out (by rw [h2, h3]; rfl))
          clear HX h2 HT HF h3
          go_wp2_with fail
          refine (HF2.out ()).mono ?_
          rintro e w2 ⟨rfl, rfl⟩
          clear HF2
          go_wp2_with fail
          go_ret
          exact ⟨by rw [HE.out]; rfl, rfl⟩
        | false =>
          rw [h3] at HF2
          have HX2 := (show Hid (∀ j, j < k + 1 → (!((tl[j]?).getD false) && fP gs.length M tl j) = false) from fun j hj => by
            by_cases e : j = k
            · subst e; rw [h3, Bool.and_false]
            · exact HX.out j (by omega))
          clear HX h2 HT HF h3
          go_wp2_with fail
          refine (HF2.out ()).mono ?_
          rintro e w2 ⟨rfl, rfl⟩
          clear HF2
          go_wp2_with fail
          go_roundw
          case rel => exact ⟨k + 1, by omega, by go_num, by first | rfl | trivial, HX2⟩
          case measure => simp [intOf]; omega
    · obtain rfl : k = gs.length := by omega
      have HE := (show Hid (nF gs.length M tl = gs.length) from nF_end HX.out)
      clear HX HT HF
      go_wp2_with fail
      go_ret
      exact ⟨by rw [HE.out]; rfl, rfl⟩
end Go.Proofs.Ytppggnmlbcdegaa.N

namespace Go.Proofs.Ytppggnmlbcdegaa.N
open Go.RowKit Go.Maps
open Go.Proofs.Ytppggnmlbcdegaa.T

open U (nI own_get own_slice wpList_app1 below_grown TT Out info_split)
def gq (M : List (List Bool)) (r k : Nat) : Bool := k == r || (tb M r k && tb M k r)
def gqL (n : Nat) (M : List (List Bool)) (r k : Nat) : List Bool := (List.range n).map fun j => decide (j < k) && gq M r j
theorem gqL_len (n : Nat) (M : List (List Bool)) (r k : Nat) : (gqL n M r k).length = n := by unfold gqL; rw [List.length_map, List.length_range]
theorem gqL_zero (n : Nat) (M : List (List Bool)) (r : Nat) : gqL n M r 0 = List.replicate n false := by
  unfold gqL
  apply List.ext_getElem?
  intro i
  rw [List.getElem?_map, List.getElem?_replicate]
  by_cases h : i < n
  · rw [List.getElem?_range h, if_pos h]; simp
  · rw [List.getElem?_eq_none (by rw [List.length_range]; omega), if_neg h]; rfl
theorem gqL_set {n : Nat} {M : List (List Bool)} {r k : Nat} (hk : k < n) : gqL n M r (k + 1) = (gqL n M r k).set k (gq M r k) := by
  apply List.ext_getElem?
  intro i
  by_cases hi : i < n
  · by_cases e : i = k
    · subst e
      rw [List.getElem?_set_self (by rw [gqL_len]; exact hi)]
      unfold gqL
      rw [List.getElem?_map, List.getElem?_range hi]
      simp
    · rw [List.getElem?_set_ne (Ne.symm e)]
      unfold gqL
      rw [List.getElem?_map, List.getElem?_map, List.getElem?_range hi]
      have : decide (i < k + 1) = decide (i < k) := by rw [decide_eq_decide]; omega
      simp [this]
  · rw [List.getElem?_eq_none (by rw [gqL_len]; omega), List.getElem?_eq_none (by rw [List.length_set, gqL_len]; omega)]
theorem gqL_end (n : Nat) (M : List (List Bool)) (r : Nat) : lsB (gqL n M r n) = gpL n (tb M) r := by
  unfold lsB gpL
  rw [gqL_len]
  refine List.filter_congr fun k hk => ?_
  unfold gqL
  rw [List.getElem?_map, List.getElem?_range (List.mem_range.1 hk)]
  have : decide (k < n) = true := decide_eq_true (List.mem_range.1 hk)
  simp [this, gq]
/-- A row of marks that is filled. -/
structure GoS (w wr : World) (n g : Nat) (l : List Bool) : Prop where
  b : Below w.heap.size w wr
  o : wr.ownsRow w.heap.size 4 1 (.slice (some ⟨g, 0, none⟩) n n) n (l.map Value.bool)
theorem GoS.set {w wr : World} {n g : Nat} {l : List Bool} (h : GoS w wr n g l) (k : Nat) (b : Bool) : GoS w (wr.setCell ⟨g, k, none⟩ (.bool b)) n g (l.set k b) := by
  obtain ⟨st1, st2⟩ := h.o.stored k (.bool b)
  exact ⟨below_grown h.b st2 (fun j e => by cases e; exact (h.o.lt g rfl).1), by rw [List.map_set]; exact st1⟩
theorem make_bools (w : World) (B n : Nat) (hB : B ≤ w.heap.size) (hn : n ≤ 200) : ∃ w1, (Instr.makeSlice 45 (.int .i64 (n : Int)) (.int .i64 (n : Int))).run Try.prog w = .ok (.slice (some ⟨w.heap.size, 0, none⟩) n n) w1 ∧ w1.ownsRow B 4 1 (.slice (some ⟨w.heap.size, 0, none⟩) n n) n (List.replicate n (.bool false)) ∧ w.grownBy w1 none := by
  obtain ⟨i0, hinf, hz0, hz1, hz2⟩ := info_split Try.info4
  obtain ⟨w2, hmk, ho2, hg2⟩ := run_make_full (P := Try.prog) w B 45 4 i0 (.bool false) 1 Try.underlying45 hinf hz0 hz1 .i64 .i64 n (by rw [hz2]; omega) (by unfold maxLen; omega) hB
  have e : (madeCells (Value.cells (.bool false)) (n * 1)).toList = List.replicate n (Value.bool false) := by rw [Nat.mul_one]; exact toList_madeCells_one _ _
  rw [e] at ho2
  exact ⟨w2, hmk, ho2, hg2⟩
set_option maxRecDepth 100000 in
set_option maxHeartbeats 8000000 in
theorem groupOf_any {gs : GL} {M : List (List Bool)} {v : Value} {xs : List Value} {N r : Nat} (hn : gs.length ≤ 200) (hr : r < gs.length) (w : World) (hW : WyR w gs v M xs N) :
    Calls Try.prog 64 #[v, .int .i64 (r : Int)] w fun e w' => (∃ u, e = .returned u ∧ w'.ownsRow w.heap.size 3 1 u (gpL gs.length (tb M) r).length ((gpL gs.length (tb M) r).map nI)) ∧ Below w.heap.size w w' := by
  obtain ⟨w1, hmk, ho1, hg1⟩ := make_bools w w.heap.size gs.length (Nat.le_refl _) hn
  have HS := (show Hid (GoS w w1 gs.length w.heap.size (gqL gs.length M r 0)) from ⟨below_grown (Below.refl _ _) hg1 (fun j e => by cases e), by rw [gqL_zero, List.map_replicate]; exact ho1⟩)
  obtain ⟨A, c, rfl⟩ := hW.form
  have HG := (show Hid (∀ (k : Nat) (wr : World), k < gs.length → Below w.heap.size w wr → ∃ g0 gr cr gk ck, A = some ⟨g0, 0, none⟩ ∧ wr.cell? ⟨g0, r, none⟩ = some (.slice (some ⟨gr, 0, none⟩) gs.length cr) ∧ wr.cell? ⟨gr, k, none⟩ = some (.bool (tb M r k)) ∧ wr.cell? ⟨g0, k, none⟩ = some (.slice (some ⟨gk, 0, none⟩) gs.length ck) ∧ wr.cell? ⟨gk, r, none⟩ = some (.bool (tb M k r))) from fun k wr hk hb => by
    obtain ⟨g0, gr, cr, e1, _, y1, y2⟩ := hW.get hb hr hk
    obtain ⟨g2, gk, ck, e3, _, y3, y4⟩ := hW.get hb hk hr
    rw [e1] at e3
    have e4 : g0 = g2 := by injection e3 with e3; injection e3
    subst e4
    exact ⟨g0, gr, cr, gk, ck, e1, y1, y2, y3, y4⟩)
  have z0 : (0 : Int) ≤ (r : Int) := by omega
  have z1 : (r : Int) < (gs.length : Int) := by omega
  clear hW ho1 hg1
  go_enter Try.func64, Try.ntmps64
  go_wp2_with fail
  clear hmk
  go_loopw [12] (fun t wr => ∃ k : Nat, k ≤ gs.length ∧ t = .int .i64 (k : Int) ∧ Hid (GoS w wr gs.length w.heap.size (gqL gs.length M r k))) (fun t _ => gs.length - (intOf t).toNat)
  case atStart => exact ⟨0, by omega, by go_num, HS⟩
  case round =>
    obtain ⟨k, hk, rfl, HW⟩ := hrel
    clear HS
    by_cases hlt : k < gs.length
    · obtain ⟨g0, gr, cr, gk, ck, rfl, y1, y2, y3, y4⟩ := HG.out k wr hlt HW.out.b
      obtain ⟨gm, cm, em, _, _, xm, fm⟩ := own_get HW.out.o (j := k) (x := .bool (((gqL gs.length M r k)[k]?).getD false)) (by rw [List.getElem?_map, List.getElem?_eq_getElem (by rw [gqL_len]; exact hlt)]; rfl)
      have emg : w.heap.size = gm := by injection em with e1; injection e1 with e1; injection e1
      clear em
      subst emg
      have v0 : (0 : Int) ≤ (k : Int) := by omega
      have v1 : (k : Int) < (gs.length : Int) := by omega
      by_cases e : k = r
      · have te : ((k : Int) == (r : Int)) = true := beq_iff_eq.2 (by omega)
        have HQ := (show Hid (gq M r k = true) from by show _ = _; unfold gq; rw [e]; simp)
        have HW2 := (show Hid (GoS w (wr.setCell ⟨w.heap.size, k, none⟩ (.bool true)) gs.length w.heap.size (gqL gs.length M r (k + 1))) from by show GoS _ _ _ _ _; rw [gqL_set hlt, HQ.out]; exact HW.out.set k true)
        clear HW HQ HG e
        go_wp2_with fail
        go_roundw
        case rel => exact ⟨k + 1, by omega, by go_num, HW2⟩
        case measure => simp [intOf]; omega
      · have te : ((k : Int) == (r : Int)) = false := beq_eq_false_iff_ne.2 (by omega)
        have hkr : (k == r) = false := beq_eq_false_iff_ne.2 e
        cases h1 : tb M r k with
        | false =>
          rw [h1] at y2
          have HQ := (show Hid (gq M r k = false) from by show _ = _; unfold gq; rw [hkr, h1]; rfl)
          clear h1 hkr
          have HW2 := (show Hid (GoS w (wr.setCell ⟨w.heap.size, k, none⟩ (.bool false)) gs.length w.heap.size (gqL gs.length M r (k + 1))) from by show GoS _ _ _ _ _; rw [gqL_set hlt, HQ.out]; exact HW.out.set k false)
          clear HW HQ HG e
          go_wp2_with fail
          go_roundw
          case rel => exact ⟨k + 1, by omega, by go_num, HW2⟩
          case measure => simp [intOf]; omega
        | true =>
          rw [h1] at y2
          cases h2 : tb M k r with
          | false =>
            rw [h2] at y4
            have HQ := (show Hid (gq M r k = false) from by show _ = _; unfold gq; rw [hkr, h1, h2]; rfl)
            clear h1 hkr h2
            have HW2 := (show Hid (GoS w (wr.setCell ⟨w.heap.size, k, none⟩ (.bool false)) gs.length w.heap.size (gqL gs.length M r (k + 1))) from by show GoS _ _ _ _ _; rw [gqL_set hlt, HQ.out]; exact HW.out.set k false)
            clear HW HQ HG e
            go_wp2_with fail
            go_roundw
            case rel => exact ⟨k + 1, by omega, by go_num, HW2⟩
            case measure => simp [intOf]; omega
          | true =>
            rw [h2] at y4
            have HQ := (show Hid (gq M r k = true) from by show _ = _; unfold gq; rw [hkr, h1, h2]; rfl)
            clear h1 hkr h2
            have HW2 := (show Hid (GoS w (wr.setCell ⟨w.heap.size, k, none⟩ (.bool true)) gs.length w.heap.size (gqL gs.length M r (k + 1))) from by show GoS _ _ _ _ _; rw [gqL_set hlt, HQ.out]; exact HW.out.set k true)
            clear HW HQ HG e
            go_wp2_with fail
            go_roundw
            case rel => exact ⟨k + 1, by omega, by go_num, HW2⟩
            case measure => simp [intOf]; omega
    · obtain rfl : k = gs.length := by omega
      have HMk := (show Hid (∀ _ : Unit, Calls Try.prog 44 #[.slice (some ⟨w.heap.size, 0, none⟩) gs.length gs.length] wr fun e w' => (∃ u, e = .returned u ∧ w'.ownsRow wr.heap.size 3 1 u (gpL gs.length (tb M) r).length ((gpL gs.length (tb M) r).map nI)) ∧ Below wr.heap.size wr w') from fun _ => by
        have h := marked_any (gqL gs.length M r gs.length) (by rw [gqL_len]; exact hn) (B4 := w.heap.size) wr (by rw [gqL_len]; exact HW.out.o)
        rw [gqL_end] at h
        exact h)
      have HB := (show Hid (Below w.heap.size w wr) from HW.out.b)
      clear HW HG
      go_wp2_with fail
      refine (HMk.out ()).mono ?_
      rintro e w6 ⟨⟨u6, rfl, ho6⟩, b6⟩
      have HB6 := (show Hid (Below w.heap.size w w6) from HB.out.trans (b6.mono HB.out.size))
      have HO6 := (show Hid (w6.ownsRow w.heap.size 3 1 u6 (gpL gs.length (tb M) r).length ((gpL gs.length (tb M) r).map nI)) from U.own_base ho6 HB.out.size)
      clear ho6 b6 HMk HB
      go_wp2_with fail
      go_ret
      exact ⟨⟨_, rfl, HO6.out⟩, HB6.out⟩
end Go.Proofs.Ytppggnmlbcdegaa.N
