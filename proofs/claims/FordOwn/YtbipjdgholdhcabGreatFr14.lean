/- DERIVED. Plain mathematics and walks, laid together (14). -/
import Derived.Lib.SliceRun
import Derived.Deep.RegionLaw
import Derived.Test.YtbipjdgholdhcabGreatFr13
namespace Go.Proofs.YtbipjdgholdhcabGreat.N
open Go.RowKit Go.Maps
open Go.Proofs.YtbipjdgholdhcabGreat.T

open U (below_grown own_get own_slice)
/-- A part's cells. -/
def hpV (p : Hp) : List Value := .bool p.1 :: mkL p.2
def hpc (l : List Hp) : List Value := l.flatMap hpV
theorem hpV_len (p : Hp) : (hpV p).length = 201 := by unfold hpV; rw [List.length_cons, mkL_len]
theorem hpV_one (p : Hp) : ∀ u ∈ hpV p, u.oneCell' = true := fun u hu => by
  unfold hpV at hu
  rcases List.mem_cons.1 hu with e | e
  · rw [e]; rfl
  · exact mkL_one _ u e
theorem hpc_app (a b : List Hp) : hpc (a ++ b) = hpc a ++ hpc b := List.flatMap_append
theorem hpc_one (p : Hp) : hpc [p] = hpV p := by unfold hpc; rw [List.flatMap_cons, List.flatMap_nil, List.append_nil]
theorem hpc_len (l : List Hp) : (hpc l).length = l.length * 201 := by
  induction l with
  | nil => rfl
  | cons a l ih => show (hpV a ++ hpc l).length = _; rw [List.length_append, ih, List.length_cons, hpV_len]; omega
theorem hpc_get (l : List Hp) : ∀ (j : Nat) (p : Hp), l[j]? = some p → ∀ i, i < 201 → (hpc l)[j * 201 + i]? = (hpV p)[i]? := by
  induction l with
  | nil => intro j p h; cases h
  | cons a l ih =>
    intro j p h i hi
    have e : hpc (a :: l) = hpV a ++ hpc l := rfl
    rw [e]
    cases j with
    | zero =>
      cases h
      rw [Nat.zero_mul, Nat.zero_add, List.getElem?_append_left (by rw [hpV_len]; exact hi)]
    | succ j =>
      have h2 : l[j]? = some p := by simpa using h
      rw [List.getElem?_append_right (by rw [hpV_len]; omega), hpV_len, show (j + 1) * 201 + i - 201 = j * 201 + i from by omega]
      exact ih j p h2 i hi
/-- What is known of the parts that belong to no node yet. -/
def hpS (E : Nat → Hp) (st : List Pt) : List Hp := (st.map fun p => E p.2.1).reverse
theorem hpS_len (E : Nat → Hp) (st : List Pt) : (hpS E st).length = st.length := by unfold hpS; rw [List.length_reverse, List.length_map]
theorem hpS_cons (E : Nat → Hp) (p : Pt) (st : List Pt) : hpS E (p :: st) = hpS E st ++ [E p.2.1] := by unfold hpS; rw [List.map_cons, List.reverse_cons]
theorem hpS_split (E : Nat → Hp) (st : List Pt) (a : Nat) : hpS E st = hpS E (st.drop a) ++ hpS E (st.take a) := by
  unfold hpS
  rw [← List.reverse_append, ← List.map_append, List.take_append_drop]
theorem hp_read {W : World} {B g n cap : Nat} {l : List Hp} (h : W.ownsRow B 90 201 (.slice (some ⟨g, 0, none⟩) n cap) n (hpc l)) (a b : List Hp) (hl : l = a ++ b) : RdP W (some ⟨g, a.length * 201, none⟩) b := fun j p hp => by
  have hc := h.cells (g := g) rfl
  have hg : l[a.length + j]? = some p := by rw [hl, List.getElem?_append_right (by omega), Nat.add_sub_cancel_left]; exact hp
  have key : ∀ (i : Nat) u, i < 201 → (hpV p)[i]? = some u → W.cell? ⟨g, a.length * 201 + j * 201 + i, none⟩ = some u := fun i u hi hu => by
    have := hc ((a.length + j) * 201 + i) u (by rw [hpc_get l _ p hg i hi]; exact hu)
    rw [Addr.add_lit, Nat.zero_add, Nat.add_mul] at this
    exact this
  refine ⟨g, a.length * 201, rfl, (h.lt g rfl).2, key 0 _ (by omega) rfl, fun i u hu => ?_⟩
  have hi := (List.getElem?_eq_some_iff.1 hu).1
  rw [mkL_len] at hi
  rw [Nat.add_assoc, Nat.add_comm 1 i]
  exact key (i + 1) u (by omega) hu
theorem hp_front {W : World} {B m r cA : Nat} {A : Option Addr} {l a b : List Hp} (h : W.ownsRow B 90 201 (.slice A m cA) m (hpc l)) (hl : l = a ++ b) (ha : a.length = r) (hm : r ≤ m) (hA : A = none ∧ m = 0 ∧ cA = 0 ∨ ∃ g, A = some ⟨g, 0, none⟩) : W.ownsRow B 90 201 (.slice A r cA) r (hpc a) := by
  rcases hA with ⟨rfl, h2, h3⟩ | ⟨g, rfl⟩
  · have e : r = 0 := by omega
    subst e
    have ea : a = [] := List.eq_nil_of_length_eq_zero ha
    rw [ea, h3]
    exact World.ownsRow_nil _ _ _ _
  · have h2 := T.own_cut h hm
    have e : (hpc l).take (r * 201) = hpc a := by
      rw [hl, hpc_app, List.take_append_of_le_length (by rw [hpc_len, ha]; exact Nat.le_refl _)]
      exact List.take_of_length_le (by rw [hpc_len, ha]; exact Nat.le_refl _)
    rw [e] at h2
    exact h2
/-- A part in a box. -/
structure PX (W : World) (b : Nat) (p : Hp) : Prop where
  heap : W.heap[b]? = some (.cells (hpV p).toArray 90 (0, 0))
theorem PX.lt {W : World} {b : Nat} {p : Hp} (h : PX W b p) : b < W.heap.size := (Array.getElem?_eq_some_iff.1 h.heap).1
theorem PX.below {W W' : World} {b : Nat} {p : Hp} (h : PX W b p) (hb : Below W.heap.size W W') : PX W' b p := ⟨(hb.block b h.lt).trans h.heap⟩
def hp0 : Hp := (false, fun _ => false)
theorem Tryz.infoPt : (Tryz.prog.info? 90).map (fun i => (i.zero, i.size, i.bytes)) = some (some (.agg (hpV hp0).toArray), 201, 201) := by kernel_rfl
theorem Tryz.sizePt : (Tryz.prog.info? 90).map (·.size) = some 201 := by kernel_rfl
/-- Parts, kept whole in a walk. -/
def LdP (v : Value) : Sem Value := Instr.loadAt 90 v
def StP (p v : Value) : Sem Unit := Instr.storeAt 90 p v
def BdP (v : Array (Nat × Value)) : Sem Value := Instr.build 90 v
def BsP (n : Nat) (v : Array (Nat × Value)) : Sem Value := Instr.buildSlice 84 n v
def AlP (b : Bool) (v : Value) : Sem Value := Instr.alloc 90 b v
theorem ldp_fold (v : Value) : Instr.loadAt 90 v = LdP v := rfl
theorem stp_fold (p v : Value) : Instr.storeAt 90 p v = StP p v := rfl
theorem bdp_fold (v : Array (Nat × Value)) : Instr.build 90 v = BdP v := rfl
theorem bsp_fold (n : Nat) (v : Array (Nat × Value)) : Instr.buildSlice 84 n v = BsP n v := rfl
theorem alp_fold (b : Bool) (v : Value) : Instr.alloc 90 b v = AlP b v := rfl
theorem bdp_run (b : Bool) (f : Nat → Bool) (W : World) : Sem.run Tryz.prog (BdP #[(0, .bool b), (1, .agg (mkA f))]) W = .ok (.agg (hpV (b, f)).toArray) W := by kernel_rfl
theorem bsp_run (b : Bool) (f : Nat → Bool) (W : World) : Sem.run Tryz.prog (BsP 1 #[(0, .agg (hpV (b, f)).toArray)]) W = .ok (.slice (some ⟨W.heap.size, 0, none⟩) 1 1) (W.alloc (.cells (hpV (b, f)).toArray 90)) := by kernel_rfl
theorem alp_run (W : World) : Sem.run Tryz.prog (AlP true (.tuple #[])) W = .ok (.pointer (some ⟨W.heap.size, 0, none⟩)) (W.alloc (.cells (hpV hp0).toArray 90)) := by kernel_rfl
def OkP (W : World) (b : Nat) : Prop := ∃ p, PX W b p
def ldPv (W : World) (b : Nat) : Value := match W.heap[b]? with
  | some (.cells c _ _) => .agg c
  | _ => undef
theorem PX.val {W : World} {b : Nat} {p : Hp} (h : PX W b p) : ldPv W b = .agg (hpV p).toArray := by unfold ldPv; rw [h.heap]
theorem ldp_run {W : World} {b : Nat} (h : OkP W b) : Sem.run Tryz.prog (LdP (.pointer (some ⟨b, 0, none⟩))) W = .ok (ldPv W b) W := by
  obtain ⟨p, hp⟩ := h
  have hs : (hpV p).toArray.size = 201 := by rw [List.size_toArray, hpV_len]
  obtain ⟨fs, hu⟩ : ∃ fs, Tryz.prog.underlying 90 = some (.struct fs) := ⟨_, Tryz.underlying90⟩
  have hr := run_loadVar_row (P := Tryz.prog) W b 90 90 (hpV p).toArray (0, 0) (.struct fs) hp.heap hu rfl (by rw [hs]; exact Tryz.sizePt)
  rw [hp.val]
  unfold LdP
  simp only [Instr.loadAt, Instr.sureAddr, Sem.run_bind, Sem.run_pure, Result.andThen_ok]
  exact hr
theorem stp_run {W : World} {b : Nat} {c : Bool} {f : Nat → Bool} (h : OkP W b) : Sem.run Tryz.prog (StP (.pointer (some ⟨b, 0, none⟩)) (.agg (hpV (c, f)).toArray)) W = .ok () (W.setRow b (hpV (c, f)).toArray) := by
  obtain ⟨p, hp⟩ := h
  have hs : ∀ q : Hp, (hpV q).toArray.size = 201 := fun q => by rw [List.size_toArray, hpV_len]
  have hr := run_storeVar_row (P := Tryz.prog) W b 90 90 (hpV p).toArray (hpV (c, f)).toArray hp.heap (by rw [hs]; exact Tryz.sizePt) (by rw [hs, hs]) (all_oneCell_toArray (hpV_one _))
  unfold StP
  simp only [Instr.storeAt, Instr.sureAddr, Sem.run_bind, Sem.run_pure, Result.andThen_ok]
  exact hr
/-- Any node. -/
theorem begins_any {gs : GL} (n : Nd) (r k : Value) (B : Nat) (A : Option Addr) (c : Nat) (ps : List Hp) (hal : alE n = 0) (hs : n.tx.size ≤ 140737488355328) (hf : n.op = 6 → ∃ j, fdG gs n.tx = some j) (hgl : gs.length ≤ 200) (hl : ps.length = arN n.op) (w : World) (hm : NmM w B gs) (hp : RdP w A ps) : Calls Tryz.prog 42 #[.agg #[r, .map (some B), k], ndG n, .slice A (arN n.op) c] w fun e w' => e = .returned (.agg (mkA (hbN n ((ps[0]?).getD hp0).2 ((ps[1]?).getD hp0).2 ((ps[0]?).getD hp0).1 (fdG gs)))) ∧ Below w.heap.size w w' := by
  obtain ⟨hop, _⟩ := al_facts hal
  unfold hbN
  by_cases c6 : n.op = 6
  · rw [if_pos c6]
    obtain ⟨j, hj⟩ := hf c6
    exact begins_6 n r k B A _ c c6 hs hj (Nat.lt_of_lt_of_le (fdG_lt hj) hgl) w hm
  rw [if_neg c6]
  by_cases c7 : n.op = 7
  · have a2 := arN_2 (n := n) (.inl c7)
    rw [if_pos c7]
    rw [a2] at hl ⊢
    obtain ⟨x, y, rfl⟩ : ∃ x y, ps = [x, y] := by
      match ps, hl with
      | [x, y], _ => exact ⟨x, y, rfl⟩
    obtain ⟨xb, xf⟩ := x
    obtain ⟨yb, yf⟩ := y
    cases xb with
    | true => exact begins_7 n r (.map (some B)) k A c true yb xf yf c7 rfl w hp
    | false =>
      refine begins_1 n r (.map (some B)) k A 2 c (false, xf) c6 (fun _ => rfl) (by omega) (fun q => by omega) (by omega) (by omega) ?_ w rfl
      obtain ⟨g, o, h1, h2, h3, h4⟩ := hp 0 (false, xf) rfl
      rw [Nat.zero_mul, Nat.add_zero] at h3 h4
      exact ⟨g, o, h1, h2, h3, h4⟩
  rw [if_neg c7]
  by_cases c8 : n.op = 8
  · have a2 := arN_2 (n := n) (.inr c8)
    rw [if_pos c8]
    rw [a2] at hl ⊢
    obtain ⟨x, y, rfl⟩ : ∃ x y, ps = [x, y] := by
      match ps, hl with
      | [x, y], _ => exact ⟨x, y, rfl⟩
    obtain ⟨xb, xf⟩ := x
    obtain ⟨yb, yf⟩ := y
    exact begins_8 n r (.map (some B)) k A c xb yb xf yf c8 w hp
  rw [if_neg c8]
  by_cases cz : (n.op = 14 ∨ n.op = 16) ∧ n.nn = 0
  · rw [if_pos cz]
    exact begins_z n r (.map (some B)) k A _ c cz.1 cz.2 w
  rw [if_neg cz]
  by_cases c17 : n.op ≤ 6 ∨ n.op = 17
  · rw [if_pos c17]
    have a0 := arN_0 hop c17
    rw [a0]
    exact begins_0 n r (.map (some B)) k A 0 c c6 c7 c8 (by omega) (by omega) rfl w
  · rw [if_neg c17]
    have a1 := arN_1 hop c17 (by omega)
    rw [a1] at hl ⊢
    obtain ⟨x, rfl⟩ : ∃ x, ps = [x] := by
      match ps, hl with
      | [x], _ => exact ⟨x, rfl⟩
    refine begins_1 n r (.map (some B)) k A 1 c x c6 (fun q => absurd q c7) c8 cz (by omega) (by omega) ?_ w rfl
    obtain ⟨g, o, h1, h2, h3, h4⟩ := hp 0 x rfl
    rw [Nat.zero_mul, Nat.add_zero] at h3 h4
    exact ⟨g, o, h1, h2, h3, h4⟩
end Go.Proofs.YtbipjdgholdhcabGreat.N

namespace Go.Proofs.YtbipjdgholdhcabGreat.N
open Go.RowKit Go.Maps
open Go.Proofs.YtbipjdgholdhcabGreat.T

open U (below_grown)
set_option maxRecDepth 100000 in
set_option maxHeartbeats 4000000 in
/-- slices.Clone of a pattern. -/
theorem clone_any (ad : Addr) (c : Nat) (L : List Nd) (w : World) (h0 : L ≠ []) (hl : L.length * 64 ≤ 140737488351232) (hc : ∀ (j : Nat) u, (ndc L)[j]? = some u → w.cell? (ad.add j) = some u) :
    Calls Tryz.prog 74 #[.slice (some ad) L.length c] w fun e w' => (∃ g cap, e = .returned (.slice (some ⟨g, 0, none⟩) L.length cap) ∧ w'.ownsRow w.heap.size 57 7 (.slice (some ⟨g, 0, none⟩) L.length cap) L.length (ndc L)) ∧ Below w.heap.size w w' := by
  obtain ⟨i0, hinf, hz0, hz1, hz2⟩ := info_parts Tryz.info43
  have hq : ∀ (W : World) (a : Option Addr) (n c n2 c2 : Nat), (binOp .eql 50 (.slice a n c) (.slice none n2 c2)).run Tryz.prog W = .ok (.bool a.isNone) W := fun W a n c n2 c2 => Lib.run_eql_slice_nil W _ _ a n c n2 c2 Tryz.underlying50
  have hO := own_empty w
  have HB := (show Hid (Below w.heap.size w (w.alloc (.cells #[] 57))) from below_box _ _)
  have HC := (show Hid (∀ (j : Nat) u, (ndc L)[j]? = some u → (w.alloc (.cells #[] 57)).cell? (ad.add j) = some u) from fun j u hj => by
    have h1 := hc j u hj
    have h2 := World.block_lt_of_cell? w _ h1
    exact ((below_box w (.cells #[] 57)).cell (p := ad.add j) h2).trans h1)
  have HI := (show Hid ((ndc L).length = L.length * 7 ∧ ∀ u ∈ ndc L, u.oneCell' = true) from ⟨ndc_len L, ndc_cell L⟩)
  have H0 := (show Hid (0 < L.length) from List.length_pos_iff.2 h0)
  clear hc h0
  go_enter Tryz.func74, Tryz.ntmps74
  go_wp2_with (at_builtin; refine wpList_append_own _ rfl _ _ 50 rfl w.heap.size 57 i0 zA 7 64 Tryz.underlying50 hinf hz0 hz1 hz2 rfl (by decide) _ _ _ rfl hO ad L.length c (ndc L) rfl HI.out.1 HC.out HI.out.2 ?c3 ?c4 ?c5 ?_)
  case c3 => unfold maxLen; omega
  case c4 => omega
  case c5 => simp
  intro v1 w1 hown hgrow _
  have HB1 := (show Hid (Below w.heap.size w w1) from HB.out.grown hgrow (by simp) (fun k e => (hO.lt k e).1))
  obtain ⟨g, cap, rfl, _⟩ := hown.form H0.out
  have HO := (show Hid (w1.ownsRow w.heap.size 57 7 (.slice (some ⟨g, 0, none⟩) L.length cap) L.length (ndc L)) from hown)
  clear hown hgrow HB HC HI hO
  go_wp2_with fail
  go_ret
  exact ⟨⟨g, cap, rfl, HO.out⟩, HB1.out⟩
/-- A node written over another in a row. -/
def nw7 (W : World) (g o : Nat) (n : Nd) : World := (((((((W.setCell ⟨g, o, none⟩ (.int .i64 n.op)).setCell ⟨g, o + 1, none⟩ (.int .i64 n.nn)).setCell ⟨g, o + 2, none⟩ (.string n.tx)).setCell ⟨g, o + 3, none⟩ (.int .u64 n.s0)).setCell ⟨g, o + 4, none⟩ (.int .u64 n.s1)).setCell ⟨g, o + 5, none⟩ (.int .u64 n.s2)).setCell ⟨g, o + 6, none⟩ (.int .u64 n.s3))
def ls7 (l : List Value) (o : Nat) (n : Nd) : List Value := ((((((l.set o (.int .i64 n.op)).set (o + 1) (.int .i64 n.nn)).set (o + 2) (.string n.tx)).set (o + 3) (.int .u64 n.s0)).set (o + 4) (.int .u64 n.s1)).set (o + 5) (.int .u64 n.s2)).set (o + 6) (.int .u64 n.s3)
theorem ls7_ndc (n : Nd) : ∀ (M : List Nd) (k : Nat), k < M.length → ls7 (ndc M) (k * 7) n = ndc (M.set k n) := by
  intro M
  induction M with
  | nil => intro k h; exact absurd h (Nat.not_lt_zero _)
  | cons a M ih =>
    intro k h
    cases k with
    | zero => rfl
    | succ k =>
      have h2 : k < M.length := by simpa using h
      rw [List.set_cons_succ, show ndc (a :: M.set k n) = ndV a ++ ndc (M.set k n) from rfl, ← ih k h2, show ndc (a :: M) = ndV a ++ ndc M from rfl, show (k + 1) * 7 = k * 7 + 7 from by omega]
      unfold ls7 ndV
      rw [show k * 7 + 7 + 1 = (k * 7 + 1) + 7 from by omega, show k * 7 + 7 + 2 = (k * 7 + 2) + 7 from by omega, show k * 7 + 7 + 3 = (k * 7 + 3) + 7 from by omega, show k * 7 + 7 + 4 = (k * 7 + 4) + 7 from by omega, show k * 7 + 7 + 5 = (k * 7 + 5) + 7 from by omega, show k * 7 + 7 + 6 = (k * 7 + 6) + 7 from by omega]
      simp only [List.cons_append, List.nil_append, List.set_cons_succ]
theorem nw7_own {W : World} {B g m cap k : Nat} {M : List Nd} (n : Nd) (h : W.ownsRow B 57 7 (.slice (some ⟨g, 0, none⟩) m cap) m (ndc M)) (hk : k < M.length) : (nw7 W g (k * 7) n).ownsRow B 57 7 (.slice (some ⟨g, 0, none⟩) m cap) m (ndc (M.set k n)) ∧ W.grownBy (nw7 W g (k * 7) n) (some g) := by
  rw [← ls7_ndc n M k hk]
  obtain ⟨a1, b1⟩ := h.stored (k * 7) (.int .i64 n.op)
  obtain ⟨a2, b2⟩ := a1.stored (k * 7 + 1) (.int .i64 n.nn)
  obtain ⟨a3, b3⟩ := a2.stored (k * 7 + 2) (.string n.tx)
  obtain ⟨a4, b4⟩ := a3.stored (k * 7 + 3) (.int .u64 n.s0)
  obtain ⟨a5, b5⟩ := a4.stored (k * 7 + 4) (.int .u64 n.s1)
  obtain ⟨a6, b6⟩ := a5.stored (k * 7 + 5) (.int .u64 n.s2)
  obtain ⟨a7, b7⟩ := a6.stored (k * 7 + 6) (.int .u64 n.s3)
  exact ⟨a7, (((((b1.trans b2).trans b3).trans b4).trans b5).trans b6).trans b7⟩
end Go.Proofs.YtbipjdgholdhcabGreat.N

namespace Go.Proofs.YtbipjdgholdhcabGreat.N
open Go.RowKit Go.Maps
open Go.Proofs.YtbipjdgholdhcabGreat.T

open U (below_grown)
theorem seL_at {nu : ByteArray → Bool} {L : List Nd} {k : Nat} {n : Nd} (hn : L[k]? = some n) : (((L.take k).map (seN nu) ++ L.drop k).set k (seN nu n)) = (L.take (k + 1)).map (seN nu) ++ L.drop (k + 1) := by
  have hk := (List.getElem?_eq_some_iff.1 hn).1
  have hl : ((L.take k).map (seN nu)).length = k := by rw [List.length_map, List.length_take]; omega
  rw [List.set_append_right _ _ (by omega), hl, Nat.sub_self, List.take_add_one, hn, List.map_append]
  have hd : L.drop k = n :: L.drop (k + 1) := by
    rw [List.drop_eq_getElem_cons hk]
    congr 1
    exact Option.some.inj ((List.getElem?_eq_getElem hk).symm.trans hn)
  rw [hd, List.set_cons_zero]
  simp
theorem seL_get {nu : ByteArray → Bool} {L : List Nd} {k : Nat} {n : Nd} (hn : L[k]? = some n) : ((L.take k).map (seN nu) ++ L.drop k)[k]? = some n := by
  have hk := (List.getElem?_eq_some_iff.1 hn).1
  have hl : ((L.take k).map (seN nu)).length = k := by rw [List.length_map, List.length_take]; omega
  rw [List.getElem?_append_right (by omega), hl, Nat.sub_self, List.getElem?_drop]
  exact hn
/-- While calls give way. -/
structure SeS (w wr : World) (r m kn : Value) (g cap n0 : Nat) (M : List Nd) : Prop where
  b : Below w.heap.size w wr
  x : VX wr w.heap.size r m kn
  o : wr.ownsRow (w.heap.size + 1) 57 7 (.slice (some ⟨g, 0, none⟩) n0 cap) n0 (ndc M)
  l : M.length = n0
  g1 : w.heap.size + 1 ≤ g
  g2 : g < wr.heap.size
theorem SeS.later {w wr w2 : World} {r m kn : Value} {g cap n0 : Nat} {M : List Nd} (h : SeS w wr r m kn g cap n0 M) (hb : Below wr.heap.size wr w2) : SeS w w2 r m kn g cap n0 M :=
  ⟨h.b.trans (hb.mono h.b.size), h.x.below hb, U.own_below h.o hb, h.l, h.g1, Nat.lt_of_lt_of_le h.g2 hb.size⟩
theorem SeS.put {w wr : World} {r m kn : Value} {g cap n0 k : Nat} {M : List Nd} (h : SeS w wr r m kn g cap n0 M) (hk : k < n0) (n : Nd) : SeS w (nw7 wr g (k * 7) n) r m kn g cap n0 (M.set k n) ∧ (∀ j, j ≠ g → (nw7 wr g (k * 7) n).heap[j]? = wr.heap[j]?) ∧ (nw7 wr g (k * 7) n).heap.size = wr.heap.size := by
  obtain ⟨h1, h2⟩ := nw7_own n h.o (by rw [h.l]; exact hk)
  have hz : (nw7 wr g (k * 7) n).heap.size = wr.heap.size := by unfold nw7; simp only [World.size_setCell]
  have hj : ∀ j, j ≠ g → (nw7 wr g (k * 7) n).heap[j]? = wr.heap[j]? := fun j hj => by
    unfold nw7
    exact ((((((heap_setCell_other _ ⟨g, _, none⟩ j _ hj).trans (heap_setCell_other _ ⟨g, _, none⟩ j _ hj)).trans (heap_setCell_other _ ⟨g, _, none⟩ j _ hj)).trans (heap_setCell_other _ ⟨g, _, none⟩ j _ hj)).trans (heap_setCell_other _ ⟨g, _, none⟩ j _ hj)).trans (heap_setCell_other _ ⟨g, _, none⟩ j _ hj)).trans (heap_setCell_other _ ⟨g, _, none⟩ j _ hj)
  have hg := h.g1
  refine ⟨⟨below_grown h.b h2 (fun k e => by cases e; omega), h.x.same (hj _ (by omega)), h1, by rw [List.length_set]; exact h.l, h.g1, by rw [hz]; exact h.g2⟩, hj, hz⟩
set_option maxRecDepth 100000 in
set_option maxHeartbeats 32000000 in
theorem settled_any {gs : GL} {now : List Em} {L : List Nd} (mb : Nat) (A Ak : Option Addr) (ad : Addr) (c ck cp : Nat) (hl : L.length ≤ 2048) (h0 : L ≠ []) (hsz : ∀ n ∈ L, n.tx.size ≤ 140737488355328) (hfd : ∀ n ∈ L, n.op = 6 → ∃ i, fdG gs n.tx = some i) (w : World) (hm : NmM w mb gs) (hk : RdE w Ak now) (hn : now.length = gs.length) (hL : RdN w (some ad) L) :
    Calls Tryz.prog 57 #[.agg #[.slice A gs.length c, .map (some mb), .slice Ak gs.length ck], .slice (some ad) L.length cp] w fun e w' => (∃ g cap, e = .returned (.slice (some ⟨g, 0, none⟩) L.length cap) ∧ w'.ownsRow w.heap.size 57 7 (.slice (some ⟨g, 0, none⟩) L.length cap) L.length (ndc (seL (lkB gs (now.map Em.nu)) L))) ∧ Below w.heap.size w w' := by
  obtain ⟨nu, hnu⟩ : ∃ nu, nu = lkB gs (now.map Em.nu) := ⟨_, rfl⟩
  obtain ⟨w1, hw1⟩ : ∃ w1, w1 = w.alloc (.cells #[.slice A gs.length c, .map (some mb), .slice Ak gs.length ck] 66) := ⟨_, rfl⟩
  have HE1 := (show Hid (w.alloc (.cells #[.slice A gs.length c, .map (some mb), .slice Ak gs.length ck] 66) = w1) from hw1.symm)
  have hb1 : Below w.heap.size w w1 := by rw [hw1]; exact below_box _ _
  have hs1 : w1.heap.size = w.heap.size + 1 := by rw [hw1, World.size_alloc]
  have hx1 : VX w1 w.heap.size (.slice A gs.length c) (.map (some mb)) (.slice Ak gs.length ck) := by rw [hw1]; exact VX.new w _ _ _
  have hml := hm.lt
  have HL := (show Hid (∀ (j : Nat) u, (ndc L)[j]? = some u → w1.cell? (ad.add j) = some u) from fun j u hj => in_cells (hL.below hb1 (Nat.le_refl _)) j u hj)
  have HCl := (show Hid (∀ _ : Unit, Calls Tryz.prog 74 #[.slice (some ad) L.length cp] w1 fun e w' => (∃ g cap, e = .returned (.slice (some ⟨g, 0, none⟩) L.length cap) ∧ w'.ownsRow w1.heap.size 57 7 (.slice (some ⟨g, 0, none⟩) L.length cap) L.length (ndc L)) ∧ Below w1.heap.size w1 w') from fun _ => clone_any ad cp L w1 h0 (by omega) HL.out)
  have HP := (show Hid (L ≠ [] ∧ Below w.heap.size w w1 ∧ w1.heap.size = w.heap.size + 1 ∧ VX w1 w.heap.size (.slice A gs.length c) (.map (some mb)) (.slice Ak gs.length ck)) from ⟨h0, hb1, hs1, hx1⟩)
  have HM := (show Hid (NmM w mb gs ∧ mb < w.heap.size ∧ RdE w Ak now ∧ now.length = gs.length) from ⟨hm, hml, hk, hn⟩)
  have HF := (show Hid (∀ n ∈ L, n.op = 6 → ∃ i e, fdG gs n.tx = some i ∧ now[i]? = some e ∧ e.nu = nu n.tx ∧ n.tx.size ≤ 140737488355328) from fun n hn6 h6 => by
    obtain ⟨i, hi⟩ := hfd n hn6 h6
    have hil : i < now.length := by rw [hn]; exact fdG_lt hi
    refine ⟨i, now[i], hi, List.getElem?_eq_getElem hil, ?_, hsz n hn6⟩
    rw [hnu]
    unfold lkB
    rw [hi]
    show _ = ((now.map Em.nu)[i]?).getD false
    rw [List.getElem?_map, List.getElem?_eq_getElem hil]
    rfl)
  have HR := (show Hid (∀ (g cap : Nat) (w' : World), w'.ownsRow w.heap.size 57 7 (.slice (some ⟨g, 0, none⟩) L.length cap) L.length (ndc (seL nu L)) → w'.ownsRow w.heap.size 57 7 (.slice (some ⟨g, 0, none⟩) L.length cap) L.length (ndc (seL (lkB gs (now.map Em.nu)) L))) from fun g cap w' h => by rw [← hnu]; exact h)
  clear hw1 hb1 hs1 hx1 hml hm hk hn hL hfd hsz HL hnu h0
  go_enter Tryz.func57, Tryz.ntmps57
  go_wp2_with (rw [HE1.out])
  clear HE1
  refine (HCl.out ()).mono ?_
  rintro e w2 ⟨⟨g, cap, rfl, ho⟩, b2⟩
  have hg := ho.lt g rfl
  have HS := (show Hid (SeS w w2 (.slice A gs.length c) (.map (some mb)) (.slice Ak gs.length ck) g cap L.length ((L.take 0).map (seN nu) ++ L.drop 0)) from by
    obtain ⟨h1, h2, h3, h4⟩ := HP.out
    rw [h3] at ho hg
    exact ⟨h2.trans (b2.mono h2.size), h4.below b2, ho, by simp, hg.1, hg.2⟩)
  clear ho hg b2 HCl HP
  go_wp2_with fail
  go_loopw [12] (fun t wr => ∃ k : Nat, k ≤ L.length ∧ t = .int .i64 (k : Int) ∧ Hid (SeS w wr (.slice A gs.length c) (.map (some mb)) (.slice Ak gs.length ck) g cap L.length ((L.take k).map (seN nu) ++ L.drop k))) (fun t _ => L.length - (intOf t).toNat)
  case atStart => exact ⟨0, Nat.zero_le _, by go_num, HS⟩
  case round =>
    obtain ⟨k, hk, rfl, HW⟩ := hrel
    clear HS
    by_cases hlt : k < L.length
    · obtain ⟨n, hn⟩ : ∃ n, L[k]? = some n := ⟨_, List.getElem?_eq_getElem hlt⟩
      have HSt := (show Hid ((((L.take k).map (seN nu) ++ L.drop k).set k (seN nu n)) = (L.take (k + 1)).map (seN nu) ++ L.drop (k + 1)) from seL_at hn)
      have HGt := (show Hid (((L.take k).map (seN nu) ++ L.drop k)[k]? = some n) from seL_get hn)
      have HF2 := (show Hid (n.op = 6 → ∃ i e, fdG gs n.tx = some i ∧ now[i]? = some e ∧ e.nu = nu n.tx ∧ n.tx.size ≤ 140737488355328) from HF.out n (List.mem_of_getElem? hn))
      clear hn
      generalize hM : (L.take k).map (seN nu) ++ L.drop k = M at HW HSt HGt
      clear hM
      generalize hM2 : (L.take (k + 1)).map (seN nu) ++ L.drop (k + 1) = M2 at HSt
      have HM2 := (show Hid ((L.take (k + 1)).map (seN nu) ++ L.drop (k + 1) = M2) from hM2)
      clear hM2
      obtain ⟨d0, d1, d2, d3, d4, d5, d6⟩ := own_ndl (xs := []) (by rw [List.append_nil]; exact HW.out.o) k n HGt.out
      rw [Nat.zero_add] at d0 d1 d2 d3 d4 d5 d6
      obtain ⟨w4, hw4⟩ : ∃ w4, w4 = wr.alloc (.cells #[.int .i64 n.op, .int .i64 n.nn, .string n.tx, .int .u64 n.s0, .int .u64 n.s1, .int .u64 n.s2, .int .u64 n.s3] 57) := ⟨_, rfl⟩
      have HE4 := (show Hid (wr.alloc (.cells #[.int .i64 n.op, .int .i64 n.nn, .string n.tx, .int .u64 n.s0, .int .u64 n.s1, .int .u64 n.s2, .int .u64 n.s3] 57) = w4) from hw4.symm)
      have hb4 : Below wr.heap.size wr w4 := by rw [hw4]; exact below_box _ _
      have HN4 := (show Hid (NX w4 wr.heap.size n) from by rw [hw4]; exact ⟨heap_alloc_new wr _⟩)
      have HS4 := (show Hid (SeS w w4 (.slice A gs.length c) (.map (some mb)) (.slice Ak gs.length ck) g cap L.length M) from HW.out.later hb4)
      have q0 : w4.cell? ⟨wr.heap.size, 0, none⟩ = some (.int .i64 n.op) := HN4.out.nb.c0
      have z0 : (0 : Int) ≤ (k : Int) := by omega
      have z1 : (k : Int) < (L.length : Int) := by omega
      have hgr := HW.out.g2
      clear hw4 hb4 HW
      by_cases h6 : n.op = 6
      · have t6 : (n.op != 6) = false := by rw [h6]; rfl
        obtain ⟨i, e, hi, he, hnu, hts⟩ := HF2.out h6
        have hil := (List.getElem?_eq_some_iff.1 he).1
        have hne : now ≠ [] := by rintro rfl; cases he
        obtain ⟨w5, hw5⟩ : ∃ w5, w5 = nw7 w4 g (k * 7) (zN 3) := ⟨_, rfl⟩
        have HE5 := (show Hid (nw7 w4 g (k * 7) (zN 3) = w5) from hw5.symm)
        unfold nw7 zN at HE5
        simp only at HE5
        obtain ⟨p1, p2, p3⟩ := HS4.out.put hlt (zN 3)
        rw [← hw5] at p1 p2 p3
        have HS5 := (show Hid (SeS w w5 (.slice A gs.length c) (.map (some mb)) (.slice Ak gs.length ck) g cap L.length (M.set k (zN 3))) from p1)
        have HN5 := (show Hid (NX w5 wr.heap.size n) from HN4.out.same (p2 _ (by omega)))
        have q2 : w5.cell? ⟨wr.heap.size, 2, none⟩ = some (.string n.tx) := HN5.out.nb.c2
        have v1 := HS5.out.x.c1
        have v2 := HS5.out.x.c2
        obtain ⟨ge, oe, rfl, lge, hEB⟩ := HM.out.2.2.1 hne
        obtain ⟨r0, _, _, _⟩ := (hEB i e he).same (HS5.out.b.block ge lge)
        have hrun := NmM.look0 (HM.out.1.same (HS5.out.b.block mb HM.out.2.1)) hts hi
        have z2 : (0 : Int) ≤ (i : Int) := by omega
        have z3 : (i : Int) < (gs.length : Int) := by have := HM.out.2.2.2; omega
        obtain ⟨e0', e1', e2', e3', e4', e5', e6'⟩ := own_ndl (xs := []) (by rw [List.append_nil]; exact HS4.out.o) k n HGt.out
        rw [Nat.zero_add] at e0' e1' e2' e3' e4' e5' e6'
        have f0 := HS4.out.o.frozenAt (k * 7)
        have f1 := HS4.out.o.frozenAt (k * 7 + 1)
        have f2 := HS4.out.o.frozenAt (k * 7 + 2)
        have f3 := HS4.out.o.frozenAt (k * 7 + 3)
        have f4 := HS4.out.o.frozenAt (k * 7 + 4)
        have f5 := HS4.out.o.frozenAt (k * 7 + 5)
        have f6 := HS4.out.o.frozenAt (k * 7 + 6)
        have H6 := (show Hid (n.op = 6) from h6)
        clear hw5 p1 p2 p3 hi he hts hne lge hEB hil HN4 HN5 h6
        cases hb : e.nu with
        | false =>
          rw [hb] at r0 hnu
          have HN := (show Hid (SeS w w5 (.slice A gs.length c) (.map (some mb)) (.slice (some ⟨ge, oe, none⟩) gs.length ck) g cap L.length ((L.take (k + 1)).map (seN nu) ++ L.drop (k + 1))) from by
            rw [HM2.out, ← HSt.out]
            have e : seN nu n = zN 3 := by unfold seN; rw [if_pos H6.out, if_neg (by rw [← hnu]; exact Bool.noConfusion)]; rfl
            rw [e]
            exact HS5.out)
          clear HS4 HS5 HM2 HSt HGt HF2 HM HF HR hb hnu H6
          go_wp2_with (first | rw [HE4.out] | rw [HE5.out])
          go_roundw
          case rel => exact ⟨k + 1, by omega, by go_num, HN⟩
          case measure => simp [intOf] <;> omega
        | true =>
          rw [hb] at r0 hnu
          obtain ⟨w6, hw6⟩ : ∃ w6, w6 = nw7 w5 g (k * 7) (zN 1) := ⟨_, rfl⟩
          have HE6 := (show Hid (nw7 w5 g (k * 7) (zN 1) = w6) from hw6.symm)
          unfold nw7 zN at HE6
          simp only at HE6
          have HGt5 := (show Hid ((M.set k (zN 3))[k]? = some (zN 3)) from List.getElem?_set_self (by rw [HS4.out.l]; exact hlt))
          have HN := (show Hid (SeS w w6 (.slice A gs.length c) (.map (some mb)) (.slice (some ⟨ge, oe, none⟩) gs.length ck) g cap L.length ((L.take (k + 1)).map (seN nu) ++ L.drop (k + 1))) from by
            rw [HM2.out, ← HSt.out]
            have e : seN nu n = zN 1 := by unfold seN; rw [if_pos H6.out, if_pos (by rw [← hnu])]; rfl
            rw [e, hw6]
            have h := (HS5.out.put hlt (zN 1)).1
            rw [List.set_set] at h
            exact h)
          obtain ⟨g0', g1', g2', g3', g4', g5', g6'⟩ := own_ndl (xs := []) (by rw [List.append_nil]; exact HS5.out.o) k _ HGt5.out
          unfold zN at g0' g1' g2' g3' g4' g5' g6'
          rw [Nat.zero_add] at g0' g1' g2' g3' g4' g5' g6'
          simp only at g0' g1' g2' g3' g4' g5' g6'
          have k0 := HS5.out.o.frozenAt (k * 7)
          have k1 := HS5.out.o.frozenAt (k * 7 + 1)
          have k2 := HS5.out.o.frozenAt (k * 7 + 2)
          have k3 := HS5.out.o.frozenAt (k * 7 + 3)
          have k4 := HS5.out.o.frozenAt (k * 7 + 4)
          have k5 := HS5.out.o.frozenAt (k * 7 + 5)
          have k6 := HS5.out.o.frozenAt (k * 7 + 6)
          clear hw6 HS4 HS5 HM2 HSt HGt HGt5 HF2 HM HF HR hb hnu H6
          go_wp2_with (first | rw [HE4.out] | rw [HE5.out] | rw [HE6.out])
          go_roundw
          case rel => exact ⟨k + 1, by omega, by go_num, HN⟩
          case measure => simp [intOf] <;> omega
      · have t6 : (n.op != 6) = true := by rw [bne, beq_eq_false_iff_ne.2 h6]; rfl
        have HS5 := (show Hid (SeS w w4 (.slice A gs.length c) (.map (some mb)) (.slice Ak gs.length ck) g cap L.length ((L.take (k + 1)).map (seN nu) ++ L.drop (k + 1))) from by
          rw [HM2.out, ← HSt.out, seN_6 h6]
          have e : M.set k n = M := by
            apply List.ext_getElem?
            intro j
            by_cases q : j = k
            · subst q
              rw [List.getElem?_set_self (by rw [HS4.out.l]; exact hlt), HGt.out]
            · rw [List.getElem?_set_ne (Ne.symm q)]
          rw [e]
          exact HS4.out)
        clear h6 HS4 HN4 HM2 HSt HGt HF2 HM HF HR
        go_wp2_with (rw [HE4.out])
        go_roundw
        case rel => exact ⟨k + 1, by omega, by go_num, HS5⟩
        case measure => simp [intOf] <;> omega
    · obtain rfl : k = L.length := by omega
      have HO := (show Hid (wr.ownsRow w.heap.size 57 7 (.slice (some ⟨g, 0, none⟩) L.length cap) L.length (ndc (seL nu L)) ∧ Below w.heap.size w wr) from by
        have h := HW.out.o
        rw [List.take_length, List.drop_length, List.append_nil] at h
        exact ⟨U.own_base h (Nat.le_succ _), HW.out.b⟩)
      clear HW HM HF
      go_wp2_with fail
      go_ret
      exact ⟨⟨g, cap, rfl, HR.out _ _ _ HO.out.1⟩, HO.out.2⟩
end Go.Proofs.YtbipjdgholdhcabGreat.N

namespace Go.Proofs.YtbipjdgholdhcabGreat.N
open Go.RowKit Go.Maps
open Go.Proofs.YtbipjdgholdhcabGreat.T

open U (below_grown own_get own_slice)
/-- A view that is right: the rules, their numbers, what is known of them. -/
structure VwO (w : World) (gs : GL) (A : Option Addr) (mb : Nat) (Ak : Option Addr) (now : List Em) : Prop where
  R : RtG gs
  g : GI w A gs
  m : NmM w mb gs
  k : RdE w Ak now
  n : now.length = gs.length
theorem VwO.later {w w2 : World} {gs : GL} {A : Option Addr} {mb : Nat} {Ak : Option Addr} {now : List Em} (h : VwO w gs A mb Ak now) (hb : Below w.heap.size w w2) : VwO w2 gs A mb Ak now := ⟨h.R, h.g.later hb, h.m.later hb, h.k.later hb, h.n⟩
def nbE (now : List Em) : List Bool := now.map Em.nu
theorem enters_settled (args : Array Value) (w : World) : (callFunc 57 args).run Tryz.prog w = .ok (.enter 57 args) w := enters_of Tryz.func57 (by kernel_rfl) rfl args w
/-- Of each part of a rule's pattern: may it match nothing? -/
def nuR (gs : GL) (now : List Em) (L : List Nd) (j : Nat) : Bool := nuA (kdR L) (lkB gs (nbE now)) L j
structure NuS (w wr : World) (vv : Value) (L : List Nd) (E : Nat → Bool) (Al : Option Addr) (l : List Em) (N k : Nat) (v : Value) : Prop where
  b : Below w.heap.size w wr
  r : RdE wr Al l
  o : wr.ownsRow N 4 1 v k ((List.range k).map fun j => Value.bool (E j))
  n : w.heap.size ≤ N ∧ N ≤ wr.heap.size
  q : ∀ g o, Al = some ⟨g, o, none⟩ → g < N
theorem NuS.later {w wr w2 : World} {vv : Value} {L : List Nd} {E : Nat → Bool} {Al : Option Addr} {l : List Em} {N k : Nat} {v : Value} (h : NuS w wr vv L E Al l N k v) (hb : Below wr.heap.size wr w2) : NuS w w2 vv L E Al l N k v :=
  ⟨h.b.trans (hb.mono h.b.size), h.r.later hb, U.own_below h.o hb, ⟨h.n.1, Nat.le_trans h.n.2 hb.size⟩, h.q⟩
theorem NuS.push {w wr w2 : World} {vv : Value} {L : List Nd} {E : Nat → Bool} {Al : Option Addr} {l : List Em} {N k : Nat} {v v2 : Value} (h : NuS w wr vv L E Al l N k v) (ho : w2.ownsRow N 4 1 v2 (k + 1) ((List.range k).map (fun j => Value.bool (E j)) ++ [.bool (E k)])) (hg : wr.grownBy w2 v.ownBlock) : NuS w w2 vv L E Al l N (k + 1) v2 := by
  have hlow : ∀ q, v.ownBlock = some q → N ≤ q := fun q hq => (h.o.lt q hq).1
  have hn := h.n
  refine ⟨below_grown h.b hg (fun q e => by have := hlow q e; omega), h.r.same hg.size (fun g o e => ?_), ?_, ⟨hn.1, Nat.le_trans hn.2 hg.size⟩, h.q⟩
  · have hgN := h.q g o e
    exact hg.block g (by omega) (fun q => by have := hlow _ q.symm; omega)
  · rw [List.range_succ, List.map_append]
    exact ho
/-- Behind the settled pattern: the rule's box, and the row. -/
structure NuB (w W : World) (kk g cap : Nat) (M : List Nd) (n : Nat) : Prop where
  r : RB W kk ⟨#[]⟩ (.slice (some ⟨g, 0, none⟩) n cap)
  b : Below w.heap.size w W
  o : W.ownsRow (w.heap.size + 1) 57 7 (.slice (some ⟨g, 0, none⟩) n cap) n (ndc M)
  k : w.heap.size < kk
theorem seL_tx {nu : ByteArray → Bool} {L : List Nd} (h : ∀ n ∈ L, n.tx.size ≤ 140737488355328) : ∀ n ∈ seL nu L, n.tx.size ≤ 140737488355328 := fun n hn => by
  unfold seL at hn
  obtain ⟨m, hm, rfl⟩ := List.mem_map.1 hn
  by_cases h6 : m.op = 6
  · unfold seN
    rw [if_pos h6]
    split <;> exact Nat.zero_le _
  · rw [seN_6 h6]; exact h m hm
/-- A grammar of one rule, just laid down. -/
theorem gi_one {W : World} {kk g cap n : Nat} {M : List Nd} (hl : M.length = n) (hn : n ≤ 2048) (ht : ∀ n ∈ M, n.tx.size ≤ 140737488355328) (o : RdN W (some ⟨g, 0, none⟩) M) (hr : RB W kk ⟨#[]⟩ (.slice (some ⟨g, 0, none⟩) n cap)) : GI W (some ⟨kk, 0, none⟩) [(⟨#[]⟩, M)] := by
  subst hl
  refine ⟨fun k p hp => ?_, by show 1 ≤ _; omega, fun p hp => ?_⟩
  · have hk := (List.getElem?_eq_some_iff.1 hp).1
    have e : k = 0 := by simp at hk; exact hk
    subst e
    cases hp
    exact ⟨kk, 0, some ⟨g, 0, none⟩, cap, rfl, hr.lt, hr.c0, hr.c1, o⟩
  · rw [List.mem_singleton.1 hp]
    exact ⟨Nat.zero_le _, by show M.length ≤ _; omega, ht⟩
set_option maxRecDepth 100000 in
set_option maxHeartbeats 128000000 in
theorem nullable_any {gs : GL} {now : List Em} (mb : Nat) (A Ak : Option Addr) (c ck : Nat) {r : Nat} {gn : ByteArray} {L : List Nd} (hg : gs[r]? = some (gn, L)) (w : World) (hv : VwO w gs A mb Ak now) :
    Calls Tryz.prog 40 #[.agg #[.slice A gs.length c, .map (some mb), .slice Ak gs.length ck], .int .i64 (r : Int)] w fun e w' => (∃ v, e = .returned v ∧ w'.ownsRow w.heap.size 4 1 v L.length ((List.range L.length).map fun j => Value.bool (nuR gs now L j))) ∧ Below w.heap.size w w' := by
  have hm := List.mem_of_getElem? hg
  have hrl : r < gs.length := (List.getElem?_eq_some_iff.1 hg).1
  obtain ⟨hrt, _, _, hpos, hlen⟩ := rt_facts hv.R hm
  have hrt : Rt L := hrt
  have hpos : 0 < L.length := hpos
  have hlen : L.length ≤ 2048 := hlen
  have hsz : ∀ n ∈ L, n.tx.size ≤ 140737488355328 := (hv.g.t _ hm).2.2
  obtain ⟨b, o, A3, c3, rfl, lb, _, x1, r2⟩ := hv.g.d r _ hg
  have hLn : L ≠ [] := by rintro rfl; simp at hpos
  obtain ⟨gp, op, rfl, lp, cl⟩ := r2 hLn
  obtain ⟨nu, hnu⟩ : ∃ nu, nu = lkB gs (nbE now) := ⟨_, rfl⟩
  obtain ⟨w1, hw1⟩ : ∃ w1, w1 = w.alloc (.cells #[.slice (some ⟨b, o, none⟩) gs.length c, .map (some mb), .slice Ak gs.length ck] 66) := ⟨_, rfl⟩
  have HE1 := (show Hid (w.alloc (.cells #[.slice (some ⟨b, o, none⟩) gs.length c, .map (some mb), .slice Ak gs.length ck] 66) = w1) from hw1.symm)
  have hb1 : Below w.heap.size w w1 := by rw [hw1]; exact below_box _ _
  have hs1 : w1.heap.size = w.heap.size + 1 := by rw [hw1, World.size_alloc]
  have hx1 : VX w1 w.heap.size (.slice (some ⟨b, o, none⟩) gs.length c) (.map (some mb)) (.slice Ak gs.length ck) := by rw [hw1]; exact VX.new w _ _ _
  obtain ⟨wz, hwz⟩ : ∃ wz, wz = (w1.alloc (.cells #[.string ⟨#[]⟩, .slice none 0 0] 52)).drew := ⟨_, rfl⟩
  have hbz : Below w1.heap.size w1 wz := by rw [hwz]; exact (below_box w1 _).drew
  have hsz1 : wz.heap.size = w1.heap.size + 1 := by rw [hwz]; exact World.size_alloc w1 (.cells #[.string ⟨#[]⟩, .slice none 0 0] 52)
  have hRz : RB wz w1.heap.size ⟨#[]⟩ (.slice none 0 0) := by rw [hwz]; exact (⟨heap_alloc_new w1 _⟩ : RB _ w1.heap.size _ _).later (Below.refl _ _).drew
  have HSe := (show Hid (∀ W, Below w1.heap.size w1 W → Calls Tryz.prog 57 #[.agg #[.slice (some ⟨b, o, none⟩) gs.length c, .map (some mb), .slice Ak gs.length ck], .slice (some ⟨gp, op, none⟩) L.length c3] W fun e w' => (∃ g cap, e = .returned (.slice (some ⟨g, 0, none⟩) L.length cap) ∧ w'.ownsRow W.heap.size 57 7 (.slice (some ⟨g, 0, none⟩) L.length cap) L.length (ndc (seL nu L))) ∧ Below W.heap.size W w') from fun W hW => by
    have hbW := hb1.trans (hW.mono hb1.size)
    have h := settled_any (gs := gs) (now := now) (L := L) mb (some ⟨b, o, none⟩) Ak ⟨gp, op, none⟩ c ck c3 hlen hLn hsz (fun n hn h6 => hv.R.dn.c _ hm n hn h6) W (hv.m.later hbW) (hv.k.later hbW) hv.n (fun _ => ⟨gp, op, rfl, Nat.lt_of_lt_of_le lp hbW.size, cl.same (hbW.block gp lp)⟩)
    rw [hnu]
    exact h)
  have HA1 := (show Hid (∀ (g cap : Nat) (w4 : World), w4.ownsRow w1.drew.heap.size 57 7 (.slice (some ⟨g, 0, none⟩) L.length cap) L.length (ndc (seL nu L)) → Below w1.drew.heap.size w1.drew w4 → Hid (NuB w (w4.alloc (.cells #[.string ⟨#[]⟩, .slice (some ⟨g, 0, none⟩) L.length cap] 52)) w4.heap.size g cap (seL nu L) L.length)) from fun g cap w4 h1 h2 => by
    have h3 : Below w1.heap.size w1 w4 := ⟨h2.os, h2.tape, h2.output, h2.size, h2.block⟩
    have hz := h3.size
    exact ⟨⟨heap_alloc_new w4 _⟩, hb1.trans ((h3.alloc h3.size _).mono hb1.size), U.own_base (U.own_below h1 (below_box _ _)) (Nat.le_of_eq hs1.symm), by omega⟩)
  have HA2 := (show Hid (∀ (g cap : Nat) (w4 : World), w4.ownsRow wz.heap.size 57 7 (.slice (some ⟨g, 0, none⟩) L.length cap) L.length (ndc (seL nu L)) → Below wz.heap.size wz w4 → Hid (RB w4 w1.heap.size ⟨#[]⟩ (.slice none 0 0)) ∧ Hid (NuB w ((w4.setCell ⟨w1.heap.size, 0, none⟩ (.string ⟨#[]⟩)).setCell ⟨w1.heap.size, 1, none⟩ (.slice (some ⟨g, 0, none⟩) L.length cap)) w1.heap.size g cap (seL nu L) L.length)) from fun g cap w4 h1 h2 => by
    have hr := hRz.later h2
    have hb := hbz.trans (h2.mono hbz.size)
    have e0 := heap_setCell_same w4 w1.heap.size 0 _ 52 (.string ⟨#[]⟩) hr.heap
    have e1 := heap_setCell_same _ w1.heap.size 1 _ 52 (.slice (some ⟨g, 0, none⟩) L.length cap) e0
    have hg := (h1.lt g rfl).1
    have h := own_same (U.own_base h1 (by omega : w.heap.size + 1 ≤ wz.heap.size)) (W' := (w4.setCell ⟨w1.heap.size, 0, none⟩ (.string ⟨#[]⟩)).setCell ⟨w1.heap.size, 1, none⟩ (.slice (some ⟨g, 0, none⟩) L.length cap)) (fun k hk => by
      cases hk
      exact (heap_setCell_other _ ⟨w1.heap.size, 1, none⟩ g _ (show g ≠ w1.heap.size by omega)).trans (heap_setCell_other _ ⟨w1.heap.size, 0, none⟩ g _ (show g ≠ w1.heap.size by omega)))
    refine ⟨hr, ⟨by rw [e1]; rfl⟩, ?_, h, by omega⟩
    exact hb1.trans (((hb.setCell (p := ⟨w1.heap.size, 0, none⟩) (Nat.le_refl _) _).setCell (p := ⟨w1.heap.size, 1, none⟩) (Nat.le_refl _) _).mono hb1.size))
  have HSd := (show Hid (Below w1.heap.size w1 w1.drew ∧ Below w1.heap.size w1 wz) from ⟨(Below.refl _ _).drew, hbz⟩)
  have HP1 := (show Hid (Below w.heap.size w w1 ∧ w1.heap.size = w.heap.size + 1) from ⟨hb1, hs1⟩)
  have HRt := (show Hid (Rt L ∧ 0 < L.length ∧ L.length ≤ 2048 ∧ ∀ n ∈ L, n.tx.size ≤ 140737488355328) from ⟨hrt, hpos, hlen, hsz⟩)
  have HEq := (show Hid (∀ j, nuR gs now L j = nuA (kdR L) nu L j) from fun j => by rw [hnu]; rfl)
  have y0 : w1.cell? ⟨w.heap.size, 0, none⟩ = _ := hx1.c0
  have y1 : w1.cell? ⟨w.heap.size, 1, none⟩ = _ := hx1.c1
  have y2 : w1.cell? ⟨w.heap.size, 2, none⟩ = _ := hx1.c2
  have x1' := (hb1.cell (p := ⟨b, o + r * 2 + 1, none⟩) lb).trans x1
  have hxz := hx1.below hbz
  have y0z : wz.cell? ⟨w.heap.size, 0, none⟩ = _ := hxz.c0
  have y1z : wz.cell? ⟨w.heap.size, 1, none⟩ = _ := hxz.c1
  have y2z : wz.cell? ⟨w.heap.size, 2, none⟩ = _ := hxz.c2
  have x1z := (hbz.cell (p := ⟨b, o + r * 2 + 1, none⟩) (Nat.lt_of_lt_of_le lb hb1.size)).trans x1'
  have z0 : (0 : Int) ≤ (r : Int) := by omega
  have z1 : (r : Int) < (gs.length : Int) := by omega
  rw [hwz] at y0z y1z y2z x1z
  clear hg hm hrl hrt hpos hlen hsz lb x1 r2 hLn lp cl hnu hw1 hb1 hs1 hx1 hbz hsz1 hRz hv hxz
  go_enter Tryz.func40, Tryz.ntmps40
  go_wp2_with (rw [HE1.out])
  go_region_law (first
    | (refine step_call2 enters_settled rfl _ _ _ _ (by rfl) (.agg #[.slice (some ⟨b, o, none⟩) gs.length c, .map (some mb), .slice Ak gs.length ck]) (.slice (some ⟨gp, op, none⟩) L.length c3) (by rfl) (by rfl) ?_; with_reducible refine (HSe.out w1.drew HSd.out.1).mono ?_; rintro e w4 ⟨⟨g4, cap4, rfl, ho4⟩, b4⟩; refine ⟨_, rfl, ?_⟩; have HF := HA1.out g4 cap4 w4 ho4 b4)
    | (refine step_call2 enters_settled rfl _ _ _ _ (by rfl) (.agg #[.slice (some ⟨b, o, none⟩) gs.length c, .map (some mb), .slice Ak gs.length ck]) (.slice (some ⟨gp, op, none⟩) L.length c3) (by rfl) (by rfl) ?_; rw [← hwz]; with_reducible refine (HSe.out wz HSd.out.2).mono ?_; rintro e w4 ⟨⟨g4, cap4, rfl, ho4⟩, b4⟩; refine ⟨_, rfl, ?_⟩; have HF := HA2.out g4 cap4 w4 ho4 b4; have e0 := HF.1.out.c0; have e1 := HF.1.out.c1; have f0 := frozen_of_row w4 w1.heap.size 0 _ 52 HF.1.out.heap; have f1 := frozen_of_row w4 w1.heap.size 1 _ 52 HF.1.out.heap))
  all_goals
    first
      | (have HG := HF.2
         clear e0 e1 f0 f1 HF
         generalize (w4.setCell ⟨w1.heap.size, 0, none⟩ (.string ⟨#[]⟩)).setCell ⟨w1.heap.size, 1, none⟩ (.slice (some ⟨g4, 0, none⟩) L.length cap4) = w5 at HG ⊢
         generalize w1.heap.size = kk at HG ⊢)
      | (have HG := HF
         clear HF
         generalize w4.alloc (.cells #[.string ⟨#[]⟩, .slice (some ⟨g4, 0, none⟩) L.length cap4] 52) = w5 at HG ⊢
         generalize w4.heap.size = kk at HG ⊢)
    clear ho4 b4 HA1 HA2 HSe HSd HP1 y0 y1 y2 x1' y0z y1z y2z x1z hwz HE1
    have q0 := HG.out.r.c0
    have q1 := HG.out.r.c1
    obtain ⟨w6, hw6⟩ : ∃ w6, w6 = w5.alloc (.cells #[.string ⟨#[]⟩, .slice (some ⟨g4, 0, none⟩) L.length cap4] 52) := ⟨_, rfl⟩
    have HE6 := (show Hid (w5.alloc (.cells #[.string ⟨#[]⟩, .slice (some ⟨g4, 0, none⟩) L.length cap4] 52) = w6) from hw6.symm)
    have hb6 : Below w5.heap.size w5 w6 := by rw [hw6]; exact below_box _ _
    have HB6 := (show Hid (Below w.heap.size w w6) from HG.out.b.trans (hb6.mono HG.out.b.size))
    have HPa := (show Hid (∀ _ : Unit, Calls Tryz.prog 58 #[.agg #[.slice (some ⟨w5.heap.size, 0, none⟩) 1 1], .int .i64 0] w6 fun e w' => (∃ v l cd, e = .returned (.tuple #[v, .int .i64 cd]) ∧ PaR [(⟨#[]⟩, seL nu L)] 0 l cd ∧ w'.ownsRow w6.heap.size 110 4 v l.length (emc l)) ∧ Below w6.heap.size w6 w') from fun _ => by
      have hr : RB w6 w5.heap.size ⟨#[]⟩ (.slice (some ⟨g4, 0, none⟩) L.length cap4) := by rw [hw6]; exact ⟨heap_alloc_new w5 _⟩
      have ho := U.own_below HG.out.o hb6
      exact partsP_any [(⟨#[]⟩, seL nu L)] (some ⟨w5.heap.size, 0, none⟩) 1 0 w6 (gi_one (by rw [seL_len]) HRt.out.2.2.1 (seL_tx HRt.out.2.2.2) (fun _ => ⟨g4, 0, rfl, (ho.lt g4 rfl).2, own_ndl (xs := []) (by rw [List.append_nil]; exact ho)⟩) hr))
    clear hw6 hb6 HG
    go_wp2_with (rw [HE6.out])
    refine (HPa.out ()).mono ?_
    rintro e w7 ⟨⟨v, l, cd, rfl, hpa, ho⟩, b7⟩
    obtain ⟨rfl, hl, hln⟩ := pa_se HRt.out.1 hpa
    rw [hl] at ho
    obtain ⟨Al, cl, rfl⟩ := own_fm ho
    have HS := (show Hid (NuS w w7 (.slice none 0 0) L (nuR gs now L) Al l w7.heap.size 0 (.slice none 0 0)) from by
      refine ⟨HB6.out.trans (b7.mono HB6.out.size), own_rd ho hl, World.ownsRow_nil _ _ _ _, ⟨(HB6.out.trans (b7.mono HB6.out.size)).size, Nat.le_refl _⟩, fun g o e => rde_lt (own_rd ho hl) (by rintro rfl; have := HRt.out.2.1; rw [← hl] at this; exact absurd this (by decide)) g o e⟩)
    have HLn := (show Hid (∀ k, k < L.length → ∃ e, l[k]? = some e ∧ e.nu = nuR gs now L k) from fun k hk => by
      obtain ⟨e, he⟩ : ∃ e, l[k]? = some e := ⟨_, List.getElem?_eq_getElem (by rw [hl]; exact hk)⟩
      refine ⟨e, he, ?_⟩
      have h : (l.map Em.nu)[k]? = ((List.range L.length).map (nuA (kdR L) nu L))[k]? := by rw [hln]
      rw [List.getElem?_map, he, List.getElem?_map, List.getElem?_range hk] at h
      rw [HEq.out k]
      exact Option.some.inj h)
    have hlen := HRt.out.2.2.1
    generalize hN : w7.heap.size = N at HS
    clear hN ho hpa hln hl b7 HPa HB6 HE6 q0 q1
    go_wp2_with fail
    go_loopw [8, 29] (fun v t wr => ∃ (k : Nat) (A2 : Option Addr) (c2 : Nat), k ≤ L.length ∧ t = .int .i64 (k : Int) ∧ v = .slice A2 k c2 ∧ Hid (NuS w wr (.slice none 0 0) L (nuR gs now L) Al l N k (.slice A2 k c2))) (fun _ t _ => L.length - (intOf t).toNat)
    case atStart => exact ⟨0, none, 0, Nat.zero_le _, by go_num, rfl, HS⟩
    case round =>
      obtain ⟨k, A2, c2, hk, rfl, rfl, HW⟩ := hrel
      clear HS
      by_cases hlt : k < L.length
      · obtain ⟨e, he, hen⟩ := HLn.out k hlt
        have hne : l ≠ [] := by rintro rfl; cases he
        obtain ⟨gl, ol, rfl, lgl, hEB⟩ := HW.out.r hne
        obtain ⟨r0, r1, r2, r3⟩ := hEB k e he
        obtain ⟨w8, hw8⟩ : ∃ w8, w8 = wr.alloc (emO e) := ⟨_, rfl⟩
        obtain ⟨en, ec, el, em⟩ := e
        simp only at r0 r1 r2 r3 hen
        have HE8 := (show Hid (wr.alloc (.cells #[.bool en, .bool ec, .int .i64 el, .int .i64 em] 110) = w8) from hw8.symm)
        have hb8 : Below wr.heap.size wr w8 := by rw [hw8]; exact below_box _ _
        have HX8 := (show Hid (EX w8 wr.heap.size ⟨en, ec, el, em⟩) from by rw [hw8]; exact EX.new wr _)
        have HW8 := (show Hid (NuS w w8 (.slice none 0 0) L (nuR gs now L) (some ⟨gl, ol, none⟩) l N k (.slice A2 k c2)) from HW.out.later hb8)
        have x0 : w8.cell? ⟨wr.heap.size, 0, none⟩ = some (.bool en) := HX8.out.eb.c0
        have z0 : (0 : Int) ≤ (k : Int) := by omega
        have z1 : (k : Int) < (L.length : Int) := by omega
        have HEn := (show Hid (en = nuR gs now L k) from hen)
        have HN8 := (show Hid (N ≤ w8.heap.size) from HW8.out.n.2)
        have HO8 := (show Hid (w8.ownsRow N 4 1 (.slice A2 k c2) k ((List.range k).map fun j => Value.bool (nuR gs now L j))) from HW8.out.o)
        clear he hne lgl hEB hw8 hb8 HX8 hen HW HRt HEq
        go_wp2_with (first | rw [HE8.out] | (at_builtin; refine U.wpList_app1 rfl _ _ 82 rfl (.bool false) 1 Tryz.underlying82 Tryz.info4 rfl N k _ _ rfl rfl HO8.out rfl (by omega) (by decide) HN8.out ?_; intro g9 cap9 w9 ho9 hg9 hat9 hl9; have HV9 := (show Hid (NuS w w9 (.slice none 0 0) L (nuR gs now L) (some ⟨gl, ol, none⟩) l N (k + 1) (.slice (some ⟨g9, 0, none⟩) (k + 1) cap9)) from HW8.out.push (by rw [← HEn.out]; exact ho9) hg9); clear ho9 hg9 hat9 hl9 HW8 HO8 HN8 HE8 x0 r0 r1 r2 r3))
        go_roundw
        case rel => exact ⟨k + 1, some ⟨g9, 0, none⟩, cap9, by omega, by go_num, rfl, HV9⟩
        case measure => simp [intOf]; omega
      · obtain rfl : k = L.length := by omega
        have HO := (show Hid (wr.ownsRow w.heap.size 4 1 (.slice A2 L.length c2) L.length ((List.range L.length).map fun j => Value.bool (nuR gs now L j)) ∧ Below w.heap.size w wr) from ⟨U.own_base HW.out.o HW.out.n.1, HW.out.b⟩)
        clear HW HRt HEq
        go_wp2_with fail
        go_ret
        exact ⟨⟨_, rfl, HO.out.1⟩, HO.out.2⟩
end Go.Proofs.YtbipjdgholdhcabGreat.N

namespace Go.Proofs.YtbipjdgholdhcabGreat.N
open Go.RowKit Go.Maps
open Go.Proofs.YtbipjdgholdhcabGreat.T
theorem filter_more {f : Nat → Bool} {n : Nat} (h : ∀ q, f q = true → q < n) : ∀ d, (List.range (n + d)).filter f = (List.range n).filter f := by
  intro d
  induction d with
  | zero => rfl
  | succ d ih =>
    rw [← Nat.add_assoc, filter_succ, ih]
    split
    · next e => have := h _ e; omega
    · rfl
theorem filter_200 {n : Nat} {f : Nat → Bool} (hn : n ≤ 200) (h : ∀ q, f q = true → q < n) : (List.range 200).filter f = (List.range n).filter f := by
  have e := filter_more h (200 - n)
  rw [Nat.add_sub_cancel' hn] at e
  exact e
theorem hpS_at {L : List Nd} {E : Nat → Hp} {k : Nat} {n : Nd} (hn : L[k]? = some n) : hpS E ((run L k).take (arN n.op)) = (kdR L k).map E := by
  unfold hpS kdR
  rw [op_of hn, List.map_map, ← List.map_reverse]
  rfl
theorem hb_step {gs : GL} {now : List Em} {L : List Nd} {E : Nat → Hp} (hks : Kds (kdR L) L) (hE : E = fun j => (nuR gs now L j, hbA (kdR L) (nuR gs now L) (fdG gs) L j)) {k : Nat} {n : Nd} (hn : L[k]? = some n) (_hal : ∀ n ∈ L, alE n = 0) : (E k).2 = hbN n (((hpS E ((run L k).take (arN n.op)))[0]?).getD hp0).2 (((hpS E ((run L k).take (arN n.op)))[1]?).getD hp0).2 (((hpS E ((run L k).take (arN n.op)))[0]?).getD hp0).1 (fdG gs) := by
  rw [hpS_at hn]
  have hl := hks.n k n hn
  have ha : ∀ i, i < arN n.op → (kdR L k)[i]? = some (((kdR L k)[i]?).getD k) := fun i hi => by
    rw [List.getElem?_eq_getElem (by omega)]
    rfl
  have h := hbA_step (may := nuR gs now L) (c := fdG gs) hks hn ha
  have e2 : (E k).2 = hbA (kdR L) (nuR gs now L) (fdG gs) L k := by rw [hE]
  rw [e2, h]
  have key : ∀ i : Nat, ((((kdR L k).map E)[i]?).getD hp0).2 = if i < arN n.op then hbA (kdR L) (nuR gs now L) (fdG gs) L (((kdR L k)[i]?).getD k) else nil1 := fun i => by
    rw [List.getElem?_map]
    by_cases hi : i < arN n.op
    · rw [if_pos hi, List.getElem?_eq_getElem (by omega), hE]
      rfl
    · rw [if_neg hi, List.getElem?_eq_none (by omega)]
      rfl
  rw [key 0, key 1]
  by_cases h7 : n.op = 7
  · have a2 := arN_2 (n := n) (.inl h7)
    have e3 : ((((kdR L k).map E)[0]?).getD hp0).1 = nuR gs now L (((kdR L k)[0]?).getD k) := by
      rw [List.getElem?_map, List.getElem?_eq_getElem (by omega), hE]
      rfl
    rw [e3]
  · unfold hbN
    simp only [h7, if_false]

open U (below_grown own_get own_slice)
theorem enters_begins (args : Array Value) (w : World) : (callFunc 42 args).run Tryz.prog w = .ok (.enter 42 args) w := enters_of Tryz.func42 (by kernel_rfl) rfl args w
/-- Calls of three slots, as one step of a region that draws its order. -/
theorem step_call3 {F : Nat} (hen : ∀ args w, (callFunc F args).run Tryz.prog w = .ok (.enter F args) w) {ops : Array Oper} {o : Oper} {a : Act} {w : World} {K : Act → World → Prop} {Q : Exit → Act → World → Prop} {E : Prop} (hgd : o.guard = none) (x y z : Nat) (T U V : TypeId) (ho : o.op = .call { callee := .value (.func F), args := #[.tmp x, .tmp y, .tmp z], argTypes := #[T, U, V] }) (u v s : Value) (hx : a.eval (.tmp x) = u) (hy : a.eval (.tmp y) = v) (hz : a.eval (.tmp z) = s)
    (hc : Calls Tryz.prog F #[u, v, s] w fun e w' => ∃ r, e = .returned r ∧ K (a.put o.dst r) w') :
    if Region.wanted o (yielded ops a.tmps) = true then Oper.wp Tryz.prog o a w K Q else E := by
  have hw : Region.wanted o (yielded ops a.tmps) = true := by simp [Region.wanted, hgd]
  rw [if_pos hw]
  have he : (execOp a.eval o).run Tryz.prog w = .ok (.enter F #[u, v, s]) w := by
    have hx2 : a.tmps[x]?.getD undef = u := by simpa [Act.eval] using hx
    have hy2 : a.tmps[y]?.getD undef = v := by simpa [Act.eval] using hy
    have hz2 : a.tmps[z]?.getD undef = s := by simpa [Act.eval] using hz
    unfold execOp
    simp [ho, go_sem, invoke, hen]
    exact ⟨hx2, hy2, hz2⟩
  unfold Oper.wp
  rw [he, Oper.upon_enter]
  refine hc.mono ?_
  rintro e w' ⟨r, rfl, hk⟩
  exact hk
structure HoS (w wr : World) (r m kv : Value) (gN N k : Nat) (E : Nat → Hp) (L : List Nd) (v : Value) : Prop where
  b : Below w.heap.size w wr
  x : VX wr w.heap.size r m kv
  u : ∀ j, j < L.length → wr.cell? ⟨gN, j, none⟩ = some (.bool (E j).1)
  o : wr.ownsRow N 90 201 v (run L k).length (hpc (hpS E (run L k)))
  n : w.heap.size + 1 ≤ N ∧ gN < N ∧ N ≤ wr.heap.size
theorem HoS.later {w wr w2 : World} {r m kv : Value} {gN N k : Nat} {E : Nat → Hp} {L : List Nd} {v : Value} (h : HoS w wr r m kv gN N k E L v) (hb : Below wr.heap.size wr w2) : HoS w w2 r m kv gN N k E L v :=
  ⟨h.b.trans (hb.mono h.b.size), h.x.below hb, fun j hj => (hb.cell (p := ⟨gN, j, none⟩) (Nat.lt_of_lt_of_le h.n.2.1 h.n.2.2)).trans (h.u j hj), U.own_below h.o hb, h.n.1, h.n.2.1, Nat.le_trans h.n.2.2 hb.size⟩
theorem HoS.push {w wr w2 : World} {r m kv : Value} {gN N k : Nat} {E : Nat → Hp} {L : List Nd} {v v2 : Value} (h : HoS w wr r m kv gN N k E L v) {row : Option Nat} (hg : wr.grownBy w2 row) (hrow : ∀ q, row = some q → v.ownBlock = some q) (ho : w2.ownsRow N 90 201 v2 (run L (k + 1)).length (hpc (hpS E (run L (k + 1))))) : HoS w w2 r m kv gN N (k + 1) E L v2 := by
  have hlow : ∀ q, row = some q → N ≤ q := fun q hq => (h.o.lt q (hrow q hq)).1
  have hn := h.n
  refine ⟨below_grown h.b hg (fun q e => by have := hlow q e; omega), h.x.same (hg.block _ h.x.lt (fun e => by have := hlow _ e.symm; omega)), fun j hj => ?_, ho, hn.1, hn.2.1, Nat.le_trans hn.2.2 hg.size⟩
  rw [World.cell?_of_block (a := ⟨gN, j, none⟩) (hg.block gN (by omega) (fun e => by have := hlow _ e.symm; omega))]
  exact h.u j hj
/-- Behind a part that was told: its box, and the rest. -/
structure HoB (w W : World) (kk : Nat) (p : Hp) (r m kv : Value) (gN N k : Nat) (E : Nat → Hp) (L : List Nd) (v : Value) : Prop where
  s : HoS w W r m kv gN N k E L v
  p : PX W kk p
attribute [local go_sem ↓] ld_fold st_fold ldp_fold stp_fold bdp_fold bsp_fold alp_fold
attribute [local go_sem] ld_run st_run ldp_run stp_run bdp_run bsp_run alp_run
set_option maxRecDepth 100000 in
set_option maxHeartbeats 64000000 in
theorem headsOf_any {gs : GL} {now : List Em} (mb : Nat) (A Ak : Option Addr) (c ck : Nat) {r : Nat} {gn : ByteArray} {L : List Nd} (hg : gs[r]? = some (gn, L)) (w : World) (hv : VwO w gs A mb Ak now) :
    Calls Tryz.prog 24 #[.agg #[.slice A gs.length c, .map (some mb), .slice Ak gs.length ck], .int .i64 (r : Int)] w fun e w' => (∃ v, e = .returned v ∧ w'.ownsRow w.heap.size 3 1 v (hdl gs.length (hdM gs (nbE now)) r).length ((hdl gs.length (hdM gs (nbE now)) r).map U.nI)) ∧ Below w.heap.size w w' := by
  have hm := List.mem_of_getElem? hg
  have hrl : r < gs.length := (List.getElem?_eq_some_iff.1 hg).1
  obtain ⟨hrt, hks, hal0, hpos, hlen⟩ := rt_facts hv.R hm
  have hrt : Rt L := hrt
  have hks : Kds (kdR L) L := hks
  have hal0 : ∀ n ∈ L, alE n = 0 := hal0
  have hpos : 0 < L.length := hpos
  have hlen : L.length ≤ 2048 := hlen
  have hsz : ∀ n ∈ L, n.tx.size ≤ 140737488355328 := (hv.g.t _ hm).2.2
  obtain ⟨b, o, A3, c3, rfl, lb, _, x1, r2⟩ := hv.g.d r _ hg
  have hLn : L ≠ [] := by rintro rfl; simp at hpos
  obtain ⟨gp, op, rfl, lp, cl⟩ := r2 hLn
  obtain ⟨E, hE⟩ : ∃ E : Nat → Hp, E = fun j => (nuR gs now L j, hbA (kdR L) (nuR gs now L) (fdG gs) L j) := ⟨_, rfl⟩
  have HSt := (show Hid (∀ (k : Nat) n, L[k]? = some n → (E k).2 = hbN n (((hpS E ((run L k).take (arN n.op)))[0]?).getD hp0).2 (((hpS E ((run L k).take (arN n.op)))[1]?).getD hp0).2 (((hpS E ((run L k).take (arN n.op)))[0]?).getD hp0).1 (fdG gs)) from fun k n hn => hb_step hks hE hn hal0)
  have HEnd := (show Hid ((List.range 200).filter (E (L.length - 1)).2 = hdl gs.length (hdM gs (nbE now)) r) from by
    have h : (E (L.length - 1)).2 = hdM gs (nbE now) r := by rw [hE]; funext q; rw [hdM_of hg]; rfl
    rw [h]
    exact filter_200 hv.R.n2 (fun q hq => (hdM_lt hv.R r q hq).2))
  have HE1s := (show Hid (∀ j, (E j).1 = nuR gs now L j) from fun j => by rw [hE])
  obtain ⟨w1, hw1⟩ : ∃ w1, w1 = w.alloc (.cells #[.slice (some ⟨b, o, none⟩) gs.length c, .map (some mb), .slice Ak gs.length ck] 66) := ⟨_, rfl⟩
  have HE1 := (show Hid (w.alloc (.cells #[.slice (some ⟨b, o, none⟩) gs.length c, .map (some mb), .slice Ak gs.length ck] 66) = w1) from hw1.symm)
  have hb1 : Below w.heap.size w w1 := by rw [hw1]; exact below_box _ _
  have hs1 : w1.heap.size = w.heap.size + 1 := by rw [hw1, World.size_alloc]
  have hx1 : VX w1 w.heap.size (.slice (some ⟨b, o, none⟩) gs.length c) (.map (some mb)) (.slice Ak gs.length ck) := by rw [hw1]; exact VX.new w _ _ _
  have HNu := (show Hid (∀ _ : Unit, Calls Tryz.prog 40 #[.agg #[.slice (some ⟨b, o, none⟩) gs.length c, .map (some mb), .slice Ak gs.length ck], .int .i64 (r : Int)] w1 fun e w' => (∃ v, e = .returned v ∧ w'.ownsRow w1.heap.size 4 1 v L.length ((List.range L.length).map fun j => Value.bool (nuR gs now L j))) ∧ Below w1.heap.size w1 w') from fun _ => nullable_any mb (some ⟨b, o, none⟩) Ak c ck hg w1 (hv.later hb1))
  have HBe := (show Hid (∀ (W : World) (n : Nd) (A4 : Option Addr) (c4 : Nat) (ps : List Hp), Below w.heap.size w W → n ∈ L → ps.length = arN n.op → RdP W A4 ps → Calls Tryz.prog 42 #[.agg #[.slice (some ⟨b, o, none⟩) gs.length c, .map (some mb), .slice Ak gs.length ck], ndG n, .slice A4 (arN n.op) c4] W fun e w' => e = .returned (.agg (mkA (hbN n ((ps[0]?).getD hp0).2 ((ps[1]?).getD hp0).2 ((ps[0]?).getD hp0).1 (fdG gs)))) ∧ Below W.heap.size W w') from fun W n A4 c4 ps hW hn hl hp => begins_any n _ _ mb A4 c4 ps (hal0 n hn) (hsz n hn) (fun h6 => hv.R.dn.c _ hm n hn h6) hv.R.n2 hl W (hv.m.later hW) hp)
  have HCl := (show Hid (NdL w gp op L ∧ gp < w.heap.size) from ⟨cl, lp⟩)
  have HG := (show Hid (∀ k, k < L.length → ∃ n, L[k]? = some n ∧ alE n = 0 ∧ arN n.op ≤ (run L k).length) from fun k hk => by
    have e : L[k]? = some L[k] := List.getElem?_eq_getElem hk
    have h := er_ok e (hrt.each k hk)
    exact ⟨_, e, h.al, h.ar⟩)
  have HOne := (show Hid ((run L L.length).length = 1 ∧ 0 < L.length) from ⟨hrt.one, hpos⟩)
  have HP1 := (show Hid (Below w.heap.size w w1 ∧ w1.heap.size = w.heap.size + 1 ∧ VX w1 w.heap.size (.slice (some ⟨b, o, none⟩) gs.length c) (.map (some mb)) (.slice Ak gs.length ck)) from ⟨hb1, hs1, hx1⟩)
  have HLb := (show Hid (b < w.heap.size ∧ w.cell? ⟨b, o + r * 2 + 1, none⟩ = some (.slice (some ⟨gp, op, none⟩) L.length c3)) from ⟨lb, x1⟩)
  have y0 : w1.cell? ⟨w.heap.size, 0, none⟩ = _ := hx1.c0
  have y1 : w1.cell? ⟨w.heap.size, 1, none⟩ = _ := hx1.c1
  have y2 : w1.cell? ⟨w.heap.size, 2, none⟩ = _ := hx1.c2
  have z0 : (0 : Int) ≤ (r : Int) := by omega
  have z1 : (r : Int) < (gs.length : Int) := by omega
  obtain ⟨i0, hinf, hz0, hz1, hz2⟩ := info_parts Tryz.infoPt
  clear hg hm hrl hrt hpos hsz lb x1 r2 hLn lp cl hw1 hb1 hs1 hx1 hv hks hal0 hE
  go_enter Tryz.func24, Tryz.ntmps24
  go_wp2_with (rw [HE1.out])
  refine (HNu.out ()).mono ?_
  rintro e w2 ⟨⟨vn, rfl, hon⟩, b2⟩
  obtain ⟨gN, cN, rfl, _, lN, _, _⟩ := own_get hon (j := 0) (x := .bool (nuR gs now L 0)) (by rw [List.getElem?_map, List.getElem?_range HOne.out.2]; rfl)
  have HS := (show Hid (HoS w w2 (.slice (some ⟨b, o, none⟩) gs.length c) (.map (some mb)) (.slice Ak gs.length ck) gN w2.heap.size 0 E L (.slice none 0 0)) from by
    obtain ⟨h1, h2, h3⟩ := HP1.out
    have hb := h1.trans (b2.mono h1.size)
    refine ⟨hb, h3.below b2, fun j hj => ?_, World.ownsRow_nil _ _ _ _, by have := b2.size; omega, lN, Nat.le_refl _⟩
    obtain ⟨g5, c5, e5, _, _, x5, _⟩ := own_get hon (j := j) (x := .bool (nuR gs now L j)) (by rw [List.getElem?_map, List.getElem?_range hj]; rfl)
    injection e5 with e6 _ _
    obtain ⟨rfl, _⟩ := Addr.mk.inj (Option.some.inj e6)
    rw [HE1s.out j]
    exact x5)
  have x2 := (HS.out.b.cell (p := ⟨b, o + r * 2 + 1, none⟩) HLb.out.1).trans HLb.out.2
  have v0 : w2.cell? ⟨w.heap.size, 0, none⟩ = _ := HS.out.x.c0
  generalize hN : w2.heap.size = N at HS
  clear hN hon b2 lN HNu HE1 y0 y1 y2 HP1
  go_wp2_with fail
  clear x2 v0
  go_loopw [6, 21] (fun v t wr => ∃ (k : Nat), k ≤ L.length ∧ t = .int .i64 (k : Int) ∧ Hid (HoS w wr (.slice (some ⟨b, o, none⟩) gs.length c) (.map (some mb)) (.slice Ak gs.length ck) gN N k E L v)) (fun _ t _ => L.length - (intOf t).toNat)
  case atStart => exact ⟨0, Nat.zero_le _, by go_num, HS⟩
  case round =>
    obtain ⟨k, hk, rfl, HW⟩ := hrel
    clear HS
    by_cases hlt : k < L.length
    · obtain ⟨n, hn, hal, har⟩ := HG.out k hlt
      have HNn := (show Hid (L[k]? = some n) from hn)
      have HAr : Hid (∀ w, Calls Tryz.prog 41 #[.int .i64 n.op] w fun e w' => e = .returned (.int .i64 ((arN n.op : Nat) : Int)) ∧ w' = w) := fun w => by rw [arN_of hal]; exact arity_any n.op w
      obtain ⟨c0, c1, c2, c3', c4, c5, c6⟩ := (HCl.out.1.same (HW.out.b.block gp HCl.out.2)) k n hn
      have z2 : (0 : Int) ≤ (k : Int) := by omega
      have z3 : (k : Int) < (L.length : Int) := by omega
      obtain ⟨A, cA, hv, hAo⟩ : ∃ A c, u6 = .slice A (run L k).length c ∧ (A = none ∧ (run L k).length = 0 ∧ c = 0 ∨ ∃ g, A = some ⟨g, 0, none⟩ ∧ g < wr.heap.size ∧ (run L k).length ≤ c) := by
        rcases HW.out.o.2 with ⟨q1, q2⟩ | ⟨g, cap, cur, q1, q2, q3, q4, _⟩
        · exact ⟨none, 0, by rw [q1, q2], .inl ⟨rfl, q2, rfl⟩⟩
        · exact ⟨_, cap, q1, .inr ⟨g, rfl, (Array.getElem?_eq_some_iff.1 q3).1, q4⟩⟩
      subst hv
      obtain ⟨w3, hw3⟩ : ∃ w3, w3 = wr.alloc (ndO n) := ⟨_, rfl⟩
      have HE3 := (show Hid (wr.alloc (.cells #[.int .i64 n.op, .int .i64 n.nn, .string n.tx, .int .u64 n.s0, .int .u64 n.s1, .int .u64 n.s2, .int .u64 n.s3] 57) = w3) from hw3.symm)
      have HN3 := (show Hid (NX w3 wr.heap.size n) from by rw [hw3]; exact ⟨heap_alloc_new wr _⟩)
      have hb3 : Below wr.heap.size wr w3 := by rw [hw3]; exact below_box _ _
      have HW3 := (show Hid (HoS w w3 (.slice (some ⟨b, o, none⟩) gs.length c) (.map (some mb)) (.slice Ak gs.length ck) gN N k E L (.slice A (run L k).length cA)) from HW.out.later hb3)
      have b0 := HN3.out.nb.c0
      have hml : (run L k).length ≤ 2048 := by have := run_len L k; omega
      have HAo := (show Hid _ from hAo)
      obtain ⟨rr, hr⟩ : ∃ r, r + arN n.op = (run L k).length := ⟨(run L k).length - arN n.op, by omega⟩
      clear hn hal har hAo hw3 hb3 HW HG
      obtain ⟨m, hm⟩ : ∃ m, m = (run L k).length := ⟨_, rfl⟩
      have HM := (show Hid (m = (run L k).length) from hm)
      rw [← hm] at hr hml ⊢
      have hsub : (m : Int) - (arN n.op : Int) = (rr : Int) := by omega
      have HAa := (show Hid (arN n.op ≤ 2 ∧ rr + arN n.op = m) from ⟨arN_le _, hr⟩)
      have hmr : m - rr = arN n.op := by omega
      have zr : (rr : Int) ≤ (m : Int) := by omega
      have zr0 : (0 : Int) ≤ (rr : Int) := by omega
      have zc : (m : Int) ≤ (cA : Int) := by
        rcases HAo.out with ⟨_, q2, q3⟩ | ⟨g, _, _, q3⟩
        · omega
        · omega
      obtain ⟨A2, hA2, hA2r⟩ : ∃ A2, (if cA = rr then A else Option.map (fun x => x.add (rr * 201)) A) = A2 ∧ RdP w3 A2 (hpS E ((run L k).take (arN n.op))) := by
        refine ⟨_, rfl, ?_⟩
        by_cases hx0 : (hpS E ((run L k).take (arN n.op))) = []
        · rw [hx0]
          intro j p hp
          cases hp
        · have ha0 : 0 < ((run L k).take (arN n.op)).length := by
            rw [← hpS_len E]; exact List.length_pos_iff.2 hx0
          rw [List.length_take] at ha0
          rcases HAo.out with ⟨q1, q2, q3⟩ | ⟨g, q1, q2, q3⟩
          · omega
          · have hc : ¬ cA = rr := by omega
            rw [if_neg hc, q1]
            have ho := HW3.out.o
            rw [q1] at ho
            have hra : (hpS E ((run L k).drop (arN n.op))).length = rr := by rw [hpS_len, List.length_drop]; omega
            have h := hp_read ho _ _ (hpS_split E (run L k) (arN n.op))
            rw [hra] at h
            rw [Option.map_some, Addr.add_lit, Nat.zero_add]
            exact h
      have HR2 := (show Hid (RdP w3 A2 (hpS E ((run L k).take (arN n.op)))) from hA2r)
      clear hA2r hr hm
      go_wp2_with (rw [HE3.out])
      refine (HAr.out _).mono ?_
      rintro e w4 ⟨rfl, rfl⟩
      clear HAr c0 c1 c2 c3' c4 c5 c6 b0 HE3
      obtain ⟨pb, hpb⟩ : ∃ pb, pb = (E k).1 := ⟨_, rfl⟩
      obtain ⟨pf, hpf⟩ : ∃ pf, pf = (E k).2 := ⟨_, rfl⟩
      have HEk := (show Hid ((pb, pf) = E k) from by show (pb, pf) = E k; rw [hpb, hpf])
      have HW4 := (show Hid (HoS w w4 (.slice (some ⟨b, o, none⟩) gs.length c) (.map (some mb)) (.slice Ak gs.length ck) gN N k E L (.slice A m cA)) from by rw [HM.out]; exact HW3.out)
      have hD : Below w4.heap.size w4 w4.drew := (Below.refl _ _).drew
      obtain ⟨wz, hwz⟩ : ∃ wz, wz = (w4.alloc (.cells (hpV hp0).toArray 90)).drew := ⟨_, rfl⟩
      have hZ : Below w4.heap.size w4 wz := by rw [hwz]; exact (below_box w4 _).drew
      have hPz : PX wz w4.heap.size hp0 := by rw [hwz]; exact PX.below ⟨heap_alloc_new w4 _⟩ (Below.refl _ _).drew
      have HC := (show Hid (∀ W, Below w4.heap.size w4 W → Calls Tryz.prog 42 #[.agg #[.slice (some ⟨b, o, none⟩) gs.length c, .map (some mb), .slice Ak gs.length ck], ndG n, .slice A2 (arN n.op) (cA - rr)] W fun e w' => e = .returned (.agg (mkA pf)) ∧ Below W.heap.size W w') from fun W hW => by
        have hl : (hpS E ((run L k).take (arN n.op))).length = arN n.op := by rw [hpS_len, List.length_take, ← HM.out]; have := HAa.out; omega
        have h := HBe.out W n A2 (cA - rr) _ (HW4.out.b.trans (hW.mono HW4.out.b.size)) (List.mem_of_getElem? HNn.out) hl (HR2.out.later hW)
        rw [← HSt.out k n HNn.out, ← hpf] at h
        exact h)
      -- the box first, or the call first
      have HA1 := (show Hid (∀ w5 : World, Below w4.drew.heap.size w4.drew w5 → w5.cell? ⟨gN, k, none⟩ = some (.bool pb) ∧ (w5.alloc (.cells (hpV hp0).toArray 90)).cell? ⟨gN, k, none⟩ = some (.bool pb) ∧ OkP (w5.alloc (.cells (hpV hp0).toArray 90)) w5.heap.size ∧ Hid (HoB w ((w5.alloc (.cells (hpV hp0).toArray 90)).setRow w5.heap.size (hpV (pb, pf)).toArray) w5.heap.size (pb, pf) (.slice (some ⟨b, o, none⟩) gs.length c) (.map (some mb)) (.slice Ak gs.length ck) gN N k E L (.slice A m cA))) from fun w5 h5 => by
        have h6 : Below w4.heap.size w4 w5 := ⟨h5.os, h5.tape, h5.output, h5.size, h5.block⟩
        have hp : PX (w5.alloc (.cells (hpV hp0).toArray 90)) w5.heap.size hp0 := ⟨heap_alloc_new w5 _⟩
        have m5 := (HW4.out.later h6).u k hlt
        rw [← hpb] at m5
        have m6 := ((HW4.out.later h6).later (below_box w5 (.cells (hpV hp0).toArray 90))).u k hlt
        rw [← hpb] at m6
        refine ⟨m5, m6, ⟨_, hp⟩, (HW4.out.later h6).later (below_setRow (below_box w5 _) (Nat.le_refl _) _), ⟨setRow_heap _ _ _ _ 90 (0, 0) hp.heap⟩⟩)
      have HA2 := (show Hid (∀ w5 : World, Below wz.heap.size wz w5 → w5.cell? ⟨gN, k, none⟩ = some (.bool pb) ∧ OkP w5 w4.heap.size ∧ Hid (HoB w (w5.setRow w4.heap.size (hpV (pb, pf)).toArray) w4.heap.size (pb, pf) (.slice (some ⟨b, o, none⟩) gs.length c) (.map (some mb)) (.slice Ak gs.length ck) gN N k E L (.slice A m cA))) from fun w5 h5 => by
        have h6 : Below w4.heap.size w4 w5 := hZ.trans (h5.mono hZ.size)
        have hp := hPz.below h5
        have m5 := (HW4.out.later h6).u k hlt
        rw [← hpb] at m5
        refine ⟨m5, ⟨_, hp⟩, HW4.out.later (below_setRow h6 (Nat.le_refl _) _), ⟨setRow_heap _ _ _ _ 90 (0, 0) hp.heap⟩⟩)
      have HD := (show Hid (Below w4.heap.size w4 w4.drew ∧ Below w4.heap.size w4 wz) from ⟨hD, hZ⟩)
      have d0 : w4.drew.cell? ⟨wr.heap.size, 0, none⟩ = some (.int .i64 n.op) := (nx_below HN3.out hD).nb.c0
      have d1 : w4.drew.cell? ⟨wr.heap.size, 1, none⟩ = some (.int .i64 n.nn) := (nx_below HN3.out hD).nb.c1
      have d2 : w4.drew.cell? ⟨wr.heap.size, 2, none⟩ = some (.string n.tx) := (nx_below HN3.out hD).nb.c2
      have d3 : w4.drew.cell? ⟨wr.heap.size, 3, none⟩ = some (.int .u64 n.s0) := (nx_below HN3.out hD).nb.c3
      have d4 : w4.drew.cell? ⟨wr.heap.size, 4, none⟩ = some (.int .u64 n.s1) := (nx_below HN3.out hD).nb.c4
      have d5 : w4.drew.cell? ⟨wr.heap.size, 5, none⟩ = some (.int .u64 n.s2) := (nx_below HN3.out hD).nb.c5
      have d6 : w4.drew.cell? ⟨wr.heap.size, 6, none⟩ = some (.int .u64 n.s3) := (nx_below HN3.out hD).nb.c6
      have e0' : wz.cell? ⟨wr.heap.size, 0, none⟩ = some (.int .i64 n.op) := (nx_below HN3.out hZ).nb.c0
      have e1' : wz.cell? ⟨wr.heap.size, 1, none⟩ = some (.int .i64 n.nn) := (nx_below HN3.out hZ).nb.c1
      have e2' : wz.cell? ⟨wr.heap.size, 2, none⟩ = some (.string n.tx) := (nx_below HN3.out hZ).nb.c2
      have e3' : wz.cell? ⟨wr.heap.size, 3, none⟩ = some (.int .u64 n.s0) := (nx_below HN3.out hZ).nb.c3
      have e4' : wz.cell? ⟨wr.heap.size, 4, none⟩ = some (.int .u64 n.s1) := (nx_below HN3.out hZ).nb.c4
      have e5' : wz.cell? ⟨wr.heap.size, 5, none⟩ = some (.int .u64 n.s2) := (nx_below HN3.out hZ).nb.c5
      have e6' : wz.cell? ⟨wr.heap.size, 6, none⟩ = some (.int .u64 n.s3) := (nx_below HN3.out hZ).nb.c6
      have g0 : w4.drew.cell? ⟨w.heap.size, 0, none⟩ = _ := (HW4.out.later hD).x.c0
      have g1 : w4.drew.cell? ⟨w.heap.size, 1, none⟩ = _ := (HW4.out.later hD).x.c1
      have g2 : w4.drew.cell? ⟨w.heap.size, 2, none⟩ = _ := (HW4.out.later hD).x.c2
      have h0' : wz.cell? ⟨w.heap.size, 0, none⟩ = _ := (HW4.out.later hZ).x.c0
      have h1' : wz.cell? ⟨w.heap.size, 1, none⟩ = _ := (HW4.out.later hZ).x.c1
      have h2' : wz.cell? ⟨w.heap.size, 2, none⟩ = _ := (HW4.out.later hZ).x.c2
      have m0 := (HW4.out.later hD).u k hlt
      have m1 := (HW4.out.later hZ).u k hlt
      rw [← hpb] at m0 m1
      rw [hwz] at e0' e1' e2' e3' e4' e5' e6' h0' h1' h2' m1
      clear hpb hpf hD hZ hPz HR2 HN3 HW3
      go_wp2_with fail
      go_region_law (first
        | (refine step_call3 enters_begins rfl _ _ _ _ _ _ (by rfl) (.agg #[.slice (some ⟨b, o, none⟩) gs.length c, .map (some mb), .slice Ak gs.length ck]) (ndG n) (.slice A2 (arN n.op) (cA - rr)) (by rfl) (by rfl) (by rfl) ?_; with_reducible refine (HC.out w4.drew HD.out.1).mono ?_; rintro e w5 ⟨rfl, b5⟩; refine ⟨_, rfl, ?_⟩; obtain ⟨m5, m6, s5, HF⟩ := HA1.out w5 b5)
        | (refine step_call3 enters_begins rfl _ _ _ _ _ _ (by rfl) (.agg #[.slice (some ⟨b, o, none⟩) gs.length c, .map (some mb), .slice Ak gs.length ck]) (ndG n) (.slice A2 (arN n.op) (cA - rr)) (by rfl) (by rfl) (by rfl) ?_; rw [← hwz]; with_reducible refine (HC.out wz HD.out.2).mono ?_; rintro e w5 ⟨rfl, b5⟩; refine ⟨_, rfl, ?_⟩; obtain ⟨m5, s5, HF⟩ := HA2.out w5 b5))
      all_goals
        first
          | (generalize (w5.alloc (.cells (hpV hp0).toArray 90)).setRow w5.heap.size (hpV (pb, pf)).toArray = w6 at HF ⊢
             generalize w5.heap.size = kk at HF ⊢
             clear m6)
          | (generalize w5.setRow w4.heap.size (hpV (pb, pf)).toArray = w6 at HF ⊢
             generalize w4.heap.size = kk at HF ⊢)
        clear m5 s5 b5 HA1 HA2 HC HD hwz d0 d1 d2 d3 d4 d5 d6 e0' e1' e2' e3' e4' e5' e6' g0 g1 g2 h0' h1' h2' m0 m1 HW4
        have p5 : OkP w6 kk := ⟨_, HF.out.p⟩
        have q5 : ldPv w6 kk = .agg (hpV (pb, pf)).toArray := HF.out.p.val
        have p5d : OkP w6.drew kk := ⟨_, HF.out.p.below (Below.refl _ _).drew⟩
        have q5d : ldPv w6.drew kk = .agg (hpV (pb, pf)).toArray := (HF.out.p.below (Below.refl _ _).drew).val
        have zc2 : (rr : Int) ≤ (cA : Int) := by omega
        have HO5 := (show Hid (w6.ownsRow N 90 201 (.slice A rr cA) rr (hpc (hpS E ((run L k).drop (arN n.op))))) from hp_front (m := m) (by have h := HF.out.s.o; rw [← HM.out] at h; exact h) (hpS_split E (run L k) (arN n.op)) (by rw [hpS_len, List.length_drop, ← HM.out]; have := HAa.out; omega) (by have := HAa.out; omega) (by
          rcases HAo.out with ⟨q1, q2, q3⟩ | ⟨g, q1, _, _⟩
          · exact .inl ⟨q1, by rw [HM.out]; exact q2, q3⟩
          · exact .inr ⟨g, q1⟩))
        have HNs := (show Hid (N ≤ w6.heap.size) from HF.out.s.n.2.2)
        have HPs := (show Hid (∀ (w7 : World) (g3 cap3 : Nat), w7.ownsRow N 90 201 (.slice (some ⟨g3, 0, none⟩) (rr + 1) cap3) (rr + 1) (hpc (hpS E ((run L k).drop (arN n.op))) ++ hpV (pb, pf)) → ((w6.alloc (.cells (hpV (pb, pf)).toArray 90)).drew).grownBy w7 (Value.slice A rr cA).ownBlock → Hid (HoS w w7 (.slice (some ⟨b, o, none⟩) gs.length c) (.map (some mb)) (.slice Ak gs.length ck) gN N (k + 1) E L (.slice (some ⟨g3, 0, none⟩) (rr + 1) cap3))) from fun w7 g3 cap3 h1 h2 => by
          have hl : (run L (k + 1)).length = rr + 1 := by
            rw [run_succ, List.length_cons, List.length_drop, op_of HNn.out, ← HM.out]
            have := HAa.out
            omega
          refine HF.out.s.push (U.grow_alloc (grown_drew h2)) (fun q hq => ?_) ?_
          · rcases HAo.out with ⟨q1, _, _⟩ | ⟨g, q1, _, _⟩
            · rw [q1] at hq; cases hq
            · rw [q1] at hq ⊢; exact hq
          · rw [hl, run_succ, hpS_cons, pt_last, op_of HNn.out, hpc_app, hpc_one, ← HEk.out]
            exact h1)
        have hn1 : (hpV (pb, pf)).length = 1 * 201 := by rw [hpV_len]
        have hzs : (Value.agg (hpV hp0).toArray).cells.size = 201 := by kernel_rfl
        go_wp2_with fail
        go_region_law (refine step_append_lies _ (by rfl) _ _ _ (by rfl) N 90 i0 (.agg (hpV hp0).toArray) 201 201 Tryz.underlying84 hinf hz0 hz1 hz2 hzs (by omega) _ _ (hpc (hpS E ((run L k).drop (arN n.op)))) (by rfl) (T.own_drew (HO5.out.alloc _)) ⟨w6.heap.size, 0, none⟩ 1 1 (hpV (pb, pf)) (by rfl) hn1 (World.news_of_block (cs := (hpV (pb, pf)).toArray) (t := 90) (fr := (0, 0)) (heap_alloc_new w6 _)) (hpV_one _) (by omega) (by unfold maxLen; omega) (by omega) (by show N ≤ (w6.alloc _).heap.size; rw [World.size_alloc]; exact Nat.le_succ_of_le HNs.out) (w6.heap.size + 1) (by simp) ?_; intro g3 cap3 w7 hown hgrow hat hltg; have HP7 := HPs.out w7 g3 cap3 hown hgrow)
        all_goals
          clear hown hgrow hat hltg HPs HO5 p5 q5 p5d q5d HNs HF
          go_wp2_with fail
          go_roundw
          case rel => exact ⟨k + 1, by omega, by go_num, HP7⟩
          case measure => simp [intOf]; omega
    · obtain rfl : k = L.length := by omega
      obtain ⟨j, hj⟩ : ∃ j, L.length = j + 1 := ⟨L.length - 1, by have := HOne.out.2; omega⟩
      have hr : run L L.length = [pt L j] := by
        have h1 := HOne.out.1
        rw [hj, run_succ] at h1 ⊢
        rw [List.length_cons] at h1
        rw [List.eq_nil_of_length_eq_zero (by omega : ((run L j).drop (arN (T.opAt L j))).length = 0)]
      have ho := HW.out.o
      rw [hr] at ho
      have ho : wr.ownsRow N 90 201 u6 1 (hpc (hpS E [pt L j])) := ho
      obtain ⟨g, cA, rfl, hgl, _⟩ := ho.form (by show 0 < 1; omega)
      have hE : hpS E [pt L j] = [] ++ [E (L.length - 1)] := by rw [hpS_cons, pt_last, hj]; rfl
      rw [hE] at ho
      obtain ⟨g2, o2, e2, _, h3, h4⟩ := hp_read ho [] [E (L.length - 1)] rfl 0 _ rfl
      cases e2
      have h4 : wr.rangeAt g 1 (mkL (E (L.length - 1)).2) := h4
      have k1 : IsR2 wr g 1 := ⟨_, mkL_len _, h4⟩
      have v1 : ldR wr g 1 = .agg (mkA (E (L.length - 1)).2) := OkR.val ⟨mkL_len _, h4⟩
      obtain ⟨f, hf⟩ : ∃ f, f = (E (L.length - 1)).2 := ⟨_, rfl⟩
      have HB := (show Hid (Below w.heap.size w wr) from HW.out.b)
      have HEn := (show Hid ((List.range 200).filter f = hdl gs.length (hdM gs (nbE now)) r) from by rw [hf]; exact HEnd.out)
      have HNb := (show Hid (∀ _ : Unit, Calls Tryz.prog 43 #[.agg (mkA f)] wr fun e w' => (∃ v, e = .returned v ∧ w'.ownsRow wr.heap.size 3 1 v ((List.range 200).filter f).length (((List.range 200).filter f).map U.nI)) ∧ Below wr.heap.size wr w') from fun _ => numbers_any f wr)
      rw [← hf] at v1
      clear ho hE hgl h3 h4 hf HW hr hj HSt HEnd HBe HCl HG HLb HE1s HOne
      have z5 : (0 : Int) < 1 := by omega
      go_wp2_with fail
      refine (HNb.out ()).mono ?_
      rintro e w8 ⟨⟨v8, rfl, ho8⟩, b8⟩
      have HF8 := (show Hid (w8.ownsRow w.heap.size 3 1 v8 (hdl gs.length (hdM gs (nbE now)) r).length ((hdl gs.length (hdM gs (nbE now)) r).map U.nI) ∧ Below w.heap.size w w8) from by
        rw [HEn.out] at ho8
        exact ⟨U.own_base ho8 HB.out.size, HB.out.trans (b8.mono HB.out.size)⟩)
      clear ho8 b8 HNb HEn HB k1 v1
      go_wp2_with fail
      go_ret
      exact ⟨⟨_, rfl, HF8.out.1⟩, HF8.out.2⟩
end Go.Proofs.YtbipjdgholdhcabGreat.N
