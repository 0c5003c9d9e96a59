/- DERIVED. Plain mathematics and walks, laid together (4). -/
import Derived.Maps.OwnSet
import Derived.Maps.OwnOps
import Derived.Maps.Range
import Derived.Test.YtppggnmlbcdegaaRn03
namespace Go.Proofs.Ytppggnmlbcdegaa.T
open Go.RowKit
theorem one_iff {L : List Nd} {m : Nat} (hm : L.length = m + 1) (h : ∀ j, j < L.length → er L j = 0) : (run L L.length).length = 1 ↔ (pt L m).1 = 0 := by
  have hc := chn_run L L.length (Nat.le_refl _) h
  rw [hm] at hc ⊢
  rw [run_succ] at hc ⊢
  have h2 := hc.2.2.2
  cases hd : (run L m).drop (arN (opAt L m)) with
  | nil => rw [hd] at h2; exact ⟨fun _ => h2, fun _ => rfl⟩
  | cons x r =>
    rw [hd] at h2
    have := h2.1
    constructor
    · intro e; simp at e
    · intro e; omega

set_option maxRecDepth 100000 in
set_option maxHeartbeats 4000000 in
theorem checkR_any (L : List Nd) (Ap : Option Addr) (cp : Nat) (hL : L.length ≤ 140737488355328) (hT : ∀ n ∈ L, n.tx.size ≤ 140737488355328) (w : World) (hp : RdN w Ap L) :
    Calls Try.prog 36 #[.slice Ap L.length cp] w fun e w' => e = .returned (.tuple #[.int .i64 (ck L).1, .int .i64 (ck L).2]) ∧ Below w.heap.size w w' := by
  by_cases hlong : 2048 < L.length
  · have HE := (show Hid (ck L = (0, 2)) from ck_long hlong)
    have z : (2048 : Int) < (L.length : Int) := by omega
    clear hT hp
    go_enter Try.func36, Try.ntmps36
    go_wp2_with fail
    go_ret2
    exact ⟨by rw [HE.out]; rfl, Below.refl _ _⟩
  have z : ¬ (2048 : Int) < (L.length : Int) := by omega
  have HF : Hid (∀ _ : Unit, Calls Try.prog 59 #[.slice Ap L.length cp] w fun e w' => FrV w w' L e ∧ Below w.heap.size w w') := fun _ => from_any L Ap cp (by omega) hT w hp
  clear hT hp
  have HN := (show Hid (¬ 2048 < L.length) from hlong)
  clear hlong
  go_enter Try.func36, Try.ntmps36
  go_wp2_with fail
  refine (HF.out ()).mono ?_
  rintro e w2 ⟨hv, b2⟩
  have HB := (show Hid (Below w.heap.size w w2) from b2)
  clear HF b2
  rcases hv with ⟨k, hk, h1, h2, rfl⟩ | ⟨h1, v1, v2, rfl, h2⟩
  · have HE := (show Hid (ck L = (k, er L k)) from ck_bad HN.out hk h1 h2)
    have t1 : (er L k != 0) = true := by rw [bne, beq_eq_false_iff_ne.2 h2]; rfl
    clear h1 h2 HN
    generalize er L k = ek at *
    go_wp2_with fail
    go_ret2
    exact ⟨by rw [HE.out]; rfl, HB.out⟩
  · have HE := (show Hid (ck L = if (run L L.length).length = 1 then (0, 0) else (L.length, 42)) from ck_end HN.out h1)
    obtain ⟨A1, c1, A2, c2, rfl, rfl, hf⟩ := h2.form
    by_cases h0 : L.length = 0
    · have HE2 := (show Hid (ck L = (L.length, 42)) from by
        show ck L = _
        rw [HE.out, if_neg]
        rw [List.eq_nil_of_length_eq_zero h0]
        simp [run])
      have t0 : ((L.length : Int) == 0) = true := beq_iff_eq.2 (by omega)
      clear h1 h2 hf h0 HE HN
      go_wp2_with fail
      go_ret2
      exact ⟨by rw [HE2.out]; rfl, HB.out⟩
    · obtain ⟨m, hm⟩ : ∃ m, L.length = m + 1 := ⟨L.length - 1, by omega⟩
      obtain ⟨g1, g2, rfl, rfl⟩ := hf (by omega)
      have hone := one_iff hm h1
      have e1 := h2.o1.cells (g := g1) rfl m _ (bgc_get (by omega))
      rw [Addr.add_lit, Nat.zero_add] at e1
      have t0 : ((L.length : Int) == 0) = false := beq_eq_false_iff_ne.2 (by omega)
      have hs : (L.length : Int) - 1 = (m : Int) := by omega
      have zm : (0 : Int) ≤ (m : Int) := by omega
      have zl : (m : Int) < (L.length : Int) := by omega
      by_cases hp0 : (pt L m).1 = 0
      · have HE2 := (show Hid (ck L = (0, 0)) from by show ck L = _; rw [HE.out, if_pos (hone.2 hp0)])
        have t2 : (((pt L m).1 : Int) != 0) = false := by rw [hp0]; rfl
        clear h1 h2 hf h0 HE HN hm hone hp0
        generalize (pt L m).1 = q at *
        go_wp2_with fail
        go_ret2
        exact ⟨by rw [HE2.out]; rfl, HB.out⟩
      · have HE2 := (show Hid (ck L = (L.length, 42)) from by show ck L = _; rw [HE.out, if_neg (fun q => hp0 (hone.1 q))])
        have t2 : (((pt L m).1 : Int) != 0) = true := by rw [bne, beq_eq_false_iff_ne.2 (by omega)]; rfl
        clear h1 h2 hf h0 HE HN hm hone hp0
        generalize (pt L m).1 = q at *
        go_wp2_with fail
        go_ret2
        exact ⟨by rw [HE2.out]; rfl, HB.out⟩
end Go.Proofs.Ytppggnmlbcdegaa.T

namespace Go.Proofs.Ytppggnmlbcdegaa.T
open Go.RowKit
theorem own_base {w : World} {a b e size : Nat} {v : Value} {n : Nat} {xs : List Value} (h : w.ownsRow b e size v n xs) (hab : a ≤ b) : w.ownsRow a e size v n xs := by
  obtain ⟨h1, h2⟩ := h
  refine ⟨h1, ?_⟩
  rcases h2 with h2 | ⟨g, cap, cur, h3, h4, h5⟩
  · exact .inl h2
  · exact .inr ⟨g, cap, cur, h3, Nat.le_trans hab h4, h5⟩
end Go.Proofs.Ytppggnmlbcdegaa.T

namespace Go.Proofs.Ytppggnmlbcdegaa.N
open Go.ChangeShapes Go.WideShapes Go.ChangeAt Go.RowKit
abbrev Nd := T.Nd
theorem own_same {W W' : World} {B e s n : Nat} {v : Value} {xs : List Value} (h : W.ownsRow B e s v n xs) (hk : ∀ k, v.ownBlock = some k → W'.heap[k]? = W.heap[k]?) : W'.ownsRow B e s v n xs := by
  refine ⟨h.1, ?_⟩
  rcases h.2 with hn | ⟨g, cap, cur, rfl, hB, hg, rest⟩
  · exact .inl hn
  · exact .inr ⟨g, cap, cur, rfl, hB, (hk g rfl).trans hg, rest⟩
theorem own_ty {W : World} {B e s n : Nat} {v : Value} {xs : List Value} (h : W.ownsRow B e s v n xs) {k : Nat} (hk : v.ownBlock = some k) : ∃ cur, W.heap[k]? = some (.cells cur e (0, 0)) := by
  rcases h.2 with ⟨rfl, _⟩ | ⟨g, cap, cur, rfl, _, hg, _⟩
  · cases hk
  · cases hk; exact ⟨cur, hg⟩
/-- The words of a node's set are words. -/
theorem own_apart {W : World} {B e s n B2 e2 s2 n2 : Nat} {v v2 : Value} {xs xs2 : List Value} (h : W.ownsRow B e s v n xs) (h2 : W.ownsRow B2 e2 s2 v2 n2 xs2) (hne : e ≠ e2) {k : Nat} (hk : v.ownBlock = some k) : v2.ownBlock ≠ some k := fun q => by
  obtain ⟨c1, h1⟩ := own_ty h hk
  obtain ⟨c2, h3⟩ := own_ty h2 q
  rw [h1] at h3
  injection h3 with h4
  injection h4 with _ h5
  exact hne h5
theorem Try.info41 : (Try.prog.info? 57).map (fun i => (i.zero, i.size, i.bytes)) = some (some (.agg #[.string ⟨#[]⟩, .slice none 0 0]), 2, 40) := by kernel_rfl
structure NdW (n : Nd) : Prop where
  a : 0 ≤ n.s0 ∧ n.s0 < 18446744073709551616
  b : 0 ≤ n.s1 ∧ n.s1 < 18446744073709551616
  c : 0 ≤ n.s2 ∧ n.s2 < 18446744073709551616
  d : 0 ≤ n.s3 ∧ n.s3 < 18446744073709551616

/-- A grammar in a box of its own. -/
structure GX (W : World) (k : Nat) (a : Value) : Prop where
  heap : W.heap[k]? = some (.cells #[a] 24 (0, 0))
theorem GX.lt {W : World} {k : Nat} {a : Value} (h : GX W k a) : k < W.heap.size := (Array.getElem?_eq_some_iff.1 h.heap).1
theorem GX.same {W W' : World} {k : Nat} {a : Value} (h : GX W k a) (hb : W'.heap[k]? = W.heap[k]?) : GX W' k a := ⟨hb.trans h.heap⟩
theorem GX.below {W W' : World} {k : Nat} {a : Value} (h : GX W k a) (hb : Below W.heap.size W W') : GX W' k a := h.same (hb.block k h.lt)
theorem GX.cl {W : World} {k : Nat} {a : Value} (h : GX W k a) : W.cell? ⟨k, 0, none⟩ = some a := by
  rw [cell_of_row W k 0 _ 24 (0, 0) h.heap]; rfl
theorem GX.fz {W : World} {k : Nat} {a : Value} (h : GX W k a) : W.frozen? ⟨k, 0, none⟩ = false := frozen_of_row W k 0 _ 24 h.heap
theorem GX.set {W : World} {k : Nat} {a : Value} (h : GX W k a) (u : Value) : GX (W.setCell ⟨k, 0, none⟩ u) k u := ⟨by
  rw [heap_setCell_same _ k 0 _ 24 u h.heap]; simp⟩
theorem GX.ne {W : World} {k B e s n : Nat} {u a : Value} {xs : List Value} (h : GX W k a) (ho : W.ownsRow B e s u n xs) (he : e ≠ 24) {j : Nat} (hj : u.ownBlock = some j) : j ≠ k := fun q => by
  subst q
  obtain ⟨cs, hc⟩ := own_ty ho hj
  rw [h.heap] at hc
  injection hc with h4
  injection h4 with _ h5
  exact he h5.symm
/-- A slice of rules, read. -/
def GrD (W : World) (A : Option Addr) (gs : List (ByteArray × List Nd)) : Prop := ∀ (k : Nat) g, gs[k]? = some g → ∃ b o A2 c2, A = some ⟨b, o, none⟩ ∧ b < W.heap.size ∧ W.cell? ⟨b, o + k * 2, none⟩ = some (.string g.1) ∧ W.cell? ⟨b, o + k * 2 + 1, none⟩ = some (.slice A2 g.2.length c2) ∧ T.RdN W A2 g.2
theorem GrD.later {W W' : World} {A : Option Addr} {gs : List (ByteArray × List Nd)} (h : GrD W A gs) (hb : Below W.heap.size W W') : GrD W' A gs := fun k g hg => by
  obtain ⟨b, o, A2, c2, h1, h2, h3, h4, h5⟩ := h k g hg
  exact ⟨b, o, A2, c2, h1, Nat.lt_of_lt_of_le h2 hb.size, (hb.cell (p := ⟨b, o + k * 2, none⟩) h2).trans h3, (hb.cell (p := ⟨b, o + k * 2 + 1, none⟩) h2).trans h4, h5.below hb (Nat.le_refl _)⟩

theorem nw_of {n : Nd} (h : T.SeW n) : NdW n := ⟨h.1, h.2.1, h.2.2.1, h.2.2.2⟩
theorem Try.cells57 : Try.prog.cellsOf 57 = 2 := by kernel_rfl
theorem Try.cells24 : Try.prog.cellsOf 24 = 1 := by kernel_rfl
theorem Try.cells22 : Try.prog.cellsOf 22 = 1 := by kernel_rfl
theorem Try.cells55 : Try.prog.cellsOf 55 = 1 := by kernel_rfl
theorem Try.bytes57 : Try.prog.bytesOf 57 = 40 := by kernel_rfl
/-- What a rule that came in holds. -/
def RlIn (W : World) (g : ByteArray × List Nd) (A : Option Addr) (c : Nat) : Prop := T.RdN W A g.2 ∧ (A = none → c = 0 ∧ g.2 = []) ∧ g.1.size ≤ 140737488351232 ∧ g.2.length * 64 ≤ 140737488351232 ∧ (∀ n ∈ g.2, n.tx.size ≤ 140737488351232) ∧ ∀ n ∈ g.2, NdW n
/-- A grammar that came in. -/
structure GrIn (W : World) (A : Option Addr) (c : Nat) (gs : List (ByteArray × List Nd)) : Prop where
  d : GrD W A gs
  z : A = none → c = 0 ∧ gs = []
  len : gs.length * 40 ≤ 140737488351232
  each : ∀ (k : Nat) g, gs[k]? = some g → ∃ A2 c2, RlIn W g A2 c2 ∧ ∀ b o, A = some ⟨b, o, none⟩ → W.cell? ⟨b, o + k * 2 + 1, none⟩ = some (.slice A2 g.2.length c2)
set_option maxRecDepth 100000 in
theorem rule_in {H : Type} {enc : TypeId × Value → H} {W : World} {held : Bool} {n : Nat} {cs : List Value} {x : DataW H × List MemPlace} (h : DataW.trod enc Try.prog W 0 (fun _ => true) held n 57 cs = some x) (hs : ∀ m ∈ x.1.weights Try.prog 57, m ≤ reachBytes) :
    ∃ (s : ByteArray) (A : Option Addr) (c : Nat) (L : List Nd), cs = [.string s, .slice A L.length c] ∧ RlIn W (s, L) A c := by
  have hr : reachBytes = 140737488351232 := by decide
  obtain ⟨y0, y1, k, hx, hl, h0, h1⟩ := trod_struct2 Try.underlying57 h
  rw [Try.cells57] at hl
  match cs, hl with
  | [a, b], _ =>
    simp only [T.Try.cells9, Try.cells55, List.drop_zero, List.take_succ_cons, List.take_zero, List.drop_succ_cons] at h0 h1
    obtain ⟨s, e0, e1, _⟩ := DataW.trod_string Try.underlying9 h0
    have hd : x.1 = .agg [y0.1, y1.1] := congrArg Prod.fst hx
    rw [hd] at hs
    simp only [DataW.weights, Try.underlying57] at hs
    simp only [DataW.weightsEach, List.map_cons, List.map_nil, List.mem_append] at hs
    have hb : ∃ a l c, b = .slice a l c := by
      rcases Go.Deep.open_slice Try.underlying55 h1 with ⟨hc, _⟩ | ⟨a, len, cap, m, _, D, Pl, hc, _⟩
      · cases hc; exact ⟨_, _, _, rfl⟩
      · cases hc; exact ⟨_, _, _, rfl⟩
    have ht : DataW.Trod enc Try.prog W 0 (fun _ => true) held 55 b y1.1 y1.2 := by
      obtain ⟨a', l', c', rfl⟩ := hb
      exact ⟨k, h1⟩
    obtain ⟨A, c, L, rfl, r, nl, sz, sw⟩ := T.open_pat ht hb
    obtain ⟨s0, s1⟩ := sz (fun m hm => hs m (.inr (.inl hm)))
    have e0' : [a] = [Value.string s] := e0
    cases e0'
    refine ⟨s, A, c, L, rfl, r, nl, ?_, s0, s1, fun n hn => nw_of (sw n hn)⟩
    have := hs s.size (.inl (by rw [e1]; simp only [DataW.weights, List.mem_singleton]; rw [Array.length_toList]; rfl))
    rw [hr] at this
    exact this
set_option maxRecDepth 100000 in
theorem open_gram {H : Type} {enc : TypeId × Value → H} {W : World} {base : Nat} {held : Bool} {v : Value} {d : DataW H} {p : List MemPlace} (h : DataW.Trod enc Try.prog W 0 (fun _ => true) held 24 v d p) (hv : Value.okWide Try.prog W .any base 24 v) (hs : ∀ n ∈ d.weights Try.prog 24, n ≤ reachBytes) :
    ∃ A c gs, v = .agg #[.slice A (List.length (α := ByteArray × List Nd) gs) c] ∧ GrIn W A c gs := by
  have hr : reachBytes = 140737488351232 := by decide
  obtain ⟨cs, rfl, hcs⟩ := okWide_struct Try.underlying24 hv
  rw [Try.cells24] at hcs
  obtain ⟨l⟩ := cs
  match l, hcs with
  | [u], _ =>
    obtain ⟨fuel, hf⟩ := h
    have hf2 : DataW.trod enc Try.prog W 0 (fun _ => true) held fuel 24 [u] = some (d, p) := hf
    obtain ⟨y0, k, hx, _, h0⟩ := trod_struct1 Try.underlying24 hf2
    simp only [Try.cells22, List.drop_zero, List.take_succ_cons, List.take_zero] at h0
    have hd : d = .agg [y0.1] := congrArg Prod.fst hx
    rw [hd] at hs
    simp only [DataW.weights, Try.underlying24] at hs
    simp only [DataW.weightsEach, List.map_cons, List.map_nil, List.append_nil] at hs
    rcases Go.Deep.open_slice Try.underlying22 h0 with ⟨hc, hx⟩ | ⟨a, len, cap, m, n, D, Pl, hc, _, hl, hm, hmm, hx, hall⟩
    · have hc : [u] = [.slice none 0 0] := hc
      cases hc
      exact ⟨none, 0, [], rfl, ⟨(fun k g hg => by cases hg), fun _ => ⟨rfl, rfl⟩, (by simp), (fun k g hg => by cases hg)⟩⟩
    · have hc : [u] = [.slice (some a) len cap] := hc
      cases hc
      simp only [if_true] at hmm
      subst hmm
      have hd2 : y0.1 = .slice ((List.range len).map D) ((List.range (m - len)).map fun j => D (len + j)) := congrArg Prod.fst hx
      rw [hd2] at hs
      simp only [DataW.weights, Try.underlying22] at hs
      have each : ∀ i, i < len → ∃ q : (ByteArray × List Nd) × Option Addr × Nat, W.cell? (a.add (i * 2)) = some (.string q.1.1) ∧ W.cell? (a.add (i * 2 + 1)) = some (.slice q.2.1 q.1.2.length q.2.2) ∧ RlIn W q.1 q.2.1 q.2.2 := by
        intro i hi
        obtain ⟨cs', h1, h2⟩ := hall i (by omega)
        rw [Try.cells57] at h1
        obtain ⟨_, hlen, hcell⟩ := World.cells?_some h1
        obtain ⟨s, A, c, L, rfl, hri⟩ := rule_in h2 (fun k hk => hs k (List.mem_cons_of_mem _ (List.mem_append_left _ (T.weights_all _ 57 _ (D i) (List.mem_map.2 ⟨i, List.mem_range.2 hi, rfl⟩) _ hk))))
        refine ⟨((s, L), A, c), ?_, ?_, hri⟩
        · have e := hcell 0 (by show 0 < 2; omega)
          rw [Go.Deep.add_add] at e
          exact e
        · have e := hcell 1 (by show 1 < 2; omega)
          rw [Go.Deep.add_add] at e
          exact e
      obtain ⟨F, hF⟩ : ∃ F : Nat → (ByteArray × List Nd) × Option Addr × Nat, ∀ i, i < len → W.cell? (a.add (i * 2)) = some (.string (F i).1.1) ∧ W.cell? (a.add (i * 2 + 1)) = some (.slice (F i).2.1 (F i).1.2.length (F i).2.2) ∧ RlIn W (F i).1 (F i).2.1 (F i).2.2 :=
        ⟨fun i => if h : i < len then Classical.choose (each i h) else ((⟨#[]⟩, []), none, 0), fun i h => by simp only [dif_pos h]; exact Classical.choose_spec (each i h)⟩
      have get : ∀ (k : Nat) g, ((List.range len).map fun i => (F i).1)[k]? = some g → k < len ∧ g = (F k).1 := fun k g hg => by
        rw [List.getElem?_map] at hg
        have hk : k < len := by
          by_cases q : k < len
          · exact q
          · rw [List.getElem?_eq_none (by simp; omega)] at hg; cases hg
        rw [List.getElem?_range hk] at hg
        cases hg
        exact ⟨hk, rfl⟩
      refine ⟨some a, m, (List.range len).map fun i => (F i).1, by simp, ⟨fun k g hg => ?_, (fun q => by cases q), ?_, fun k g hg => ?_⟩⟩
      · obtain ⟨hk, rfl⟩ := get k g hg
        obtain ⟨q0, q1, q2⟩ := hF k hk
        obtain ⟨gb, off, spot⟩ := a
        have hspot : spot = none := by simpa [Addr.add] using World.cell?_spot (hF 0 (by omega)).1
        subst hspot
        rw [Addr.add_lit] at q0 q1
        exact ⟨gb, off, (F k).2.1, (F k).2.2, rfl, World.block_lt_of_cell? W _ q0, q0, by rw [Nat.add_assoc]; exact q1, q2.1⟩
      · have := hs _ (List.mem_cons_self ..)
        rw [Try.bytes57, hr] at this
        simp only [List.length_map, List.length_range] at this ⊢
        omega
      · obtain ⟨hk, rfl⟩ := get k g hg
        obtain ⟨q0, q1, q2⟩ := hF k hk
        refine ⟨(F k).2.1, (F k).2.2, q2, fun b o e => ?_⟩
        cases e
        rw [Addr.add_lit] at q1
        rw [Nat.add_assoc]
        exact q1
theorem GrIn.tx {W : World} {A : Option Addr} {c : Nat} {gs : List (ByteArray × List Nd)} (h : GrIn W A c gs) : ∀ g ∈ gs, g.1.size ≤ 140737488355328 ∧ g.2.length ≤ 140737488355328 ∧ ∀ n ∈ g.2, n.tx.size ≤ 140737488355328 := fun g hg => by
  obtain ⟨k, hk, rfl⟩ := List.mem_iff_getElem.1 hg
  obtain ⟨A2, c2, ⟨h1, h2, h3, h4, h5, h6⟩, _⟩ := h.each k _ (List.getElem?_eq_getElem hk)
  exact ⟨by omega, by omega, fun n hn => by have := h5 n hn; omega⟩
theorem GrIn.later {W W' : World} {A : Option Addr} {c : Nat} {gs : List (ByteArray × List Nd)} (h : GrIn W A c gs) (hb : Below W.heap.size W W') : GrIn W' A c gs :=
  ⟨h.d.later hb, h.z, h.len, fun k g hg => by
    obtain ⟨A2, c2, ⟨r1, r2⟩, r3⟩ := h.each k g hg
    exact ⟨A2, c2, ⟨r1.below hb (Nat.le_refl _), r2⟩, fun b o e => by
      have h1 := r3 b o e
      exact (hb.cell (p := ⟨b, o + k * 2 + 1, none⟩) (World.block_lt_of_cell? W _ h1)).trans h1⟩⟩
end Go.Proofs.Ytppggnmlbcdegaa.N

namespace Go.Proofs.Ytppggnmlbcdegaa.N
open Go.RowKit Go.Maps
open Go.Proofs.Ytppggnmlbcdegaa.T
theorem fdG_snoc : ∀ (l : GL) (g : ByteArray × List Nd) (s : ByteArray), fdG (l ++ [g]) s = match fdG l s with
    | some i => some i
    | none => if g.1 = s then some l.length else none := by
  intro l
  induction l with
  | nil => intro g s; rfl
  | cons x l ih =>
    intro g s
    rw [List.cons_append, fdG, fdG, ih g s]
    by_cases h : x.1 = s
    · rw [if_pos h, if_pos h]
    · rw [if_neg h, if_neg h]
      cases fdG l s with
      | some i => rfl
      | none =>
        simp only [Option.map_none]
        by_cases e : g.1 = s
        · rw [if_pos e, if_pos e]; rfl
        · rw [if_neg e, if_neg e]; rfl
theorem fdG_app : ∀ (l m : GL) (s : ByteArray) (i : Nat), fdG l s = some i → fdG (l ++ m) s = some i := by
  intro l
  induction l with
  | nil => intro m s i h; cases h
  | cons x l ih =>
    intro m s i h
    rw [List.cons_append, fdG] at *
    by_cases e : x.1 = s
    · rw [if_pos e] at *; exact h
    · rw [if_neg e] at *
      cases q : fdG l s with
      | none => rw [q] at h; cases h
      | some j => rw [ih m s j q]; rw [q] at h; exact h
/-- A name stands ahead just if it is among the first. -/
theorem tw_take (gs : GL) (s : ByteArray) (k : Nat) (hk : k ≤ gs.length) : tw gs s k = (fdG (gs.take k) s).isSome := by
  unfold tw
  cases h : fdG (gs.take k) s with
  | some i =>
    have := fdG_app _ (gs.drop k) s i h
    rw [List.take_append_drop] at this
    rw [this]
    have := fdG_lt h
    rw [List.length_take] at this
    exact decide_eq_true (by omega)
  | none =>
    cases q : fdG gs s with
    | none => rfl
    | some j =>
      refine decide_eq_false fun hj => ?_
      obtain ⟨g, g1, g2, _⟩ := fdG_some q
      refine fdG_none.1 h g ?_ g2
      exact List.mem_of_getElem? (i := j) (by rw [List.getElem?_take, if_pos hj]; exact g1)
theorem str_ne {a b : ByteArray} (h : a ≠ b) : Lit.string a.data.toList ≠ Lit.string b.data.toList := fun e => h (by injection e with e; exact ByteArray.ext (Array.ext' e))
theorem keyed : Keyed Try.prog 9 := string_keyed Try.underlying9
theorem zero3 (w : World) : (zeroValue 3).run Try.prog w = .ok (.int .i64 0) w := by kernel_rfl
theorem key_of {s : ByteArray} (hs : s.size ≤ 140737488355328) : keyOf Try.prog 9 (.string s) = some (.string s.data.toList) := WideMaps.keyOf_string_mk Try.underlying9 (by unfold maxLen; omega)
/-- What a datum says of names. -/
def NmD (D : DataW Unit) (gs : GL) : Prop := ∀ s : ByteArray, Maps.has D (.string s.data.toList) = (fdG gs s).isSome ∧ ∀ i, fdG gs s = some i → ∀ z, D.atKey (.string s.data.toList) z = .lit (.int .i64 i)
theorem NmD.nil : NmD (.map []) [] := fun s => ⟨rfl, fun i h => by cases h⟩
theorem NmD.put {D : DataW Unit} {gs : GL} (hm : Maps.IsMap D) (h : NmD D gs) (g : ByteArray × List Nd) (hg : fdG gs g.1 = none) : NmD (D.put (.string g.1.data.toList) (.lit (.int .i64 gs.length))) (gs ++ [g]) := fun s => by
  rw [fdG_snoc]
  by_cases e : g.1 = s
  · subst e
    rw [hg]
    simp only [if_true]
    exact ⟨has_put_same hm (show WideAt.IsKeyLit (.string _) from trivial) _, fun i hi z => by cases hi; exact atKey_put_same hm (show WideAt.IsKeyLit (.string _) from trivial) _ _⟩
  · have e2 : Lit.string s.data.toList ≠ Lit.string g.1.data.toList := str_ne (Ne.symm e)
    obtain ⟨h1, h2⟩ := h s
    rw [has_put_other e2, if_neg e]
    cases q : fdG gs s with
    | none => rw [q] at h1; exact ⟨h1, fun i hi => by cases hi⟩
    | some j =>
      rw [q] at h1
      exact ⟨h1, fun i hi z => by rw [atKey_put_other e2]; exact h2 i (by rw [q]; exact hi) z⟩
/-- Block B is the map of the names of some rules. -/
structure NmM (W : World) (B : Nat) (gs : GL) : Prop where
  ex : ∃ (D : DataW Unit), W.ownsMap Try.prog 9 (plainElem Try.prog 3) B gs.length D ∧ NmD D gs
theorem NmM.lt {W : World} {B : Nat} {gs : GL} (h : NmM W B gs) : B < W.heap.size := by
  obtain ⟨D, h1, _⟩ := h.ex
  exact h1.lt
theorem NmM.same {W W' : World} {B : Nat} {gs : GL} (h : NmM W B gs) (hb : W'.heap[B]? = W.heap[B]?) : NmM W' B gs := by
  obtain ⟨D, ⟨es, clock, h1, h2⟩, h3⟩ := h.ex
  exact ⟨D, ⟨es, clock, hb.trans h1, h2⟩, h3⟩
theorem NmM.later {W W' : World} {B : Nat} {gs : GL} (h : NmM W B gs) (hb : Below W.heap.size W W') : NmM W' B gs := h.same (hb.block B h.lt)
theorem NmM.nil (w : World) : NmM (w.alloc (.map #[] 0)) w.heap.size [] := ⟨⟨.map [], World.ownsMap_made w _ _ _, NmD.nil⟩⟩
set_option maxRecDepth 100000 in
/-- A look at a name. -/
theorem NmM.look {W : World} {B : Nat} {gs : GL} (h : NmM W B gs) (s : ByteArray) (hs : s.size ≤ 140737488355328) : ∃ c : Int, (Instr.lookup 59 (.map (some B)) (.string s) true).run Try.prog W = .ok (.tuple #[.int .i64 c, .bool (fdG gs s).isSome]) W ∧ ∀ i, fdG gs s = some i → c = i := by
  obtain ⟨D, h1, h2⟩ := h.ex
  obtain ⟨v, ps, hrun, hv⟩ := h1.look_ok keyed Try.underlying59 (zero3 W) (plainElem_int Try.underlying3 (by decide)) (key_of hs)
  obtain ⟨c, rfl, hc, _⟩ := plainElem_int_inv Try.underlying3 hv
  rw [(h2 s).1] at hrun
  refine ⟨c, hrun, fun i hi => ?_⟩
  have e := congrArg Prod.fst hc
  simp only [(h2 s).2 i hi] at e
  injection e with e
  injection e with _ e
  exact e.symm
/-- A node that calls. -/
def cN (s : ByteArray) : Nd := ⟨6, 0, s, 0, 0, 0, 0⟩
theorem ck_cN (s : ByteArray) : ((ck [cN s]).2 == 0) = nmB s := by
  have hf : fdF (cN s) = nmB s := by
    unfold fdF cN
    have e1 : nuF 6 0 = true := by decide
    have e2 : seF 6 0 0 0 0 = true := by decide
    simp only [e1, e2, Bool.and_true]
    unfold txF
    simp
  have ha : alE (cN s) = if nmB s then 0 else 41 := by
    unfold alE
    rw [if_neg (show ¬ ar (cN s).op < 0 from (show ¬ ar 6 < 0 by decide)), hf]
  have he : er [cN s] 0 = if nmB s then 0 else 41 := by
    rw [er_of (n := cN s) rfl, ha]
    have e1 : ¬ (run [cN s] 0).length < arN (cN s).op := (show ¬ 0 < arN 6 by decide)
    have e2 : ¬ 60 < (pt [cN s] 0).2.2 := (show ¬ 60 < (mk [cN s] 0 6 []).2.2 by unfold mk; rw [if_pos (show arN 6 = 0 by decide)]; decide)
    cases nmB s
    · rfl
    · simp only [if_true]
      rw [if_neg (by decide), if_neg e1, if_neg e2]
  cases h : nmB s
  · rw [h] at he
    rw [ck_bad (L := [cN s]) (k := 0) (show ¬ 2048 < 1 by decide) (show 0 < 1 by decide) (fun j hj => by omega) (by rw [he]; decide), he]
    rfl
  · rw [h] at he
    have : ck [cN s] = (0, 0) := by
      refine (Rt.ck ⟨show ¬ 2048 < 1 by decide, fun j hj => ?_, ?_⟩)
      · have : j = 0 := by simp at hj; omega
        rw [this]
        exact he
      · simp [run, cN]
    rw [this]
    rfl
set_option maxRecDepth 100000 in
set_option maxHeartbeats 4000000 in
theorem nameP_any (s : ByteArray) (hs : s.size ≤ 140737488355328) (w : World) : Calls Try.prog 13 #[.string s] w fun e w' => e = .returned (.bool (nmB s)) ∧ Below w.heap.size w w' := by
  have HC := (show Hid (∀ _ : Unit, Calls Try.prog 37 #[.slice (some ⟨w.heap.size, 0, none⟩) 1 1] (w.alloc (ndO (cN s))) fun e w' => e = .returned (.tuple #[.int .i64 (ck [cN s]).1, .int .i64 (ck [cN s]).2]) ∧ Below (w.alloc (ndO (cN s))).heap.size (w.alloc (ndO (cN s))) w') from fun _ =>
    check_any [cN s] (some ⟨w.heap.size, 0, none⟩) 1 (one_len _) (fun n hn => by rw [List.mem_singleton.1 hn]; exact hs) (w.alloc (ndO (cN s))) (rd_one w (cN s)))
  have HE := (show Hid (((ck [cN s]).2 == 0) = nmB s) from ck_cN s)
  have HB := (show Hid (Below w.heap.size w (w.alloc (ndO (cN s)))) from below_box _ _)
  clear hs
  go_enter Try.func13, Try.ntmps13
  go_wp2_with fail
  refine (HC.out ()).mono ?_
  rintro e w3 ⟨rfl, b3⟩
  have HB3 := (show Hid (Below w.heap.size w w3) from HB.out.trans (b3.mono HB.out.size))
  clear HC HB b3
  generalize (ck [cN s]).2 = c2 at *
  generalize (ck [cN s]).1 = c1 at *
  go_wp2_with fail
  go_ret
  exact ⟨by rw [← HE.out]; rfl, HB3.out⟩
end Go.Proofs.Ytppggnmlbcdegaa.N

namespace Go.Proofs.Ytppggnmlbcdegaa.N
open Go.RowKit Go.Maps
open Go.Proofs.Ytppggnmlbcdegaa.T
/-- A spot in a box of its own. -/
structure SX (W : World) (k : Nat) (a b : Int) : Prop where
  heap : W.heap[k]? = some (.cells #[.int .i64 a, .int .i64 b] 27 (0, 0))
theorem SX.lt {W : World} {k : Nat} {a b : Int} (h : SX W k a b) : k < W.heap.size := (Array.getElem?_eq_some_iff.1 h.heap).1
theorem SX.same {W W' : World} {k : Nat} {a b : Int} (h : SX W k a b) (hb : W'.heap[k]? = W.heap[k]?) : SX W' k a b := ⟨hb.trans h.heap⟩
theorem SX.below {W W' : World} {k : Nat} {a b : Int} (h : SX W k a b) (hb : Below W.heap.size W W') : SX W' k a b := h.same (hb.block k h.lt)
theorem SX.c0 {W : World} {k : Nat} {a b : Int} (h : SX W k a b) : W.cell? ⟨k, 0, none⟩ = some (.int .i64 a) := by rw [cell_of_row W k 0 _ 27 (0, 0) h.heap]; rfl
theorem SX.c1 {W : World} {k : Nat} {a b : Int} (h : SX W k a b) : W.cell? ⟨k, 1, none⟩ = some (.int .i64 b) := by rw [cell_of_row W k 1 _ 27 (0, 0) h.heap]; rfl
theorem SX.fz {W : World} {k : Nat} {a b : Int} (h : SX W k a b) (j : Nat) : W.frozen? ⟨k, j, none⟩ = false := frozen_of_row W k j _ 27 h.heap
theorem SX.set {W : World} {k : Nat} {a b : Int} (h : SX W k a b) (c d : Int) : SX ((W.setCell ⟨k, 0, none⟩ (.int .i64 c)).setCell ⟨k, 1, none⟩ (.int .i64 d)) k c d := by
  have h0 := heap_setCell_same _ k 0 _ 27 (.int .i64 c) h.heap
  have h1 := heap_setCell_same _ k 1 _ 27 (.int .i64 d) h0
  exact ⟨h1⟩
theorem set_below {w wr : World} {k j : Nat} {v : Value} (h : Below w.heap.size w wr) (hk : w.heap.size ≤ k) : Below w.heap.size w (wr.setCell ⟨k, j, none⟩ v) := h.setCell hk _
/-- A grammar's box and a spot's, side by side, and the names. -/
structure UnS (w wr : World) (u : Value) (B : Nat) (gs : GL) : Prop where
  b : Below w.heap.size w wr
  x : GX wr w.heap.size u
  s : SX wr (w.heap.size + 1) 0 0
  m : NmM wr B gs
theorem UnS.later {w wr W' : World} {u : Value} {B : Nat} {gs : GL} (h : UnS w wr u B gs) (hb : Below wr.heap.size wr W') : UnS w W' u B gs := ⟨h.b.trans (hb.mono h.b.size), h.x.below hb, h.s.below hb, h.m.later hb⟩
theorem unG_cons {gs : GL} {i : Nat} {g : ByteArray × List Nd} {r : GL} : unG gs i (g :: r) = match unN gs 0 g.2 with
    | some k => ((i, k), 81)
    | none => unG gs (i + 1) r := rfl
theorem unN_cons {gs : GL} {k : Nat} {n : Nd} {r : List Nd} : unN gs k (n :: r) = if n.op = 6 ∧ fdG gs n.tx = none then some k else unN gs (k + 1) r := rfl
set_option maxRecDepth 100000 in
set_option maxHeartbeats 16000000 in
theorem unknown_any (gs : GL) (A : Option Addr) (c B : Nat) (hl : gs.length ≤ 140737488355328) (hT : ∀ g ∈ gs, g.1.size ≤ 140737488355328 ∧ g.2.length ≤ 140737488355328 ∧ ∀ n ∈ g.2, n.tx.size ≤ 140737488355328) (w : World) (hp : GrD w A gs) (hm : NmM w B gs) :
    Calls Try.prog 58 #[.agg #[.slice A gs.length c], .map (some B)] w fun e w' => e = .returned (.tuple #[.agg #[.int .i64 (unG gs 0 gs).1.1, .int .i64 (unG gs 0 gs).1.2], .int .i64 (unG gs 0 gs).2]) ∧ Below w.heap.size w w' := by
  have HP := (show Hid (GrD w A gs) from hp)
  have HG := (show Hid (∀ k, k < gs.length → ∃ g, gs[k]? = some g ∧ g.2.length ≤ 140737488355328 ∧ (∀ n ∈ g.2, n.tx.size ≤ 140737488355328) ∧ gs.drop k = g :: gs.drop (k + 1)) from fun k hk => ⟨_, List.getElem?_eq_getElem hk, (hT _ (List.getElem_mem hk)).2.1, (hT _ (List.getElem_mem hk)).2.2, List.drop_eq_getElem_cons hk⟩)
  have HS := (show Hid (UnS w ((w.alloc (.cells #[.slice A gs.length c] 24)).alloc (.cells #[.int .i64 0, .int .i64 0] 27)) (.slice A gs.length c) B gs) from
    ⟨((Below.refl _ _).alloc (Nat.le_refl _) _).alloc (by rw [World.size_alloc]; omega) _, (GX.mk (heap_alloc_new w _)).below (below_box _ _), ⟨by have h := heap_alloc_new (w.alloc (.cells #[.slice A gs.length c] 24)) (.cells #[.int .i64 0, .int .i64 0] 27); rw [World.size_alloc] at h; exact h⟩, (hm.later (below_box _ _)).later (below_box _ _)⟩)
  have q1 := HS.out.x.cl
  clear hp hT hm
  go_enter Try.func58, Try.ntmps58
  go_wp2_with fail
  generalize (w.alloc (.cells #[.slice A gs.length c] 24)).alloc (.cells #[.int .i64 0, .int .i64 0] 27) = w1 at *
  go_wp2_with fail
  clear q1
  go_loopw [15] (fun t wr => ∃ k : Nat, k ≤ gs.length ∧ t = .int .i64 k ∧ Hid (unG gs 0 gs = unG gs k (gs.drop k)) ∧ Hid (UnS w wr (.slice A gs.length c) B gs)) (fun t _ => gs.length - (intOf t).toNat)
  case atStart => exact ⟨0, by omega, by go_num, rfl, HS⟩
  case round =>
    obtain ⟨k, hk, rfl, HX, HW⟩ := hrel
    clear HS
    by_cases hlt : k < gs.length
    · obtain ⟨g, hg, s2, s3, hd⟩ := HG.out k hlt
      obtain ⟨b, o, A2, c2, rfl, lb, x0, x1, r2⟩ := HP.out k g hg
      have x0' := (HW.out.b.cell (p := ⟨b, o + k * 2, none⟩) lb).trans x0
      have x1' := (HW.out.b.cell (p := ⟨b, o + k * 2 + 1, none⟩) lb).trans x1
      clear x0 x1
      have z0 : (0 : Int) ≤ (k : Int) := by omega
      have z1 : (k : Int) < (gs.length : Int) := by omega
      have HW1 := (show Hid (UnS w (wr.alloc (.cells #[.string g.1, .slice A2 g.2.length c2] 57)) (.slice (some ⟨b, o, none⟩) gs.length c) B gs) from HW.out.later (below_box _ _))
      have HR2 := (show Hid (RdN w A2 g.2) from r2)
      have HU := (show Hid (unG gs 0 gs = match unN gs 0 g.2 with
        | some j => ((k, j), 81)
        | none => unG gs (k + 1) (gs.drop (k + 1))) from by show unG gs 0 gs = _; rw [HX.out, hd, unG_cons])
      have HN := (show Hid (∀ j, j < g.2.length → ∃ n, g.2[j]? = some n ∧ g.2 ≠ [] ∧ n.tx.size ≤ 140737488355328 ∧ g.2.drop j = n :: g.2.drop (j + 1)) from fun j hj => ⟨_, List.getElem?_eq_getElem hj, by (intro q; rw [q] at hj; simp at hj), s3 _ (List.getElem_mem hj), List.drop_eq_getElem_cons hj⟩)
      clear hg r2 s3 HW HX hd HP
      go_wp2_with fail
      generalize wr.alloc (.cells #[.string g.1, .slice A2 g.2.length c2] 57) = wA at *
      clear x0' x1'
      go_wp2_with fail
      go_loopw [23] (fun t wr => ∃ j : Nat, j ≤ g.2.length ∧ t = .int .i64 j ∧ Hid (unN gs 0 g.2 = unN gs j (g.2.drop j)) ∧ Hid (UnS w wr (.slice (some ⟨b, o, none⟩) gs.length c) B gs)) (fun t _ => g.2.length - (intOf t).toNat)
      case atStart => exact ⟨0, by omega, by go_num, rfl, HW1⟩
      case round =>
        obtain ⟨j, hj, rfl, HX, HW⟩ := hrel
        clear HW1
        by_cases hjl : j < g.2.length
        · obtain ⟨n, hn, nl, st, hd⟩ := HN.out j hjl
          obtain ⟨g1, o1, rfl, l1, q1⟩ := HR2.out nl
          obtain ⟨a0, a1, a2, a3, a4, a5, a6⟩ := (q1.same (HW.out.b.block g1 l1)) j n hn
          have y0 : (0 : Int) ≤ (j : Int) := by omega
          have y1 : (j : Int) < (g.2.length : Int) := by omega
          have HW2 := (show Hid (UnS w (wr.alloc (ndO n)) (.slice (some ⟨b, o, none⟩) gs.length c) B gs) from HW.out.later (below_box _ _))
          clear HN HR2 HG q1 HW nl hn
          by_cases h6 : n.op = 6
          · have t6 : (n.op != 6) = false := by rw [h6]; rfl
            obtain ⟨cc, hrun, _⟩ := HW2.out.m.look n.tx st
            cases hf : fdG gs n.tx with
            | none =>
              rw [hf] at hrun
              have HE := (show Hid (unG gs 0 gs = ((k, j), 81)) from by show unG gs 0 gs = _; rw [HU.out, HX.out, hd, unN_cons, if_pos ⟨h6, hf⟩])
              have HB := (show Hid (Below w.heap.size w (wr.alloc (ndO n))) from HW2.out.b)
              have HSx := (show Hid _ from HW2.out.s)
              have c0 := HW2.out.s.c0
              have c1 := HW2.out.s.c1
              have f0 := HW2.out.s.fz 0
              have f1 := HW2.out.s.fz 1
              clear HX HU hd hf HW2 h6
              have HZ := (show Hid (SX (((wr.alloc (ndO n)).setCell ⟨w.heap.size + 1, 0, none⟩ (.int .i64 k)).setCell ⟨w.heap.size + 1, 1, none⟩ (.int .i64 j)) (w.heap.size + 1) k j) from HSx.out.set _ _)
              have HBz := (show Hid (Below w.heap.size w (((wr.alloc (ndO n)).setCell ⟨w.heap.size + 1, 0, none⟩ (.int .i64 k)).setCell ⟨w.heap.size + 1, 1, none⟩ (.int .i64 j))) from set_below (set_below HB.out (Nat.le_succ _)) (Nat.le_succ _))
              clear HB HSx
              go_wp2_with fail
              generalize wr.alloc (ndO n) = wB at *
              go_wp2_with fail
              have d0 := HZ.out.c0
              have d1 := HZ.out.c1
              clear c0 c1 f0 f1
              generalize (wB.setCell ⟨w.heap.size + 1, 0, none⟩ (.int .i64 k)).setCell ⟨w.heap.size + 1, 1, none⟩ (.int .i64 j) = wZ at *
              refine bodyPost_ret (v := .tuple #[.agg #[.int .i64 k, .int .i64 j], .int .i64 81]) (by simp [results, Try.results58, go_sem, d0, d1]) rfl ⟨by rw [HE.out], HBz.out⟩
            | some i =>
              rw [hf] at hrun
              have HX2 := (show Hid (unN gs 0 g.2 = unN gs (j + 1) (g.2.drop (j + 1))) from by show unN gs 0 g.2 = _; rw [HX.out, hd, unN_cons, if_neg (by rintro ⟨_, q⟩; rw [hf] at q; cases q)])
              clear HX HU hd hf h6
              go_wp2_with fail
              generalize wr.alloc (ndO n) = wB at *
              clear a0 a1 a2 a3 a4 a5 a6
              go_wp2_with fail
              go_roundw
              case rel => exact ⟨j + 1, by omega, by go_num, HX2, HW2⟩
              case measure => simp [intOf]; omega
          · have t6 : (n.op != 6) = true := by rw [bne, beq_eq_false_iff_ne.2 h6]; rfl
            have HX2 := (show Hid (unN gs 0 g.2 = unN gs (j + 1) (g.2.drop (j + 1))) from by show unN gs 0 g.2 = _; rw [HX.out, hd, unN_cons, if_neg (by rintro ⟨q, _⟩; exact h6 q)])
            clear HX HU hd h6
            go_wp2_with fail
            generalize wr.alloc (ndO n) = wB at *
            clear a0 a1 a2 a3 a4 a5 a6
            go_wp2_with fail
            go_roundw
            case rel => exact ⟨j + 1, by omega, by go_num, HX2, HW2⟩
            case measure => simp [intOf]; omega
        · obtain rfl : j = g.2.length := by omega
          have HX2 := (show Hid (unG gs 0 gs = unG gs (k + 1) (gs.drop (k + 1))) from by show unG gs 0 gs = _; rw [HU.out, HX.out, List.drop_length]; rfl)
          clear HX HU HN HR2
          go_wp2_with fail
          go_roundw
          case rel => exact ⟨k + 1, by omega, by go_num, HX2, HW⟩
          case measure => simp [intOf]; omega
    · obtain rfl : k = gs.length := by omega
      have HE := (show Hid (unG gs 0 gs = ((0, 0), 0)) from by show unG gs 0 gs = _; rw [HX.out, List.drop_length]; rfl)
      have c0 := HW.out.s.c0
      have c1 := HW.out.s.c1
      have f0 := HW.out.s.fz 0
      have f1 := HW.out.s.fz 1
      have HB := (show Hid _ from HW.out.b)
      have HZ := (show Hid (SX ((wr.setCell ⟨w.heap.size + 1, 0, none⟩ (.int .i64 0)).setCell ⟨w.heap.size + 1, 1, none⟩ (.int .i64 0)) (w.heap.size + 1) 0 0) from HW.out.s.set _ _)
      have HBz := (show Hid (Below w.heap.size w ((wr.setCell ⟨w.heap.size + 1, 0, none⟩ (.int .i64 0)).setCell ⟨w.heap.size + 1, 1, none⟩ (.int .i64 0))) from set_below (set_below HB.out (Nat.le_succ _)) (Nat.le_succ _))
      clear HX HG HP HW HB
      go_wp2_with fail
      have d0 := HZ.out.c0
      have d1 := HZ.out.c1
      clear c0 c1 f0 f1
      generalize (wr.setCell ⟨w.heap.size + 1, 0, none⟩ (.int .i64 0)).setCell ⟨w.heap.size + 1, 1, none⟩ (.int .i64 0) = wZ at *
      refine bodyPost_ret (v := .tuple #[.agg #[.int .i64 0, .int .i64 0], .int .i64 0]) (by simp [results, Try.results58, go_sem, d0, d1]) rfl ⟨by rw [HE.out]; rfl, HBz.out⟩
end Go.Proofs.Ytppggnmlbcdegaa.N

namespace Go.Proofs.Ytppggnmlbcdegaa.N
open Go.RowKit Go.Maps
open Go.Proofs.Ytppggnmlbcdegaa.T
/-- A rule in a box of its own. -/
structure RB (W : World) (b : Nat) (s : ByteArray) (v : Value) : Prop where
  heap : W.heap[b]? = some (.cells #[.string s, v] 57 (0, 0))
theorem RB.lt {W : World} {b : Nat} {s : ByteArray} {v : Value} (h : RB W b s v) : b < W.heap.size := (Array.getElem?_eq_some_iff.1 h.heap).1
theorem RB.c0 {W : World} {b : Nat} {s : ByteArray} {v : Value} (h : RB W b s v) : W.cell? ⟨b, 0, none⟩ = some (.string s) := by rw [cell_of_row W b 0 _ 57 (0, 0) h.heap]; rfl
theorem RB.c1 {W : World} {b : Nat} {s : ByteArray} {v : Value} (h : RB W b s v) : W.cell? ⟨b, 1, none⟩ = some v := by rw [cell_of_row W b 1 _ 57 (0, 0) h.heap]; rfl
theorem RB.same {W W' : World} {b : Nat} {s : ByteArray} {v : Value} (h : RB W b s v) (hb : W'.heap[b]? = W.heap[b]?) : RB W' b s v := ⟨hb.trans h.heap⟩
theorem RB.later {W W' : World} {b : Nat} {s : ByteArray} {v : Value} (h : RB W b s v) (hb : Below W.heap.size W W') : RB W' b s v := h.same (hb.block b h.lt)
theorem NuS.put {w wX w1 : World} {u : Value} {gs : GL} {g : ByteArray × List Nd} {k : Nat} {D : DataW Unit} {B : Nat} (hB : B = w.heap.size + 2) (h : UnS w wX u B gs) (hg : wX.grownBy w1 (some B)) (ho : w1.ownsMap Try.prog 9 (plainElem Try.prog 3) B (k + 1) (D.put (.string g.1.data.toList) (.lit (.int .i64 k)))) (hD : NmD D gs) (hf : fdG gs g.1 = none) (hk : gs.length = k) : UnS w w1 u B (gs ++ [g]) := by
  obtain ⟨D0, h1, _⟩ := h.m.ex
  have hm : Maps.IsMap D := by
    obtain ⟨es, clock, _, _, _, e⟩ := ho
    cases D with
    | map es => exact ⟨es, rfl⟩
    | _ => cases e
  refine ⟨h.b.grown hg h.b.size (fun j hj => by cases hj; omega), h.x.same (hg.block _ h.x.lt (fun e => by injection e with e; omega)), h.s.same (hg.block _ h.s.lt (fun e => by injection e with e; omega)), ⟨⟨D.put (.string g.1.data.toList) (.lit (.int .i64 k)), ?_, ?_⟩⟩⟩
  · rw [List.length_append, List.length_singleton, hk]; exact ho
  · have := NmD.put hm hD g hf
    rw [hk] at this
    exact this
/-- What numbered answers. -/
def NuV (w w' : World) (gs : GL) (e : Ending) : Prop := ((ckG gs).2 ≠ 0 ∧ e = .returned (.tuple #[.map none, .agg #[.int .i64 (ckG gs).1.1, .int .i64 (ckG gs).1.2], .int .i64 (ckG gs).2])) ∨ ((ckG gs).2 = 0 ∧ ∃ B, w.heap.size ≤ B ∧ e = .returned (.tuple #[.map (some B), .agg #[.int .i64 0, .int .i64 0], .int .i64 0]) ∧ NmM w' B gs)
theorem ckG_err {gs : GL} (h0 : ¬ gs.length = 0) (h2 : ¬ 200 < gs.length) : ∀ r, c1G gs 0 0 gs = r → r.2 ≠ 0 → ckG gs = r := fun r h hr => by
  unfold ckG
  rw [if_neg h0, if_neg h2, if_pos (by rw [h]; exact hr), h]
theorem ckG_un {gs : GL} (h0 : ¬ gs.length = 0) (h2 : ¬ 200 < gs.length) (h : c1G gs 0 0 gs = ((0, 0), 0)) : ckG gs = unG gs 0 gs := by
  unfold ckG
  rw [if_neg h0, if_neg h2, if_neg (by rw [h]; simp)]
set_option maxRecDepth 100000 in
set_option maxHeartbeats 32000000 in
theorem numb_any (gs : GL) (A : Option Addr) (c : Nat) (hl : gs.length ≤ 140737488355328) (hT : ∀ g ∈ gs, g.1.size ≤ 140737488355328 ∧ g.2.length ≤ 140737488355328 ∧ ∀ n ∈ g.2, n.tx.size ≤ 140737488355328) (w : World) (hp : GrD w A gs) :
    Calls Try.prog 34 #[.agg #[.slice A gs.length c]] w fun e w' => NuV w w' gs e ∧ Below w.heap.size w w' := by
  obtain ⟨w1, hw1⟩ : ∃ w1, w1 = (w.alloc (.cells #[.slice A gs.length c] 24)).alloc (.cells #[.int .i64 0, .int .i64 0] 27) := ⟨_, rfl⟩
  have HS : Hid (Below w.heap.size w w1 ∧ GX w1 w.heap.size (.slice A gs.length c) ∧ SX w1 (w.heap.size + 1) 0 0 ∧ w1.heap.size = w.heap.size + 2) := by
    show _ ∧ _ ∧ _ ∧ _
    rw [hw1]
    exact ⟨((Below.refl _ _).alloc (Nat.le_refl _) _).alloc (by rw [World.size_alloc]; omega) _, (GX.mk (heap_alloc_new w _)).below (below_box _ _), ⟨by have h := heap_alloc_new (w.alloc (.cells #[.slice A gs.length c] 24)) (.cells #[.int .i64 0, .int .i64 0] 27); rw [World.size_alloc] at h; exact h⟩, by simp⟩
  have q1 := HS.out.2.1.cl
  obtain ⟨mb, hmb⟩ : ∃ mb, mb = w.heap.size + 1 + 1 := ⟨_, rfl⟩
  have HMb := (show Hid (mb = w.heap.size + 2) from hmb)
  by_cases h0 : gs.length = 0
  · have HF := (show Hid (ckG gs = ((0, 0), 3)) from by show ckG gs = _; unfold ckG; rw [if_pos h0])
    have t0 : ((gs.length : Int) == 0) = true := beq_iff_eq.2 (by omega)
    have HBz := (show Hid (Below w.heap.size w w1) from HS.out.1)
    have c0 := HS.out.2.2.1.c0
    have c1 := HS.out.2.2.1.c1
    have f0 := HS.out.2.2.1.fz 0
    have f1 := HS.out.2.2.1.fz 1
    clear h0 hp hT HS
    go_enter Try.func34, Try.ntmps34
    go_wp2_with fail
    rw [← hw1]
    go_wp2_with fail
    refine bodyPost_ret (v := .tuple #[.map none, .agg #[.int .i64 0, .int .i64 0], .int .i64 3]) (by simp [results, Try.results34, go_sem, c0, c1]) rfl ⟨.inl ⟨by rw [HF.out]; decide, by rw [HF.out]; rfl⟩, HBz.out⟩
  have t0 : ((gs.length : Int) == 0) = false := beq_eq_false_iff_ne.2 (by omega)
  by_cases h2 : 200 < gs.length
  · have HF := (show Hid (ckG gs = ((0, 0), 2)) from by show ckG gs = _; unfold ckG; rw [if_neg h0, if_pos h2])
    have t2 : (200 : Int) < (gs.length : Int) := by omega
    have HBz := (show Hid (Below w.heap.size w w1) from HS.out.1)
    have c0 := HS.out.2.2.1.c0
    have c1 := HS.out.2.2.1.c1
    have f0 := HS.out.2.2.1.fz 0
    have f1 := HS.out.2.2.1.fz 1
    clear h0 hp hT h2 HS
    go_enter Try.func34, Try.ntmps34
    go_wp2_with fail
    rw [← hw1]
    go_wp2_with fail
    refine bodyPost_ret (v := .tuple #[.map none, .agg #[.int .i64 0, .int .i64 0], .int .i64 2]) (by simp [results, Try.results34, go_sem, c0, c1]) rfl ⟨.inl ⟨by rw [HF.out]; decide, by rw [HF.out]; rfl⟩, HBz.out⟩
  have t2 : ¬ (200 : Int) < (gs.length : Int) := by omega
  have hl200 : gs.length ≤ 200 := by omega
  have HE := (show Hid (∀ r, c1G gs 0 0 gs = r → r.2 ≠ 0 → ckG gs = r) from ckG_err h0 h2)
  have HEu := (show Hid (c1G gs 0 0 gs = ((0, 0), 0) → ckG gs = unG gs 0 gs) from ckG_un h0 h2)
  have HP := (show Hid (GrD w A gs) from hp)
  have HTT := (show Hid (∀ g ∈ gs, g.1.size ≤ 140737488355328 ∧ g.2.length ≤ 140737488355328 ∧ ∀ n ∈ g.2, n.tx.size ≤ 140737488355328) from hT)
  have HG := (show Hid (∀ k, k < gs.length → ∃ g, gs[k]? = some g ∧ g.1.size ≤ 140737488355328 ∧ g.2.length ≤ 140737488355328 ∧ (∀ n ∈ g.2, n.tx.size ≤ 140737488355328) ∧ gs.drop k = g :: gs.drop (k + 1)) from fun k hk => ⟨_, List.getElem?_eq_getElem hk, (hT _ (List.getElem_mem hk)).1, (hT _ (List.getElem_mem hk)).2.1, (hT _ (List.getElem_mem hk)).2.2, List.drop_eq_getElem_cons hk⟩)
  have HM := (show Hid (UnS w (w1.alloc (.map #[] 0)) (.slice A gs.length c) mb (gs.take 0)) from ⟨HS.out.1.alloc HS.out.1.size _, HS.out.2.1.below (below_box _ _), HS.out.2.2.1.below (below_box _ _), by have h := NmM.nil w1; rw [HS.out.2.2.2, ← HMb.out] at h; exact h⟩)
  have hsz := HS.out.2.2.2
  have hmm := @run_makeMap Try.prog
  clear h0 hp hT h2 HS
  go_enter Try.func34, Try.ntmps34
  go_wp2_with fail
  rw [← hw1]
  go_wp2_with fail
  rw [← hmb]
  clear hmm q1 hw1 hmb hsz
  generalize w1.alloc (.map #[] 0) = w2 at *
  go_loopw [6, 30] (fun v t wr => ∃ k m : Nat, k ≤ gs.length ∧ t = .int .i64 k ∧ v = .int .i64 m ∧ m ≤ 2048 ∧ Hid (c1G gs 0 0 gs = c1G gs k m (gs.drop k)) ∧ Hid (UnS w wr (.slice A gs.length c) mb (gs.take k))) (fun _ t _ => gs.length - (intOf t).toNat)
  case atStart => exact ⟨0, 0, by omega, by go_num, by go_num, by omega, rfl, HM⟩
  case round =>
    obtain ⟨k, m, hk, rfl, rfl, hm, HX0, HW⟩ := hrel
    clear HM
    by_cases hlt : k < gs.length
    · obtain ⟨g, hg, s1, s2, s3, hd⟩ := HG.out k hlt
      obtain ⟨b, o, A2, c2, rfl, lb, x0, x1, r2⟩ := HP.out k g hg
      have x0' := (HW.out.b.cell (p := ⟨b, o + k * 2, none⟩) lb).trans x0
      have x1' := (HW.out.b.cell (p := ⟨b, o + k * 2 + 1, none⟩) lb).trans x1
      clear x0 x1
      have z0 : (0 : Int) ≤ (k : Int) := by omega
      have z1 : (k : Int) < (gs.length : Int) := by omega
      have HRn := (show Hid (wr.heap.size ≠ mb) from by have := HW.out.m.lt; show wr.heap.size ≠ mb; omega)
      have HR0 := (show Hid (RB (wr.alloc (.cells #[.string g.1, .slice A2 g.2.length c2] 57)) wr.heap.size g.1 (.slice A2 g.2.length c2)) from ⟨heap_alloc_new wr _⟩)
      have HS0 := (show Hid (UnS w (wr.alloc (.cells #[.string g.1, .slice A2 g.2.length c2] 57)) (.slice (some ⟨b, o, none⟩) gs.length c) mb (gs.take k)) from HW.out.later (below_box _ _))
      have HNm : Hid (∀ W, Calls Try.prog 13 #[.string g.1] W fun e W' => e = .returned (.bool (nmB g.1)) ∧ Below W.heap.size W W') := fun W => nameP_any g.1 s1 W
      have HCk : Hid (∀ W, Below w.heap.size w W → Calls Try.prog 37 #[.slice A2 g.2.length c2] W fun e w' => e = .returned (.tuple #[.int .i64 (ck g.2).1, .int .i64 (ck g.2).2]) ∧ Below W.heap.size W w') := fun W hW => check_any g.2 A2 c2 s2 s3 W (r2.below hW (Nat.le_refl _))
      have hgk := hg
      have HX1 := (show Hid (c1G gs 0 0 gs = if ¬ (nmB g.1 = true ∨ (g.1.size = 0 ∧ gs.length = 1)) then ((k, 0), 6) else if tw gs g.1 k = true then ((k, 0), 80) else if (ck g.2).2 ≠ 0 then ((k, (ck g.2).1), (ck g.2).2) else if 2048 < m + g.2.length then ((k, 0), 2) else c1G gs (k + 1) (m + g.2.length) (gs.drop (k + 1))) from by show c1G gs 0 0 gs = _; rw [HX0.out, hd, c1G])
      have HSz := (show Hid (g.2.length ≤ 140737488355328) from s2)
      clear hg r2 s2 s3 HW HX0 hd
      have q3 := HS0.out.x.cl
      by_cases hs0 : g.1.size = 0
      · have te : (g.1.toList == []) = true := by
          have e := emp_t hs0
          rw [List.isEmpty_iff] at e
          rw [e]; rfl
        have te2 := emp_t hs0
        by_cases hl1 : gs.length = 1
        · have tl : ((gs.length : Int) == 1) = true := beq_iff_eq.2 (by omega)
          have HX := (show Hid (c1G gs 0 0 gs = if tw gs g.1 k = true then ((k, 0), 80) else if (ck g.2).2 ≠ 0 then ((k, (ck g.2).1), (ck g.2).2) else if 2048 < m + g.2.length then ((k, 0), 2) else c1G gs (k + 1) (m + g.2.length) (gs.drop (k + 1))) from by show c1G gs 0 0 gs = _; rw [HX1.out, if_neg (fun q => q (.inr ⟨hs0, hl1⟩))])
          clear HX1 hl1 hs0 HNm HEu HTT
          have HS := HS0
          have HR := HR0
          clear HS0 HR0
          obtain ⟨cc, hrun, _⟩ := HS.out.m.look g.1 s1
          by_cases htw : tw gs g.1 k = true
          · have HF := (show Hid (ckG gs = ((k, 0), 80)) from HE.out _ (by rw [HX.out, if_pos htw]) (by show (80 : Int) ≠ 0; decide))
            rw [← tw_take gs g.1 k (by omega), htw] at hrun
            have y0 := HR.out.c0
            clear HX HE HCk HR HG HP htw HSz
            have HZ := (show Hid (SX (((wr.alloc (.cells #[.string g.1, .slice A2 g.2.length c2] 57)).setCell ⟨w.heap.size + 1, 0, none⟩ (.int .i64 (k : Int))).setCell ⟨w.heap.size + 1, 1, none⟩ (.int .i64 0)) (w.heap.size + 1) (k : Int) 0) from HS.out.s.set _ _)
            have HBz := (show Hid (Below w.heap.size w (((wr.alloc (.cells #[.string g.1, .slice A2 g.2.length c2] 57)).setCell ⟨w.heap.size + 1, 0, none⟩ (.int .i64 (k : Int))).setCell ⟨w.heap.size + 1, 1, none⟩ (.int .i64 0))) from set_below (set_below HS.out.b (Nat.le_succ _)) (Nat.le_succ _))
            have c0 := HS.out.s.c0
            have c1 := HS.out.s.c1
            have f0 := HS.out.s.fz 0
            have f1 := HS.out.s.fz 1
            clear HS
            go_wp2_with fail
            have d0 := HZ.out.c0
            have d1 := HZ.out.c1
            clear c0 c1 f0 f1
            generalize ((wr.alloc (.cells #[.string g.1, .slice A2 g.2.length c2] 57)).setCell ⟨w.heap.size + 1, 0, none⟩ (.int .i64 (k : Int))).setCell ⟨w.heap.size + 1, 1, none⟩ (.int .i64 0) = wZ at *
            refine bodyPost_ret (v := .tuple #[.map none, .agg #[.int .i64 (k : Int), .int .i64 0], .int .i64 80]) (by simp [results, Try.results34, go_sem, d0, d1]) rfl ⟨.inl ⟨by rw [HF.out]; show (80 : Int) ≠ 0; decide, by rw [HF.out]; try rfl⟩, HBz.out⟩
          · have htw2 : tw gs g.1 k = false := by cases q : tw gs g.1 k; rfl; exact absurd q htw
            rw [← tw_take gs g.1 k (by omega), htw2] at hrun
            have HX2 := (show Hid (c1G gs 0 0 gs = if (ck g.2).2 ≠ 0 then ((k, (ck g.2).1), (ck g.2).2) else if 2048 < m + g.2.length then ((k, 0), 2) else c1G gs (k + 1) (m + g.2.length) (gs.drop (k + 1))) from by show c1G gs 0 0 gs = _; rw [HX.out, if_neg htw])
            have hfd : fdG (gs.take k) g.1 = none := by
              have := tw_take gs g.1 k (by omega)
              rw [htw2] at this
              cases q : fdG (gs.take k) g.1 with
              | none => rfl
              | some i => rw [q] at this; cases this
            obtain ⟨D, hown, hD⟩ := HS.out.m.ex
            have HD := (show Hid (NmD D (gs.take k)) from hD)
            have hlk : (gs.take k).length = k := by rw [List.length_take]; omega
            rw [hlk] at hown
            have HFd := (show Hid (fdG (gs.take k) g.1 = none) from hfd)
            have HLk := (show Hid ((gs.take k).length = k) from hlk)
            have HGk := (show Hid (gs.take (k + 1) = gs.take k ++ [g]) from by rw [List.take_add_one, hgk]; rfl)
            have HPut := (show Hid (∀ w1, ((wr.alloc (.cells #[.string g.1, .slice A2 g.2.length c2] 57))).grownBy w1 (some mb) → w1.ownsMap Try.prog 9 (plainElem Try.prog 3) mb (k + 1) (D.put (.string g.1.data.toList) (.lit (.int .i64 k))) → UnS w w1 (.slice (some ⟨b, o, none⟩) gs.length c) mb (gs.take (k + 1))) from fun w1 hgrow1 hown1 => by
              show UnS w w1 _ _ _
              rw [HGk.out]
              exact NuS.put HMb.out HS.out hgrow1 hown1 HD.out HFd.out HLk.out)
            have y0 := HR.out.c0
            have y1 := HR.out.c1
            have hkey := key_of s1
            clear HX htw htw2 hD hfd hlk hgk HD HFd HLk HGk
            go_wp2_with (
              at_mapUpdate
              refine wpList_mapUpdate_own _ rfl _ _ _ 59 rfl 9 3 keyed Try.underlying59 _ mb k D rfl hown (by unfold maxLen; omega) _ _ (.string g.1.data.toList) rfl rfl hkey _ [] (plainElem_int Try.underlying3 (WalkArith.wf_i64 (by omega))) ?_
              intro w1 hown1 hgrow1
              have HS1 := (show Hid (UnS w w1 (.slice (some ⟨b, o, none⟩) gs.length c) mb (gs.take (k + 1))) from HPut.out w1 hgrow1 hown1)
              have HR1 := (show Hid (RB w1 wr.heap.size g.1 (.slice A2 g.2.length c2)) from HR.out.same (hgrow1.block wr.heap.size HR.out.lt (fun e => by injection e with e; exact HRn.out e)))
              have z1' := HR1.out.c1
              clear hown hown1 hgrow1 y0 y1 hrun HS HR HPut)
            refine (HCk.out _ HS1.out.b).mono ?_
            rintro e w4 ⟨rfl, b4⟩
            have HS := (show Hid (UnS w w4 (.slice (some ⟨b, o, none⟩) gs.length c) mb (gs.take (k + 1))) from HS1.out.later b4)
            have y1 := (HR1.out.later b4).c1
            clear HCk b4 HS1 HR1 z1'
            by_cases hc : (ck g.2).2 = 0
            · have tc : ((ck g.2).2 != 0) = false := by rw [hc]; rfl
              have hg3 : g.2.length ≤ 2048 := by
                by_cases q : g.2.length ≤ 2048
                · exact q
                · have := ck_long (L := g.2) (by omega)
                  rw [this] at hc
                  exact absurd hc (by decide)
              have HV := (show Hid (c1G gs 0 0 gs = if 2048 < m + g.2.length then ((k, 0), 2) else c1G gs (k + 1) (m + g.2.length) (gs.drop (k + 1))) from by show c1G gs 0 0 gs = _; rw [HX2.out, if_neg (by rw [hc]; simp)])
              generalize hcc : (ck g.2).2 = cc2 at *
              clear hcc HX2
              by_cases hn : 2048 < m + g.2.length
              · have HF := (show Hid (ckG gs = ((k, 0), 2)) from HE.out _ (by rw [HV.out, if_pos hn]) (by show (2 : Int) ≠ 0; decide))
                have tn : (2048 : Int) < (m : Int) + (g.2.length : Int) := by omega
                clear HV HE HG HP hn
                have HZ := (show Hid (SX ((w4.setCell ⟨w.heap.size + 1, 0, none⟩ (.int .i64 (k : Int))).setCell ⟨w.heap.size + 1, 1, none⟩ (.int .i64 0)) (w.heap.size + 1) (k : Int) 0) from HS.out.s.set _ _)
                have HBz := (show Hid (Below w.heap.size w ((w4.setCell ⟨w.heap.size + 1, 0, none⟩ (.int .i64 (k : Int))).setCell ⟨w.heap.size + 1, 1, none⟩ (.int .i64 0))) from set_below (set_below HS.out.b (Nat.le_succ _)) (Nat.le_succ _))
                have c0 := HS.out.s.c0
                have c1 := HS.out.s.c1
                have f0 := HS.out.s.fz 0
                have f1 := HS.out.s.fz 1
                clear HS
                go_wp2_with fail
                have d0 := HZ.out.c0
                have d1 := HZ.out.c1
                clear c0 c1 f0 f1
                generalize (w4.setCell ⟨w.heap.size + 1, 0, none⟩ (.int .i64 (k : Int))).setCell ⟨w.heap.size + 1, 1, none⟩ (.int .i64 0) = wZ at *
                refine bodyPost_ret (v := .tuple #[.map none, .agg #[.int .i64 (k : Int), .int .i64 0], .int .i64 2]) (by simp [results, Try.results34, go_sem, d0, d1]) rfl ⟨.inl ⟨by rw [HF.out]; show (2 : Int) ≠ 0; decide, by rw [HF.out]; try rfl⟩, HBz.out⟩
              · have HX3 := (show Hid (c1G gs 0 0 gs = c1G gs (k + 1) (m + g.2.length) (gs.drop (k + 1))) from by show c1G gs 0 0 gs = _; rw [HV.out, if_neg hn])
                have tn : ¬ (2048 : Int) < (m : Int) + (g.2.length : Int) := by omega
                clear HV
                go_wp2_with fail
                go_roundw
                case rel => exact ⟨k + 1, m + g.2.length, by omega, by go_num, by go_num, by omega, HX3, HS⟩
                case measure => simp [intOf]; omega
            · have tc : ((ck g.2).2 != 0) = true := by rw [bne, beq_eq_false_iff_ne.2 hc]; rfl
              have HF := (show Hid (ckG gs = ((k, (ck g.2).1), (ck g.2).2)) from HE.out _ (by rw [HX2.out, if_pos hc]) hc)
              have HC := (show Hid ((ck g.2).2 ≠ 0) from hc)
              clear HX2 HE HG HP hc
              generalize hcc : (ck g.2).2 = cc2 at *
              generalize hcd : (ck g.2).1 = cc1 at *
              clear hcc hcd
              have HZ := (show Hid (SX ((w4.setCell ⟨w.heap.size + 1, 0, none⟩ (.int .i64 (k : Int))).setCell ⟨w.heap.size + 1, 1, none⟩ (.int .i64 (cc1 : Int))) (w.heap.size + 1) (k : Int) (cc1 : Int)) from HS.out.s.set _ _)
              have HBz := (show Hid (Below w.heap.size w ((w4.setCell ⟨w.heap.size + 1, 0, none⟩ (.int .i64 (k : Int))).setCell ⟨w.heap.size + 1, 1, none⟩ (.int .i64 (cc1 : Int)))) from set_below (set_below HS.out.b (Nat.le_succ _)) (Nat.le_succ _))
              have c0 := HS.out.s.c0
              have c1 := HS.out.s.c1
              have f0 := HS.out.s.fz 0
              have f1 := HS.out.s.fz 1
              clear HS
              go_wp2_with fail
              have d0 := HZ.out.c0
              have d1 := HZ.out.c1
              clear c0 c1 f0 f1
              generalize (w4.setCell ⟨w.heap.size + 1, 0, none⟩ (.int .i64 (k : Int))).setCell ⟨w.heap.size + 1, 1, none⟩ (.int .i64 (cc1 : Int)) = wZ at *
              refine bodyPost_ret (v := .tuple #[.map none, .agg #[.int .i64 (k : Int), .int .i64 (cc1 : Int)], .int .i64 cc2]) (by simp [results, Try.results34, go_sem, d0, d1]) rfl ⟨.inl ⟨by rw [HF.out]; exact HC.out, by rw [HF.out]; try rfl⟩, HBz.out⟩
        · have tl : ((gs.length : Int) == 1) = false := beq_eq_false_iff_ne.2 (by omega)
          have hnb : nmB g.1 = false := nmB_f (fun h => by have := h.1; omega)
          have HF := (show Hid (ckG gs = ((k, 0), 6)) from HE.out _ (by rw [HX1.out, if_pos (by rintro (q | q); rw [hnb] at q; cases q; exact hl1 q.2)]) (by show (6 : Int) ≠ 0; decide))
          rw [hnb] at HNm
          clear HX1 HE HG HP hl1 hs0 hgk HCk HEu HTT
          go_wp2_with fail
          refine (HNm.out _).mono ?_
          rintro e w3 ⟨rfl, b3⟩
          have HS := (show Hid (UnS w w3 (.slice (some ⟨b, o, none⟩) gs.length c) mb (gs.take k)) from HS0.out.later b3)
          clear HNm b3 HR0 HS0
          have HZ := (show Hid (SX ((w3.setCell ⟨w.heap.size + 1, 0, none⟩ (.int .i64 (k : Int))).setCell ⟨w.heap.size + 1, 1, none⟩ (.int .i64 0)) (w.heap.size + 1) (k : Int) 0) from HS.out.s.set _ _)
          have HBz := (show Hid (Below w.heap.size w ((w3.setCell ⟨w.heap.size + 1, 0, none⟩ (.int .i64 (k : Int))).setCell ⟨w.heap.size + 1, 1, none⟩ (.int .i64 0))) from set_below (set_below HS.out.b (Nat.le_succ _)) (Nat.le_succ _))
          have c0 := HS.out.s.c0
          have c1 := HS.out.s.c1
          have f0 := HS.out.s.fz 0
          have f1 := HS.out.s.fz 1
          clear HS
          go_wp2_with fail
          have d0 := HZ.out.c0
          have d1 := HZ.out.c1
          clear c0 c1 f0 f1
          generalize (w3.setCell ⟨w.heap.size + 1, 0, none⟩ (.int .i64 (k : Int))).setCell ⟨w.heap.size + 1, 1, none⟩ (.int .i64 0) = wZ at *
          refine bodyPost_ret (v := .tuple #[.map none, .agg #[.int .i64 (k : Int), .int .i64 0], .int .i64 6]) (by simp [results, Try.results34, go_sem, d0, d1]) rfl ⟨.inl ⟨by rw [HF.out]; show (6 : Int) ≠ 0; decide, by rw [HF.out]; try rfl⟩, HBz.out⟩
      · have te : (g.1.toList == []) = false := by
          have e := emp_f hs0
          cases hl : g.1.toList with
          | nil => rw [hl] at e; cases e
          | cons x r => rfl
        have te2 := emp_f hs0
        cases hnb : nmB g.1
        · have HF := (show Hid (ckG gs = ((k, 0), 6)) from HE.out _ (by rw [HX1.out, if_pos (by rintro (q | q); rw [hnb] at q; cases q; exact hs0 q.1)]) (by show (6 : Int) ≠ 0; decide))
          rw [hnb] at HNm
          clear HX1 HE HG HP hs0 hgk HCk HEu HTT
          go_wp2_with fail
          refine (HNm.out _).mono ?_
          rintro e w3 ⟨rfl, b3⟩
          have HS := (show Hid (UnS w w3 (.slice (some ⟨b, o, none⟩) gs.length c) mb (gs.take k)) from HS0.out.later b3)
          clear HNm b3 HR0 HS0
          have HZ := (show Hid (SX ((w3.setCell ⟨w.heap.size + 1, 0, none⟩ (.int .i64 (k : Int))).setCell ⟨w.heap.size + 1, 1, none⟩ (.int .i64 0)) (w.heap.size + 1) (k : Int) 0) from HS.out.s.set _ _)
          have HBz := (show Hid (Below w.heap.size w ((w3.setCell ⟨w.heap.size + 1, 0, none⟩ (.int .i64 (k : Int))).setCell ⟨w.heap.size + 1, 1, none⟩ (.int .i64 0))) from set_below (set_below HS.out.b (Nat.le_succ _)) (Nat.le_succ _))
          have c0 := HS.out.s.c0
          have c1 := HS.out.s.c1
          have f0 := HS.out.s.fz 0
          have f1 := HS.out.s.fz 1
          clear HS
          go_wp2_with fail
          have d0 := HZ.out.c0
          have d1 := HZ.out.c1
          clear c0 c1 f0 f1
          generalize (w3.setCell ⟨w.heap.size + 1, 0, none⟩ (.int .i64 (k : Int))).setCell ⟨w.heap.size + 1, 1, none⟩ (.int .i64 0) = wZ at *
          refine bodyPost_ret (v := .tuple #[.map none, .agg #[.int .i64 (k : Int), .int .i64 0], .int .i64 6]) (by simp [results, Try.results34, go_sem, d0, d1]) rfl ⟨.inl ⟨by rw [HF.out]; show (6 : Int) ≠ 0; decide, by rw [HF.out]; try rfl⟩, HBz.out⟩
        · have HX := (show Hid (c1G gs 0 0 gs = if tw gs g.1 k = true then ((k, 0), 80) else if (ck g.2).2 ≠ 0 then ((k, (ck g.2).1), (ck g.2).2) else if 2048 < m + g.2.length then ((k, 0), 2) else c1G gs (k + 1) (m + g.2.length) (gs.drop (k + 1))) from by show c1G gs 0 0 gs = _; rw [HX1.out, if_neg (fun q => q (.inl hnb))])
          rw [hnb] at HNm
          clear HX1 hs0 hnb HEu HTT
          go_wp2_with fail
          refine (HNm.out _).mono ?_
          rintro e wX ⟨rfl, b3⟩
          have HS := (show Hid (UnS w wX (.slice (some ⟨b, o, none⟩) gs.length c) mb (gs.take k)) from HS0.out.later b3)
          have HR := (show Hid (RB wX wr.heap.size g.1 (.slice A2 g.2.length c2)) from HR0.out.later b3)
          clear HNm b3 HR0 HS0 x0' x1'
          obtain ⟨cc, hrun, _⟩ := HS.out.m.look g.1 s1
          by_cases htw : tw gs g.1 k = true
          · have HF := (show Hid (ckG gs = ((k, 0), 80)) from HE.out _ (by rw [HX.out, if_pos htw]) (by show (80 : Int) ≠ 0; decide))
            rw [← tw_take gs g.1 k (by omega), htw] at hrun
            have y0 := HR.out.c0
            clear HX HE HCk HR HG HP htw HSz
            have HZ := (show Hid (SX ((wX.setCell ⟨w.heap.size + 1, 0, none⟩ (.int .i64 (k : Int))).setCell ⟨w.heap.size + 1, 1, none⟩ (.int .i64 0)) (w.heap.size + 1) (k : Int) 0) from HS.out.s.set _ _)
            have HBz := (show Hid (Below w.heap.size w ((wX.setCell ⟨w.heap.size + 1, 0, none⟩ (.int .i64 (k : Int))).setCell ⟨w.heap.size + 1, 1, none⟩ (.int .i64 0))) from set_below (set_below HS.out.b (Nat.le_succ _)) (Nat.le_succ _))
            have c0 := HS.out.s.c0
            have c1 := HS.out.s.c1
            have f0 := HS.out.s.fz 0
            have f1 := HS.out.s.fz 1
            clear HS
            go_wp2_with fail
            have d0 := HZ.out.c0
            have d1 := HZ.out.c1
            clear c0 c1 f0 f1
            generalize (wX.setCell ⟨w.heap.size + 1, 0, none⟩ (.int .i64 (k : Int))).setCell ⟨w.heap.size + 1, 1, none⟩ (.int .i64 0) = wZ at *
            refine bodyPost_ret (v := .tuple #[.map none, .agg #[.int .i64 (k : Int), .int .i64 0], .int .i64 80]) (by simp [results, Try.results34, go_sem, d0, d1]) rfl ⟨.inl ⟨by rw [HF.out]; show (80 : Int) ≠ 0; decide, by rw [HF.out]; try rfl⟩, HBz.out⟩
          · have htw2 : tw gs g.1 k = false := by cases q : tw gs g.1 k; rfl; exact absurd q htw
            rw [← tw_take gs g.1 k (by omega), htw2] at hrun
            have HX2 := (show Hid (c1G gs 0 0 gs = if (ck g.2).2 ≠ 0 then ((k, (ck g.2).1), (ck g.2).2) else if 2048 < m + g.2.length then ((k, 0), 2) else c1G gs (k + 1) (m + g.2.length) (gs.drop (k + 1))) from by show c1G gs 0 0 gs = _; rw [HX.out, if_neg htw])
            have hfd : fdG (gs.take k) g.1 = none := by
              have := tw_take gs g.1 k (by omega)
              rw [htw2] at this
              cases q : fdG (gs.take k) g.1 with
              | none => rfl
              | some i => rw [q] at this; cases this
            obtain ⟨D, hown, hD⟩ := HS.out.m.ex
            have HD := (show Hid (NmD D (gs.take k)) from hD)
            have hlk : (gs.take k).length = k := by rw [List.length_take]; omega
            rw [hlk] at hown
            have HFd := (show Hid (fdG (gs.take k) g.1 = none) from hfd)
            have HLk := (show Hid ((gs.take k).length = k) from hlk)
            have HGk := (show Hid (gs.take (k + 1) = gs.take k ++ [g]) from by rw [List.take_add_one, hgk]; rfl)
            have HPut := (show Hid (∀ w1, (wX).grownBy w1 (some mb) → w1.ownsMap Try.prog 9 (plainElem Try.prog 3) mb (k + 1) (D.put (.string g.1.data.toList) (.lit (.int .i64 k))) → UnS w w1 (.slice (some ⟨b, o, none⟩) gs.length c) mb (gs.take (k + 1))) from fun w1 hgrow1 hown1 => by
              show UnS w w1 _ _ _
              rw [HGk.out]
              exact NuS.put HMb.out HS.out hgrow1 hown1 HD.out HFd.out HLk.out)
            have y0 := HR.out.c0
            have y1 := HR.out.c1
            have hkey := key_of s1
            clear HX htw htw2 hD hfd hlk hgk HD HFd HLk HGk
            go_wp2_with (
              at_mapUpdate
              refine wpList_mapUpdate_own _ rfl _ _ _ 59 rfl 9 3 keyed Try.underlying59 _ mb k D rfl hown (by unfold maxLen; omega) _ _ (.string g.1.data.toList) rfl rfl hkey _ [] (plainElem_int Try.underlying3 (WalkArith.wf_i64 (by omega))) ?_
              intro w1 hown1 hgrow1
              have HS1 := (show Hid (UnS w w1 (.slice (some ⟨b, o, none⟩) gs.length c) mb (gs.take (k + 1))) from HPut.out w1 hgrow1 hown1)
              have HR1 := (show Hid (RB w1 wr.heap.size g.1 (.slice A2 g.2.length c2)) from HR.out.same (hgrow1.block wr.heap.size HR.out.lt (fun e => by injection e with e; exact HRn.out e)))
              have z1' := HR1.out.c1
              clear hown hown1 hgrow1 y0 y1 hrun HS HR HPut)
            refine (HCk.out _ HS1.out.b).mono ?_
            rintro e w4 ⟨rfl, b4⟩
            have HS := (show Hid (UnS w w4 (.slice (some ⟨b, o, none⟩) gs.length c) mb (gs.take (k + 1))) from HS1.out.later b4)
            have y1 := (HR1.out.later b4).c1
            clear HCk b4 HS1 HR1 z1'
            by_cases hc : (ck g.2).2 = 0
            · have tc : ((ck g.2).2 != 0) = false := by rw [hc]; rfl
              have hg3 : g.2.length ≤ 2048 := by
                by_cases q : g.2.length ≤ 2048
                · exact q
                · have := ck_long (L := g.2) (by omega)
                  rw [this] at hc
                  exact absurd hc (by decide)
              have HV := (show Hid (c1G gs 0 0 gs = if 2048 < m + g.2.length then ((k, 0), 2) else c1G gs (k + 1) (m + g.2.length) (gs.drop (k + 1))) from by show c1G gs 0 0 gs = _; rw [HX2.out, if_neg (by rw [hc]; simp)])
              generalize hcc : (ck g.2).2 = cc2 at *
              clear hcc HX2
              by_cases hn : 2048 < m + g.2.length
              · have HF := (show Hid (ckG gs = ((k, 0), 2)) from HE.out _ (by rw [HV.out, if_pos hn]) (by show (2 : Int) ≠ 0; decide))
                have tn : (2048 : Int) < (m : Int) + (g.2.length : Int) := by omega
                clear HV HE HG HP hn
                have HZ := (show Hid (SX ((w4.setCell ⟨w.heap.size + 1, 0, none⟩ (.int .i64 (k : Int))).setCell ⟨w.heap.size + 1, 1, none⟩ (.int .i64 0)) (w.heap.size + 1) (k : Int) 0) from HS.out.s.set _ _)
                have HBz := (show Hid (Below w.heap.size w ((w4.setCell ⟨w.heap.size + 1, 0, none⟩ (.int .i64 (k : Int))).setCell ⟨w.heap.size + 1, 1, none⟩ (.int .i64 0))) from set_below (set_below HS.out.b (Nat.le_succ _)) (Nat.le_succ _))
                have c0 := HS.out.s.c0
                have c1 := HS.out.s.c1
                have f0 := HS.out.s.fz 0
                have f1 := HS.out.s.fz 1
                clear HS
                go_wp2_with fail
                have d0 := HZ.out.c0
                have d1 := HZ.out.c1
                clear c0 c1 f0 f1
                generalize (w4.setCell ⟨w.heap.size + 1, 0, none⟩ (.int .i64 (k : Int))).setCell ⟨w.heap.size + 1, 1, none⟩ (.int .i64 0) = wZ at *
                refine bodyPost_ret (v := .tuple #[.map none, .agg #[.int .i64 (k : Int), .int .i64 0], .int .i64 2]) (by simp [results, Try.results34, go_sem, d0, d1]) rfl ⟨.inl ⟨by rw [HF.out]; show (2 : Int) ≠ 0; decide, by rw [HF.out]; try rfl⟩, HBz.out⟩
              · have HX3 := (show Hid (c1G gs 0 0 gs = c1G gs (k + 1) (m + g.2.length) (gs.drop (k + 1))) from by show c1G gs 0 0 gs = _; rw [HV.out, if_neg hn])
                have tn : ¬ (2048 : Int) < (m : Int) + (g.2.length : Int) := by omega
                clear HV
                go_wp2_with fail
                go_roundw
                case rel => exact ⟨k + 1, m + g.2.length, by omega, by go_num, by go_num, by omega, HX3, HS⟩
                case measure => simp [intOf]; omega
            · have tc : ((ck g.2).2 != 0) = true := by rw [bne, beq_eq_false_iff_ne.2 hc]; rfl
              have HF := (show Hid (ckG gs = ((k, (ck g.2).1), (ck g.2).2)) from HE.out _ (by rw [HX2.out, if_pos hc]) hc)
              have HC := (show Hid ((ck g.2).2 ≠ 0) from hc)
              clear HX2 HE HG HP hc
              generalize hcc : (ck g.2).2 = cc2 at *
              generalize hcd : (ck g.2).1 = cc1 at *
              clear hcc hcd
              have HZ := (show Hid (SX ((w4.setCell ⟨w.heap.size + 1, 0, none⟩ (.int .i64 (k : Int))).setCell ⟨w.heap.size + 1, 1, none⟩ (.int .i64 (cc1 : Int))) (w.heap.size + 1) (k : Int) (cc1 : Int)) from HS.out.s.set _ _)
              have HBz := (show Hid (Below w.heap.size w ((w4.setCell ⟨w.heap.size + 1, 0, none⟩ (.int .i64 (k : Int))).setCell ⟨w.heap.size + 1, 1, none⟩ (.int .i64 (cc1 : Int)))) from set_below (set_below HS.out.b (Nat.le_succ _)) (Nat.le_succ _))
              have c0 := HS.out.s.c0
              have c1 := HS.out.s.c1
              have f0 := HS.out.s.fz 0
              have f1 := HS.out.s.fz 1
              clear HS
              go_wp2_with fail
              have d0 := HZ.out.c0
              have d1 := HZ.out.c1
              clear c0 c1 f0 f1
              generalize (w4.setCell ⟨w.heap.size + 1, 0, none⟩ (.int .i64 (k : Int))).setCell ⟨w.heap.size + 1, 1, none⟩ (.int .i64 (cc1 : Int)) = wZ at *
              refine bodyPost_ret (v := .tuple #[.map none, .agg #[.int .i64 (k : Int), .int .i64 (cc1 : Int)], .int .i64 cc2]) (by simp [results, Try.results34, go_sem, d0, d1]) rfl ⟨.inl ⟨by rw [HF.out]; exact HC.out, by rw [HF.out]; try rfl⟩, HBz.out⟩
    · obtain rfl : k = gs.length := by omega
      have HE2 := (show Hid (ckG gs = unG gs 0 gs) from HEu.out (by rw [HX0.out, List.drop_length]; rfl))
      have HS := (show Hid (UnS w wr (.slice A gs.length c) mb gs) from by show UnS w wr _ _ gs; have h := HW.out; rw [List.take_length] at h; exact h)
      have HUn := (show Hid (∀ _ : Unit, Calls Try.prog 58 #[.agg #[.slice A gs.length c], .map (some mb)] wr fun e w' => e = .returned (.tuple #[.agg #[.int .i64 (unG gs 0 gs).1.1, .int .i64 (unG gs 0 gs).1.2], .int .i64 (unG gs 0 gs).2]) ∧ Below wr.heap.size wr w') from fun _ => unknown_any gs A c mb hl HTT.out wr (HP.out.later HS.out.b) HS.out.m)
      have q3 := HS.out.x.cl
      clear HX0 HG HP HW HE HEu HTT
      go_wp2_with fail
      refine (HUn.out ()).mono ?_
      rintro e w5 ⟨rfl, b5⟩
      obtain ⟨wX, hwX⟩ : ∃ wX, wX = w5.alloc (.cells #[.int .i64 ((unG gs 0 gs).1.1 : Int), .int .i64 ((unG gs 0 gs).1.2 : Int)] 27) := ⟨_, rfl⟩
      have HS5 := (show Hid (UnS w wX (.slice A gs.length c) mb gs ∧ SX wX w5.heap.size ((unG gs 0 gs).1.1 : Int) ((unG gs 0 gs).1.2 : Int)) from by
        show _ ∧ _
        rw [hwX]
        exact ⟨(HS.out.later b5).later (below_box _ _), ⟨heap_alloc_new _ _⟩⟩)
      have HMx := (show Hid (mb ≠ w.heap.size + 1 ∧ w.heap.size ≤ mb) from by show _ ∧ _; rw [HMb.out]; omega)
      clear HUn b5 HS q3
      by_cases hz : (unG gs 0 gs).2 = 0
      · have HF := (show Hid ((ckG gs).2 = 0) from by show _ = _; rw [HE2.out]; exact hz)
        have tz : ((unG gs 0 gs).2 != 0) = false := by rw [hz]; rfl
        have HZ := (show Hid (SX ((wX.setCell ⟨w.heap.size + 1, 0, none⟩ (.int .i64 0)).setCell ⟨w.heap.size + 1, 1, none⟩ (.int .i64 0)) (w.heap.size + 1) 0 0) from HS5.out.1.s.set _ _)
        have HBz := (show Hid (Below w.heap.size w ((wX.setCell ⟨w.heap.size + 1, 0, none⟩ (.int .i64 0)).setCell ⟨w.heap.size + 1, 1, none⟩ (.int .i64 0))) from set_below (set_below HS5.out.1.b (Nat.le_succ _)) (Nat.le_succ _))
        have HMz := (show Hid (NmM ((wX.setCell ⟨w.heap.size + 1, 0, none⟩ (.int .i64 0)).setCell ⟨w.heap.size + 1, 1, none⟩ (.int .i64 0)) mb gs) from (HS5.out.1.m.same (heap_setCell_other _ _ _ _ HMx.out.1)).same (heap_setCell_other _ _ _ _ HMx.out.1))
        have c0 := HS5.out.1.s.c0
        have c1 := HS5.out.1.s.c1
        have f0 := HS5.out.1.s.fz 0
        have f1 := HS5.out.1.s.fz 1
        clear HS5 HE2 hz
        subst hwX
        generalize (unG gs 0 gs).2 = cc2 at *
        go_wp2_with fail
        have d0 := HZ.out.c0
        have d1 := HZ.out.c1
        clear c0 c1 f0 f1
        generalize ((w5.alloc (.cells #[.int .i64 ((unG gs 0 gs).1.1 : Int), .int .i64 ((unG gs 0 gs).1.2 : Int)] 27)).setCell ⟨w.heap.size + 1, 0, none⟩ (.int .i64 0)).setCell ⟨w.heap.size + 1, 1, none⟩ (.int .i64 0) = wZ at *
        refine bodyPost_ret (v := .tuple #[.map (some mb), .agg #[.int .i64 0, .int .i64 0], .int .i64 0]) (by simp [results, Try.results34, go_sem, d0, d1]) rfl ⟨.inr ⟨HF.out, mb, HMx.out.2, rfl, HMz.out⟩, HBz.out⟩
      · have tz : ((unG gs 0 gs).2 != 0) = true := by rw [bne, beq_eq_false_iff_ne.2 hz]; rfl
        have HF := (show Hid (ckG gs = unG gs 0 gs) from HE2.out)
        have HC := (show Hid ((unG gs 0 gs).2 ≠ 0) from hz)
        have HZ := (show Hid (SX (((wX.setCell ⟨w.heap.size + 1, 0, none⟩ (.int .i64 ((unG gs 0 gs).1.1 : Int))).setCell ⟨w.heap.size + 1, 1, none⟩ (.int .i64 ((unG gs 0 gs).1.2 : Int))).drew) (w.heap.size + 1) ((unG gs 0 gs).1.1 : Int) ((unG gs 0 gs).1.2 : Int)) from (HS5.out.1.s.set _ _).below (Below.refl _ _).drew)
        have HBz := (show Hid (Below w.heap.size w (((wX.setCell ⟨w.heap.size + 1, 0, none⟩ (.int .i64 ((unG gs 0 gs).1.1 : Int))).setCell ⟨w.heap.size + 1, 1, none⟩ (.int .i64 ((unG gs 0 gs).1.2 : Int))).drew)) from (set_below (set_below HS5.out.1.b (Nat.le_succ _)) (Nat.le_succ _)).drew)
        have HF2 := (show Hid ((ckG gs).1.1 = (unG gs 0 gs).1.1 ∧ (ckG gs).1.2 = (unG gs 0 gs).1.2 ∧ (ckG gs).2 = (unG gs 0 gs).2) from by show _ ∧ _; rw [HF.out]; exact ⟨rfl, rfl, rfl⟩)
        have c0 := HS5.out.1.s.c0
        have c1 := HS5.out.1.s.c1
        have f0 := HS5.out.1.s.fz 0
        have f1 := HS5.out.1.s.fz 1
        have e0 := HS5.out.2.c0
        have e1 := HS5.out.2.c1
        clear HS5 HE2 hz HMx HF
        generalize (unG gs 0 gs).1.1 = ca at *
        generalize (unG gs 0 gs).1.2 = cb at *
        generalize (unG gs 0 gs).2 = cd at *
        go_wp2_with fail
        rw [← hwX]
        clear hwX
        go_region
        all_goals (go_wp2_with fail)
        all_goals
          have d0 := HZ.out.c0
          have d1 := HZ.out.c1
          clear c0 c1 f0 f1 e0 e1
          generalize ((wX.setCell ⟨w.heap.size + 1, 0, none⟩ (.int .i64 (ca : Int))).setCell ⟨w.heap.size + 1, 1, none⟩ (.int .i64 (cb : Int))).drew = wZ at *
          refine bodyPost_ret (v := .tuple #[.map none, .agg #[.int .i64 (ca : Int), .int .i64 (cb : Int)], .int .i64 cd]) (by simp [results, Try.results34, go_sem, d0, d1]) rfl ⟨.inl ⟨by rw [HF2.out.2.2]; exact HC.out, by rw [HF2.out.1, HF2.out.2.1, HF2.out.2.2]⟩, HBz.out⟩
end Go.Proofs.Ytppggnmlbcdegaa.N
