/- DERIVED. Plain mathematics and walks, laid together (3). -/
import Derived.Deep.SlicePairs
import Derived.Lib.SmallJoins
import Derived.Laws.IdiomArrays
import Derived.SizedLaws
import Derived.OpenShut
import Derived.ShutString
import Derived.ChangeOld
import Derived.Deep.RegionHeld3
import Derived.Deep.AppendLies
import Derived.Maps.Range
import Derived.OwnWalk
import Derived.Shelf.Abstract
import Derived.Laws.AppendOwnNone
import Derived.Test.YtbipjdgholdhcabGreatFs02
namespace Go.Proofs.YtbipjdgholdhcabGreat.T
open Go.ChangeShapes Go.WideShapes Go.ChangeAt Go.RowKit
theorem Tryz.cells57 : Tryz.prog.cellsOf 57 = 7 := by kernel_rfl
theorem Tryz.cells55 : Tryz.prog.cellsOf 55 = 4 := by kernel_rfl
theorem Tryz.cells53 : Tryz.prog.cellsOf 53 = 1 := by kernel_rfl
theorem Tryz.cells9 : Tryz.prog.cellsOf 9 = 1 := by kernel_rfl
theorem Tryz.cells3 : Tryz.prog.cellsOf 3 = 1 := by kernel_rfl
theorem Tryz.bytes57 : Tryz.prog.bytesOf 57 = 64 := by kernel_rfl

theorem own : ownKnob Tryz.prog.godebug = none := by kernel_rfl
theorem laidOut : laidOutB Tryz.prog = true := by kernel_rfl
theorem sized_at {H : Type} {P : Program} {ts : List TypeId} {ds : List (DataW H)} (h : (DataW.weightsEach P ts ds).all (· ≤ reachBytes) = true) {j : Nat} {t : TypeId} {d : DataW H} (ht : ts[j]? = some t) (hd : ds[j]? = some d) : ∀ n ∈ d.weights P t, n ≤ reachBytes := fun n hn => by
  have := List.all_eq_true.1 h _ (DataW.weights_mem_each ht hd n hn)
  simpa using this
theorem weights_all {H : Type} (P : Program) (e : TypeId) : ∀ (l : List (DataW H)) (d : DataW H), d ∈ l → ∀ n ∈ d.weights P e, n ∈ DataW.weightsAll P e l
  | [], _, h, _, _ => by cases h
  | a :: l, d, h, n, hn => by
    simp only [DataW.weightsAll, List.mem_append]
    rcases List.mem_cons.1 h with rfl | h
    · exact .inl hn
    · exact .inr (weights_all P e l d h n hn)

theorem list7 {α : Type} {l : List α} (h : l.length = 7) : ∃ a b c d e f g, l = [a, b, c, d, e, f, g] := by
  match l, h with
  | [a, b, c, d, e, f, g], _ => exact ⟨a, b, c, d, e, f, g, rfl⟩
theorem wf64 {n : Int} (h : (Lit.int .u64 n).wf = true) : 0 ≤ n ∧ n < 18446744073709551616 := by
  have := bounds_u64 h
  omega
/-- The words of a node's set are words. -/
def SeW (n : Nd) : Prop := (0 ≤ n.s0 ∧ n.s0 < 18446744073709551616) ∧ (0 ≤ n.s1 ∧ n.s1 < 18446744073709551616) ∧ (0 ≤ n.s2 ∧ n.s2 < 18446744073709551616) ∧ (0 ≤ n.s3 ∧ n.s3 < 18446744073709551616)
set_option maxRecDepth 100000 in
theorem node_in {H : Type} {enc : TypeId × Value → H} {W : World} {held : Bool} {n : Nat} {cs : List Value} {x : DataW H × List MemPlace} (h : DataW.trod enc Tryz.prog W 0 (fun _ => true) held n 57 cs = some x) :
    ∃ nd : Nd, cs = ndV nd ∧ nd.tx.size ∈ x.1.weights Tryz.prog 57 ∧ SeW nd := by
  obtain ⟨y0, y1, y2, y3, k, hx, hl, h0, h1, h2, h3⟩ := Go.Joins.trod_struct4 Tryz.underlying57 h
  rw [Tryz.cells57] at hl
  obtain ⟨a, b, c, d, e, f, g, rfl⟩ := list7 hl
  simp only [Tryz.cells3, Tryz.cells9, Tryz.cells55, List.drop_zero, List.take_succ_cons, List.take_zero, List.drop_succ_cons] at h0 h1 h2 h3
  obtain ⟨N0, e0, _, _⟩ := DataW.trod_int Tryz.underlying3 h0
  obtain ⟨N1, e1, _, _⟩ := DataW.trod_int Tryz.underlying3 h1
  obtain ⟨s, e2, hs, _⟩ := DataW.trod_string Tryz.underlying9 h2
  obtain ⟨z0, z1, z2, z3, k2, _, g0, g1, g2, g3⟩ := trod_array4 Tryz.underlying55 Tryz.cells53 h3
  obtain ⟨M0, f0, _, m0⟩ := DataW.trod_int Tryz.underlying53 g0
  obtain ⟨M1, f1, _, m1⟩ := DataW.trod_int Tryz.underlying53 g1
  obtain ⟨M2, f2, _, m2⟩ := DataW.trod_int Tryz.underlying53 g2
  obtain ⟨M3, f3, _, m3⟩ := DataW.trod_int Tryz.underlying53 g3
  cases e0; cases e1; cases e2; cases f0; cases f1; cases f2; cases f3
  refine ⟨⟨N0, N1, s, M0, M1, M2, M3⟩, rfl, ?_, wf64 m0, wf64 m1, wf64 m2, wf64 m3⟩
  rw [hx, hs]
  simp only [DataW.weights, Tryz.underlying57]
  simp only [DataW.weightsEach, DataW.weights, List.map_cons, List.mem_append, List.mem_singleton]
  right; right; left
  show s.size = s.data.toList.length
  rw [Array.length_toList]
  rfl

/-- A pattern that comes in. -/
theorem open_pat {H : Type} {enc : TypeId × Value → H} {W : World} {held : Bool} {v : Value} {d : DataW H} {p : List MemPlace} (h : DataW.Trod enc Tryz.prog W 0 (fun _ => true) held 50 v d p) (hv : ∃ a l c, v = .slice a l c) :
    ∃ A c L, v = .slice A L.length c ∧ RdN W A L ∧ (A = none → c = 0 ∧ L = []) ∧ ((∀ n ∈ d.weights Tryz.prog 50, n ≤ reachBytes) → L.length * 64 ≤ 140737488351232 ∧ ∀ n ∈ L, n.tx.size ≤ 140737488351232) ∧ ∀ n ∈ L, SeW n := by
  obtain ⟨fuel, hf⟩ := h
  obtain ⟨a0, len0, cap0, rfl⟩ := hv
  have hr : reachBytes = 140737488351232 := by decide
  rcases Go.Deep.open_slice Tryz.underlying50 hf with ⟨hc, hx⟩ | ⟨a, len, cap, m, n, D, Pl, hc, _, hl, hm, hmm, hx, hall⟩
  · have hc : [Value.slice a0 len0 cap0] = [.slice none 0 0] := hc
    cases hc
    exact ⟨none, 0, [], rfl, fun q => absurd rfl q, fun _ => ⟨rfl, rfl⟩, fun _ => ⟨by simp, fun n hn => by cases hn⟩, fun n hn => by cases hn⟩
  · have hc : [Value.slice a0 len0 cap0] = [.slice (some a) len cap] := hc
    cases hc
    simp only [if_true] at hmm
    subst hmm
    have hlm : len0 ≤ m := hl
    have each : ∀ i, i < len0 → ∃ nd : Nd, (∀ j u, (ndV nd)[j]? = some u → W.cell? (a.add (i * 7 + j)) = some u) ∧ nd.tx.size ∈ (D i).weights Tryz.prog 57 ∧ SeW nd := by
      intro i hi
      obtain ⟨cs', h1, h2⟩ := hall i (by omega)
      rw [Tryz.cells57] at h1
      obtain ⟨_, hlen, hcell⟩ := World.cells?_some h1
      obtain ⟨nd, rfl, hw⟩ := node_in h2
      refine ⟨nd, fun j u hj => ?_, hw⟩
      have hj7 : j < 7 := by
        by_cases q : j < 7
        · exact q
        · rw [List.getElem?_eq_none (by show (ndV nd).length ≤ j; show 7 ≤ j; omega)] at hj; cases hj
      have e := hcell j (by rw [show (ndV nd).length = 7 from rfl] at *; omega)
      rw [Go.Deep.add_add] at e
      rw [e]
      exact hj
    obtain ⟨F, hF⟩ : ∃ F : Nat → Nd, ∀ i, i < len0 → (∀ j u, (ndV (F i))[j]? = some u → W.cell? (a.add (i * 7 + j)) = some u) ∧ (F i).tx.size ∈ (D i).weights Tryz.prog 57 ∧ SeW (F i) :=
      ⟨fun i => if h : i < len0 then Classical.choose (each i h) else ⟨0, 0, ⟨#[]⟩, 0, 0, 0, 0⟩, fun i h => by simp only [dif_pos h]; exact Classical.choose_spec (each i h)⟩
    refine ⟨some a, m, (List.range len0).map F, by simp, fun hne => ?_, fun q => (by cases q), fun hw => ?_, fun n hn => ?_⟩
    · have h0 : 0 < len0 := by
        by_cases q : 0 < len0
        · exact q
        · have : len0 = 0 := by omega
          subst this
          exact absurd rfl hne
      obtain ⟨g, off, spot⟩ := a
      have hspot : spot = none := by simpa [Addr.add] using World.cell?_spot ((hF 0 h0).1 0 _ rfl)
      subst hspot
      refine ⟨g, off, rfl, World.block_lt_of_cell? W _ ((hF 0 h0).1 0 _ rfl), fun j nd hj => ?_⟩
      rw [List.getElem?_map] at hj
      have hj2 : j < len0 := by
        by_cases q : j < len0
        · exact q
        · rw [List.getElem?_eq_none (by simp; omega)] at hj; cases hj
      rw [List.getElem?_range hj2] at hj
      cases hj
      have key : ∀ i u, (ndV (F j))[i]? = some u → W.cell? ⟨g, off + j * 7 + i, none⟩ = some u := fun i u hu => by
        have e := (hF j hj2).1 i u hu
        rw [Addr.add_lit, ← Nat.add_assoc] at e
        exact e
      exact ⟨key 0 _ rfl, key 1 _ rfl, key 2 _ rfl, key 3 _ rfl, key 4 _ rfl, key 5 _ rfl, key 6 _ rfl⟩
    · have hd : d = .slice ((List.range len0).map D) ((List.range (m - len0)).map fun j => D (len0 + j)) := congrArg Prod.fst hx
      rw [hd] at hw
      simp only [DataW.weights, Tryz.underlying50] at hw
      refine ⟨?_, fun nd hnd => ?_⟩
      · have := hw _ (List.mem_cons_self ..)
        rw [Tryz.bytes57, hr] at this
        simp only [List.length_map, List.length_range] at this ⊢
        omega
      · obtain ⟨i, hi, rfl⟩ := List.mem_map.1 hnd
        have hi2 := List.mem_range.1 hi
        have := hw _ (List.mem_cons_of_mem _ (List.mem_append_left _ (weights_all _ 57 _ (D i) (List.mem_map.2 ⟨i, hi, rfl⟩) _ (hF i hi2).2.1)))
        rw [hr] at this
        exact this
    · obtain ⟨i, hi, rfl⟩ := List.mem_map.1 hn
      exact (hF i (List.mem_range.1 hi)).2.2
end Go.Proofs.YtbipjdgholdhcabGreat.T

namespace Go.Proofs.YtbipjdgholdhcabGreat.T
open Go.RowKit
theorem Below.grow {w w' : World} (hb : Below w.heap.size w w') (row : Option Nat) : w.grownBy w' row := ⟨hb.os, hb.tape, hb.output, hb.size, fun k hk _ => hb.block k hk⟩
theorem own_below {w w' : World} {base e size : Nat} {v : Value} {n : Nat} {xs : List Value} (h : w.ownsRow base e size v n xs) (hb : Below w.heap.size w w') : w'.ownsRow base e size v n xs := by
  refine h.kept (row := none) (Below.grow hb none) ?_
  cases h2 : v.ownBlock
  · exact .inl rfl
  · exact .inr (by simp)
theorem own_cut {w : World} {base e size g n cap : Nat} {xs : List Value} (h : w.ownsRow base e size (.slice (some ⟨g, 0, none⟩) n cap) n xs) {m : Nat} (hm : m ≤ n) : w.ownsRow base e size (.slice (some ⟨g, 0, none⟩) m cap) m (xs.take (m * size)) := by
  obtain ⟨h1, h2⟩ := h
  rcases h2 with ⟨h2, _⟩ | ⟨g', cap', cur, h3, h4, h5, h6, h7, h8, h9⟩
  · cases h2
  · cases h3
    have hmul : m * size ≤ n * size := Nat.mul_le_mul_right _ hm
    refine ⟨by rw [List.length_take]; omega, .inr ⟨g, cap, cur, rfl, h4, h5, by omega, h7, h8, ?_⟩⟩
    rw [← h9, List.take_take]
    congr 1
    omega

/-- All but some blocks stay. -/
structure Kp (X : Nat → Prop) (w w' : World) : Prop where
  os : w'.os = w.os
  tape : w'.tape = w.tape
  output : w'.output = w.output
  size : w.heap.size ≤ w'.heap.size
  block : ∀ b, b < w.heap.size → ¬ X b → w'.heap[b]? = w.heap[b]?
theorem own_kp {w w' : World} {X : Nat → Prop} {base e size : Nat} {v : Value} {n : Nat} {xs : List Value} (h : w.ownsRow base e size v n xs) (hk : Kp X w w') (hd : ∀ g, v.ownBlock = some g → ¬ X g) : w'.ownsRow base e size v n xs := by
  refine ⟨h.1, ?_⟩
  rcases h.2 with hn | ⟨g, cap, cur, rfl, hb, hgg, rest⟩
  · exact .inl hn
  · refine .inr ⟨g, cap, cur, rfl, hb, ?_, rest⟩
    rw [hk.block g (Array.getElem?_eq_some_iff.1 hgg).1 (hd g rfl)]
    exact hgg

theorem ptc_get (l : List Pt) (j : Nat) (p : Pt) (h : l[j]? = some p) : ∀ i, i < 3 → (ptc l)[j * 3 + i]? = (ptV p)[i]? := by
  induction l generalizing j with
  | nil => cases h
  | cons a l ih =>
    intro i hi
    have e : ptc (a :: l) = ptV a ++ ptc l := rfl
    rw [e]
    cases j with
    | zero =>
      cases h
      rw [Nat.zero_mul, Nat.zero_add, List.getElem?_append_left (by show i < 3; exact hi)]
    | succ j =>
      have h2 : l[j]? = some p := by simpa using h
      have e7 : (ptV a).length = 3 := rfl
      rw [List.getElem?_append_right (by rw [e7]; omega), e7, show (j + 1) * 3 + i - 3 = j * 3 + i from by omega]
      exact ih j h2 i hi
abbrev ptG (p : Pt) : Value := .agg #[.int .i64 p.1, .int .i64 p.2.1, .int .i64 p.2.2]
theorem info_parts {P : Program} {t : TypeId} {z : Option Value} {s b : Nat} (h : (P.info? t).map (fun i => (i.zero, i.size, i.bytes)) = some (z, s, b)) : ∃ i, P.info? t = some i ∧ i.zero = z ∧ i.size = s ∧ i.bytes = b := by
  cases hi : P.info? t with
  | none => rw [hi] at h; cases h
  | some i => rw [hi] at h; simp only [Option.map_some, Option.some.injEq, Prod.mk.injEq] at h; exact ⟨i, rfl, h.1, h.2.1, h.2.2⟩
theorem Tryz.info59 : (Tryz.prog.info? 130).map (fun i => (i.zero, i.size, i.bytes)) = some (some (.agg #[.int .i64 0, .int .i64 0, .int .i64 0]), 3, 24) := by kernel_rfl
theorem kp_below {X : Nat → Prop} {Bc : Nat} {w w4 wA : World} (h : Below Bc w w4) (hk : Kp X w4.drew wA) (hx : ∀ b, X b → Bc ≤ b) (hB : Bc ≤ w4.heap.size) : Below Bc w wA :=
  ⟨hk.os.trans h.drew.os, hk.tape.trans h.drew.tape, hk.output.trans h.drew.output, Nat.le_trans h.size hk.size, fun b hb => (hk.block b (Nat.lt_of_lt_of_le hb hB) (fun q => by have := hx b q; omega)).trans (h.block b hb)⟩
theorem own_drew {w : World} {base e size : Nat} {v : Value} {n : Nat} {xs : List Value} (h : w.ownsRow base e size v n xs) : w.drew.ownsRow base e size v n xs := own_below h ((Below.refl _ _).drew)
/-- What a function that is handed each node keeps to. -/
structure See (L : List Nd) (F : Nat) (caps : Array Value) (Bc B : Nat) (J : Nat → (Nat → Prop) → World → Prop) : Prop where
  kept : ∀ k X w w', J k X w → w.heap.size ≤ w'.heap.size → (∀ b, (b < B ∨ X b) → w'.heap[b]? = w.heap[b]?) → J k X w'
  far : ∀ k X w, J k X w → ∀ b, X b → Bc ≤ b ∧ b < w.heap.size
  call : ∀ k X w A c, J k X w → B ≤ w.heap.size → k < L.length → (∀ j, j ≤ k → er L j = 0) → RdP w A ((run L k).take (arN (opAt L k))).reverse → (∀ a, A = some a → ¬ X a.block) →
    Calls Tryz.prog F (#[ptG (pt L k), .slice A (arN (opAt L k)) c] ++ caps) w fun e w' => (∃ u, e = .returned u) ∧ ∃ X', J (k + 1) X' w' ∧ Kp X w w' ∧ ∀ b, X' b → X b ∨ w.heap.size ≤ b

structure AtT (L : List Nd) (J : Nat → (Nat → Prop) → World → Prop) (Bc : Nat) (w wr : World) (k : Nat) (X : Nat → Prop) (v : Value) : Prop where
  o : wr.ownsRow w.heap.size 130 3 v (run L k).length (ptc (run L k).reverse)
  j : J k X wr
  d : ∀ g, v.ownBlock = some g → ¬ X g
  b : Below Bc w wr
  e : ∀ j, j < k → er L j = 0
theorem AtT.below {L : List Nd} {F : Nat} {caps : Array Value} {J : Nat → (Nat → Prop) → World → Prop} {Bc : Nat} {w wr w2 : World} {k : Nat} {X : Nat → Prop} {v : Value} (h : AtT L J Bc w wr k X v) (hs : See L F caps Bc w.heap.size J) (hB : Bc ≤ w.heap.size) (hb : Below wr.heap.size wr w2) : AtT L J Bc w w2 k X v :=
  ⟨own_below h.o hb, hs.kept k X wr w2 h.j hb.size (fun b hx => hb.block b (by
    rcases hx with q | q
    · exact Nat.lt_of_lt_of_le q h.b.size
    · exact (hs.far _ _ _ h.j b q).2)), h.d, h.b.trans (hb.mono (Nat.le_trans hB h.b.size)), h.e⟩

set_option maxRecDepth 100000 in
set_option maxHeartbeats 16000000 in
theorem through_any (L : List Nd) (F : Nat) (caps : Array Value) (J : Nat → (Nat → Prop) → World → Prop) (Ap : Option Addr) (cp Bc : Nat) (hL : L.length ≤ 140737488355328) (hT : ∀ n ∈ L, n.tx.size ≤ 140737488355328) (w : World) (hB : Bc ≤ w.heap.size) (hp : RdN w Ap L) (hpb : L ≠ [] → ∀ a, Ap = some a → a.block < Bc) (he : ∀ args w, (callFunc F args).run Tryz.prog w = .ok (.enter F args) w) (hs : See L F caps Bc w.heap.size J) (X0 : Nat → Prop) (h0 : J 0 X0 w) :
    Calls Tryz.prog 78 #[.slice Ap L.length cp, .func (.func F) #[] caps] w fun e w' => e = .returned (.tuple #[.int .i64 (ck L).1, .int .i64 (ck L).2]) ∧ Below Bc w w' ∧ ∃ k X, J k X w' ∧ ((ck L).2 = 0 → k = L.length) := by
  by_cases hlong : 2048 < L.length
  · have HE := (show Hid (ck L = (0, 2)) from ck_long hlong)
    have z : (2048 : Int) < (L.length : Int) := by omega
    have HJ := (show Hid (J 0 X0 w) from h0)
    clear hT hp hpb hs h0 he
    go_enter Tryz.func78, Tryz.ntmps78
    go_wp2_with fail
    go_ret2
    exact ⟨by rw [HE.out]; rfl, Below.refl _ _, 0, X0, HJ.out, fun q => by rw [HE.out] at q; cases q⟩
  have z : ¬ (2048 : Int) < (L.length : Int) := by omega
  have HS := (show Hid (See L F caps Bc w.heap.size J) from hs)
  have HB := (show Hid (Bc ≤ w.heap.size) from hB)
  have HP := (show Hid (RdN w Ap L) from hp)
  have HPb := (show Hid (L ≠ [] → ∀ a, Ap = some a → a.block < Bc) from hpb)
  have HA := (show Hid (AtT L J Bc w w 0 X0 (.slice none 0 0)) from ⟨World.ownsRow_nil _ _ _ _, h0, fun g q => by simp [Value.ownBlock] at q, Below.refl _ _, fun j q => by omega⟩)
  have HG := (show Hid (∀ k, k < L.length → ∃ n, L[k]? = some n ∧ n.tx.size ≤ 140737488355328 ∧ L ≠ []) from fun k hk => ⟨_, List.getElem?_eq_getElem hk, hT _ (List.getElem_mem hk), by rintro rfl; simp at hk⟩)
  have HN := (show Hid (¬ 2048 < L.length) from hlong)
  clear hT hp hpb hs h0 hB hlong
  obtain ⟨i0, hinf, hz0, hz1, hz2⟩ := info_parts Tryz.info59
  go_enter Tryz.func78, Tryz.ntmps78
  go_wp2_with fail
  go_loopw [6, 17] (fun v t wr => ∃ k : Nat, ∃ X, k ≤ L.length ∧ t = .int .i64 k ∧ Hid (AtT L J Bc w wr k X v)) (fun _ t _ => L.length - (intOf t).toNat)
  case atStart => exact ⟨0, X0, by omega, by go_num, HA⟩
  case round =>
    obtain ⟨k, X, hk, rfl, HW⟩ := hrel
    clear HA
    by_cases hlt : k < L.length
    · obtain ⟨n, hn, htx, hne⟩ := HG.out k hlt
      obtain ⟨gp, op, rfl, lp, cl⟩ := HP.out hne
      have hgb := HPb.out hne _ rfl
      have HNn := (show Hid (L[k]? = some n) from hn)
      have HAl : Hid (∀ w, Calls Tryz.prog 87 #[ndG n] w fun e w' => e = .returned (.int .i64 (alE n)) ∧ Below w.heap.size w w') := fun w => alone_any n htx w
      have HAr : Hid (∀ w, Calls Tryz.prog 41 #[.int .i64 n.op] w fun e w' => e = .returned (.int .i64 (ar n.op)) ∧ w' = w) := fun w => arity_any n.op w
      obtain ⟨c0, c1, c2, c3, c4, c5, c6⟩ := (cl.same (HW.out.b.block gp hgb)) k n hn
      have z0 : (0 : Int) ≤ (k : Int) := by omega
      have z1 : (k : Int) < (L.length : Int) := by omega
      have HCl := (show Hid (NdL w gp op L) from cl)
      have HXlt := (show Hid (∀ b, X b → b < wr.heap.size) from fun b hb => (HS.out.far _ _ _ HW.out.j b hb).2)
      have hwr2 : wr.heap.size ≤ wr.heap.size := Nat.le_refl _
      clear hn hne cl HG
      go_wp2_with fail
      refine (HAl.out _).mono ?_
      rintro e w2 ⟨rfl, b2⟩
      clear HAl c0 c1 c2 c3 c4 c5 c6
      have HBox := (show Hid (NB w2 wr.heap.size 0 n) from (nb_new wr n).below b2)
      have HW2 := (show Hid (AtT L J Bc w w2 k X _) from HW.out.below HS.out HB.out ((below_box wr (ndO n)).trans (b2.mono (below_box _ _).size)))
      have hsz2 : wr.heap.size ≤ w2.heap.size := Nat.le_trans (below_box wr (ndO n)).size b2.size
      clear b2 HW hwr2
      have hJn := HN.out
      by_cases hal : alE n = 0
      · have ta : (alE n != 0) = false := by rw [hal]; rfl
        have hrn := arN_of hal
        have HQ : Hid (er L k = if (run L k).length < arN n.op then 42 else if 60 < (pt L k).2.2 then 4 else 0) := (by show er L k = _; rw [er_of HNn.out, if_neg (by rw [hal]; simp)])
        have hlen := run_len L k
        have har := ar_hi n.op
        obtain ⟨A, cA, hv, hAo⟩ : ∃ A c, u6 = .slice A (run L k).length c ∧ (A = none ∧ run L k = [] ∧ c = 0 ∨ ∃ g, A = some ⟨g, 0, none⟩ ∧ g < w2.heap.size ∧ (run L k).length ≤ c) := by
          rcases HW2.out.o.2 with ⟨q1, q2⟩ | ⟨g, cap, cur, q1, q2, q3, q4, _⟩
          · exact ⟨none, 0, by rw [q1, q2], .inl ⟨rfl, List.eq_nil_of_length_eq_zero q2, rfl⟩⟩
          · exact ⟨_, cap, q1, .inr ⟨g, rfl, (Array.getElem?_eq_some_iff.1 q3).1, q4⟩⟩
        subst hv
        have b0 := HBox.out.c0
        rw [← hrn] at HAr
        rw [← hrn] at har
        generalize hrl : (run L k).length = m at *
        have HRl := (show Hid ((run L k).length = m) from hrl)
        have HAo := (show Hid _ from hAo)
        clear hAo hal hrl hrn
        generalize alE n = ea at *
        by_cases hfew : m < arN n.op
        · have HE := (show Hid (ck L = (k, 42)) from (by
            show ck L = _
            have e : er L k = 42 := by rw [HQ.out, if_pos hfew]
            rw [ck_bad hJn hlt HW2.out.e (by rw [e]; decide), e]))
          have zf : decide ((m : Int) - (arN n.op : Int) < 0) = true := decide_eq_true (by omega)
          have HBb := (show Hid (Below Bc w w2) from HW2.out.b)
          have HJ := (show Hid (J k X w2) from HW2.out.j)
          clear HQ HW2 HNn HS HB HP HPb HN HRl HAo
          go_wp2_with fail
          refine (HAr.out _).mono ?_
          rintro e w2 ⟨rfl, rfl⟩
          clear HAr HBox
          generalize arN n.op = aa at *
          go_wp2_with fail
          go_ret2
          exact ⟨by rw [HE.out]; rfl, HBb.out, k, X, HJ.out, fun q => by rw [HE.out] at q; cases q⟩
        · obtain ⟨r, hr⟩ : ∃ r, r + arN n.op = m := ⟨m - arN n.op, by omega⟩
          have HM := (show Hid (er L k = if 60 < (pt L k).2.2 then 4 else 0) from (by show er L k = _; rw [HQ.out, if_neg hfew]))
          have hrd := run_bd hk HW2.out.e
          obtain ⟨xs, hxs⟩ : ∃ xs, ((run L k).take (arN n.op)).reverse = xs := ⟨_, rfl⟩
          have hxl : xs.length = arN n.op := by rw [← hxs, List.length_reverse, List.length_take, HRl.out]; omega
          have hxb : ∀ x ∈ xs, x.1 ≤ 2048 ∧ x.2.1 < L.length ∧ x.2.2 ≤ 100 := fun x hx => by
            rw [← hxs] at hx
            obtain ⟨q1, q2, q3, _⟩ := hrd x (List.mem_of_mem_take (List.mem_reverse.1 hx))
            exact ⟨by omega, by omega, by omega⟩
          have hpm : pw L k n.op xs xs.length = pt L k := by
            rw [hxl, ← hxs, pw_mk L k n.op (run L k) (by rw [HRl.out]; omega)]
            unfold pt
            rw [op_of HNn.out]
          obtain ⟨A2, hA2, hA2r, hA2b⟩ : ∃ A2, (if cA = r then A else Option.map (fun x => x.add (r * 3)) A) = A2 ∧ RdP w2 A2 xs ∧ ∀ a, A2 = some a → ¬ X a.block ∧ a.block < w2.heap.size := by
            refine ⟨_, rfl, ?_, ?_⟩
            · intro hx0
              have ha0 : 0 < arN n.op := by rw [← hxl]; exact List.length_pos_iff.2 hx0
              rcases HAo.out with ⟨q1, q2, q3⟩ | ⟨g, q1, q2, q3⟩
              · have := HRl.out; rw [q2] at this; simp at this; omega
              · have hc : ¬ cA = r := by omega
                rw [if_neg hc, q1]
                refine ⟨g, r * 3, by rw [Option.map_some, Addr.add_lit, Nat.zero_add], q2, ?_⟩
                intro j p hj
                have hcl := HW2.out.o.cells (g := g) (by rw [q1]; rfl)
                have hj2 : (run L k).reverse[r + j]? = some p := by
                  have := rev_drop (run L k) (arN n.op) (by rw [HRl.out]; omega)
                  rw [hxs, HRl.out, show m - arN n.op = r from by omega] at this
                  rw [← this, List.getElem?_drop] at hj
                  exact hj
                have key : ∀ i u, i < 3 → (ptV p)[i]? = some u → w2.cell? ⟨g, (r + j) * 3 + i, none⟩ = some u := fun i u hi hu => by
                  have := hcl ((r + j) * 3 + i) u (by rw [ptc_get _ _ _ hj2 i hi]; exact hu)
                  rwa [Addr.add_lit, Nat.zero_add] at this
                have e3 : r * 3 + j * 3 = (r + j) * 3 := by omega
                rw [e3]
                exact ⟨key 0 _ (by omega) rfl, key 1 _ (by omega) rfl, key 2 _ (by omega) rfl⟩
            · intro a ha
              rcases HAo.out with ⟨q1, q2, q3⟩ | ⟨g, q1, q2, q3⟩
              · rw [q1] at ha; split at ha <;> cases ha
              · rw [q1] at ha
                have hX := HW2.out.d g (by rw [q1]; rfl)
                split at ha
                · cases ha; exact ⟨hX, q2⟩
                · rw [Option.map_some, Addr.add_lit] at ha; cases ha; exact ⟨hX, q2⟩
          have HAb : Hid (∀ W, Below w2.heap.size w2 W → Calls Tryz.prog 88 #[.slice (some ⟨gp, op, none⟩) L.length cp, .int .i64 k, .slice A2 (arN n.op) (cA - r)] W fun e w' => e = .returned (ptG (pt L k)) ∧ Below W.heap.size W w') := fun W hW => by
            have h := above_any L (some ⟨gp, op, none⟩) cp k n HNn.out (by omega) A2 (cA - r) xs (by rw [hxl]; exact arN_le _) hxb W (fun _ => ⟨gp, op, rfl, Nat.lt_of_lt_of_le lp (Nat.le_trans HW2.out.b.size hW.size), (HCl.out.same (HW2.out.b.block gp hgb)).same (hW.block gp (Nat.lt_of_lt_of_le lp HW2.out.b.size))⟩) (hA2r.below hW (Nat.le_refl _))
            rw [hxl] at h
            rw [hxl] at hpm
            rw [hpm] at h
            exact h
          have HR2 := (show Hid (RdP w2 A2 xs ∧ ∀ a, A2 = some a → ¬ X a.block ∧ a.block < w2.heap.size) from ⟨hA2r, hA2b⟩)
          have HX := (show Hid (((run L k).take (arN n.op)).reverse = xs) from hxs)
          clear hA2r hA2b hxs hxb hrd hpm HQ hfew hxl
          have hsub : (m : Int) - (arN n.op : Int) = (r : Int) := by omega
          have hmr : m - r = arN n.op := by omega
          have zr : (r : Int) ≤ (m : Int) := by omega
          go_wp2_with fail
          refine (HAr.out _).mono ?_
          rintro e w2 ⟨rfl, rfl⟩
          clear HAr
          have HOp := (show Hid (opAt L k = n.op) from op_of HNn.out)
          have HAx := (show Hid (arN n.op ≤ 2 ∧ r + arN n.op = m) from ⟨arN_le _, hr⟩)
          clear hr
          generalize haa : arN n.op = aa at *
          have HAa := (show Hid (arN n.op = aa) from haa)
          clear haa
          go_wp2_with fail
          refine (HAb.out _ (Below.refl _ _)).mono ?_
          rintro e w3 ⟨rfl, b3⟩
          have hsz3 : w2.heap.size ≤ w3.heap.size := b3.size
          clear HAb
          have HB3 := (show Hid (Below w2.heap.size w2 (w3.alloc (.cells #[.int .i64 (pt L k).1, .int .i64 (pt L k).2.1, .int .i64 (pt L k).2.2] 130))) from b3.alloc b3.size _)
          have HP3 := (show Hid (PB (w3.alloc (.cells #[.int .i64 (pt L k).1, .int .i64 (pt L k).2.1, .int .i64 (pt L k).2.2] 130)) w3.heap.size (pt L k).1 (pt L k).2.1 (pt L k).2.2) from PB.new _ _ _ _)
          by_cases hd : 60 < (pt L k).2.2
          · have HE := (show Hid (ck L = (k, 4)) from (by
              show ck L = _
              have e : er L k = 4 := by rw [HM.out, if_pos hd]
              rw [ck_bad hJn hlt HW2.out.e (by rw [e]; decide), e]))
            have zd : (60 : Int) < ((pt L k).2.2 : Int) := by omega
            have HBb := (show Hid (Below Bc w (w3.alloc (.cells #[.int .i64 (pt L k).1, .int .i64 (pt L k).2.1, .int .i64 (pt L k).2.2] 130))) from HW2.out.b.trans (HB3.out.mono (Nat.le_trans HB.out HW2.out.b.size)))
            have HJ := (show Hid (J k X (w3.alloc (.cells #[.int .i64 (pt L k).1, .int .i64 (pt L k).2.1, .int .i64 (pt L k).2.2] 130))) from (HW2.out.below HS.out HB.out HB3.out).j)
            clear HW2 HNn HS HB HP HPb HN HRl HAo HBox HB3 HP3 HM HR2 HX HOp HAx HAa b0 b3 HCl hA2 hmr hd
            generalize pt L k = P at *
            go_wp2_with fail
            go_ret2
            exact ⟨by rw [HE.out]; rfl, HBb.out, k, X, HJ.out, fun q => by rw [HE.out] at q; cases q⟩
          · have HE0 := (show Hid (er L k = 0) from (by show er L k = _; rw [HM.out, if_neg hd]))
            have zd : ¬ (60 : Int) < ((pt L k).2.2 : Int) := by omega
            have HW3 := (show Hid (AtT L J Bc w _ k X _) from HW2.out.below HS.out HB.out HB3.out)
            have HR3 := (show Hid (RdP (w3.alloc (.cells #[.int .i64 (pt L k).1, .int .i64 (pt L k).2.1, .int .i64 (pt L k).2.2] 130)) A2 xs) from HR2.out.1.below HB3.out (Nat.le_refl _))
            have HD3 := (show Hid (∀ a, A2 = some a → ¬ X a.block) from fun a ha => (HR2.out.2 a ha).1)
            clear HR2 HM HNn HP HPb HCl b3 HW2
            have HPt := (show Hid (run L (k + 1) = pt L k :: (run L k).drop aa) from by show run L (k + 1) = _; rw [run_succ, HOp.out, HAa.out])
            have HCall : Hid (∀ W, Below (w3.alloc (.cells #[.int .i64 (pt L k).1, .int .i64 (pt L k).2.1, .int .i64 (pt L k).2.2] 130)).heap.size (w3.alloc (.cells #[.int .i64 (pt L k).1, .int .i64 (pt L k).2.1, .int .i64 (pt L k).2.2] 130)) W →
                Calls Tryz.prog F (#[ptG (pt L k), .slice A2 aa (cA - r)] ++ caps) W fun e w' => (∃ u, e = .returned u) ∧ ∃ X', J (k + 1) X' w' ∧ Kp X W w' ∧ ∀ b, X' b → X b ∨ W.heap.size ≤ b) := fun W hW => by
              have hat := HW3.out.below HS.out HB.out hW
              have h := HS.out.call k X W A2 (cA - r) hat.j hat.b.size hlt (fun j hj => by
                by_cases q : j < k
                · exact hat.e j q
                · obtain rfl : j = k := by omega
                  exact HE0.out) (by rw [HOp.out, HAa.out, HX.out]; exact HR3.out.below hW (Nat.le_refl _)) HD3.out
              rw [HOp.out, HAa.out] at h
              exact h
            have k0 := HP3.out.c0
            have k1 := HP3.out.c1
            have k2 := HP3.out.c2
            generalize hw4 : w3.alloc (.cells #[.int .i64 (pt L k).1, .int .i64 (pt L k).2.1, .int .i64 (pt L k).2.2] 130) = w4 at *
            clear HB3
            have HKb := (show Hid (∀ W, Kp X w4.drew W → PB W w3.heap.size (pt L k).1 (pt L k).2.1 (pt L k).2.2) from fun W hW => HP3.out.same (hW.block _ HP3.out.lt (fun q => by have := HXlt.out _ q; omega)))
            go_wp2_with fail
            go_region_held3 (fun W => W.cell? ⟨w3.heap.size, 0, none⟩ = some (.int .i64 (pt L k).1) ∧ W.cell? ⟨w3.heap.size, 1, none⟩ = some (.int .i64 (pt L k).2.1) ∧ W.cell? ⟨w3.heap.size, 2, none⟩ = some (.int .i64 (pt L k).2.2))
              (first | go_keep | exact ⟨(HKb.out _ hkp).c0, (HKb.out _ hkp).c1, (HKb.out _ hkp).c2⟩)
              ((with_reducible refine (HCall.out _ ((Below.refl _ _).drew)).mono ?_; rintro e wA ⟨⟨u, rfl⟩, X', hj, hkp, hx⟩))
            rename_i hHeld
            have HOw := (show Hid (wA.ownsRow w.heap.size 130 3 (.slice A m cA) m (ptc (run L k).reverse)) from own_kp (own_drew (by have ho := HW3.out.o; rw [HRl.out] at ho; exact ho)) hkp HW3.out.d)
            have HXx := (show Hid (∀ g, (Value.slice A m cA).ownBlock = some g → w.heap.size ≤ g ∧ g < wA.heap.size ∧ ¬ X' g) from fun g hg => by
              obtain ⟨q1, q2⟩ := HOw.out.lt g hg
              refine ⟨q1, q2, fun q => ?_⟩
              rcases hx g q with q | q
              · exact HW3.out.d g hg q
              · have := (HW3.out.o.lt g hg).2
                have e : w4.drew.heap.size = w4.heap.size := rfl
                omega)
            have HBA := (show Hid (Below Bc w wA) from kp_below HW3.out.b hkp (fun b q => (HS.out.far _ _ _ HW3.out.j b q).1) (Nat.le_trans HB.out HW3.out.b.size))
            have HPA := (show Hid (PB wA w3.heap.size (pt L k).1 (pt L k).2.1 (pt L k).2.2) from HKb.out _ hkp)
            have HJA := (show Hid (J (k + 1) X' wA) from hj)
            have HEe := (show Hid (∀ j, j < k + 1 → er L j = 0) from fun j hj => by
                by_cases q : j < k
                · exact HW3.out.e j q
                · obtain rfl : j = k := by omega
                  exact HE0.out)
            have HOc : Hid (wA.ownsRow w.heap.size 130 3 (.slice A r cA) r (ptc ((run L k).drop aa).reverse)) := by
              show wA.ownsRow _ _ _ _ _ _
              have hre := rev_take (run L k) aa (by rw [HRl.out]; omega)
              rw [HRl.out, show m - aa = r from by omega] at hre
              have hpt : (ptc (run L k).reverse).take (r * 3) = ptc ((run L k).drop aa).reverse := by
                rw [← hre]
                have e := ptc_append ((run L k).reverse.take r) ((run L k).reverse.drop r)
                rw [List.take_append_drop] at e
                rw [e, List.take_append_of_le_length (by rw [ptc_len, List.length_take, List.length_reverse, HRl.out]; omega)]
                exact List.take_of_length_le (by rw [ptc_len, List.length_take, List.length_reverse, HRl.out]; omega)
              rcases HAo.out with ⟨q1, q2, q3⟩ | ⟨g, q1, q2, q3⟩
              · have hm0 : m = 0 := by have := HRl.out; rw [q2] at this; simpa using this.symm
                have hr0 : r = 0 := by omega
                rw [q1, q2, q3, hr0]
                exact ⟨by simp [ptc], .inl ⟨rfl, rfl⟩⟩
              · have ho := HOw.out
                rw [q1] at ho ⊢
                have := own_cut ho (m := r) (by omega)
                rw [hpt] at this
                exact this
            clear hHeld hkp hx hj HKb HCall HW3 HOw HR3 HD3 HP3 HE0 HX hA2 hmr k0 k1 k2 hw4 HBox b0
            have zc : (r : Int) ≤ (cA : Int) := by
              rcases HAo.out with ⟨q1, q2, q3⟩ | ⟨g, q1, q2, q3⟩
              · have := HRl.out; rw [q2] at this; have hm0 : m = 0 := by simpa using this.symm
                omega
              · omega
            have hra : (if cA = 0 then A else Option.map (fun x => x.add 0) A) = A := by
              rcases HAo.out with ⟨q1, q2, q3⟩ | ⟨g, q1, q2, q3⟩
              · rw [q1]; split <;> rfl
              · rw [q1]; split
                · rfl
                · rw [Option.map_some, Addr.add_lit]
            have hrm : r ≤ 2048 := by omega
            have hO := HOc.out
            have hbs := HBA.out.size
            have k0 := HPA.out.c0
            have k1 := HPA.out.c1
            have k2 := HPA.out.c2
            have HK := (show Hid (∀ W, (wA.alloc (.cells #[.int .i64 (pt L k).1, .int .i64 (pt L k).2.1, .int .i64 (pt L k).2.2] 130)).drew.grownBy W (Value.slice A r cA).ownBlock → W.cell? ⟨w3.heap.size, 0, none⟩ = some (.int .i64 (pt L k).1) ∧ W.cell? ⟨w3.heap.size, 1, none⟩ = some (.int .i64 (pt L k).2.1) ∧ W.cell? ⟨w3.heap.size, 2, none⟩ = some (.int .i64 (pt L k).2.2)) from fun W hW => by
              have hne : some w3.heap.size ≠ (Value.slice A r cA).ownBlock := by
                rcases HAo.out with ⟨q1, q2, q3⟩ | ⟨g, q1, q2, q3⟩
                · rw [q1]; simp [Value.ownBlock]
                · rw [q1]; intro e
                  have e2 : w3.heap.size = g := Option.some.inj e
                  omega
              have hp := (HPA.out.alloc (.cells #[.int .i64 (pt L k).1, .int .i64 (pt L k).2.1, .int .i64 (pt L k).2.2] 130))
              have hp2 : PB W w3.heap.size (pt L k).1 (pt L k).2.1 (pt L k).2.2 := hp.same ((hW.block _ hp.lt hne))
              exact ⟨hp2.c0, hp2.c1, hp2.c2⟩)
            go_wp2_with fail
            go_region_held3 (fun W => W.cell? ⟨w3.heap.size, 0, none⟩ = some (.int .i64 (pt L k).1) ∧ W.cell? ⟨w3.heap.size, 1, none⟩ = some (.int .i64 (pt L k).2.1) ∧ W.cell? ⟨w3.heap.size, 2, none⟩ = some (.int .i64 (pt L k).2.2)) (first | go_keep | exact HK.out _ hgrow) ((refine step_append_lies _ (by rfl) _ _ _ (by rfl) w.heap.size 130 i0 _ 3 24 Tryz.underlying131 hinf hz0 hz1 hz2 rfl (by omega) _ _ (ptc ((run L k).drop aa).reverse) (by rfl) ((hO.alloc _).drew) ⟨wA.heap.size, 0, none⟩ 1 1 [.int .i64 (pt L k).1, .int .i64 (pt L k).2.1, .int .i64 (pt L k).2.2] (by rfl) (by rfl) (World.news_of_block (cs := #[.int .i64 (pt L k).1, .int .i64 (pt L k).2.1, .int .i64 (pt L k).2.2]) (t := 130) (fr := (0, 0)) (heap_alloc_new wA _)) (by simp [Value.oneCell']) (by omega) (by unfold maxLen; omega) (by omega) (by simp; omega) (wA.heap.size + 1) (by simp) ?_; intro g cap w5 hown1 hgrow hat hltg))
            all_goals
              have hob : (Value.slice A r cA).ownBlock = (Value.slice A m cA).ownBlock := by cases A <;> rfl
              rw [hob] at hgrow hat
              have hfar := HS.out.far _ _ _ HJA.out
              have HW5 := (show Hid (AtT L J Bc w w5 (k + 1) X' (.slice (some ⟨g, 0, none⟩) (r + 1) cap)) from (by
                have hrn : (run L (k + 1)).length = r + 1 := by rw [HPt.out, List.length_cons, List.length_drop, HRl.out]; omega
                have hg0 : ∀ j, (Value.slice A m cA).ownBlock = some j → w.heap.size ≤ j := fun j e => (HXx.out j e).1
                refine ⟨?_, ?_, ?_, ?_, HEe.out⟩
                · rw [hrn, HPt.out, List.reverse_cons, ptc_append]
                  exact hown1
                · refine HS.out.kept (k + 1) X' wA w5 HJA.out (Nat.le_trans (by simp) hgrow.size) (fun b hb => ?_)
                  have hlt : b < wA.heap.size := by
                    rcases hb with hb | hb
                    · omega
                    · exact (hfar b hb).2
                  have h1 := hgrow.block b (by show b < (wA.alloc (.cells #[.int .i64 (pt L k).1, .int .i64 (pt L k).2.1, .int .i64 (pt L k).2.2] 130)).heap.size; rw [World.size_alloc]; omega) (by
                    intro e
                    have h3 := HXx.out b e.symm
                    rcases hb with hb | hb
                    · omega
                    · exact h3.2.2 hb)
                  exact h1.trans ((below_box wA _).block b hlt)
                · intro j e q
                  have e2 : g = j := Option.some.inj e
                  subst e2
                  rcases hat with hat | hat
                  · exact (HXx.out g hat).2.2 q
                  · have := (hfar g q).2; omega
                · exact ((HBA.out.alloc (Nat.le_trans HB.out hbs) (.cells #[.int .i64 (pt L k).1, .int .i64 (pt L k).2.1, .int .i64 (pt L k).2.2] 130)).drew).grown hgrow (Nat.le_trans HB.out (Nat.le_trans hbs (below_box wA (.cells #[.int .i64 (pt L k).1, .int .i64 (pt L k).2.1, .int .i64 (pt L k).2.2] 130)).size)) (fun j e => Nat.le_trans HB.out (hg0 j e))))
              rename_i hHeld
              clear hHeld hown1 hgrow hat hltg hO HK hfar hob k0 k1 k2 HPA HJA HXx HOc HBA HEe hra zc HAo
              go_wp2_with fail
              go_roundw
              case rel => exact ⟨k + 1, X', by omega, by go_num, HW5⟩
              case measure => simp [intOf]; omega
      · have HE := (show Hid (ck L = (k, alE n)) from (by
          show ck L = _
          have e : er L k = alE n := by rw [er_of HNn.out, if_pos hal]
          rw [ck_bad hJn hlt HW2.out.e (by rw [e]; exact hal), e]))
        have ta : (alE n != 0) = true := by rw [bne, beq_eq_false_iff_ne.2 hal]; rfl
        have HBb := (show Hid (Below Bc w w2) from HW2.out.b)
        have HJ := (show Hid (J k X w2) from HW2.out.j)
        clear HW2 HNn HS HB HP HPb HN HBox HAr
        have HH := (show Hid (¬ alE n = 0) from hal)
        clear hal
        generalize alE n = ea at *
        go_wp2_with fail
        go_ret2
        exact ⟨by rw [HE.out]; rfl, HBb.out, k, X, HJ.out, fun q => by rw [HE.out] at q; exact absurd q HH.out⟩
    · obtain rfl : k = L.length := by omega
      have HE := (show Hid (ck L = if (run L L.length).length = 1 then (0, 0) else (L.length, 42)) from ck_end HN.out HW.out.e)
      obtain ⟨A, cA, hv⟩ : ∃ A c, u6 = .slice A (run L L.length).length c := by
        rcases HW.out.o.2 with ⟨q1, q2⟩ | ⟨g, cap, cur, q1, q2, q3, q4, _⟩
        · exact ⟨none, 0, by rw [q1, q2]⟩
        · exact ⟨_, cap, q1⟩
      subst hv
      have HJ := (show Hid (J L.length X wr) from HW.out.j)
      have HBw := (show Hid (Below Bc w wr) from HW.out.b)
      clear HW HS HB HP HPb HG HN
      generalize (run L L.length).length = m at *
      by_cases h1 : m = 1
      · have t1 : ((m : Int) != 1) = false := by rw [bne, beq_iff_eq.2 (by omega)]; rfl
        have HE2 := (show Hid (ck L = (0, 0)) from by show ck L = _; rw [HE.out, if_pos h1])
        clear h1 HE
        go_wp2_with fail
        go_ret2
        exact ⟨by rw [HE2.out]; rfl, HBw.out, L.length, X, HJ.out, fun _ => rfl⟩
      · have t1 : ((m : Int) != 1) = true := by rw [bne, beq_eq_false_iff_ne.2 (by omega)]; rfl
        have HE2 := (show Hid (ck L = (L.length, 42)) from by show ck L = _; rw [HE.out, if_neg h1])
        clear h1 HE
        go_wp2_with fail
        go_ret2
        exact ⟨by rw [HE2.out]; rfl, HBw.out, L.length, X, HJ.out, fun _ => rfl⟩
end Go.Proofs.YtbipjdgholdhcabGreat.T

namespace Go.Proofs.YtbipjdgholdhcabGreat.T
open Go.RowKit
theorem enters37 (args : Array Value) (w : World) : (callFunc 79 args).run Tryz.prog w = .ok (.enter 79 args) w := enters_of Tryz.func79 (by kernel_rfl) rfl args w
set_option maxRecDepth 100000 in
set_option maxHeartbeats 1000000 in
theorem check1_any (p : Pt) (v : Value) (w : World) : Calls Tryz.prog 79 #[ptG p, v] w fun e w' => (∃ u, e = .returned u) ∧ Below w.heap.size w w' := by
  have HB := (show Hid (Below w.heap.size w (w.alloc (.cells #[.int .i64 p.1, .int .i64 p.2.1, .int .i64 p.2.2] 130))) from below_box _ _)
  go_enter Tryz.func79, Tryz.ntmps79
  go_wp2_with fail
  go_end0
  exact ⟨⟨_, rfl⟩, HB.out⟩
theorem see37 (L : List Nd) (Bc B : Nat) : See L 79 #[] Bc B (fun _ X _ => ∀ b, ¬ X b) :=
  ⟨fun _ _ _ _ h _ _ => h, fun _ _ _ h b q => absurd q (h b), fun k X w A c h _ _ _ _ _ => (check1_any (pt L k) (.slice A (arN (opAt L k)) c) w).mono fun _e _w' ⟨he, hb⟩ => ⟨he, X, h, ⟨hb.os, hb.tape, hb.output, hb.size, fun b hlt _ => hb.block b hlt⟩, fun _b q => .inl q⟩⟩

set_option maxRecDepth 100000 in
set_option maxHeartbeats 1000000 in
theorem check_any (L : List Nd) (Ap : Option Addr) (cp : Nat) (hL : L.length ≤ 140737488355328) (hT : ∀ n ∈ L, n.tx.size ≤ 140737488355328) (w : World) (hp : RdN w Ap L) :
    Calls Tryz.prog 67 #[.slice Ap L.length cp] w fun e w' => e = .returned (.tuple #[.int .i64 (ck L).1, .int .i64 (ck L).2]) ∧ Below w.heap.size w w' := by
  have H : Hid (∀ _ : Unit, Calls Tryz.prog 78 #[.slice Ap L.length cp, .func (.func 79) #[] #[]] w fun e w' => e = .returned (.tuple #[.int .i64 (ck L).1, .int .i64 (ck L).2]) ∧ Below w.heap.size w w' ∧ ∃ (k : Nat) (X : Nat → Prop), (∀ b, ¬ X b) ∧ ((ck L).2 = 0 → k = L.length)) := (fun _ => through_any L 79 #[] (fun _ X _ => ∀ b, ¬ X b) Ap cp w.heap.size hL hT w (Nat.le_refl _) hp (fun hne a ha => by
    obtain ⟨g, o, e, lt, _⟩ := hp hne
    rw [e] at ha
    cases ha
    exact lt) enters37 (see37 L _ _) (fun _ => False) (fun _ q => q))
  clear hp hT hL
  go_enter Tryz.func67, Tryz.ntmps67
  go_wp2_with fail
  refine (H.out ()).mono ?_
  rintro e w2 ⟨rfl, b2, _⟩
  clear H
  have HB := (show Hid _ from b2)
  clear b2
  go_wp2_with fail
  go_ret2
  exact ⟨rfl, HB.out⟩
end Go.Proofs.YtbipjdgholdhcabGreat.T

namespace Go.Proofs.YtbipjdgholdhcabGreat.T
open Go.RowKit
def zN (op : Int) : Nd := ⟨op, 0, ⟨#[]⟩, 0, 0, 0, 0⟩
theorem rd_one (w : World) (n : Nd) : RdN (w.alloc (ndO n)) (some ⟨w.heap.size, 0, none⟩) [n] := fun _ => ⟨w.heap.size, 0, rfl, by rw [World.size_alloc]; omega, fun j m hj => by
  cases j with
  | zero => cases hj; exact nb_new w n
  | succ j => simp at hj⟩
theorem one_len (n : Nd) : [n].length ≤ 140737488355328 := by rw [List.length_singleton]; omega
end Go.Proofs.YtbipjdgholdhcabGreat.T

namespace Go.Proofs.YtbipjdgholdhcabGreat.T
open Go.RowKit
theorem Tryz.info43 : (Tryz.prog.info? 57).map (fun i => (i.zero, i.size, i.bytes)) = some (some (.agg #[.int .i64 0, .int .i64 0, .string ⟨#[]⟩, .int .u64 0, .int .u64 0, .int .u64 0, .int .u64 0]), 7, 64) := by kernel_rfl
abbrev zA : Value := .agg #[.int .i64 0, .int .i64 0, .string ⟨#[]⟩, .int .u64 0, .int .u64 0, .int .u64 0, .int .u64 0]
theorem own_empty (w : World) : (w.alloc (.cells #[] 57)).ownsRow w.heap.size 57 7 (.slice (some ⟨w.heap.size, 0, none⟩) 0 0) 0 [] :=
  ⟨rfl, .inr ⟨w.heap.size, 0, #[], rfl, Nat.le_refl _, heap_alloc_new w _, Nat.le_refl _, Nat.zero_le _, rfl, rfl⟩⟩
theorem ndc_get (L : List Nd) (j : Nat) (n : Nd) (h : L[j]? = some n) : ∀ i, i < 7 → (ndc L)[j * 7 + i]? = (ndV n)[i]? := by
  induction L generalizing j with
  | nil => cases h
  | cons a L ih =>
    intro i hi
    have e : ndc (a :: L) = ndV a ++ ndc L := rfl
    rw [e]
    cases j with
    | zero =>
      cases h
      rw [Nat.zero_mul, Nat.zero_add, List.getElem?_append_left (by show i < 7; exact hi)]
    | succ j =>
      have h2 : L[j]? = some n := by simpa using h
      have e7 : (ndV a).length = 7 := rfl
      rw [List.getElem?_append_right (by rw [e7]; omega), e7, show (j + 1) * 7 + i - 7 = j * 7 + i from by omega]
      exact ih j h2 i hi
theorem nd_one (n : Nd) : ∀ u ∈ ndV n, u.oneCell' = true := fun u hu => by
  simp only [ndV, List.mem_cons, List.not_mem_nil, or_false] at hu
  rcases hu with rfl | rfl | rfl | rfl | rfl | rfl | rfl <;> rfl
theorem ndc_cell (L : List Nd) : ∀ u ∈ ndc L, u.oneCell' = true := fun u hu => by
  obtain ⟨n, _, hn⟩ := List.mem_flatMap.1 hu
  exact nd_one n u hn
theorem own_ndl {W : World} {B g n cap : Nat} {L : List Nd} {xs : List Value} (h : W.ownsRow B 57 7 (.slice (some ⟨g, 0, none⟩) n cap) n (ndc L ++ xs)) : NdL W g 0 L := fun j nd hj => by
  have hc := h.cells (g := g) rfl
  have hjl : j < L.length := by
    by_cases q : j < L.length
    · exact q
    · rw [List.getElem?_eq_none (by omega)] at hj; cases hj
  have key : ∀ i u, i < 7 → (ndV nd)[i]? = some u → W.cell? ⟨g, 0 + j * 7 + i, none⟩ = some u := fun i u hi hu => by
    have := hc (j * 7 + i) u (by rw [List.getElem?_append_left (by rw [ndc_len]; omega), ndc_get L j nd hj i hi]; exact hu)
    rw [Addr.add_lit] at this
    rw [Nat.add_assoc]
    exact this
  exact ⟨key 0 _ (by omega) rfl, key 1 _ (by omega) rfl, key 2 _ (by omega) rfl, key 3 _ (by omega) rfl, key 4 _ (by omega) rfl, key 5 _ (by omega) rfl, key 6 _ (by omega) rfl⟩
theorem in_cells {W : World} {ad : Addr} {L : List Nd} (h : RdN W (some ad) L) : ∀ (j : Nat) u, (ndc L)[j]? = some u → W.cell? (ad.add j) = some u := fun j u hj => by
  have hlt : j < L.length * 7 := by
    by_cases q : j < L.length * 7
    · exact q
    · rw [List.getElem?_eq_none (by rw [ndc_len]; omega)] at hj; cases hj
  obtain ⟨g, o, e, _, hc⟩ := h (by rintro rfl; simp at hlt)
  cases e
  have hd : j = j / 7 * 7 + j % 7 := by omega
  obtain ⟨nd, hn⟩ : ∃ nd, L[j / 7]? = some nd := ⟨_, List.getElem?_eq_getElem (by omega)⟩
  rw [hd, ndc_get L _ _ hn _ (by omega)] at hj
  obtain ⟨c0, c1, c2, c3, c4, c5, c6⟩ := hc _ _ hn
  rw [Addr.add_lit]
  generalize j / 7 = a at *
  have h7 : j % 7 < 7 := by omega
  generalize j % 7 = b at *
  subst hd
  rw [← Nat.add_assoc]
  match b, h7, hj with
  | 0, _, hj => cases hj; exact c0
  | 1, _, hj => cases hj; exact c1
  | 2, _, hj => cases hj; exact c2
  | 3, _, hj => cases hj; exact c3
  | 4, _, hj => cases hj; exact c4
  | 5, _, hj => cases hj; exact c5
  | 6, _, hj => cases hj; exact c6
end Go.Proofs.YtbipjdgholdhcabGreat.T

namespace Go.Proofs.YtbipjdgholdhcabGreat.T
def atI (k : Nat) (st : List Pt) : Nat → Nat
  | 0 => k
  | i + 1 => match st[i]? with
    | some x => x.1
    | none => 0
def hI (L : List Nd) (op : Int) (a : Nat) (st : List Pt) : Nat → Nat
  | 0 => 0
  | i + 1 => match st[i]? with
    | some x => max (hI L op a st i) (if i + 1 = a ∧ a = 2 ∧ opAt L x.2.1 = op then x.2.2 - 1 else x.2.2)
    | none => hI L op a st i
theorem mk_pos (L : List Nd) (k : Nat) (op : Int) (st : List Pt) : 1 ≤ (mk L k op st).2.2 := by
  unfold mk
  split
  · exact Nat.le_refl _
  · split
    · split
      · show 1 ≤ max 1 _; omega
      · exact Nat.le_refl _
    · split
      · show 1 ≤ max (max 1 _) _; omega
      · exact Nat.le_refl _
theorem run_pos {L : List Nd} {k : Nat} (hk : k ≤ L.length) (h : ∀ j, j < k → er L j = 0) : ∀ x ∈ run L k, 1 ≤ x.2.2 := fun x hx => by
  obtain ⟨_, _, _, e⟩ := run_bd hk h x hx
  rw [e]
  exact mk_pos _ _ _ _
theorem chn_at (L : List Nd) (k : Nat) (st : List Pt) (h : Chn L k st) : ∀ i, i ≤ st.length → Chn L (atI k st i) (st.drop i) := by
  intro i
  induction i with
  | zero => intro _; exact h
  | succ i ih =>
    intro hi
    have c := ih (by omega)
    rw [List.drop_eq_getElem_cons (by omega)] at c
    show Chn L (match st[i]? with
      | some x => x.1
      | none => 0) _
    rw [List.getElem?_eq_getElem (by omega)]
    exact c.2.2.2
theorem pt_at (L : List Nd) (k : Nat) (op : Int) (st : List Pt) (h : arN op ≤ st.length) (hp : ∀ x ∈ st, 1 ≤ x.2.2) : mk L k op st = (atI k st (arN op), k, hI L op (arN op) st (arN op) + 1) := by
  have h2 := arN_le op
  unfold mk
  by_cases a0 : arN op = 0
  · rw [if_pos a0, a0]; rfl
  rw [if_neg a0]
  by_cases a1 : arN op = 1
  · rw [if_pos a1]
    rw [a1] at h ⊢
    cases st with
    | nil => simp at h
    | cons x r => simp [atI, hI]
  · rw [if_neg a1]
    have e2 : arN op = 2 := by omega
    rw [e2] at h ⊢
    cases st with
    | nil => simp at h
    | cons y r => cases r with
      | nil => simp at h
      | cons x r =>
        have hx := hp x (by simp)
        simp only [atI, hI, List.getElem?_cons_zero, List.getElem?_cons_succ]
        by_cases ho : opAt L x.2.1 = op
        · simp [ho]; omega
        · simp [ho]; omega
theorem hI_bd (L : List Nd) (op : Int) (a : Nat) (st : List Pt) (h : ∀ x ∈ st, x.2.2 ≤ 60) : ∀ i, hI L op a st i ≤ 60 := by
  intro i
  induction i with
  | zero => exact Nat.zero_le _
  | succ i ih =>
    rw [hI]
    split
    · next x hx =>
      have := h x (List.mem_of_getElem? hx)
      split <;> omega
    · exact ih
end Go.Proofs.YtbipjdgholdhcabGreat.T

namespace Go.Proofs.YtbipjdgholdhcabGreat.T
open Go.RowKit
set_option maxRecDepth 100000 in
set_option maxHeartbeats 8000000 in
theorem nameR_any (s : ByteArray) (hs : s.size ≤ 140737488355328) (w : World) : Calls Tryz.prog 18 #[.string s] w fun e w' => e = .returned (.bool (nmB s)) ∧ w' = w := by
  by_cases h0 : s.size = 0
  · have HE : Hid (nmB s = false) := nmB_f (fun h => by have := h.1; omega)
    have z0 : (s.size : Int) < 1 := by omega
    clear h0 hs
    go_enter Tryz.func18, Tryz.ntmps18
    go_wp2_with fail
    go_ret
    exact ⟨by rw [HE.out]; rfl, rfl⟩
  have z0 : ¬ (s.size : Int) < 1 := by omega
  by_cases h1 : 32 < s.size
  · have HE : Hid (nmB s = false) := nmB_f (fun h => by have := h.2.1; omega)
    have z1 : (32 : Int) < (s.size : Int) := by omega
    clear h0 hs
    go_enter Tryz.func18, Tryz.ntmps18
    go_wp2_with fail
    go_ret
    exact ⟨by rw [HE.out]; rfl, rfl⟩
  have z1 : ¬ (32 : Int) < (s.size : Int) := by omega
  have hp : 0 < s.size := by omega
  have zp : (0 : Int) < (s.size : Int) := by omega
  by_cases hd : (48 : Int) ≤ (s[0].toNat : Int) ∧ (s[0].toNat : Int) ≤ 57
  · obtain ⟨d1, d2⟩ := hd
    have HE : Hid (nmB s = false) := nmB_f (fun h => by have := h.2.2.1 hp; unfold dgB at this; rw [decide_eq_true d1, decide_eq_true d2] at this; cases this)
    go_enter Tryz.func18, Tryz.ntmps18
    go_wp2_with fail
    go_ret
    exact ⟨by rw [HE.out]; rfl, rfl⟩
  have HZ : Hid (dgB (s[0].toNat : Int) = false) := (by
    show dgB _ = _
    unfold dgB
    by_cases d1 : (48 : Int) ≤ (s[0].toNat : Int)
    · rw [decide_eq_false (fun d2 => hd ⟨d1, d2⟩), Bool.and_false]
    · rw [decide_eq_false d1, Bool.false_and])
  have HN : Hid ((∀ (j : Nat) (h : j < s.size), nmC (s[j].toNat : Int) = true) → nmB s = true) := fun h => nmB_t ⟨hp, by omega, fun _ => HZ.out, h⟩
  have HM : Hid (∀ (j : Nat) (h : j < s.size), nmC (s[j].toNat : Int) = false → nmB s = false) := fun j h e => nmB_f (fun q => by have := q.2.2.2 j h; rw [e] at this; cases this)
  clear HZ
  go_enter Tryz.func18, Tryz.ntmps18
  by_cases d1 : (48 : Int) ≤ (s[0].toNat : Int)
  · have d2 : ¬ (s[0].toNat : Int) ≤ 57 := fun d2 => hd ⟨d1, d2⟩
    have HX := (show Hid _ from hd)
    clear hd HX
    go_wp2_with fail
    go_loopw [3] (fun t wr => ∃ k : Nat, k ≤ s.size ∧ t = .int .i64 k ∧ wr = w ∧ Hid (∀ (j : Nat) (h : j < s.size), j < k → nmC (s[j].toNat : Int) = true)) (fun t _ => s.size - (intOf t).toNat)
    case atStart => exact ⟨0, by omega, by go_num, rfl, fun j h q => by omega⟩
    case round =>
      obtain ⟨k, hk, rfl, rfl, HI⟩ := hrel
      clear d1 d2
      by_cases hlt : k < s.size
      · have z3 : (0 : Int) ≤ (k : Int) := by omega
        have z4 : (k : Int) < (s.size : Int) := by omega
        have HC : Hid (nmC (s[k].toNat : Int) = (dgB (s[k].toNat : Int) || ltB (s[k].toNat : Int) || (s[k].toNat : Int) == 95)) := rfl
        have HG : Hid (nmC (s[k].toNat : Int) = true → ∀ (j : Nat) (h : j < s.size), j < k + 1 → nmC (s[j].toNat : Int) = true) := fun e j h q => by
          by_cases hj : j < k
          · exact HI.out j h hj
          · obtain rfl : j = k := by omega
            exact e
        have HM2 : Hid (nmC (s[k].toNat : Int) = false → nmB s = false) := HM.out k hlt
        clear HI HN HM
        by_cases r0 : (s[k].toNat : Int) < 48
        · have t0 : ¬ (97 : Int) ≤ (s[k].toNat : Int) := by omega
          have t1 : (s[k].toNat : Int) ≤ 122 := by omega
          have t2 : ¬ (65 : Int) ≤ (s[k].toNat : Int) := by omega
          have t3 : (s[k].toNat : Int) ≤ 90 := by omega
          have t4 : ¬ (48 : Int) ≤ (s[k].toNat : Int) := by omega
          have t5 : (s[k].toNat : Int) ≤ 57 := by omega
          have t6 : ((s[k].toNat : Int) == 95) = false := beq_eq_false_iff_ne.2 (by omega)
          have HV : Hid (nmC (s[k].toNat : Int) = false) := (by show nmC _ = _; rw [HC.out]; unfold dgB ltB; rw [t6]; simp [t0, t1, t2, t3, t4, t5])
          have HE : Hid (nmB s = false) := HM2.out HV.out
          clear HC HG HM2 HV
          go_wp2_with fail
          go_ret
          exact ⟨by rw [HE.out]; rfl, rfl⟩
        by_cases r1 : (s[k].toNat : Int) < 58
        · have t0 : ¬ (97 : Int) ≤ (s[k].toNat : Int) := by omega
          have t1 : (s[k].toNat : Int) ≤ 122 := by omega
          have t2 : ¬ (65 : Int) ≤ (s[k].toNat : Int) := by omega
          have t3 : (s[k].toNat : Int) ≤ 90 := by omega
          have t4 : (48 : Int) ≤ (s[k].toNat : Int) := by omega
          have t5 : (s[k].toNat : Int) ≤ 57 := by omega
          have t6 : ((s[k].toNat : Int) == 95) = false := beq_eq_false_iff_ne.2 (by omega)
          have HV : Hid (nmC (s[k].toNat : Int) = true) := (by show nmC _ = _; rw [HC.out]; unfold dgB ltB; rw [t6]; simp [t0, t1, t2, t3, t4, t5])
          have HI2 : Hid (∀ (j : Nat) (h : j < s.size), j < k + 1 → nmC (s[j].toNat : Int) = true) := HG.out HV.out
          clear HC HG HM2 HV
          go_wp2_with fail
          go_roundw
          case rel => exact ⟨k + 1, by omega, by go_num, trivial, HI2⟩
          case measure => simp [intOf]; omega
        by_cases r2 : (s[k].toNat : Int) < 65
        · have t0 : ¬ (97 : Int) ≤ (s[k].toNat : Int) := by omega
          have t1 : (s[k].toNat : Int) ≤ 122 := by omega
          have t2 : ¬ (65 : Int) ≤ (s[k].toNat : Int) := by omega
          have t3 : (s[k].toNat : Int) ≤ 90 := by omega
          have t4 : (48 : Int) ≤ (s[k].toNat : Int) := by omega
          have t5 : ¬ (s[k].toNat : Int) ≤ 57 := by omega
          have t6 : ((s[k].toNat : Int) == 95) = false := beq_eq_false_iff_ne.2 (by omega)
          have HV : Hid (nmC (s[k].toNat : Int) = false) := (by show nmC _ = _; rw [HC.out]; unfold dgB ltB; rw [t6]; simp [t0, t1, t2, t3, t4, t5])
          have HE : Hid (nmB s = false) := HM2.out HV.out
          clear HC HG HM2 HV
          go_wp2_with fail
          go_ret
          exact ⟨by rw [HE.out]; rfl, rfl⟩
        by_cases r3 : (s[k].toNat : Int) < 91
        · have t0 : ¬ (97 : Int) ≤ (s[k].toNat : Int) := by omega
          have t1 : (s[k].toNat : Int) ≤ 122 := by omega
          have t2 : (65 : Int) ≤ (s[k].toNat : Int) := by omega
          have t3 : (s[k].toNat : Int) ≤ 90 := by omega
          have t4 : (48 : Int) ≤ (s[k].toNat : Int) := by omega
          have t5 : ¬ (s[k].toNat : Int) ≤ 57 := by omega
          have t6 : ((s[k].toNat : Int) == 95) = false := beq_eq_false_iff_ne.2 (by omega)
          have HV : Hid (nmC (s[k].toNat : Int) = true) := (by show nmC _ = _; rw [HC.out]; unfold dgB ltB; rw [t6]; simp [t0, t1, t2, t3, t4, t5])
          have HI2 : Hid (∀ (j : Nat) (h : j < s.size), j < k + 1 → nmC (s[j].toNat : Int) = true) := HG.out HV.out
          clear HC HG HM2 HV
          go_wp2_with fail
          go_roundw
          case rel => exact ⟨k + 1, by omega, by go_num, trivial, HI2⟩
          case measure => simp [intOf]; omega
        by_cases r4 : (s[k].toNat : Int) < 95
        · have t0 : ¬ (97 : Int) ≤ (s[k].toNat : Int) := by omega
          have t1 : (s[k].toNat : Int) ≤ 122 := by omega
          have t2 : (65 : Int) ≤ (s[k].toNat : Int) := by omega
          have t3 : ¬ (s[k].toNat : Int) ≤ 90 := by omega
          have t4 : (48 : Int) ≤ (s[k].toNat : Int) := by omega
          have t5 : ¬ (s[k].toNat : Int) ≤ 57 := by omega
          have t6 : ((s[k].toNat : Int) == 95) = false := beq_eq_false_iff_ne.2 (by omega)
          have HV : Hid (nmC (s[k].toNat : Int) = false) := (by show nmC _ = _; rw [HC.out]; unfold dgB ltB; rw [t6]; simp [t0, t1, t2, t3, t4, t5])
          have HE : Hid (nmB s = false) := HM2.out HV.out
          clear HC HG HM2 HV
          go_wp2_with fail
          go_ret
          exact ⟨by rw [HE.out]; rfl, rfl⟩
        by_cases r5 : (s[k].toNat : Int) < 96
        · have t0 : ¬ (97 : Int) ≤ (s[k].toNat : Int) := by omega
          have t1 : (s[k].toNat : Int) ≤ 122 := by omega
          have t2 : (65 : Int) ≤ (s[k].toNat : Int) := by omega
          have t3 : ¬ (s[k].toNat : Int) ≤ 90 := by omega
          have t4 : (48 : Int) ≤ (s[k].toNat : Int) := by omega
          have t5 : ¬ (s[k].toNat : Int) ≤ 57 := by omega
          have t6 : ((s[k].toNat : Int) == 95) = true := beq_iff_eq.2 (by omega)
          have HV : Hid (nmC (s[k].toNat : Int) = true) := (by show nmC _ = _; rw [HC.out]; unfold dgB ltB; rw [t6]; simp [t0, t1, t2, t3, t4, t5])
          have HI2 : Hid (∀ (j : Nat) (h : j < s.size), j < k + 1 → nmC (s[j].toNat : Int) = true) := HG.out HV.out
          clear HC HG HM2 HV
          go_wp2_with fail
          go_roundw
          case rel => exact ⟨k + 1, by omega, by go_num, trivial, HI2⟩
          case measure => simp [intOf]; omega
        by_cases r6 : (s[k].toNat : Int) < 97
        · have t0 : ¬ (97 : Int) ≤ (s[k].toNat : Int) := by omega
          have t1 : (s[k].toNat : Int) ≤ 122 := by omega
          have t2 : (65 : Int) ≤ (s[k].toNat : Int) := by omega
          have t3 : ¬ (s[k].toNat : Int) ≤ 90 := by omega
          have t4 : (48 : Int) ≤ (s[k].toNat : Int) := by omega
          have t5 : ¬ (s[k].toNat : Int) ≤ 57 := by omega
          have t6 : ((s[k].toNat : Int) == 95) = false := beq_eq_false_iff_ne.2 (by omega)
          have HV : Hid (nmC (s[k].toNat : Int) = false) := (by show nmC _ = _; rw [HC.out]; unfold dgB ltB; rw [t6]; simp [t0, t1, t2, t3, t4, t5])
          have HE : Hid (nmB s = false) := HM2.out HV.out
          clear HC HG HM2 HV
          go_wp2_with fail
          go_ret
          exact ⟨by rw [HE.out]; rfl, rfl⟩
        by_cases r7 : (s[k].toNat : Int) < 123
        · have t0 : (97 : Int) ≤ (s[k].toNat : Int) := by omega
          have t1 : (s[k].toNat : Int) ≤ 122 := by omega
          have t2 : (65 : Int) ≤ (s[k].toNat : Int) := by omega
          have t3 : ¬ (s[k].toNat : Int) ≤ 90 := by omega
          have t4 : (48 : Int) ≤ (s[k].toNat : Int) := by omega
          have t5 : ¬ (s[k].toNat : Int) ≤ 57 := by omega
          have t6 : ((s[k].toNat : Int) == 95) = false := beq_eq_false_iff_ne.2 (by omega)
          have HV : Hid (nmC (s[k].toNat : Int) = true) := (by show nmC _ = _; rw [HC.out]; unfold dgB ltB; rw [t6]; simp [t0, t1, t2, t3, t4, t5])
          have HI2 : Hid (∀ (j : Nat) (h : j < s.size), j < k + 1 → nmC (s[j].toNat : Int) = true) := HG.out HV.out
          clear HC HG HM2 HV
          go_wp2_with fail
          go_roundw
          case rel => exact ⟨k + 1, by omega, by go_num, trivial, HI2⟩
          case measure => simp [intOf]; omega
        have t0 : (97 : Int) ≤ (s[k].toNat : Int) := by omega
        have t1 : ¬ (s[k].toNat : Int) ≤ 122 := by omega
        have t2 : (65 : Int) ≤ (s[k].toNat : Int) := by omega
        have t3 : ¬ (s[k].toNat : Int) ≤ 90 := by omega
        have t4 : (48 : Int) ≤ (s[k].toNat : Int) := by omega
        have t5 : ¬ (s[k].toNat : Int) ≤ 57 := by omega
        have t6 : ((s[k].toNat : Int) == 95) = false := beq_eq_false_iff_ne.2 (by omega)
        have HV : Hid (nmC (s[k].toNat : Int) = false) := (by show nmC _ = _; rw [HC.out]; unfold dgB ltB; rw [t6]; simp [t0, t1, t2, t3, t4, t5])
        have HE : Hid (nmB s = false) := HM2.out HV.out
        clear HC HG HM2 HV
        go_wp2_with fail
        go_ret
        exact ⟨by rw [HE.out]; rfl, rfl⟩
      · obtain rfl : k = s.size := by omega
        have HE : Hid (nmB s = true) := HN.out (fun j h => HI.out j h h)
        clear HN HM HI
        go_wp2_with fail
        go_ret
        exact ⟨by rw [HE.out]; rfl, rfl⟩
  · skip
    have HX := (show Hid _ from hd)
    clear hd HX
    go_wp2_with fail
    go_loopw [3] (fun t wr => ∃ k : Nat, k ≤ s.size ∧ t = .int .i64 k ∧ wr = w ∧ Hid (∀ (j : Nat) (h : j < s.size), j < k → nmC (s[j].toNat : Int) = true)) (fun t _ => s.size - (intOf t).toNat)
    case atStart => exact ⟨0, by omega, by go_num, rfl, fun j h q => by omega⟩
    case round =>
      obtain ⟨k, hk, rfl, rfl, HI⟩ := hrel
      clear d1
      by_cases hlt : k < s.size
      · have z3 : (0 : Int) ≤ (k : Int) := by omega
        have z4 : (k : Int) < (s.size : Int) := by omega
        have HC : Hid (nmC (s[k].toNat : Int) = (dgB (s[k].toNat : Int) || ltB (s[k].toNat : Int) || (s[k].toNat : Int) == 95)) := rfl
        have HG : Hid (nmC (s[k].toNat : Int) = true → ∀ (j : Nat) (h : j < s.size), j < k + 1 → nmC (s[j].toNat : Int) = true) := fun e j h q => by
          by_cases hj : j < k
          · exact HI.out j h hj
          · obtain rfl : j = k := by omega
            exact e
        have HM2 : Hid (nmC (s[k].toNat : Int) = false → nmB s = false) := HM.out k hlt
        clear HI HN HM
        by_cases r0 : (s[k].toNat : Int) < 48
        · have t0 : ¬ (97 : Int) ≤ (s[k].toNat : Int) := by omega
          have t1 : (s[k].toNat : Int) ≤ 122 := by omega
          have t2 : ¬ (65 : Int) ≤ (s[k].toNat : Int) := by omega
          have t3 : (s[k].toNat : Int) ≤ 90 := by omega
          have t4 : ¬ (48 : Int) ≤ (s[k].toNat : Int) := by omega
          have t5 : (s[k].toNat : Int) ≤ 57 := by omega
          have t6 : ((s[k].toNat : Int) == 95) = false := beq_eq_false_iff_ne.2 (by omega)
          have HV : Hid (nmC (s[k].toNat : Int) = false) := (by show nmC _ = _; rw [HC.out]; unfold dgB ltB; rw [t6]; simp [t0, t1, t2, t3, t4, t5])
          have HE : Hid (nmB s = false) := HM2.out HV.out
          clear HC HG HM2 HV
          go_wp2_with fail
          go_ret
          exact ⟨by rw [HE.out]; rfl, rfl⟩
        by_cases r1 : (s[k].toNat : Int) < 58
        · have t0 : ¬ (97 : Int) ≤ (s[k].toNat : Int) := by omega
          have t1 : (s[k].toNat : Int) ≤ 122 := by omega
          have t2 : ¬ (65 : Int) ≤ (s[k].toNat : Int) := by omega
          have t3 : (s[k].toNat : Int) ≤ 90 := by omega
          have t4 : (48 : Int) ≤ (s[k].toNat : Int) := by omega
          have t5 : (s[k].toNat : Int) ≤ 57 := by omega
          have t6 : ((s[k].toNat : Int) == 95) = false := beq_eq_false_iff_ne.2 (by omega)
          have HV : Hid (nmC (s[k].toNat : Int) = true) := (by show nmC _ = _; rw [HC.out]; unfold dgB ltB; rw [t6]; simp [t0, t1, t2, t3, t4, t5])
          have HI2 : Hid (∀ (j : Nat) (h : j < s.size), j < k + 1 → nmC (s[j].toNat : Int) = true) := HG.out HV.out
          clear HC HG HM2 HV
          go_wp2_with fail
          go_roundw
          case rel => exact ⟨k + 1, by omega, by go_num, trivial, HI2⟩
          case measure => simp [intOf]; omega
        by_cases r2 : (s[k].toNat : Int) < 65
        · have t0 : ¬ (97 : Int) ≤ (s[k].toNat : Int) := by omega
          have t1 : (s[k].toNat : Int) ≤ 122 := by omega
          have t2 : ¬ (65 : Int) ≤ (s[k].toNat : Int) := by omega
          have t3 : (s[k].toNat : Int) ≤ 90 := by omega
          have t4 : (48 : Int) ≤ (s[k].toNat : Int) := by omega
          have t5 : ¬ (s[k].toNat : Int) ≤ 57 := by omega
          have t6 : ((s[k].toNat : Int) == 95) = false := beq_eq_false_iff_ne.2 (by omega)
          have HV : Hid (nmC (s[k].toNat : Int) = false) := (by show nmC _ = _; rw [HC.out]; unfold dgB ltB; rw [t6]; simp [t0, t1, t2, t3, t4, t5])
          have HE : Hid (nmB s = false) := HM2.out HV.out
          clear HC HG HM2 HV
          go_wp2_with fail
          go_ret
          exact ⟨by rw [HE.out]; rfl, rfl⟩
        by_cases r3 : (s[k].toNat : Int) < 91
        · have t0 : ¬ (97 : Int) ≤ (s[k].toNat : Int) := by omega
          have t1 : (s[k].toNat : Int) ≤ 122 := by omega
          have t2 : (65 : Int) ≤ (s[k].toNat : Int) := by omega
          have t3 : (s[k].toNat : Int) ≤ 90 := by omega
          have t4 : (48 : Int) ≤ (s[k].toNat : Int) := by omega
          have t5 : ¬ (s[k].toNat : Int) ≤ 57 := by omega
          have t6 : ((s[k].toNat : Int) == 95) = false := beq_eq_false_iff_ne.2 (by omega)
          have HV : Hid (nmC (s[k].toNat : Int) = true) := (by show nmC _ = _; rw [HC.out]; unfold dgB ltB; rw [t6]; simp [t0, t1, t2, t3, t4, t5])
          have HI2 : Hid (∀ (j : Nat) (h : j < s.size), j < k + 1 → nmC (s[j].toNat : Int) = true) := HG.out HV.out
          clear HC HG HM2 HV
          go_wp2_with fail
          go_roundw
          case rel => exact ⟨k + 1, by omega, by go_num, trivial, HI2⟩
          case measure => simp [intOf]; omega
        by_cases r4 : (s[k].toNat : Int) < 95
        · have t0 : ¬ (97 : Int) ≤ (s[k].toNat : Int) := by omega
          have t1 : (s[k].toNat : Int) ≤ 122 := by omega
          have t2 : (65 : Int) ≤ (s[k].toNat : Int) := by omega
          have t3 : ¬ (s[k].toNat : Int) ≤ 90 := by omega
          have t4 : (48 : Int) ≤ (s[k].toNat : Int) := by omega
          have t5 : ¬ (s[k].toNat : Int) ≤ 57 := by omega
          have t6 : ((s[k].toNat : Int) == 95) = false := beq_eq_false_iff_ne.2 (by omega)
          have HV : Hid (nmC (s[k].toNat : Int) = false) := (by show nmC _ = _; rw [HC.out]; unfold dgB ltB; rw [t6]; simp [t0, t1, t2, t3, t4, t5])
          have HE : Hid (nmB s = false) := HM2.out HV.out
          clear HC HG HM2 HV
          go_wp2_with fail
          go_ret
          exact ⟨by rw [HE.out]; rfl, rfl⟩
        by_cases r5 : (s[k].toNat : Int) < 96
        · have t0 : ¬ (97 : Int) ≤ (s[k].toNat : Int) := by omega
          have t1 : (s[k].toNat : Int) ≤ 122 := by omega
          have t2 : (65 : Int) ≤ (s[k].toNat : Int) := by omega
          have t3 : ¬ (s[k].toNat : Int) ≤ 90 := by omega
          have t4 : (48 : Int) ≤ (s[k].toNat : Int) := by omega
          have t5 : ¬ (s[k].toNat : Int) ≤ 57 := by omega
          have t6 : ((s[k].toNat : Int) == 95) = true := beq_iff_eq.2 (by omega)
          have HV : Hid (nmC (s[k].toNat : Int) = true) := (by show nmC _ = _; rw [HC.out]; unfold dgB ltB; rw [t6]; simp [t0, t1, t2, t3, t4, t5])
          have HI2 : Hid (∀ (j : Nat) (h : j < s.size), j < k + 1 → nmC (s[j].toNat : Int) = true) := HG.out HV.out
          clear HC HG HM2 HV
          go_wp2_with fail
          go_roundw
          case rel => exact ⟨k + 1, by omega, by go_num, trivial, HI2⟩
          case measure => simp [intOf]; omega
        by_cases r6 : (s[k].toNat : Int) < 97
        · have t0 : ¬ (97 : Int) ≤ (s[k].toNat : Int) := by omega
          have t1 : (s[k].toNat : Int) ≤ 122 := by omega
          have t2 : (65 : Int) ≤ (s[k].toNat : Int) := by omega
          have t3 : ¬ (s[k].toNat : Int) ≤ 90 := by omega
          have t4 : (48 : Int) ≤ (s[k].toNat : Int) := by omega
          have t5 : ¬ (s[k].toNat : Int) ≤ 57 := by omega
          have t6 : ((s[k].toNat : Int) == 95) = false := beq_eq_false_iff_ne.2 (by omega)
          have HV : Hid (nmC (s[k].toNat : Int) = false) := (by show nmC _ = _; rw [HC.out]; unfold dgB ltB; rw [t6]; simp [t0, t1, t2, t3, t4, t5])
          have HE : Hid (nmB s = false) := HM2.out HV.out
          clear HC HG HM2 HV
          go_wp2_with fail
          go_ret
          exact ⟨by rw [HE.out]; rfl, rfl⟩
        by_cases r7 : (s[k].toNat : Int) < 123
        · have t0 : (97 : Int) ≤ (s[k].toNat : Int) := by omega
          have t1 : (s[k].toNat : Int) ≤ 122 := by omega
          have t2 : (65 : Int) ≤ (s[k].toNat : Int) := by omega
          have t3 : ¬ (s[k].toNat : Int) ≤ 90 := by omega
          have t4 : (48 : Int) ≤ (s[k].toNat : Int) := by omega
          have t5 : ¬ (s[k].toNat : Int) ≤ 57 := by omega
          have t6 : ((s[k].toNat : Int) == 95) = false := beq_eq_false_iff_ne.2 (by omega)
          have HV : Hid (nmC (s[k].toNat : Int) = true) := (by show nmC _ = _; rw [HC.out]; unfold dgB ltB; rw [t6]; simp [t0, t1, t2, t3, t4, t5])
          have HI2 : Hid (∀ (j : Nat) (h : j < s.size), j < k + 1 → nmC (s[j].toNat : Int) = true) := HG.out HV.out
          clear HC HG HM2 HV
          go_wp2_with fail
          go_roundw
          case rel => exact ⟨k + 1, by omega, by go_num, trivial, HI2⟩
          case measure => simp [intOf]; omega
        have t0 : (97 : Int) ≤ (s[k].toNat : Int) := by omega
        have t1 : ¬ (s[k].toNat : Int) ≤ 122 := by omega
        have t2 : (65 : Int) ≤ (s[k].toNat : Int) := by omega
        have t3 : ¬ (s[k].toNat : Int) ≤ 90 := by omega
        have t4 : (48 : Int) ≤ (s[k].toNat : Int) := by omega
        have t5 : ¬ (s[k].toNat : Int) ≤ 57 := by omega
        have t6 : ((s[k].toNat : Int) == 95) = false := beq_eq_false_iff_ne.2 (by omega)
        have HV : Hid (nmC (s[k].toNat : Int) = false) := (by show nmC _ = _; rw [HC.out]; unfold dgB ltB; rw [t6]; simp [t0, t1, t2, t3, t4, t5])
        have HE : Hid (nmB s = false) := HM2.out HV.out
        clear HC HG HM2 HV
        go_wp2_with fail
        go_ret
        exact ⟨by rw [HE.out]; rfl, rfl⟩
      · obtain rfl : k = s.size := by omega
        have HE : Hid (nmB s = true) := HN.out (fun j h => HI.out j h h)
        clear HN HM HI
        go_wp2_with fail
        go_ret
        exact ⟨by rw [HE.out]; rfl, rfl⟩

set_option maxRecDepth 100000 in
set_option maxHeartbeats 4000000 in
theorem templateR_any (s : ByteArray) (hs : s.size ≤ 140737488355328) (w : World) : Calls Tryz.prog 86 #[.string s] w fun e w' => e = .returned (.bool (tmB s)) ∧ w' = w := by
  by_cases h1 : 255 < s.size
  · have HE : Hid (tmB s = false) := (by show tmB s = _; unfold tmB; rw [if_neg (by omega)])
    have z1 : (255 : Int) < (s.size : Int) := by omega
    clear hs
    go_enter Tryz.func86, Tryz.ntmps86
    go_wp2_with fail
    go_ret
    exact ⟨by rw [HE.out]; rfl, rfl⟩
  have z1 : ¬ (255 : Int) < (s.size : Int) := by omega
  have HB : Hid (tmB s = tmGo s s.size 0) := (by show tmB s = _; unfold tmB; rw [if_pos (by omega)])
  go_enter Tryz.func86, Tryz.ntmps86
  go_wp2_with fail
  go_loopw [3] (fun t wr => ∃ k : Nat, k ≤ s.size ∧ t = .int .i64 k ∧ wr = w ∧ Hid (∃ m, s.size ≤ k + m ∧ tmB s = tmGo s m k)) (fun t _ => s.size - (intOf t).toNat)
  case atStart => exact ⟨0, by omega, by go_num, rfl, ⟨s.size, by omega, HB.out⟩⟩
  case round =>
    obtain ⟨k, hk, rfl, rfl, HI⟩ := hrel
    clear HB
    obtain ⟨m, hm, HJ⟩ := HI.out
    have HJ := (show Hid _ from HJ)
    clear HI
    by_cases hlt : k < s.size
    · have z3 : (0 : Int) ≤ (k : Int) := by omega
      have z4 : (k : Int) < (s.size : Int) := by omega
      by_cases h37 : (s[k].toNat : Int) = 37
      · have e37 : ((s[k].toNat : Int) == 37) = true := beq_iff_eq.2 h37
        by_cases h2 : k + 1 < s.size
        · have z5 : ((k : Int) + 1 == (s.size : Int)) = false := beq_eq_false_iff_ne.2 (by omega)
          have z6 : (k : Int) + 1 < (s.size : Int) := by omega
          by_cases g37 : (s[k + 1].toNat : Int) = 37
          · have f37 : ((s[k + 1].toNat : Int) != 37) = false := by rw [bne, beq_iff_eq.2 g37]; rfl
            have HK : Hid (∃ m2, s.size ≤ k + 2 + m2 ∧ tmB s = tmGo s m2 (k + 2)) := by
              obtain ⟨m2, u, v⟩ := tm_two hlt hm h37 h2 (.inl g37)
              exact ⟨m2, u, HJ.out.trans v⟩
            clear HJ h37 g37
            go_wp2_with fail
            go_roundw
            case rel => exact ⟨k + 2, by omega, by go_num, trivial, HK⟩
            case measure => simp [intOf]; omega
          · have f37 : ((s[k + 1].toNat : Int) != 37) = true := by rw [bne, beq_eq_false_iff_ne.2 g37]; rfl
            by_cases d1 : (s[k + 1].toNat : Int) < 48
            · have HE : Hid (tmB s = false) := HJ.out.trans (tm_bad hlt hm h37 h2 g37 (by unfold dgB; rw [decide_eq_false (by omega)]; rfl))
              clear HJ h37 g37
              go_wp2_with fail
              go_ret
              exact ⟨by rw [HE.out]; rfl, rfl⟩
            · by_cases d2 : 57 < (s[k + 1].toNat : Int)
              · have HE : Hid (tmB s = false) := HJ.out.trans (tm_bad hlt hm h37 h2 g37 (by unfold dgB; rw [decide_eq_false (p := (s[k + 1].toNat : Int) ≤ 57) (by omega), Bool.and_false]))
                clear HJ h37 g37
                go_wp2_with fail
                go_ret
                exact ⟨by rw [HE.out]; rfl, rfl⟩
              · have HK : Hid (∃ m2, s.size ≤ k + 2 + m2 ∧ tmB s = tmGo s m2 (k + 2)) := by
                  obtain ⟨m2, u, v⟩ := tm_two hlt hm h37 h2 (.inr (by unfold dgB; rw [decide_eq_true (by omega), decide_eq_true (by omega)]; rfl))
                  exact ⟨m2, u, HJ.out.trans v⟩
                clear HJ h37 g37
                go_wp2_with fail
                go_roundw
                case rel => exact ⟨k + 2, by omega, by go_num, trivial, HK⟩
                case measure => simp [intOf]; omega
        · have z5 : ((k : Int) + 1 == (s.size : Int)) = true := beq_iff_eq.2 (by omega)
          have HE : Hid (tmB s = false) := HJ.out.trans (tm_cut hlt hm h37 h2)
          clear HJ h37
          go_wp2_with fail
          go_ret
          exact ⟨by rw [HE.out]; rfl, rfl⟩
      · have e37 : ((s[k].toNat : Int) == 37) = false := beq_eq_false_iff_ne.2 h37
        have HK : Hid (∃ m2, s.size ≤ k + 1 + m2 ∧ tmB s = tmGo s m2 (k + 1)) := by
          obtain ⟨m2, u, v⟩ := tm_plain hlt hm h37
          exact ⟨m2, u, HJ.out.trans v⟩
        clear HJ h37
        go_wp2_with fail
        go_roundw
        case rel => exact ⟨k + 1, by omega, by go_num, trivial, HK⟩
        case measure => simp [intOf]; omega
    · obtain rfl : k = s.size := by omega
      have HE : Hid (tmB s = true) := HJ.out.trans (tm_end s m _ (by omega))
      clear HJ
      go_wp2_with fail
      go_ret
      exact ⟨by rw [HE.out]; rfl, rfl⟩
end Go.Proofs.YtbipjdgholdhcabGreat.T
