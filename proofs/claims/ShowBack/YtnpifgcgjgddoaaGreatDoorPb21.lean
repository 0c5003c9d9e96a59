/- ShowBack holds of every pattern and every grammar: what is told of it is read as it; the laid tables are tied to the program's text. -/
import Derived.Test.YtnpifgcgjgddoaaGreatDoorPb20
set_option maxRecDepth 100000
set_option maxHeartbeats 8000000
namespace Go.Proofs.YtnpifgcgjgddoaaGreatDoor.N
open Go.ChangeShapes Go.WideShapes Go.ChangeAt Go.RowKit
theorem nw_of {n : Nd} (h : T.SeW n) : NdW n := ⟨h.1, h.2.1, h.2.2.1, h.2.2.2⟩
theorem Tryz.cells73 : Tryz.prog.cellsOf 73 = 2 := by kernel_rfl
theorem Tryz.cells33 : Tryz.prog.cellsOf 33 = 1 := by kernel_rfl
theorem Tryz.cells31 : Tryz.prog.cellsOf 31 = 1 := by kernel_rfl
theorem Tryz.cells23 : Tryz.prog.cellsOf 23 = 1 := by kernel_rfl
theorem Tryz.bytes73 : Tryz.prog.bytesOf 73 = 40 := by kernel_rfl
def RlIn (W : World) (g : ByteArray × List Nd) (A : Option Addr) (c : Nat) : Prop := T.RdN W A g.2 /\ (A = none -> c = 0 /\ g.2 = []) /\ g.1.size <= 140737488351232 /\ g.2.length * 64 <= 140737488351232 /\ (∀ n ∈ g.2, n.tx.size <= 140737488351232) /\ ∀ n ∈ g.2, NdW n
structure GrIn (W : World) (A : Option Addr) (c : Nat) (gs : List (ByteArray × List Nd)) : Prop where
 d : GrD W A gs
 z : A = none -> c = 0 /\ gs = []
 len : gs.length * 40 <= 140737488351232
 each : ∀ (k : Nat) g, gs[k]? = some g -> ∃ A2 c2, RlIn W g A2 c2 /\ ∀ b o, A = some ⟨b, o, none⟩ -> W.cell? ⟨b, o + k * 2 + 1, none⟩ = some (.slice A2 g.2.length c2)
theorem zrl {H : Type} {enc : TypeId × Value -> H} {W : World} {held : Bool} {n : Nat} {cs : List Value} {x : DataW H × List MemPlace} (h : DataW.trod enc Tryz.prog W 0 (fun _ => true) held n 73 cs = some x) (hs : ∀ m ∈ x.1.weights Tryz.prog 73, m <= reachBytes) :
  ∃ (s : ByteArray) (A : Option Addr) (c : Nat) (L : List Nd), cs = [.string s, .slice A L.length c] /\ RlIn W (s, L) A c := by
 have hr : reachBytes = 140737488351232 := by decide
 obtain ⟨y0, y1, k, hx, hl, h0, h1⟩ := trod_struct2 Tryz.underlying73 h
 rw [Tryz.cells73] at hl
 match cs, hl with
 | [a, b], _ =>
  simp only [T.Tryz.cells9, Tryz.cells23, List.drop_zero, List.take_succ_cons, List.take_zero, List.drop_succ_cons] at h0 h1
  obtain ⟨s, e0, e1, _⟩ := DataW.trod_string Tryz.underlying9 h0
  have hd : x.1 = .agg [y0.1, y1.1] := congrArg Prod.fst hx
  rw [hd] at hs
  simp only [DataW.weights, Tryz.underlying73] at hs
  simp only [DataW.weightsEach, List.map_cons, List.map_nil, List.mem_append] at hs
  have hb : ∃ a l c, b = .slice a l c := by
   rcases Go.Deep.open_slice Tryz.underlying23 h1 with ⟨hc, _⟩ | ⟨a, len, cap, m, _, D, Pl, hc, _⟩
   ·cases hc; exact ⟨_, _, _, rfl⟩
   ·cases hc; exact ⟨_, _, _, rfl⟩
  have ht : DataW.Trod enc Tryz.prog W 0 (fun _ => true) held 23 b y1.1 y1.2 := by
   obtain ⟨a', l', c', rfl⟩ := hb
   exact ⟨k, h1⟩
  obtain ⟨A, c, L, rfl, r, nl, sz, sw⟩ := T.ziA ht hb
  obtain ⟨s0, s1⟩ := sz (fun m hm => hs m (.inr (.inl hm)))
  have e0' : [a] = [Value.string s] := e0
  cases e0'
  refine ⟨s, A, c, L, rfl, r, nl, ?_, s0, s1, fun n hn => nw_of (sw n hn)⟩
  have := hs s.size (.inl (by rw [e1]; simp only [DataW.weights, List.mem_singleton]; rw [Array.length_toList]; rfl))
  rw [hr] at this
  exact this
theorem zl6 {H : Type} {enc : TypeId × Value -> H} {W : World} {base : Nat} {held : Bool} {v : Value} {d : DataW H} {p : List MemPlace} (h : DataW.Trod enc Tryz.prog W 0 (fun _ => true) held 33 v d p) (hv : Value.okWide Tryz.prog W .any base 33 v) (hs : ∀ n ∈ d.weights Tryz.prog 33, n <= reachBytes) :
  ∃ A c gs, v = .agg #[.slice A (List.length (α := ByteArray × List Nd) gs) c] /\ GrIn W A c gs := by
 have hr : reachBytes = 140737488351232 := by decide
 obtain ⟨cs, rfl, hcs⟩ := okWide_struct Tryz.underlying33 hv
 rw [Tryz.cells33] at hcs
 obtain ⟨l⟩ := cs
 match l, hcs with
 | [u], _ =>
  obtain ⟨fuel, hf⟩ := h
  have hf2 : DataW.trod enc Tryz.prog W 0 (fun _ => true) held fuel 33 [u] = some (d, p) := hf
  obtain ⟨y0, k, hx, _, h0⟩ := trod_struct1 Tryz.underlying33 hf2
  simp only [Tryz.cells31, List.drop_zero, List.take_succ_cons, List.take_zero] at h0
  have hd : d = .agg [y0.1] := congrArg Prod.fst hx
  rw [hd] at hs
  simp only [DataW.weights, Tryz.underlying33] at hs
  simp only [DataW.weightsEach, List.map_cons, List.map_nil, List.append_nil] at hs
  rcases Go.Deep.open_slice Tryz.underlying31 h0 with ⟨hc, hx⟩ | ⟨a, len, cap, m, n, D, Pl, hc, _, hl, hm, hmm, hx, hall⟩
  ·have hc : [u] = [.slice none 0 0] := hc
   cases hc
   exact ⟨none, 0, [], rfl, ⟨(fun k g hg => by cases hg), fun _ => ⟨rfl, rfl⟩, (by simp), (fun k g hg => by cases hg)⟩⟩
  ·have hc : [u] = [.slice (some a) len cap] := hc
   cases hc
   simp only [if_true] at hmm
   subst hmm
   have hd2 : y0.1 = .slice ((List.range len).map D) ((List.range (m - len)).map fun j => D (len + j)) := congrArg Prod.fst hx
   rw [hd2] at hs
   simp only [DataW.weights, Tryz.underlying31] at hs
   have each : ∀ i, i < len -> ∃ q : (ByteArray × List Nd) × Option Addr × Nat, W.cell? (a.add (i * 2)) = some (.string q.1.1) /\ W.cell? (a.add (i * 2 + 1)) = some (.slice q.2.1 q.1.2.length q.2.2) /\ RlIn W q.1 q.2.1 q.2.2 := by
    intro i hi
    obtain ⟨cs', h1, h2⟩ := hall i (by omega)
    rw [Tryz.cells73] at h1
    obtain ⟨_, hlen, hcell⟩ := World.cells?_some h1
    obtain ⟨s, A, c, L, rfl, hri⟩ := zrl h2 (fun k hk => hs k (List.mem_cons_of_mem _ (List.mem_append_left _ (T.zdc _ 73 _ (D i) (List.mem_map.2 ⟨i, List.mem_range.2 hi, rfl⟩) _ hk))))
    refine ⟨((s, L), A, c), ?_, ?_, hri⟩
    ·have e := hcell 0 (by show 0 < 2; omega)
     rw [Go.Deep.add_add] at e
     exact e
    ·have e := hcell 1 (by show 1 < 2; omega)
     rw [Go.Deep.add_add] at e
     exact e
   obtain ⟨F, hF⟩ : ∃ F : Nat -> (ByteArray × List Nd) × Option Addr × Nat, ∀ i, i < len -> W.cell? (a.add (i * 2)) = some (.string (F i).1.1) /\ W.cell? (a.add (i * 2 + 1)) = some (.slice (F i).2.1 (F i).1.2.length (F i).2.2) /\ RlIn W (F i).1 (F i).2.1 (F i).2.2 :=
    ⟨fun i => if h : i < len then Classical.choose (each i h) else ((⟨#[]⟩, []), none, 0), fun i h => by simp only [dif_pos h]; exact Classical.choose_spec (each i h)⟩
   have get : ∀ (k : Nat) g, ((List.range len).map fun i => (F i).1)[k]? = some g -> k < len /\ g = (F k).1 := fun k g hg => by
    rw [List.getElem?_map] at hg
    have hk : k < len := by
     by_cases q : k < len
     ·exact q
     ·rw [List.getElem?_eq_none (by simp; omega)] at hg; cases hg
    rw [List.getElem?_range hk] at hg
    cases hg
    exact ⟨hk, rfl⟩
   refine ⟨some a, m, (List.range len).map fun i => (F i).1, by simp, ⟨fun k g hg => ?_, (fun q => by cases q), ?_, fun k g hg => ?_⟩⟩
   ·obtain ⟨hk, rfl⟩ := get k g hg
    obtain ⟨q0, q1, q2⟩ := hF k hk
    obtain ⟨gb, off, spot⟩ := a
    have hspot : spot = none := by simpa [Addr.add] using World.cell?_spot (hF 0 (by omega)).1
    subst hspot
    rw [Addr.add_lit] at q0 q1
    exact ⟨gb, off, (F k).2.1, (F k).2.2, rfl, World.block_lt_of_cell? W _ q0, q0, by rw [Nat.add_assoc]; exact q1, q2.1⟩
   ·have := hs _ (List.mem_cons_self ..)
    rw [Tryz.bytes73, hr] at this
    simp only [List.length_map, List.length_range] at this ⊢
    omega
   ·obtain ⟨hk, rfl⟩ := get k g hg
    obtain ⟨q0, q1, q2⟩ := hF k hk
    refine ⟨(F k).2.1, (F k).2.2, q2, fun b o e => ?_⟩
    cases e
    rw [Addr.add_lit] at q1
    rw [Nat.add_assoc]
    exact q1
theorem GrIn.tx {W : World} {A : Option Addr} {c : Nat} {gs : List (ByteArray × List Nd)} (h : GrIn W A c gs) : ∀ g ∈ gs, g.1.size <= 140737488355328 /\ g.2.length <= 140737488355328 /\ ∀ n ∈ g.2, n.tx.size <= 140737488355328 := fun g hg => by
 obtain ⟨k, hk, rfl⟩ := List.mem_iff_getElem.1 hg
 obtain ⟨A2, c2, ⟨h1, h2, h3, h4, h5, h6⟩, _⟩ := h.each k _ (List.getElem?_eq_getElem hk)
 exact ⟨by omega, by omega, fun n hn => by have := h5 n hn; omega⟩
theorem GrIn.nw {W : World} {A : Option Addr} {c : Nat} {gs : List (ByteArray × List Nd)} (h : GrIn W A c gs) : ∀ g ∈ gs, ∀ n ∈ g.2, NdW n := fun g hg => by
 obtain ⟨k, hk, rfl⟩ := List.mem_iff_getElem.1 hg
 obtain ⟨A2, c2, ⟨h1, h2, h3, h4, h5, h6⟩, _⟩ := h.each k _ (List.getElem?_eq_getElem hk)
 exact h6
open Go.RowKit
theorem nw_z {n : Nd} (h : n.s0 = 0 /\ n.s1 = 0 /\ n.s2 = 0 /\ n.s3 = 0) : NdW n := by
 obtain ⟨a, b, c, d⟩ := h
 exact ⟨by omega, by omega, by omega, by omega⟩
def wkA : List Nd := [⟨4, 0, ⟨#[97]⟩, 0, 0, 0, 0⟩, ⟨4, 0, ⟨#[98]⟩, 0, 0, 0, 0⟩, ⟨7, 0, ⟨#[]⟩, 0, 0, 0, 0⟩, ⟨9, 0, ⟨#[]⟩, 0, 0, 0, 0⟩]
def wkB : List Nd := [⟨4, 0, ⟨#[97]⟩, 0, 0, 0, 0⟩, ⟨9, 0, ⟨#[]⟩, 0, 0, 0, 0⟩, ⟨13, 0, ⟨#[]⟩, 0, 0, 0, 0⟩]
def wkC : List Nd := [⟨4, 0, ⟨#[97]⟩, 0, 0, 0, 0⟩, ⟨6, 0, ⟨#[115]⟩, 0, 0, 0, 0⟩, ⟨7, 0, ⟨#[]⟩, 0, 0, 0, 0⟩, ⟨1, 0, ⟨#[]⟩, 0, 0, 0, 0⟩, ⟨8, 0, ⟨#[]⟩, 0, 0, 0, 0⟩]
theorem wk_a : shR wkA = (⟨#[40, 39, 97, 39, 32, 39, 98, 39, 41, 42]⟩, 0) := by kernel_rfl
theorem wk_b : shR wkB = (⟨#[33, 39, 97, 39, 42]⟩, 0) := by kernel_rfl
theorem wk_c : grR [(⟨#[115]⟩, wkC)] = (⟨#[115, 32, 60, 45, 32, 39, 97, 39, 32, 115, 32, 47, 32, 37, 101, 10]⟩, 0) := by kernel_rfl
theorem zl7 : ∀ n ∈ wkA ++ (wkB ++ wkC), n.tx.size <= 140737488355328 /\ NdW n := by
 intro n hn
 have h : n.tx.size <= 1 /\ n.s0 = 0 /\ n.s1 = 0 /\ n.s2 = 0 /\ n.s3 = 0 := by
  simp only [wkA, wkB, wkC, List.cons_append, List.nil_append, List.mem_cons, List.not_mem_nil, or_false] at hn
  rcases hn with rfl | rfl | rfl | rfl | rfl | rfl | rfl | rfl | rfl | rfl | rfl | rfl <;> exact ⟨by decide, rfl, rfl, rfl, rfl⟩
 exact ⟨by omega, nw_z h.2⟩
theorem zdB (w : World) : Calls Tryz.prog 14 #[] w fun e w' => e = .returned (.bool true) /\ Below w.heap.size w w' := by
 have HA : Hid (T.NB ((w.alloc (.cells #[.int .i64 4, .int .i64 0, .string ⟨#[97]⟩, .int .u64 0, .int .u64 0, .int .u64 0, .int .u64 0] 51)).alloc (.cells #[.int .i64 4, .int .i64 0, .string ⟨#[98]⟩, .int .u64 0, .int .u64 0, .int .u64 0, .int .u64 0] 51)) w.heap.size 0 ⟨4, 0, ⟨#[97]⟩, 0, 0, 0, 0⟩) := (T.zge w ⟨4, 0, ⟨#[97]⟩, 0, 0, 0, 0⟩).below (zaa _ _)
 have HB := (show Hid (T.NB ((w.alloc (.cells #[.int .i64 4, .int .i64 0, .string ⟨#[97]⟩, .int .u64 0, .int .u64 0, .int .u64 0, .int .u64 0] 51)).alloc (.cells #[.int .i64 4, .int .i64 0, .string ⟨#[98]⟩, .int .u64 0, .int .u64 0, .int .u64 0, .int .u64 0] 51)) (w.heap.size + 1) 0 ⟨4, 0, ⟨#[98]⟩, 0, 0, 0, 0⟩) from by
  have h := T.zge (w.alloc (.cells #[.int .i64 4, .int .i64 0, .string ⟨#[97]⟩, .int .u64 0, .int .u64 0, .int .u64 0, .int .u64 0] 51)) ⟨4, 0, ⟨#[98]⟩, 0, 0, 0, 0⟩
  rw [World.size_alloc] at h
  exact h)
 have HW : Hid (Below w.heap.size w ((w.alloc (.cells #[.int .i64 4, .int .i64 0, .string ⟨#[97]⟩, .int .u64 0, .int .u64 0, .int .u64 0, .int .u64 0] 51)).alloc (.cells #[.int .i64 4, .int .i64 0, .string ⟨#[98]⟩, .int .u64 0, .int .u64 0, .int .u64 0, .int .u64 0] 51))) := (zaa w _).alloc (zaa w _).size _
 have H1 : Hid (∀ W : World, Calls Tryz.prog 9 #[.slice (some ⟨W.heap.size, 0, none⟩) 4 4] (W.alloc (.cells #[.int .i64 4, .int .i64 0, .string ⟨#[97]⟩, .int .u64 0, .int .u64 0, .int .u64 0, .int .u64 0, .int .i64 4, .int .i64 0, .string ⟨#[98]⟩, .int .u64 0, .int .u64 0, .int .u64 0, .int .u64 0, .int .i64 7, .int .i64 0, .string ⟨#[]⟩, .int .u64 0, .int .u64 0, .int .u64 0, .int .u64 0, .int .i64 9, .int .i64 0, .string ⟨#[]⟩, .int .u64 0, .int .u64 0, .int .u64 0, .int .u64 0] 51)) fun e w' => e = .returned (.tuple #[.string ⟨#[40, 39, 97, 39, 32, 39, 98, 39, 41, 42]⟩, .int .i64 0]) /\ Below W.heap.size W w') := fun W => by
  have h := zb8 wkA (some ⟨W.heap.size, 0, none⟩) 4 (by decide) (fun n hn => (zl7 n (List.mem_append_left _ hn)).1) (fun n hn => (zl7 n (List.mem_append_left _ hn)).2) (W.alloc (.cells #[.int .i64 4, .int .i64 0, .string ⟨#[97]⟩, .int .u64 0, .int .u64 0, .int .u64 0, .int .u64 0, .int .i64 4, .int .i64 0, .string ⟨#[98]⟩, .int .u64 0, .int .u64 0, .int .u64 0, .int .u64 0, .int .i64 7, .int .i64 0, .string ⟨#[]⟩, .int .u64 0, .int .u64 0, .int .u64 0, .int .u64 0, .int .i64 9, .int .i64 0, .string ⟨#[]⟩, .int .u64 0, .int .u64 0, .int .u64 0, .int .u64 0] 51)) (ziM W wkA (by decide) _ rfl)
  rw [wk_a] at h
  exact h.mono fun e w' ⟨h1, h2⟩ => ⟨h1, (zaa W _).trans (h2.mono (zaa W _).size)⟩
 have H2 : Hid (∀ W : World, Calls Tryz.prog 9 #[.slice (some ⟨W.heap.size, 0, none⟩) 3 3] (W.alloc (.cells #[.int .i64 4, .int .i64 0, .string ⟨#[97]⟩, .int .u64 0, .int .u64 0, .int .u64 0, .int .u64 0, .int .i64 9, .int .i64 0, .string ⟨#[]⟩, .int .u64 0, .int .u64 0, .int .u64 0, .int .u64 0, .int .i64 13, .int .i64 0, .string ⟨#[]⟩, .int .u64 0, .int .u64 0, .int .u64 0, .int .u64 0] 51)) fun e w' => e = .returned (.tuple #[.string ⟨#[33, 39, 97, 39, 42]⟩, .int .i64 0]) /\ Below W.heap.size W w') := fun W => by
  have h := zb8 wkB (some ⟨W.heap.size, 0, none⟩) 3 (by decide) (fun n hn => (zl7 n (List.mem_append_right _ (List.mem_append_left _ hn))).1) (fun n hn => (zl7 n (List.mem_append_right _ (List.mem_append_left _ hn))).2) (W.alloc (.cells #[.int .i64 4, .int .i64 0, .string ⟨#[97]⟩, .int .u64 0, .int .u64 0, .int .u64 0, .int .u64 0, .int .i64 9, .int .i64 0, .string ⟨#[]⟩, .int .u64 0, .int .u64 0, .int .u64 0, .int .u64 0, .int .i64 13, .int .i64 0, .string ⟨#[]⟩, .int .u64 0, .int .u64 0, .int .u64 0, .int .u64 0] 51)) (ziM W wkB (by decide) _ rfl)
  rw [wk_b] at h
  exact h.mono fun e w' ⟨h1, h2⟩ => ⟨h1, (zaa W _).trans (h2.mono (zaa W _).size)⟩
 have H3 : Hid (∀ W : World, Calls Tryz.prog 16 #[.agg #[.slice (some ⟨W.heap.size + 1, 0, none⟩) 1 1]] ((W.alloc (.cells #[.int .i64 4, .int .i64 0, .string ⟨#[97]⟩, .int .u64 0, .int .u64 0, .int .u64 0, .int .u64 0, .int .i64 6, .int .i64 0, .string ⟨#[115]⟩, .int .u64 0, .int .u64 0, .int .u64 0, .int .u64 0, .int .i64 7, .int .i64 0, .string ⟨#[]⟩, .int .u64 0, .int .u64 0, .int .u64 0, .int .u64 0, .int .i64 1, .int .i64 0, .string ⟨#[]⟩, .int .u64 0, .int .u64 0, .int .u64 0, .int .u64 0, .int .i64 8, .int .i64 0, .string ⟨#[]⟩, .int .u64 0, .int .u64 0, .int .u64 0, .int .u64 0] 51)).alloc (.cells #[.string ⟨#[115]⟩, .slice (some ⟨W.heap.size, 0, none⟩) 5 5] 73)) fun e w' => e = .returned (.tuple #[.string ⟨#[115, 32, 60, 45, 32, 39, 97, 39, 32, 115, 32, 47, 32, 37, 101, 10]⟩, .int .i64 0]) /\ Below W.heap.size W w') := fun W => by
  have hb1 := zaa W (.cells #[.int .i64 4, .int .i64 0, .string ⟨#[97]⟩, .int .u64 0, .int .u64 0, .int .u64 0, .int .u64 0, .int .i64 6, .int .i64 0, .string ⟨#[115]⟩, .int .u64 0, .int .u64 0, .int .u64 0, .int .u64 0, .int .i64 7, .int .i64 0, .string ⟨#[]⟩, .int .u64 0, .int .u64 0, .int .u64 0, .int .u64 0, .int .i64 1, .int .i64 0, .string ⟨#[]⟩, .int .u64 0, .int .u64 0, .int .u64 0, .int .u64 0, .int .i64 8, .int .i64 0, .string ⟨#[]⟩, .int .u64 0, .int .u64 0, .int .u64 0, .int .u64 0] 51)
  have hb2 := zaa (W.alloc (.cells #[.int .i64 4, .int .i64 0, .string ⟨#[97]⟩, .int .u64 0, .int .u64 0, .int .u64 0, .int .u64 0, .int .i64 6, .int .i64 0, .string ⟨#[115]⟩, .int .u64 0, .int .u64 0, .int .u64 0, .int .u64 0, .int .i64 7, .int .i64 0, .string ⟨#[]⟩, .int .u64 0, .int .u64 0, .int .u64 0, .int .u64 0, .int .i64 1, .int .i64 0, .string ⟨#[]⟩, .int .u64 0, .int .u64 0, .int .u64 0, .int .u64 0, .int .i64 8, .int .i64 0, .string ⟨#[]⟩, .int .u64 0, .int .u64 0, .int .u64 0, .int .u64 0] 51)) (.cells #[.string ⟨#[115]⟩, .slice (some ⟨W.heap.size, 0, none⟩) 5 5] 73)
  have hnew := heap_alloc_new (W.alloc (.cells #[.int .i64 4, .int .i64 0, .string ⟨#[97]⟩, .int .u64 0, .int .u64 0, .int .u64 0, .int .u64 0, .int .i64 6, .int .i64 0, .string ⟨#[115]⟩, .int .u64 0, .int .u64 0, .int .u64 0, .int .u64 0, .int .i64 7, .int .i64 0, .string ⟨#[]⟩, .int .u64 0, .int .u64 0, .int .u64 0, .int .u64 0, .int .i64 1, .int .i64 0, .string ⟨#[]⟩, .int .u64 0, .int .u64 0, .int .u64 0, .int .u64 0, .int .i64 8, .int .i64 0, .string ⟨#[]⟩, .int .u64 0, .int .u64 0, .int .u64 0, .int .u64 0] 51)) (.cells #[.string ⟨#[115]⟩, .slice (some ⟨W.heap.size, 0, none⟩) 5 5] 73)
  rw [World.size_alloc] at hnew
  have hc : ∀ n ∈ wkC, n.tx.size <= 140737488355328 /\ NdW n := fun n hn => zl7 n (List.mem_append_right _ (List.mem_append_right _ hn))
  have h := zbX [(⟨#[115]⟩, wkC)] (some ⟨W.heap.size + 1, 0, none⟩) 1 (by decide) (fun g hg => by rw [List.mem_singleton.1 hg]; exact ⟨by decide, by decide, fun n hn => (hc n hn).1⟩) (fun g hg => by rw [List.mem_singleton.1 hg]; exact fun n hn => (hc n hn).2) ((W.alloc (.cells #[.int .i64 4, .int .i64 0, .string ⟨#[97]⟩, .int .u64 0, .int .u64 0, .int .u64 0, .int .u64 0, .int .i64 6, .int .i64 0, .string ⟨#[115]⟩, .int .u64 0, .int .u64 0, .int .u64 0, .int .u64 0, .int .i64 7, .int .i64 0, .string ⟨#[]⟩, .int .u64 0, .int .u64 0, .int .u64 0, .int .u64 0, .int .i64 1, .int .i64 0, .string ⟨#[]⟩, .int .u64 0, .int .u64 0, .int .u64 0, .int .u64 0, .int .i64 8, .int .i64 0, .string ⟨#[]⟩, .int .u64 0, .int .u64 0, .int .u64 0, .int .u64 0] 51)).alloc (.cells #[.string ⟨#[115]⟩, .slice (some ⟨W.heap.size, 0, none⟩) 5 5] 73)) (fun k g hg => by
   have hk : k = 0 := by have := (List.getElem?_eq_some_iff.1 hg).1; simp at this; exact this
   subst hk
   cases hg
   refine ⟨W.heap.size + 1, 0, some ⟨W.heap.size, 0, none⟩, 5, rfl, by rw [World.size_alloc, World.size_alloc]; omega, ?_, ?_, (ziM W wkC (by decide) _ rfl).below hb2 (Nat.le_refl _)⟩
   ·exact (Lib.cell_of_heap hnew 0)
   ·exact (Lib.cell_of_heap hnew 1))
  rw [wk_c] at h
  exact h.mono fun e w' ⟨h1, h2⟩ => ⟨h1, ((hb1.trans (hb2.mono hb1.size))).trans (h2.mono (Nat.le_trans hb1.size hb2.size))⟩
 have H1' : Hid (∀ _ : Unit, Calls Tryz.prog 9 #[.slice (some ⟨w.heap.size + 1 + 1, 0, none⟩) 4 4] (((w.alloc (.cells #[.int .i64 4, .int .i64 0, .string ⟨#[97]⟩, .int .u64 0, .int .u64 0, .int .u64 0, .int .u64 0] 51)).alloc (.cells #[.int .i64 4, .int .i64 0, .string ⟨#[98]⟩, .int .u64 0, .int .u64 0, .int .u64 0, .int .u64 0] 51)).alloc (.cells #[.int .i64 4, .int .i64 0, .string ⟨#[97]⟩, .int .u64 0, .int .u64 0, .int .u64 0, .int .u64 0, .int .i64 4, .int .i64 0, .string ⟨#[98]⟩, .int .u64 0, .int .u64 0, .int .u64 0, .int .u64 0, .int .i64 7, .int .i64 0, .string ⟨#[]⟩, .int .u64 0, .int .u64 0, .int .u64 0, .int .u64 0, .int .i64 9, .int .i64 0, .string ⟨#[]⟩, .int .u64 0, .int .u64 0, .int .u64 0, .int .u64 0] 51)) fun e w' => e = .returned (.tuple #[.string ⟨#[40, 39, 97, 39, 32, 39, 98, 39, 41, 42]⟩, .int .i64 0]) /\ Below ((w.alloc (.cells #[.int .i64 4, .int .i64 0, .string ⟨#[97]⟩, .int .u64 0, .int .u64 0, .int .u64 0, .int .u64 0] 51)).alloc (.cells #[.int .i64 4, .int .i64 0, .string ⟨#[98]⟩, .int .u64 0, .int .u64 0, .int .u64 0, .int .u64 0] 51)).heap.size ((w.alloc (.cells #[.int .i64 4, .int .i64 0, .string ⟨#[97]⟩, .int .u64 0, .int .u64 0, .int .u64 0, .int .u64 0] 51)).alloc (.cells #[.int .i64 4, .int .i64 0, .string ⟨#[98]⟩, .int .u64 0, .int .u64 0, .int .u64 0, .int .u64 0] 51)) w') := fun _ => by
  have h := H1.out ((w.alloc (.cells #[.int .i64 4, .int .i64 0, .string ⟨#[97]⟩, .int .u64 0, .int .u64 0, .int .u64 0, .int .u64 0] 51)).alloc (.cells #[.int .i64 4, .int .i64 0, .string ⟨#[98]⟩, .int .u64 0, .int .u64 0, .int .u64 0, .int .u64 0] 51))
  have e : ((w.alloc (.cells #[.int .i64 4, .int .i64 0, .string ⟨#[97]⟩, .int .u64 0, .int .u64 0, .int .u64 0, .int .u64 0] 51)).alloc (.cells #[.int .i64 4, .int .i64 0, .string ⟨#[98]⟩, .int .u64 0, .int .u64 0, .int .u64 0, .int .u64 0] 51)).heap.size = w.heap.size + 1 + 1 := by rw [World.size_alloc, World.size_alloc]
  rw [e] at h ⊢
  exact h
 clear H1
 go_enter Tryz.func14, Tryz.ntmps14
 go_wp2_with fail
 refine (H1'.out ()).mono ?_
 rintro e w2 ⟨rfl, b2⟩
 have HA2 := hO (HA.out.below b2)
 have HW2 := hO (HW.out.trans (b2.mono HW.out.size))
 obtain ⟨a0, a1, a2, a3, a4, a5, a6⟩ := HA2.out
 clear HA HB HW b2 H1'
 go_wp2_with fail
 refine (H2.out _).mono ?_
 rintro e w3 ⟨rfl, b3⟩
 have HA3 := hO (HA2.out.below b3)
 have HW3 := hO (HW2.out.trans (b3.mono HW2.out.size))
 clear a0 a1 a2 a3 a4 a5 a6 HA2 HW2 b3 H2
 obtain ⟨a0, a1, a2, a3, a4, a5, a6⟩ := HA3.out
 go_wp2_with fail
 refine (H3.out _).mono ?_
 rintro e w4 ⟨rfl, b4⟩
 have HW4 := hO (HW3.out.trans (b4.mono HW3.out.size))
 clear a0 a1 a2 a3 a4 a5 a6 HA3 HW3 b4 H3
 go_wp2_with fail
 go_ret
 exact ⟨rfl, HW4.out⟩
def PgV (w' : World) (r : Sum (List (ByteArray × List Nd)) (Int × Int)) (e : Ending) : Prop := match r with
 | .inr p => e = .returned (.tuple #[.agg #[.slice none 0 0], .agg #[.int .i64 p.1, .int .i64 p.2]])
 | .inl gs => ∃ u, e = .returned (.tuple #[.agg #[u], .agg #[.int .i64 0, .int .i64 0]]) /\ GrR w' u gs
theorem zl8 (s : ByteArray) (w : World) (hg : GW w) (r : Sum (List (ByteArray × List Nd)) (Int × Int)) (hr : psR s = r) : Calls Tryz.prog 21 #[.string s] w fun e w' => PgV w' r e /\ Below w.heap.size w w' := by
 refine (zl4 s w hg).mono ?_
 rintro e w' ⟨h1, h2⟩
 refine ⟨?_, h2⟩
 rw [hr] at h1
 cases r with
 | inr p => exact h1
 | inl gs =>
  obtain ⟨u, ov, h3, h4, h5, h6⟩ := h1
  refine ⟨u, h3, ?_⟩
  rw [<- h6]
  exact GrR.of h4 h5
theorem ziO (a b c d : Int) (W : World) : (binOp .neq 39 (.agg #[.int .i64 a, .int .i64 b]) (.agg #[.int .i64 c, .int .i64 d])).run Tryz.prog W = .ok (.bool (!(a == c && b == d))) W := by
 have h := eq26 a b c d W
 have e : Op.maxDepth = 10000 := rfl
 simp [binOp, Op.equal, e, h]
theorem zl9 (s : ByteArray) (w : World) (hg : GW w) {L : List Nd} (h : paR s = .inl [(⟨#[]⟩, L)]) : Calls Tryz.prog 19 #[.string s] w fun e w' => (∃ A c, e = .returned (.tuple #[.slice A L.length c, .agg #[.int .i64 0, .int .i64 0]]) /\ T.RdN w' A L /\ ∀ a, A = some a -> w.heap.size <= a.block) /\ Below w.heap.size w w' := by
 refine (znQ s w hg).mono ?_
 rintro e w' ⟨h1, h2⟩
 rw [h] at h1
 obtain ⟨v, ns, e1, rfl, ho⟩ := h1
 have e2 : L = ns := by
  injection e1 with h6 _
  injection h6 with _ h8
 subst e2
 have hlt := ho.lt
 obtain ⟨A, c, rfl, hr⟩ := T.zlW ho rfl
 refine ⟨⟨A, c, rfl, hr, fun a ha => ?_⟩, h2⟩
 subst ha
 exact (hlt a.block rfl).1
theorem ziP {l : List UInt8} (h : 65536 < l.length) : lnR l = (⟨#[]⟩, 2) := by unfold lnR; rw [if_pos h]
theorem zoE {l : List UInt8} (h : ¬ 65536 < l.length) : lnR l = (txO l, 0) := by unfold lnR; rw [if_neg h]
theorem zoF {L : List Nd} (h : T.Rt L) : shR L = lnR (itT (shI L)) := by unfold shR; rw [if_pos (by rw [h.ck])]
theorem grk_of {gs : List (ByteArray × List Nd)} (h : wrR gs = 0) (hw : ∀ g ∈ gs, ∀ n ∈ g.2, NdW n) : GrK gs := by
 obtain ⟨h1, h2, h3, h4⟩ := wr_ok h
 exact ⟨h1, h2, fun g hg => T.zjT (h3 g hg).1, hw, fun g hg => by
  rcases (h3 g hg).2 with q | q
  ·exact .inl (znF q)
  ·exact .inr q, h4⟩
theorem sum_le (gs : List (ByteArray × List Nd)) : ∀ g ∈ gs, g.2.length <= (gs.map fun g => g.2.length).sum := by
 induction gs with
 | nil => intro g hg; cases hg
 | cons a r ih =>
  intro g hg
  rw [List.map_cons, List.sum_cons]
  rcases List.mem_cons.1 hg with rfl | hg
  ·omega
  ·have := ih g hg; omega
theorem zma (L : List Nd) (Ap : Option Addr) (cp : Nat) (hL : L.length <= 140737488355328) (hT : ∀ n ∈ L, n.tx.size <= 140737488355328) (hw : ∀ n ∈ L, NdW n) (gs : List (ByteArray × List Nd)) (A : Option Addr) (c : Nat) (w : World) (hg : GW w) (hp : T.RdN w Ap L) (hgr : GrIn w A c gs) (s : ByteArray) (hs : shR L = (s, 0)) (hb : paR s = .inl [(⟨#[]⟩, L)]) (t : ByteArray) (ht : grR gs = (t, 0)) (hpb : psR t = .inl gs) (hgl : gs.length <= 200) (hgn : ∀ g ∈ gs, g.2.length <= 2048) : Calls Tryz.prog 5 #[.slice Ap L.length cp, .agg #[.slice A gs.length c]] w fun e w' => e = .returned (.bool true) /\ Below w.heap.size w w' := by
 have HWk : Hid (∀ W, Calls Tryz.prog 14 #[] W fun e w' => e = .returned (.bool true) /\ Below W.heap.size W w') := zdB
 have HS := (show Hid (∀ W, Below w.heap.size w W -> Calls Tryz.prog 9 #[.slice Ap L.length cp] W fun e w' => e = .returned (.tuple #[.string s, .int .i64 0]) /\ Below W.heap.size W w') from fun W hW => by
  have h := zb8 L Ap cp hL hT hw W (hp.below hW (Nat.le_refl _))
  rw [hs] at h
  exact h)
 have HGr := (show Hid (∀ W, Below w.heap.size w W -> Calls Tryz.prog 16 #[.agg #[.slice A gs.length c]] W fun e w' => e = .returned (.tuple #[.string t, .int .i64 0]) /\ Below W.heap.size W w') from fun W hW => by
  have h := zbX gs A c (by have := hgr.len; omega) hgr.tx hgr.nw W (hgr.d.later hW)
  rw [ht] at h
  exact h)
 have HG : Hid (GW w) := hg
 have HB0 : Hid (Below w.heap.size w (w.alloc (.cells #[.slice A gs.length c] 33))) := zaa _ _
 have HX0 : Hid (GX (w.alloc (.cells #[.slice A gs.length c] 33)) w.heap.size (.slice A gs.length c)) := GX.mk (heap_alloc_new w _)
 have hneq := ziO
 have heql := ziL
 have HP : Hid (∀ W, GW W -> Calls Tryz.prog 19 #[.string s] W fun e w' => (∃ A c, e = .returned (.tuple #[.slice A L.length c, .agg #[.int .i64 0, .int .i64 0]]) /\ T.RdN w' A L /\ ∀ a, A = some a -> W.heap.size <= a.block) /\ Below W.heap.size W w') := fun W hW => zl9 s W hW hb
 have HQ : Hid (∀ A2 c2 W, Below w.heap.size w W -> T.RdN W A2 L -> Calls Tryz.prog 20 #[.slice Ap L.length cp, .slice A2 L.length c2] W fun e w' => e = .returned (.bool true) /\ Below W.heap.size W w') := fun A2 c2 W hW h2 => (zre Ap A2 cp c2 L (by omega) W (hp.below hW (Nat.le_refl _)) h2).mono fun e w' ⟨q1, m, q2⟩ => ⟨q1, by rw [q2]; exact T.below_drewN (Below.refl _ _) m⟩
 have HPs : Hid (∀ W, GW W -> Calls Tryz.prog 21 #[.string t] W fun e w' => (∃ u, e = .returned (.tuple #[.agg #[u], .agg #[.int .i64 0, .int .i64 0]]) /\ GrR w' u gs) /\ Below W.heap.size W w') := fun W hW => zl8 t W hW _ hpb
 have HSg : Hid (∀ W u, Below w.heap.size w W -> GrR W u gs -> Calls Tryz.prog 22 #[.agg #[.slice A gs.length c], .agg #[u]] W fun e w' => e = .returned (.bool true) /\ Below W.heap.size W w') := fun W u hW hu => zgQ hgn hgl ⟨A, c, rfl, hgr.d.later hW⟩ hu
 clear hg hp hgr hT hw hs ht hb hpb hgn hgl
 go_enter Tryz.func5, Tryz.ntmps5
 go_wp2_with fail
 refine (HWk.out _).mono ?_
 rintro e w1 ⟨rfl, b1⟩
 have HB1 : Hid (Below w.heap.size w w1) := HB0.out.trans (b1.mono HB0.out.size)
 have HX1 : Hid (GX w1 w.heap.size (.slice A gs.length c)) := HX0.out.below b1
 clear b1 HWk HB0 HX0
 go_wp2_with fail
 refine (HS.out _ HB1.out).mono ?_
 rintro e w2 ⟨rfl, b2⟩
 have HB2 : Hid (Below w.heap.size w w2) := HB1.out.trans (b2.mono HB1.out.size)
 have HX2 : Hid (GX w2 w.heap.size (.slice A gs.length c)) := HX1.out.below b2
 clear b2 HS HB1 HX1
 go_wp2_with fail
 refine (HP.out _ (HG.out.later HB2.out)).mono ?_
 rintro e w3 ⟨⟨A3, c3, rfl, hA3, _⟩, b3⟩
 have HB3 : Hid (Below w.heap.size w (w3.alloc (.cells #[.int .i64 0, .int .i64 0] 39))) := (HB2.out.trans (b3.mono HB2.out.size)).alloc (Nat.le_trans HB2.out.size b3.size) _
 have HX3 : Hid (GX (w3.alloc (.cells #[.int .i64 0, .int .i64 0] 39)) w.heap.size (.slice A gs.length c)) := (HX2.out.below b3).below (zaa _ _)
 have HR3 : Hid (T.RdN (w3.alloc (.cells #[.int .i64 0, .int .i64 0] 39)) A3 L) := hA3.below (zaa _ _) (Nat.le_refl _)
 clear b3 HP HB2 HX2 hA3
 go_wp2_with fail
 refine (HQ.out _ _ _ HB3.out HR3.out).mono ?_
 rintro e wq ⟨rfl, bq⟩
 have HBq : Hid (Below w.heap.size w wq) := HB3.out.trans (bq.mono HB3.out.size)
 have HXq : Hid (GX wq w.heap.size (.slice A gs.length c)) := HX3.out.below bq
 clear bq HQ HB3 HX3 HR3
 have y0 := HXq.out.cl
 go_wp2_with fail
 refine (HGr.out _ HBq.out).mono ?_
 rintro e w5 ⟨rfl, b5⟩
 have HB5 : Hid (Below w.heap.size w w5) := HBq.out.trans (b5.mono HBq.out.size)
 have HX5 : Hid (GX w5 w.heap.size (.slice A gs.length c)) := HXq.out.below b5
 clear b5 HGr HBq HXq y0
 go_wp2_with fail
 refine (HPs.out _ (HG.out.later HB5.out)).mono ?_
 rintro e w6 ⟨⟨u, rfl, hu⟩, b6⟩
 have hb7 : Below w6.heap.size w6 ((w6.alloc (.cells #[u] 33)).alloc (.cells #[.int .i64 0, .int .i64 0] 39)) := (zaa w6 _).alloc (zaa w6 _).size _
 have HB7 : Hid (Below w.heap.size w ((w6.alloc (.cells #[u] 33)).alloc (.cells #[.int .i64 0, .int .i64 0] 39))) := (HB5.out.trans (b6.mono HB5.out.size)).trans (hb7.mono (Nat.le_trans HB5.out.size b6.size))
 have HX7 : Hid (GX ((w6.alloc (.cells #[u] 33)).alloc (.cells #[.int .i64 0, .int .i64 0] 39)) w.heap.size (.slice A gs.length c)) := (HX5.out.below b6).below hb7
 have HR7 : Hid (GrR ((w6.alloc (.cells #[u] 33)).alloc (.cells #[.int .i64 0, .int .i64 0] 39)) u gs) := hu.later hb7
 obtain ⟨A6, c6, rfl, _⟩ := hu
 have HY7 : Hid (GX ((w6.alloc (.cells #[.slice A6 gs.length c6] 33)).alloc (.cells #[.int .i64 0, .int .i64 0] 39)) w6.heap.size (.slice A6 gs.length c6)) := (GX.mk (heap_alloc_new w6 _)).below (zaa _ _)
 have HF7 : Hid (FX ((w6.alloc (.cells #[.slice A6 gs.length c6] 33)).alloc (.cells #[.int .i64 0, .int .i64 0] 39)) (w6.heap.size + 1) 0 0) := ⟨by have h := heap_alloc_new (w6.alloc (.cells #[.slice A6 gs.length c6] 33)) (.cells #[.int .i64 0, .int .i64 0] 39); rw [World.size_alloc] at h; exact h⟩
 clear b6 HPs HB5 HX5 hb7
 have y0 := HX7.out.cl
 have y1 := HY7.out.cl
 go_wp2_with fail
 refine (HSg.out _ _ HB7.out HR7.out).mono ?_
 rintro e w8 ⟨rfl, b8⟩
 have HB8 : Hid (Below w.heap.size w w8) := HB7.out.trans (b8.mono HB7.out.size)
 clear b8 HB7 HX7 HR7 HY7 HF7 HSg y0 y1
 go_wp2_with fail
 go_ret
 exact ⟨rfl, HB8.out⟩
theorem zmb (L : List Nd) (Ap : Option Addr) (cp : Nat) (hL : L.length <= 140737488355328) (hT : ∀ n ∈ L, n.tx.size <= 140737488355328) (hw : ∀ n ∈ L, NdW n) (gs : List (ByteArray × List Nd)) (A : Option Addr) (c : Nat) (w : World) (hg : GW w) (hp : T.RdN w Ap L) (hgr : GrIn w A c gs) (s : ByteArray) (hs : shR L = (s, 0)) (hb : paR s = .inl [(⟨#[]⟩, L)]) (cg1 : Int) (hcg : cg1 ≠ 0) (ht : grR gs = (⟨#[]⟩, cg1)) : Calls Tryz.prog 5 #[.slice Ap L.length cp, .agg #[.slice A gs.length c]] w fun e w' => e = .returned (.bool true) /\ Below w.heap.size w w' := by
 have HWk : Hid (∀ W, Calls Tryz.prog 14 #[] W fun e w' => e = .returned (.bool true) /\ Below W.heap.size W w') := zdB
 have HS := (show Hid (∀ W, Below w.heap.size w W -> Calls Tryz.prog 9 #[.slice Ap L.length cp] W fun e w' => e = .returned (.tuple #[.string s, .int .i64 0]) /\ Below W.heap.size W w') from fun W hW => by
  have h := zb8 L Ap cp hL hT hw W (hp.below hW (Nat.le_refl _))
  rw [hs] at h
  exact h)
 have HGr := (show Hid (∀ W, Below w.heap.size w W -> Calls Tryz.prog 16 #[.agg #[.slice A gs.length c]] W fun e w' => e = .returned (.tuple #[.string ⟨#[]⟩, .int .i64 cg1]) /\ Below W.heap.size W w') from fun W hW => by
  have h := zbX gs A c (by have := hgr.len; omega) hgr.tx hgr.nw W (hgr.d.later hW)
  rw [ht] at h
  exact h)
 have HG : Hid (GW w) := hg
 have HB0 : Hid (Below w.heap.size w (w.alloc (.cells #[.slice A gs.length c] 33))) := zaa _ _
 have HX0 : Hid (GX (w.alloc (.cells #[.slice A gs.length c] 33)) w.heap.size (.slice A gs.length c)) := GX.mk (heap_alloc_new w _)
 have hneq := ziO
 have heql := ziL
 have HP : Hid (∀ W, GW W -> Calls Tryz.prog 19 #[.string s] W fun e w' => (∃ A c, e = .returned (.tuple #[.slice A L.length c, .agg #[.int .i64 0, .int .i64 0]]) /\ T.RdN w' A L /\ ∀ a, A = some a -> W.heap.size <= a.block) /\ Below W.heap.size W w') := fun W hW => zl9 s W hW hb
 have HQ : Hid (∀ A2 c2 W, Below w.heap.size w W -> T.RdN W A2 L -> Calls Tryz.prog 20 #[.slice Ap L.length cp, .slice A2 L.length c2] W fun e w' => e = .returned (.bool true) /\ Below W.heap.size W w') := fun A2 c2 W hW h2 => (zre Ap A2 cp c2 L (by omega) W (hp.below hW (Nat.le_refl _)) h2).mono fun e w' ⟨q1, m, q2⟩ => ⟨q1, by rw [q2]; exact T.below_drewN (Below.refl _ _) m⟩
 have t3 : (cg1 != 0) = true := by rw [bne, bF hcg]; rfl
 clear hg hp hgr hT hw hs ht hb hcg
 go_enter Tryz.func5, Tryz.ntmps5
 go_wp2_with fail
 refine (HWk.out _).mono ?_
 rintro e w1 ⟨rfl, b1⟩
 have HB1 : Hid (Below w.heap.size w w1) := HB0.out.trans (b1.mono HB0.out.size)
 have HX1 : Hid (GX w1 w.heap.size (.slice A gs.length c)) := HX0.out.below b1
 clear b1 HWk HB0 HX0
 go_wp2_with fail
 refine (HS.out _ HB1.out).mono ?_
 rintro e w2 ⟨rfl, b2⟩
 have HB2 : Hid (Below w.heap.size w w2) := HB1.out.trans (b2.mono HB1.out.size)
 have HX2 : Hid (GX w2 w.heap.size (.slice A gs.length c)) := HX1.out.below b2
 clear b2 HS HB1 HX1
 go_wp2_with fail
 refine (HP.out _ (HG.out.later HB2.out)).mono ?_
 rintro e w3 ⟨⟨A3, c3, rfl, hA3, _⟩, b3⟩
 have HB3 : Hid (Below w.heap.size w (w3.alloc (.cells #[.int .i64 0, .int .i64 0] 39))) := (HB2.out.trans (b3.mono HB2.out.size)).alloc (Nat.le_trans HB2.out.size b3.size) _
 have HX3 : Hid (GX (w3.alloc (.cells #[.int .i64 0, .int .i64 0] 39)) w.heap.size (.slice A gs.length c)) := (HX2.out.below b3).below (zaa _ _)
 have HR3 : Hid (T.RdN (w3.alloc (.cells #[.int .i64 0, .int .i64 0] 39)) A3 L) := hA3.below (zaa _ _) (Nat.le_refl _)
 clear b3 HP HB2 HX2 hA3
 go_wp2_with fail
 refine (HQ.out _ _ _ HB3.out HR3.out).mono ?_
 rintro e wq ⟨rfl, bq⟩
 have HBq : Hid (Below w.heap.size w wq) := HB3.out.trans (bq.mono HB3.out.size)
 have HXq : Hid (GX wq w.heap.size (.slice A gs.length c)) := HX3.out.below bq
 clear bq HQ HB3 HX3 HR3
 have y0 := HXq.out.cl
 go_wp2_with fail
 refine (HGr.out _ HBq.out).mono ?_
 rintro e w5 ⟨rfl, b5⟩
 have HB5 : Hid (Below w.heap.size w w5) := HBq.out.trans (b5.mono HBq.out.size)
 have HX5 : Hid (GX w5 w.heap.size (.slice A gs.length c)) := HXq.out.below b5
 clear b5 HGr HBq HXq y0
 go_wp2_with fail
 go_ret
 exact ⟨rfl, HB5.out⟩
theorem zmc (L : List Nd) (Ap : Option Addr) (cp : Nat) (hL : L.length <= 140737488355328) (hT : ∀ n ∈ L, n.tx.size <= 140737488355328) (hw : ∀ n ∈ L, NdW n) (gs : List (ByteArray × List Nd)) (A : Option Addr) (c : Nat) (w : World) (hg : GW w) (hp : T.RdN w Ap L) (hgr : GrIn w A c gs) (cp1 : Int) (hcp : cp1 ≠ 0) (hs : shR L = (⟨#[]⟩, cp1)) (t : ByteArray) (ht : grR gs = (t, 0)) (hpb : psR t = .inl gs) (hgl : gs.length <= 200) (hgn : ∀ g ∈ gs, g.2.length <= 2048) : Calls Tryz.prog 5 #[.slice Ap L.length cp, .agg #[.slice A gs.length c]] w fun e w' => e = .returned (.bool true) /\ Below w.heap.size w w' := by
 have HWk : Hid (∀ W, Calls Tryz.prog 14 #[] W fun e w' => e = .returned (.bool true) /\ Below W.heap.size W w') := zdB
 have HS := (show Hid (∀ W, Below w.heap.size w W -> Calls Tryz.prog 9 #[.slice Ap L.length cp] W fun e w' => e = .returned (.tuple #[.string ⟨#[]⟩, .int .i64 cp1]) /\ Below W.heap.size W w') from fun W hW => by
  have h := zb8 L Ap cp hL hT hw W (hp.below hW (Nat.le_refl _))
  rw [hs] at h
  exact h)
 have HGr := (show Hid (∀ W, Below w.heap.size w W -> Calls Tryz.prog 16 #[.agg #[.slice A gs.length c]] W fun e w' => e = .returned (.tuple #[.string t, .int .i64 0]) /\ Below W.heap.size W w') from fun W hW => by
  have h := zbX gs A c (by have := hgr.len; omega) hgr.tx hgr.nw W (hgr.d.later hW)
  rw [ht] at h
  exact h)
 have HG : Hid (GW w) := hg
 have HB0 : Hid (Below w.heap.size w (w.alloc (.cells #[.slice A gs.length c] 33))) := zaa _ _
 have HX0 : Hid (GX (w.alloc (.cells #[.slice A gs.length c] 33)) w.heap.size (.slice A gs.length c)) := GX.mk (heap_alloc_new w _)
 have hneq := ziO
 have heql := ziL
 have t1 : (cp1 == 0) = false := bF hcp
 have HPs : Hid (∀ W, GW W -> Calls Tryz.prog 21 #[.string t] W fun e w' => (∃ u, e = .returned (.tuple #[.agg #[u], .agg #[.int .i64 0, .int .i64 0]]) /\ GrR w' u gs) /\ Below W.heap.size W w') := fun W hW => zl8 t W hW _ hpb
 have HSg : Hid (∀ W u, Below w.heap.size w W -> GrR W u gs -> Calls Tryz.prog 22 #[.agg #[.slice A gs.length c], .agg #[u]] W fun e w' => e = .returned (.bool true) /\ Below W.heap.size W w') := fun W u hW hu => zgQ hgn hgl ⟨A, c, rfl, hgr.d.later hW⟩ hu
 clear hg hp hgr hT hw hs ht hcp hpb hgn hgl
 go_enter Tryz.func5, Tryz.ntmps5
 go_wp2_with fail
 refine (HWk.out _).mono ?_
 rintro e w1 ⟨rfl, b1⟩
 have HB1 : Hid (Below w.heap.size w w1) := HB0.out.trans (b1.mono HB0.out.size)
 have HX1 : Hid (GX w1 w.heap.size (.slice A gs.length c)) := HX0.out.below b1
 clear b1 HWk HB0 HX0
 go_wp2_with fail
 refine (HS.out _ HB1.out).mono ?_
 rintro e w2 ⟨rfl, b2⟩
 have HB2 : Hid (Below w.heap.size w w2) := HB1.out.trans (b2.mono HB1.out.size)
 have HX2 : Hid (GX w2 w.heap.size (.slice A gs.length c)) := HX1.out.below b2
 clear b2 HS HB1 HX1
 obtain ⟨wq, hwq⟩ : ∃ x, x = w2 := ⟨_, rfl⟩
 subst hwq
 have HBq := HB2
 have HXq := HX2
 have y0 := HXq.out.cl
 go_wp2_with fail
 refine (HGr.out _ HBq.out).mono ?_
 rintro e w5 ⟨rfl, b5⟩
 have HB5 : Hid (Below w.heap.size w w5) := HBq.out.trans (b5.mono HBq.out.size)
 have HX5 : Hid (GX w5 w.heap.size (.slice A gs.length c)) := HXq.out.below b5
 clear b5 HGr HBq HXq y0
 go_wp2_with fail
 refine (HPs.out _ (HG.out.later HB5.out)).mono ?_
 rintro e w6 ⟨⟨u, rfl, hu⟩, b6⟩
 have hb7 : Below w6.heap.size w6 ((w6.alloc (.cells #[u] 33)).alloc (.cells #[.int .i64 0, .int .i64 0] 39)) := (zaa w6 _).alloc (zaa w6 _).size _
 have HB7 : Hid (Below w.heap.size w ((w6.alloc (.cells #[u] 33)).alloc (.cells #[.int .i64 0, .int .i64 0] 39))) := (HB5.out.trans (b6.mono HB5.out.size)).trans (hb7.mono (Nat.le_trans HB5.out.size b6.size))
 have HX7 : Hid (GX ((w6.alloc (.cells #[u] 33)).alloc (.cells #[.int .i64 0, .int .i64 0] 39)) w.heap.size (.slice A gs.length c)) := (HX5.out.below b6).below hb7
 have HR7 : Hid (GrR ((w6.alloc (.cells #[u] 33)).alloc (.cells #[.int .i64 0, .int .i64 0] 39)) u gs) := hu.later hb7
 obtain ⟨A6, c6, rfl, _⟩ := hu
 have HY7 : Hid (GX ((w6.alloc (.cells #[.slice A6 gs.length c6] 33)).alloc (.cells #[.int .i64 0, .int .i64 0] 39)) w6.heap.size (.slice A6 gs.length c6)) := (GX.mk (heap_alloc_new w6 _)).below (zaa _ _)
 have HF7 : Hid (FX ((w6.alloc (.cells #[.slice A6 gs.length c6] 33)).alloc (.cells #[.int .i64 0, .int .i64 0] 39)) (w6.heap.size + 1) 0 0) := ⟨by have h := heap_alloc_new (w6.alloc (.cells #[.slice A6 gs.length c6] 33)) (.cells #[.int .i64 0, .int .i64 0] 39); rw [World.size_alloc] at h; exact h⟩
 clear b6 HPs HB5 HX5 hb7
 have y0 := HX7.out.cl
 have y1 := HY7.out.cl
 go_wp2_with fail
 refine (HSg.out _ _ HB7.out HR7.out).mono ?_
 rintro e w8 ⟨rfl, b8⟩
 have HB8 : Hid (Below w.heap.size w w8) := HB7.out.trans (b8.mono HB7.out.size)
 clear b8 HB7 HX7 HR7 HY7 HF7 HSg y0 y1
 go_wp2_with fail
 go_ret
 exact ⟨rfl, HB8.out⟩
theorem zmd (L : List Nd) (Ap : Option Addr) (cp : Nat) (hL : L.length <= 140737488355328) (hT : ∀ n ∈ L, n.tx.size <= 140737488355328) (hw : ∀ n ∈ L, NdW n) (gs : List (ByteArray × List Nd)) (A : Option Addr) (c : Nat) (w : World) (hg : GW w) (hp : T.RdN w Ap L) (hgr : GrIn w A c gs) (cp1 : Int) (hcp : cp1 ≠ 0) (hs : shR L = (⟨#[]⟩, cp1)) (cg1 : Int) (hcg : cg1 ≠ 0) (ht : grR gs = (⟨#[]⟩, cg1)) : Calls Tryz.prog 5 #[.slice Ap L.length cp, .agg #[.slice A gs.length c]] w fun e w' => e = .returned (.bool true) /\ Below w.heap.size w w' := by
 have HWk : Hid (∀ W, Calls Tryz.prog 14 #[] W fun e w' => e = .returned (.bool true) /\ Below W.heap.size W w') := zdB
 have HS := (show Hid (∀ W, Below w.heap.size w W -> Calls Tryz.prog 9 #[.slice Ap L.length cp] W fun e w' => e = .returned (.tuple #[.string ⟨#[]⟩, .int .i64 cp1]) /\ Below W.heap.size W w') from fun W hW => by
  have h := zb8 L Ap cp hL hT hw W (hp.below hW (Nat.le_refl _))
  rw [hs] at h
  exact h)
 have HGr := (show Hid (∀ W, Below w.heap.size w W -> Calls Tryz.prog 16 #[.agg #[.slice A gs.length c]] W fun e w' => e = .returned (.tuple #[.string ⟨#[]⟩, .int .i64 cg1]) /\ Below W.heap.size W w') from fun W hW => by
  have h := zbX gs A c (by have := hgr.len; omega) hgr.tx hgr.nw W (hgr.d.later hW)
  rw [ht] at h
  exact h)
 have HG : Hid (GW w) := hg
 have HB0 : Hid (Below w.heap.size w (w.alloc (.cells #[.slice A gs.length c] 33))) := zaa _ _
 have HX0 : Hid (GX (w.alloc (.cells #[.slice A gs.length c] 33)) w.heap.size (.slice A gs.length c)) := GX.mk (heap_alloc_new w _)
 have hneq := ziO
 have heql := ziL
 have t1 : (cp1 == 0) = false := bF hcp
 have t3 : (cg1 != 0) = true := by rw [bne, bF hcg]; rfl
 clear hg hp hgr hT hw hs ht hcp hcg
 go_enter Tryz.func5, Tryz.ntmps5
 go_wp2_with fail
 refine (HWk.out _).mono ?_
 rintro e w1 ⟨rfl, b1⟩
 have HB1 : Hid (Below w.heap.size w w1) := HB0.out.trans (b1.mono HB0.out.size)
 have HX1 : Hid (GX w1 w.heap.size (.slice A gs.length c)) := HX0.out.below b1
 clear b1 HWk HB0 HX0
 go_wp2_with fail
 refine (HS.out _ HB1.out).mono ?_
 rintro e w2 ⟨rfl, b2⟩
 have HB2 : Hid (Below w.heap.size w w2) := HB1.out.trans (b2.mono HB1.out.size)
 have HX2 : Hid (GX w2 w.heap.size (.slice A gs.length c)) := HX1.out.below b2
 clear b2 HS HB1 HX1
 obtain ⟨wq, hwq⟩ : ∃ x, x = w2 := ⟨_, rfl⟩
 subst hwq
 have HBq := HB2
 have HXq := HX2
 have y0 := HXq.out.cl
 go_wp2_with fail
 refine (HGr.out _ HBq.out).mono ?_
 rintro e w5 ⟨rfl, b5⟩
 have HB5 : Hid (Below w.heap.size w w5) := HBq.out.trans (b5.mono HBq.out.size)
 have HX5 : Hid (GX w5 w.heap.size (.slice A gs.length c)) := HXq.out.below b5
 clear b5 HGr HBq HXq y0
 go_wp2_with fail
 go_ret
 exact ⟨rfl, HB5.out⟩
theorem znS (L : List Nd) (Ap : Option Addr) (cp : Nat) (hL : L.length <= 140737488355328) (hT : ∀ n ∈ L, n.tx.size <= 140737488355328) (hw : ∀ n ∈ L, NdW n) (gs : List (ByteArray × List Nd)) (A : Option Addr) (c : Nat) (w : World) (hg : GW w) (hp : T.RdN w Ap L) (hgr : GrIn w A c gs) : Calls Tryz.prog 5 #[.slice Ap L.length cp, .agg #[.slice A gs.length c]] w fun e w' => e = .returned (.bool true) /\ Below w.heap.size w w' := by
 have hP : (∃ s, shR L = (s, 0) /\ paR s = .inl [(⟨#[]⟩, L)]) ∨ ∃ c, c ≠ 0 /\ shR L = (⟨#[]⟩, c) := by
  by_cases hc : (T.ck L).2 = 0
  ·have hr := T.zjT hc
   by_cases hl : 65536 < (itT (shI L)).length
   ·exact .inr ⟨2, by decide, by rw [zoF hr, ziP hl]⟩
   ·exact .inl ⟨shX L, by rw [zoF hr, zoE hl]; rfl, zqT hr hw (by omega)⟩
  ·exact .inr ⟨_, hc, by unfold shR; rw [if_neg hc]⟩
 have hQ : (∃ t, grR gs = (t, 0) /\ psR t = .inl gs /\ gs.length <= 200 /\ ∀ g ∈ gs, g.2.length <= 2048) ∨ ∃ c, c ≠ 0 /\ grR gs = (⟨#[]⟩, c) := by
  by_cases hc : wrR gs = 0
  ·have hk := grk_of hc hgr.nw
   by_cases hl : 65536 < (grT gs).length
   ·exact .inr ⟨2, by decide, by unfold grR; rw [if_pos hc, ziP hl]⟩
   ·exact .inl ⟨txO (grT gs), by unfold grR; rw [if_pos hc, zoE hl], zri hk (by omega), hk.len, fun g h => by have := sum_le gs g h; have := hk.sum; omega⟩
  ·exact .inr ⟨_, hc, by unfold grR; rw [if_neg hc]⟩
 rcases hP with ⟨s, h1, h2⟩ | ⟨c1, h1, h2⟩
 ·rcases hQ with ⟨t, q1, q2, q3, q4⟩ | ⟨c2, q1, q2⟩
  ·exact zma L Ap cp hL hT hw gs A c w hg hp hgr s h1 h2 t q1 q2 q3 q4
  ·exact zmb L Ap cp hL hT hw gs A c w hg hp hgr s h1 h2 c2 q1 q2
 ·rcases hQ with ⟨t, q1, q2, q3, q4⟩ | ⟨c2, q1, q2⟩
  ·exact zmc L Ap cp hL hT hw gs A c w hg hp hgr c1 h1 h2 t q1 q2 q3 q4
  ·exact zmd L Ap cp hL hT hw gs A c w hg hp hgr c1 h1 h2 c2 q1 q2
end Go.Proofs.YtnpifgcgjgddoaaGreatDoor.N
namespace Go.Proofs.YtnpifgcgjgddoaaGreatDoor
open Go.ChangeShapes Go.WideShapes Go.ChangeAt Go.RowKit
open Go.ChangeMaps (open_string shut_string)
theorem zdM (H : Type) (enc : TypeId × Value -> H) (W : World) (base : Nat) (args : Array Value) (ds gs : List (DataW H)) (before : List MemPlace)
  (hval0 : ∀ (j : Nat) t v, Tryz.f5.params[j]? = some t -> args[j]? = some v -> Value.okWide Tryz.prog W .any base t v)
  (hW : DataW.Whole enc Tryz.prog Tryz.f5.params.toList Rows.showBackSpec.vars false W args.toList ds gs before) (hvb : N.GW W)
  (hsz : (DataW.weightsEach Tryz.prog (Tryz.f5.params.toList ++ (OpenSpec.ofChange Rows.showBackSpec).bare.plain.varTypes Tryz.prog) (ds ++ gs)).all (· <= reachBytes) = true) :
  Calls Tryz.prog 5 args W fun e W' => ∃ v, e = .returned v /\ Rows.showBackSpec.post enc Tryz.prog Tryz.f5 false true false false W args v W' := by
 have hval : ∀ (j : Nat) t v, Tryz.f5.params[j]? = some t -> args[j]? = some v -> Value.okWide Tryz.prog W .any base t v := hval0
 have hW' := hW
 obtain ⟨p, q, hA0, hV, rfl, hfz, hnd⟩ := hW
 have hA : DataW.TrodAll enc Tryz.prog W 0 (fun _ => true) true Tryz.f5.params.toList args.toList ds p := hA0
 rw [Tryz.params5] at hA hval hsz
 obtain ⟨v0, v1, d0, d1, p0, p1, rfl, rfl, rfl, h0, h1⟩ := trodAll_two hA
 obtain ⟨rfl, rfl⟩ := trodVars_none hV
 have lt0 : ∀ x ∈ p0, x.block < W.heap.size := by obtain ⟨m, hm⟩ := h0; exact DataW.trod_lt m _ _ _ hm
 obtain ⟨A0, c0, L0, rfl, r0, nl0, s0, w0⟩ := T.ziA h0 (okWide_slice Tryz.underlying23 (hval 0 23 v0 rfl rfl))
 obtain ⟨a0, b0⟩ := s0 (T.ziz hsz (j := 0) rfl rfl)
 have lt1 : ∀ x ∈ p1, x.block < W.heap.size := by obtain ⟨m, hm⟩ := h1; exact DataW.trod_lt m _ _ _ hm
 obtain ⟨A1, c1, L1, rfl, r1⟩ := N.zl6 h1 (hval 1 33 v1 rfl rfl) (T.ziz hsz (j := 1) rfl rfl)
 clear hA0 hval0
 refine (N.znS L0 A0 c0 (by omega) (fun n hn => by have := b0 n hn; omega) (fun n hn => N.nw_of (w0 n hn)) L1 A1 c1 W hvb r0 r1).mono fun e W' ⟨he, bel⟩ => ?_
 subst he
 exact ⟨_, rfl, _, _, _, [], _, [], hW', trodAll_mk1 (shut_bool Tryz.underlying4 _), (trodAll_cons_mk (Below.trod zll (by kernel_rfl) (of_decide_eq_true (by kernel_rfl)) h0 bel lt0) (trodAll_cons_mk (Below.trod zll (by kernel_rfl) (of_decide_eq_true (by kernel_rfl)) h1 bel lt1) trodAll_mk0)), rfl, bel.frame _, fun h => by cases h⟩
theorem zgR (os : Os) : laidMet Tryz.prog Rows.showBackRow.laid ((zlm (World.holding Tryz.prog os ⟨#[], #[], []⟩)).forCall (fun _ _ => 0) ⟨#[], #[.slice none 0 0, .agg #[.slice none 0 0]], []⟩).memory :=
 laidMet_of_run' 8 (by kernel_rfl) (by kernel_rfl)
theorem ze0 (os : Os) {H : Type} (enc : TypeId × Value -> H) : ∃ places, DataW.whole enc Tryz.prog ((zlm (World.holding Tryz.prog os ⟨#[], #[], []⟩)).forCall (fun _ _ => 0) ⟨#[], #[.slice none 0 0, .agg #[.slice none 0 0]], []⟩).memory Tryz.f5.params.toList Rows.showBackSpec.vars false (#[.slice none 0 0, .agg #[.slice none 0 0]] : Array Value).toList 8 = some ([.nil, .agg [.nil]], [], places) :=
 ⟨[], by kernel_rfl⟩
theorem zeI (os : Os) (started : os.Started) (H : Type) (enc : TypeId × Value -> H) (F : Stop.Interp) :
  ReturnsInHanded {} Tryz.checked os 5 .any ((OpenSpec.ofChange Rows.showBackSpec).preRow enc Tryz.prog Tryz.f5 Rows.showBackRow.domain false Rows.showBackRow.laid) (((OpenSpec.ofChange Rows.showBackSpec).at F).post enc Tryz.prog Tryz.f5 false true false false) := by
 obtain ⟨places, hx⟩ := ze0 os enc
 refine returnsInHanded_of_row (C := Tryz.checked) (s := OpenSpec.ofChange Rows.showBackSpec) own started (by kernel_rfl) Tryz.func5
  (witness_row_at (enc := enc) (C := Tryz.checked) false (zlm (World.holding Tryz.prog os ⟨#[], #[], []⟩)) #[.slice none 0 0, .agg #[.slice none 0 0]] rfl (by kernel_rfl) (by kernel_rfl) (by kernel_rfl)
   (OpenSpec.preRow_of_cond 8 hx (by kernel_rfl) (fun k hk => by cases hk) (by kernel_rfl) (zgR os))) ?_
 intro W base args ds gs before hval hW _ hcond hsz hL _ _
 exact zdM H enc W base args ds gs before hval hW (zjp hL) hsz
theorem zgS : Rows.ShowBackSaid :=
 OpenClaim.holds_of_cond 5 Tryz.f5 rfl rfl rfl rfl rfl rfl rfl ⟨rfl, rfl, rfl, rfl, rfl⟩ rfl rfl rfl rfl rfl (by kernel_rfl) Tryz.func5 (by kernel_rfl)
  (of_decide_eq_true (by kernel_rfl)) (by unfold Func.isWrapper; first | (rw [if_pos (by decide +kernel)]; kernel_rfl) | (rw [if_neg (by decide +kernel)]; exact ⟨rfl, rfl⟩))
  (fun os started H enc _ F => by rw [OpenClaim.pre_eq_preRow]; exact zeI os started H enc F)
theorem ze1 (f : FuncId) (fn : Func) (hf : Tryz.pinned.checked.prog.funcNamed "harrow/harrowlaw07.ShowBack" = some f) (hfn : Tryz.pinned.checked.prog.funcs[f]? = some fn) :
  true = Tryz.pinned.checked.prog.looks [] /\ ∀ (j : Nat) t, fn.params[j]? = some t -> Tryz.pinned.checked.prog.wantsStandIn t = false := by
 obtain rfl : f = 5 := Option.some.inj ((show Tryz.prog.funcNamed "harrow/harrowlaw07.ShowBack" = some 5 by kernel_rfl).symm.trans hf) |>.symm
 obtain rfl : fn = Tryz.f5 := (Option.some.inj (Tryz.func5.symm.trans hfn)).symm
 refine ⟨by kernel_rfl, fun j t ht => ?_⟩
 rw [Tryz.params5] at ht
 have hm : t ∈ [23, 33] := by simpa using Array.mem_of_getElem? ht
 have hall : ([23, 33].all fun u => !Tryz.prog.wantsStandIn u) = true := by kernel_rfl
 exact (show Tryz.prog.wantsStandIn t = false by simpa using List.all_eq_true.1 hall t hm)
theorem showBack_holds : Rows.ShowBackCardSaid :=
 Claim7.holds_tied_plain_at .later [] _ _ _ _ zgS (fun _ h => by cases h) (by kernel_rfl) (fun _ h => by cases h) showBack_row_tie rfl ⟨rfl, rfl⟩ (by kernel_rfl) rfl ze1 (by kernel_rfl)
end Go.Proofs.YtnpifgcgjgddoaaGreatDoor
