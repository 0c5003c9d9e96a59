/- DERIVED. Plain mathematics and walks, laid together (5). -/
import Derived.Lib.ConvBytes
import Derived.Lib.AtoiErrMem
import Derived.Lib.UnsafeStr
import Derived.Lib.AppendStr
import Derived.Deep.RegionLaw
import Derived.Deep.AppendLies
import Derived.Test.YtppggnmlbcdegabRr04
namespace Go.Proofs.Ytppggnmlbcdegab.T
open Go.RowKit
def asText (l : List Int) : ByteArray := l.foldl (fun r n => r.push (UInt8.ofNat n.toNat)) ByteArray.empty
theorem asText_data (l : List Int) : (asText l).data.toList = l.map (fun n => UInt8.ofNat n.toNat) := by
  have key : ∀ (l : List Int) (s : ByteArray), (l.foldl (fun r n => r.push (UInt8.ofNat n.toNat)) s).data.toList = s.data.toList ++ l.map (fun n => UInt8.ofNat n.toNat) := by
    intro l
    induction l with
    | nil => intro s; simp
    | cons b l ih => intro s; rw [List.foldl_cons, ih]; simp [ByteArray.push]
  have := key l ByteArray.empty
  simpa [asText] using this
theorem asText_eq (l : List Int) : asText l = ⟨(l.map fun n => UInt8.ofNat n.toNat).toArray⟩ := by
  have h := asText_data l
  cases ht : asText l with
  | mk d =>
    rw [ht] at h
    cases d with
    | mk x => simp at h; rw [h]
def byl (s : ByteArray) : List Int := s.data.toList.map fun c => (c.toNat : Int)
theorem byl_len (s : ByteArray) : (byl s).length = s.size := by unfold byl; rw [List.length_map]; rfl
theorem byl_get (s : ByteArray) (k : Nat) (h : k < s.size) : (byl s)[k]? = some (s[k].toNat : Int) := by
  unfold byl
  rw [List.getElem?_map, List.getElem?_eq_getElem (by simpa using h)]
  rfl
theorem asText_byl (s : ByteArray) : asText (byl s) = s := by
  rw [asText_eq]
  unfold byl
  rw [List.map_map]
  have : (List.map ((fun n : Int => UInt8.ofNat n.toNat) ∘ fun c : UInt8 => (c.toNat : Int)) s.data.toList) = s.data.toList := by
    conv => rhs; rw [← List.map_id s.data.toList]
    refine List.map_congr_left fun c _ => ?_
    simp
  rw [this]
theorem conv_bytes (s : ByteArray) (w : World) : (convert 9 78 (.string s)).run Try.prog w = .ok (.slice (some ⟨w.heap.size, 0, none⟩) s.size (grownCap w s.size 0 5)) (Lib.bytesWorld w 5 s) :=
  Lib.run_convert_string_bytes w 9 78 5 s Try.underlying9 Try.underlying78 Try.underlying5
theorem conv_again (s : ByteArray) (w : World) (c : Nat) : (convert 78 9 (.slice (some ⟨w.heap.size, 0, none⟩) s.size c)).run Try.prog (Lib.bytesWorld w 5 s) = .ok (.string s) (Lib.bytesWorld w 5 s) := by
  rw [run_convert_bytes_string _ 78 9 5 _ _ _ Try.underlying78 Try.underlying5 Try.underlying9]
  have h := run_bytesToString (P := Try.prog) (Lib.bytesWorld w 5 s) ⟨w.heap.size, 0, none⟩ s.size c (byl s) ?_
  · rw [h]; exact congrArg (fun x => Result.ok (Value.string x) _) (asText_byl s)
  · have h2 := run_loadCells_list (P := Try.prog) (w := Lib.bytesWorld w 5 s) ⟨w.heap.size, 0, none⟩ ((byl s).map (Value.int .u8)) (fun j u hj => by
      rw [List.getElem?_map] at hj
      have hlt : j < s.size := by
        by_cases q : j < s.size
        · exact q
        · rw [List.getElem?_eq_none (by rw [byl_len]; omega)] at hj; cases hj
      rw [byl_get s j hlt] at hj
      cases hj
      have h3 := Lib.bytesWorld_cell w 5 s j hlt
      rw [Addr.add_lit, Nat.zero_add, h3]
      have : s.data.toList.getD j 0 = s[j] := by
        rw [List.getD_eq_getElem?_getD, List.getElem?_eq_getElem (by simpa using hlt)]; rfl
      rw [this])
    rwa [List.length_map, byl_len] at h2

/-- A node in a box that is the call's own. -/
structure NX (W : World) (b : Nat) (n : Nd) : Prop where
  heap : W.heap[b]? = some (.cells #[.int .i64 n.op, .int .i64 n.nn, .string n.tx, .int .u64 n.s0, .int .u64 n.s1, .int .u64 n.s2, .int .u64 n.s3] 55 (0, 0))
theorem NX.lt {W : World} {b : Nat} {n : Nd} (h : NX W b n) : b < W.heap.size := (Array.getElem?_eq_some_iff.1 h.heap).1
theorem NX.same {W W' : World} {b : Nat} {n : Nd} (h : NX W b n) (hb : W'.heap[b]? = W.heap[b]?) : NX W' b n := ⟨hb.trans h.heap⟩
theorem NX.nb {W : World} {b : Nat} {n : Nd} (h : NX W b n) : NB W b 0 n := by
  have key : ∀ (j : Nat) u, (#[Value.int .i64 n.op, .int .i64 n.nn, .string n.tx, .int .u64 n.s0, .int .u64 n.s1, .int .u64 n.s2, .int .u64 n.s3] : Array Value)[j]? = some u → W.cell? ⟨b, j, none⟩ = some u := fun j u hu => by
    rw [cell_of_row W b j _ 55 (0, 0) h.heap]
    exact hu
  exact ⟨key 0 _ rfl, key 1 _ rfl, key 2 _ rfl, key 3 _ rfl, key 4 _ rfl, key 5 _ rfl, key 6 _ rfl⟩
theorem NX.fz {W : World} {b : Nat} {n : Nd} (h : NX W b n) (j : Nat) : W.frozen? ⟨b, j, none⟩ = false := frozen_of_row W b j _ 55 h.heap
theorem NX.tx {W : World} {b : Nat} {n : Nd} (h : NX W b n) : NX (W.setCell ⟨b, 2, none⟩ (.string n.tx)) b n := ⟨by rw [heap_setCell_same W b 2 _ 55 _ h.heap]; rfl⟩

set_option maxRecDepth 100000 in
set_option maxHeartbeats 4000000 in
theorem copied_any (n : Nd) (w : World) : Calls Try.prog 39 #[ndG n] w fun e w' => e = .returned (ndG n) ∧ Below w.heap.size w w' := by
  obtain ⟨W2, hW2⟩ : ∃ W2, W2 = (w.alloc (.cells #[.int .i64 n.op, .int .i64 n.nn, .string n.tx, .int .u64 n.s0, .int .u64 n.s1, .int .u64 n.s2, .int .u64 n.s3] 55)).alloc (.cells #[.int .i64 0, .int .i64 0, .string ⟨#[]⟩, .int .u64 0, .int .u64 0, .int .u64 0, .int .u64 0] 55) := ⟨_, rfl⟩
  have hx1 : NX W2 w.heap.size n := by
    rw [hW2]
    exact NX.same ⟨heap_alloc_new w _⟩ ((below_box (w.alloc (ndO n)) _).block _ (by simp))
  have hx2 : NX W2 (w.heap.size + 1) (zN 0) := by
    rw [hW2]
    have h := heap_alloc_new (w.alloc (ndO n)) (ndO (zN 0))
    rw [World.size_alloc] at h
    exact ⟨h⟩
  have hB : Below w.heap.size w W2 := by rw [hW2]; exact (below_box w _).alloc (below_box w _).size _
  have hs2 : W2.heap.size = w.heap.size + 2 := by rw [hW2]; simp
  have hb3 := Lib.bytesWorld_below W2 5 n.tx
  have hx1' : NX (Lib.bytesWorld W2 5 n.tx) w.heap.size n := hx1.same (hb3.block _ hx1.lt)
  have hx2' : NX (Lib.bytesWorld W2 5 n.tx) (w.heap.size + 1) (zN 0) := hx2.same (hb3.block _ hx2.lt)
  have HB3 := (show Hid (Below w.heap.size w (Lib.bytesWorld W2 5 n.tx)) from hB.trans (hb3.mono (by omega)))
  have hc1 := conv_bytes n.tx
  have hc2 : ∀ c, (convert 78 9 (.slice (some ⟨w.heap.size + 1 + 1, 0, none⟩) n.tx.size c)).run Try.prog (Lib.bytesWorld W2 5 n.tx) = .ok (.string n.tx) (Lib.bytesWorld W2 5 n.tx) := fun c => by
    have h := conv_again n.tx W2 c
    rw [hs2] at h
    exact h
  have HX1 := (show Hid (NX (Lib.bytesWorld W2 5 n.tx) w.heap.size n) from hx1')
  have HX2 := (show Hid (NX (Lib.bytesWorld W2 5 n.tx) (w.heap.size + 1) (zN 0)) from hx2')
  have HY1 := (show Hid (NX ((Lib.bytesWorld W2 5 n.tx).setCell ⟨w.heap.size, 2, none⟩ (.string n.tx)) w.heap.size n) from HX1.out.tx)
  have HY2 := (show Hid (NX ((Lib.bytesWorld W2 5 n.tx).setCell ⟨w.heap.size, 2, none⟩ (.string n.tx)) (w.heap.size + 1) (zN 0)) from HX2.out.same (heap_setCell_other _ _ _ _ (by simp)))
  have HY3 := (show Hid (NX (((((((((Lib.bytesWorld W2 5 n.tx).setCell ⟨w.heap.size, 2, none⟩ (.string n.tx)).setCell ⟨w.heap.size + 1, 0, none⟩ (.int .i64 n.op)).setCell ⟨w.heap.size + 1, 1, none⟩ (.int .i64 n.nn)).setCell ⟨w.heap.size + 1, 2, none⟩ (.string n.tx)).setCell ⟨w.heap.size + 1, 3, none⟩ (.int .u64 n.s0)).setCell ⟨w.heap.size + 1, 4, none⟩ (.int .u64 n.s1)).setCell ⟨w.heap.size + 1, 5, none⟩ (.int .u64 n.s2)).setCell ⟨w.heap.size + 1, 6, none⟩ (.int .u64 n.s3)) (w.heap.size + 1) n) from ⟨by
    have h := HY2.out.heap
    have h0 := heap_setCell_same _ (w.heap.size + 1) 0 _ 55 (.int .i64 n.op) h
    have h1 := heap_setCell_same _ (w.heap.size + 1) 1 _ 55 (.int .i64 n.nn) h0
    have h2 := heap_setCell_same _ (w.heap.size + 1) 2 _ 55 (.string n.tx) h1
    have h3 := heap_setCell_same _ (w.heap.size + 1) 3 _ 55 (.int .u64 n.s0) h2
    have h4 := heap_setCell_same _ (w.heap.size + 1) 4 _ 55 (.int .u64 n.s1) h3
    have h5 := heap_setCell_same _ (w.heap.size + 1) 5 _ 55 (.int .u64 n.s2) h4
    have h6 := heap_setCell_same _ (w.heap.size + 1) 6 _ 55 (.int .u64 n.s3) h5
    rw [h6]; rfl⟩)
  have HU := (show Hid (Below w.heap.size w (((((((((Lib.bytesWorld W2 5 n.tx).setCell ⟨w.heap.size, 2, none⟩ (.string n.tx)).setCell ⟨w.heap.size + 1, 0, none⟩ (.int .i64 n.op)).setCell ⟨w.heap.size + 1, 1, none⟩ (.int .i64 n.nn)).setCell ⟨w.heap.size + 1, 2, none⟩ (.string n.tx)).setCell ⟨w.heap.size + 1, 3, none⟩ (.int .u64 n.s0)).setCell ⟨w.heap.size + 1, 4, none⟩ (.int .u64 n.s1)).setCell ⟨w.heap.size + 1, 5, none⟩ (.int .u64 n.s2)).setCell ⟨w.heap.size + 1, 6, none⟩ (.int .u64 n.s3))) from (((((((HB3.out.setCell (by simp) _).setCell (by simp) _).setCell (by simp) _).setCell (by simp) _).setCell (by simp) _).setCell (by simp) _).setCell (by simp) _).setCell (by simp) _)
  have k2 := HX1.out.nb.c2
  have f2 := HX1.out.fz 2
  rw [Nat.zero_add] at k2
  obtain ⟨c0, c1, c2, c3, c4, c5, c6⟩ := HY1.out.nb
  obtain ⟨d0, d1, d2, d3, d4, d5, d6⟩ := HY2.out.nb
  simp only [Nat.zero_add, zN] at c0 c1 c2 c3 c4 c5 c6 d0 d1 d2 d3 d4 d5 d6
  have g0 := HY2.out.fz 0
  have g1 := HY2.out.fz 1
  have g2 := HY2.out.fz 2
  have g3 := HY2.out.fz 3
  have g4 := HY2.out.fz 4
  have g5 := HY2.out.fz 5
  have g6 := HY2.out.fz 6
  clear hx1 hx2 hB hb3 hx1' hx2' hs2 HX1 HX2 HB3 HY1 HY2
  subst hW2
  go_enter Try.func39, Try.ntmps39
  go_wp2_with fail
  generalize (((((((((Lib.bytesWorld ((w.alloc (.cells #[.int .i64 n.op, .int .i64 n.nn, .string n.tx, .int .u64 n.s0, .int .u64 n.s1, .int .u64 n.s2, .int .u64 n.s3] 55)).alloc (.cells #[.int .i64 0, .int .i64 0, .string ⟨#[]⟩, .int .u64 0, .int .u64 0, .int .u64 0, .int .u64 0] 55)) 5 n.tx).setCell ⟨w.heap.size, 2, none⟩ (.string n.tx)).setCell ⟨w.heap.size + 1, 0, none⟩ (.int .i64 n.op)).setCell ⟨w.heap.size + 1, 1, none⟩ (.int .i64 n.nn)).setCell ⟨w.heap.size + 1, 2, none⟩ (.string n.tx)).setCell ⟨w.heap.size + 1, 3, none⟩ (.int .u64 n.s0)).setCell ⟨w.heap.size + 1, 4, none⟩ (.int .u64 n.s1)).setCell ⟨w.heap.size + 1, 5, none⟩ (.int .u64 n.s2)).setCell ⟨w.heap.size + 1, 6, none⟩ (.int .u64 n.s3)) = W9 at *
  clear c0 c1 c2 c3 c4 c5 c6 d0 d1 d2 d3 d4 d5 d6 g0 g1 g2 g3 g4 g5 g6 k2 f2 hc1 hc2
  obtain ⟨c0, c1, c2, c3, c4, c5, c6⟩ := HY3.out.nb
  simp only [Nat.zero_add] at c0 c1 c2 c3 c4 c5 c6
  refine bodyPost_ret (v := ndG n) (by simp [results, Try.results39, go_sem, c0, c1, c2, c3, c4, c5, c6]) rfl ⟨rfl, HU.out⟩
end Go.Proofs.Ytppggnmlbcdegab.T

namespace Go.Proofs.Ytppggnmlbcdegab.T
open Go.RowKit
theorem enters47 (args : Array Value) (w : World) : (callFunc 39 args).run Try.prog w = .ok (.enter 39 args) w := enters_of Try.func39 (by kernel_rfl) rfl args w
theorem step_call47 {ops : Array Oper} {o : Oper} {a : Act} {w : World} {K : Act → World → Prop} {Q : Exit → Act → World → Prop} {E : Prop} (hgd : o.guard = none) (x : Operand) (ho : o.op = .call { callee := .value (.func 39), args := #[x], argTypes := #[55] }) (v : Value) (hx : a.eval x = v)
    (hc : Calls Try.prog 39 #[v] w fun e w' => ∃ r, e = .returned r ∧ K (a.put o.dst r) w') :
    if Region.wanted o (yielded ops a.tmps) = true then Oper.wp Try.prog o a w K Q else E := by
  have hw : Region.wanted o (yielded ops a.tmps) = true := by simp [Region.wanted, hgd]
  rw [if_pos hw]
  have h47 := enters47
  have he : (execOp a.eval o).run Try.prog w = .ok (.enter 39 #[v]) w := by
    unfold execOp
    simp [ho, go_sem, invoke, h47]
    rw [← hx]
    cases x <;> simp [Act.eval]
  unfold Oper.wp
  rw [he, Oper.upon_enter]
  refine hc.mono ?_
  rintro e w' ⟨r, rfl, hk⟩
  exact hk
end Go.Proofs.Ytppggnmlbcdegab.T

namespace Go.Proofs.Ytppggnmlbcdegab.U
open Go.RowKit
theorem grow_alloc {W W' : World} {o : Obj} {row : Option Nat} (h : (W.alloc o).grownBy W' row) : W.grownBy W' row :=
  ⟨h.os, h.tape, h.output, Nat.le_trans (by rw [World.size_alloc]; omega) h.size, fun k hk hne => (h.block k (by rw [World.size_alloc]; omega) hne).trans (((Below.refl W.heap.size W).alloc (Nat.le_refl _) o).block k hk)⟩
theorem info_split {P : Program} {e : TypeId} {z : Value} {s b : Nat} (h : (P.info? e).map (fun i => (i.zero, i.size, i.bytes)) = some (some z, s, b)) : ∃ i, P.info? e = some i ∧ i.zero = some z ∧ i.size = s ∧ i.bytes = b := by
  cases hi : P.info? e with
  | none => rw [hi] at h; cases h
  | some i =>
    rw [hi] at h
    have h2 := Option.some.inj h
    exact ⟨i, rfl, congrArg Prod.fst h2, congrArg (fun x => x.2.1) h2, congrArg (fun x => x.2.2) h2⟩
/-- One more behind a row that the call owns. -/
theorem wpList_app1 {P : Program} {ops : Array Oper} {rest : List Oper} {o : Oper} {a : Act} {Q : Exit → Act → World → Prop} {W : World} {u : Value} {e : TypeId} (hgd : o.guard = none) (s x : Operand) (t : TypeId)
    (ho : o.op = .call { callee := .builtin .append, args := #[s, x], argTypes := #[t, t] }) (z : Value) (bytes : Nat) (ht : P.underlying t = some (.slice e)) (hi : (P.info? e).map (fun i => (i.zero, i.size, i.bytes)) = some (some z, 1, bytes)) (hzs : z.cells.size = 1)
    (base n : Nat) (v : Value) (xs : List Value) (hs : a.eval s = v) (hx : a.eval x = .slice (some ⟨W.heap.size, 0, none⟩) 1 1) (hown : W.ownsRow base e 1 v n xs) (h1 : u.oneCell' = true) (hn : n ≤ 1000000) (hb : bytes ≤ 64) (hbase : base ≤ W.heap.size)
    (h : ∀ g cap w', w'.ownsRow base e 1 (.slice (some ⟨g, 0, none⟩) (n + 1) cap) (n + 1) (xs ++ [u]) → W.grownBy w' v.ownBlock → (v.ownBlock = some g ∨ g = W.heap.size + 1) → g < w'.heap.size → wpList P ops Q rest (a.put o.dst (.slice (some ⟨g, 0, none⟩) (n + 1) cap)) w') :
    wpList P ops Q (o :: rest) a (W.alloc (.cells #[u] e)) := by
  obtain ⟨i, hinf, hz, hz1, hz2⟩ := info_split hi
  refine wpList_append_lies (W.alloc (.cells #[u] e)) hgd s x t ho base e i z 1 bytes ht hinf hz hz1 hz2 hzs (by decide) v n xs hs (hown.alloc _) ⟨W.heap.size, 0, none⟩ 1 1 [u] hx rfl ?_ (fun y hy => by rw [List.mem_singleton.1 hy]; exact h1) (by decide) ?_ ?_ ?_ (W.heap.size + 1) (by rw [World.size_alloc]) ?_
  · intro j y hy
    exact World.news_of_block (heap_alloc_new W (.cells #[u] e)) j y hy
  · unfold maxLen; omega
  · have : (n + 1) * bytes ≤ 1000001 * 64 := Nat.mul_le_mul (by omega) hb
    omega
  · rw [World.size_alloc]; omega
  · intro g cap w' h2 h3 h4 h5
    exact h g cap w' h2 (grow_alloc h3) h4 h5
/-- Numbers as values. -/
def nI (x : Nat) : Value := .int .i64 (x : Int)
theorem own_get {W : World} {B e n : Nat} {v : Value} {xs : List Value} (h : W.ownsRow B e 1 v n xs) {j : Nat} {x : Value} (hj : xs[j]? = some x) : ∃ g cap, v = .slice (some ⟨g, 0, none⟩) n cap ∧ B ≤ g ∧ g < W.heap.size ∧ W.cell? ⟨g, j, none⟩ = some x ∧ W.frozen? ⟨g, j, none⟩ = false := by
  have hl := h.1
  have hj2 := (List.getElem?_eq_some_iff.1 hj).1
  obtain ⟨g, cap, rfl, hb, hg⟩ := h.form (by omega)
  exact ⟨g, cap, rfl, hb, hg, (h.cellAt j (by omega)).trans hj, h.frozenAt j⟩
theorem own_slice {W : World} {B e n : Nat} {v : Value} {xs : List Value} (h : W.ownsRow B e 1 v n xs) : ∃ A cap, v = .slice A n cap := by
  rcases h.2 with ⟨rfl, rfl⟩ | ⟨g, cap, cur, rfl, _⟩
  · exact ⟨_, _, rfl⟩
  · exact ⟨_, _, rfl⟩
/-- What is written lies behind a block: what stands ahead of it is as it was. -/
theorem below_grown {w W W' : World} {row : Option Nat} (h : Below w.heap.size w W) (hg : W.grownBy W' row) (hr : ∀ k, row = some k → w.heap.size ≤ k) : Below w.heap.size w W' := h.grown hg h.size (fun j hj => hr j hj)
end Go.Proofs.Ytppggnmlbcdegab.U

namespace Go.Proofs.Ytppggnmlbcdegab.N
open Go.RowKit Go.Maps
open Go.Proofs.Ytppggnmlbcdegab.T
/-- A rule that lies in memory of its own: it, and its pattern's list. -/
abbrev Rg : Type := (ByteArray × List Nd) × Value
def rgV (x : Rg) : List Value := [.string x.1.1, x.2]
def rgc (l : List Rg) : List Value := l.flatMap rgV
theorem rgc_app (a b : List Rg) : rgc (a ++ b) = rgc a ++ rgc b := List.flatMap_append
theorem rgc_one (x : Rg) : rgc [x] = rgV x := by unfold rgc; rw [List.flatMap_cons, List.flatMap_nil, List.append_nil]
theorem rgc_get (l : List Rg) : ∀ (k j : Nat) (x : Rg) (u : Value), l[k]? = some x → (rgV x)[j]? = some u → (rgc l)[k * 2 + j]? = some u := by
  induction l with
  | nil => intro k j x u h; cases h
  | cons a l ih =>
    intro k j x u h hu
    have e : rgc (a :: l) = rgV a ++ rgc l := by unfold rgc; rw [List.flatMap_cons]
    rw [e]
    have hj : j < 2 := (List.getElem?_eq_some_iff.1 hu).1
    cases k with
    | zero =>
      cases h
      rw [Nat.zero_mul, Nat.zero_add, List.getElem?_append_left (by show j < 2; exact hj)]
      exact hu
    | succ k =>
      have h2 : l[k]? = some x := by simpa using h
      have e2 : (rgV a).length = 2 := rfl
      rw [List.getElem?_append_right (by rw [e2]; omega), e2, show (k + 1) * 2 + j - 2 = k * 2 + j from by omega]
      exact ih k j x u h2 hu
/-- A grammar that lies in memory of its own, rule by rule. -/
structure OG (W : World) (B : Nat) (v : Value) (ov : List Rg) : Prop where
  o : W.ownsRow B 38 2 v ov.length (rgc ov)
  e : ∀ x ∈ ov, W.ownsRow B 55 7 x.2 x.1.2.length (ndc x.1.2)
  ap : ov.Pairwise fun x y => ∀ k, x.2.ownBlock = some k → y.2.ownBlock ≠ some k
theorem OG.nil (W : World) (B : Nat) : OG W B (.slice none 0 0) [] := ⟨World.ownsRow_nil _ _ _ _, (fun x hx => by cases hx), List.Pairwise.nil⟩
theorem OG.later {W W' : World} {B : Nat} {v : Value} {ov : List Rg} (h : OG W B v ov) (hb : Below W.heap.size W W') : OG W' B v ov :=
  ⟨T.own_below h.o hb, fun x hx => T.own_below (h.e x hx) hb, h.ap⟩
theorem OG.same {W W' : World} {B : Nat} {v : Value} {ov : List Rg} (h : OG W B v ov) (hk : ∀ k, (v.ownBlock = some k ∨ ∃ x ∈ ov, x.2.ownBlock = some k) → W'.heap[k]? = W.heap[k]?) : OG W' B v ov :=
  ⟨own_same h.o fun k q => hk k (.inl q), fun x hx => own_same (h.e x hx) fun k q => hk k (.inr ⟨x, hx, q⟩), h.ap⟩
theorem OG.ne {W : World} {B i : Nat} {v a : Value} {ov : List Rg} (h : OG W B v ov) (hx : GX W i a) {k : Nat} (hk : v.ownBlock = some k ∨ ∃ x ∈ ov, x.2.ownBlock = some k) : k ≠ i := by
  rcases hk with q | ⟨x, hx2, q⟩
  · exact hx.ne h.o (by decide) q
  · exact hx.ne (h.e x hx2) (by decide) q
theorem OG.push {W wA w5 : World} {B : Nat} {v u v2 : Value} {ov : List Rg} {nm : ByteArray} {L : List Nd} (h : OG W B v ov) (hB : B ≤ W.heap.size) (hA : Below W.heap.size W wA) (hl : wA.ownsRow W.heap.size 55 7 v2 L.length (ndc L)) (hg : (wA.alloc (.cells #[.string nm, v2] 38)).grownBy w5 v.ownBlock) (ho : w5.ownsRow B 38 2 u (ov.length + 1) (rgc ov ++ [.string nm, v2])) : OG w5 B u (ov ++ [((nm, L), v2)]) := by
  have h2 : OG (wA.alloc (.cells #[.string nm, v2] 38)) B v ov := (h.later hA).later (below_box wA _)
  have hl2 : (wA.alloc (.cells #[.string nm, v2] 38)).ownsRow W.heap.size 55 7 v2 L.length (ndc L) := T.own_below hl (below_box wA _)
  have key : ∀ (b : Nat) (y : Value) (n : Nat) (zs : List Value), (wA.alloc (.cells #[.string nm, v2] 38)).ownsRow b 55 7 y n zs → w5.ownsRow b 55 7 y n zs := fun b y n zs hy =>
    own_same hy fun k hk => hg.block k (World.ownsRow.lt hy k hk).2 (fun q => own_apart h2.o hy (by decide) q.symm hk)
  refine ⟨?_, fun y hy => ?_, ?_⟩
  · rw [List.length_append, rgc_app, rgc_one]
    exact ho
  · rcases List.mem_append.1 hy with q | q
    · exact key _ _ _ _ (h2.e y q)
    · rw [List.mem_singleton.1 q]
      exact T.own_base (key _ _ _ _ hl2) hB
  · refine List.pairwise_append.2 ⟨h.ap, List.pairwise_singleton _ _, fun x hx y hy k hk q => ?_⟩
    rw [List.mem_singleton.1 hy] at q
    have q1 := ((h.e x hx).lt k hk).2
    have q2 := (hl.lt k q).1
    omega
theorem OG.cell {W : World} {B g cap n : Nat} {ov : List Rg} (h : OG W B (.slice (some ⟨g, 0, none⟩) n cap) ov) {k : Nat} {x : Rg} (hk : ov[k]? = some x) : W.cell? ⟨g, k * 2, none⟩ = some (.string x.1.1) ∧ W.cell? ⟨g, k * 2 + 1, none⟩ = some x.2 := by
  have hc := h.o.cells (g := g) rfl
  have q0 := hc (k * 2 + 0) _ (rgc_get ov k 0 x _ hk rfl)
  have q1 := hc (k * 2 + 1) _ (rgc_get ov k 1 x _ hk rfl)
  rw [Addr.add_lit, Nat.zero_add] at q0 q1
  exact ⟨q0, q1⟩
theorem own_sl {W : World} {B e s n : Nat} {v : Value} {xs : List Value} (h : W.ownsRow B e s v n xs) : ∃ A cap, v = .slice A n cap := by
  rcases h.2 with ⟨rfl, rfl⟩ | ⟨g, cap, cur, rfl, _⟩
  · exact ⟨_, _, rfl⟩
  · exact ⟨_, _, rfl⟩
theorem own_rd {W : World} {B : Nat} {v : Value} {L : List Nd} (h : W.ownsRow B 55 7 v L.length (ndc L)) : ∃ A c, v = .slice A L.length c ∧ RdN W A L := by
  obtain ⟨A, c, rfl⟩ := own_sl h
  refine ⟨A, c, rfl, fun q => ?_⟩
  obtain ⟨g, cap, e, _⟩ := h.form (by cases L with | nil => exact absurd rfl q | cons a l => exact Nat.succ_pos _)
  obtain ⟨rfl, rfl⟩ : A = some ⟨g, 0, none⟩ ∧ c = cap := by injection e with e1 e2 e3; exact ⟨e1, e3⟩
  exact ⟨g, 0, rfl, (h.lt g rfl).2, own_ndl (xs := []) (by rw [List.append_nil]; exact h)⟩
theorem OG.rd {W : World} {B : Nat} {v : Value} {ov : List Rg} {gs : GL} (h : OG W B v ov) (hm : ov.map (·.1) = gs) : GrR W v gs := by
  have hl : ov.length = gs.length := by rw [← hm, List.length_map]
  have ho := h.o
  obtain ⟨A, c, rfl⟩ := own_sl ho
  refine ⟨A, c, by rw [hl], fun k r hr => ?_⟩
  have hk : k < gs.length := (List.getElem?_eq_some_iff.1 hr).1
  obtain ⟨g, cap, e, _⟩ := ho.form (by omega)
  obtain ⟨rfl, rfl⟩ : A = some ⟨g, 0, none⟩ ∧ c = cap := by injection e with e1 e2 e3; exact ⟨e1, e3⟩
  rw [← hm, List.getElem?_map] at hr
  cases hx : ov[k]? with
  | none => rw [hx] at hr; cases hr
  | some x =>
    rw [hx] at hr
    obtain rfl : x.1 = r := by simpa using hr
    obtain ⟨q0, q1⟩ := h.cell hx
    obtain ⟨A2, c2, e2, r2⟩ := own_rd (h.e x (List.mem_of_getElem? hx))
    exact ⟨g, 0, A2, c2, rfl, (h.o.lt g rfl).2, by rw [Nat.zero_add]; exact q0, by rw [Nat.zero_add, q1, e2], r2⟩
end Go.Proofs.Ytppggnmlbcdegab.N

namespace Go.Proofs.Ytppggnmlbcdegab.N
open Go.RowKit Go.Maps
open Go.Proofs.Ytppggnmlbcdegab.T
/-- What the program makes of a rule when a name changes: by the name alone. -/
def rnR (a b : ByteArray) (g : ByteArray × List Nd) : ByteArray × List Nd := (rnB a b g.1, g.2.map (reN a b))
/-- Where all names differ, it is the rule of that number alone whose name changes. -/
theorem rnR_reG {gs : GL} {r : Nat} {a b : ByteArray} {g0 : ByteArray × List Nd} (hd : Dn gs) (hr : gs[r]? = some g0) (ha : g0.1 = a) : gs.map (rnR a b) = reG gs r a b := by
  refine List.ext_getElem? fun k => ?_
  rw [reG_get, List.getElem?_map]
  cases hk : gs[k]? with
  | none => rfl
  | some g =>
    simp only [Option.map_some]
    unfold rnR rnB
    have e : g.1 = a ↔ k = r := ⟨fun q => hd.d k r g g0 hk hr (by rw [q, ha]), fun q => by rw [q, hr] at hk; cases hk; exact ha⟩
    by_cases q : k = r
    · rw [if_pos q, if_pos (e.2 q)]
    · rw [if_neg q, if_neg (fun z => q (e.1 z))]
/-- What Rename answers. -/
def rnE (gs : GL) (r : Int) (s : ByteArray) : Int := if lkR gs r ≠ 0 then lkR gs r else if nmB s = false then 6 else if fdN gs s ≥ 0 ∧ fdN gs s ≠ r then 80 else 0
def rnG (gs : GL) (r : Int) (s : ByteArray) : GL := if rnE gs r s = 0 then reG gs r.toNat ((gs[r.toNat]?).getD (⟨#[]⟩, [])).1 s else []
theorem rnE_bad {gs : GL} {r : Int} {s : ByteArray} (h : lkR gs r ≠ 0) : rnE gs r s = lkR gs r ∧ rnG gs r s = [] := by
  have h1 : rnE gs r s = lkR gs r := by unfold rnE; rw [if_pos h]
  exact ⟨h1, by unfold rnG; rw [h1, if_neg h]⟩
theorem rnE_name {gs : GL} {r : Int} {s : ByteArray} (h : lkR gs r = 0) (hn : nmB s = false) : rnE gs r s = 6 ∧ rnG gs r s = [] := by
  have h1 : rnE gs r s = 6 := by unfold rnE; rw [if_neg (fun q => q h), if_pos hn]
  exact ⟨h1, by unfold rnG; rw [h1]; rfl⟩
theorem rnE_twice {gs : GL} {r : Int} {s : ByteArray} (h : lkR gs r = 0) (hn : nmB s = true) (h0 : fdN gs s ≥ 0) (hr : fdN gs s ≠ r) : rnE gs r s = 80 ∧ rnG gs r s = [] := by
  have h1 : rnE gs r s = 80 := by unfold rnE; rw [if_neg (fun q => q h), if_neg (by rw [hn]; exact Bool.noConfusion), if_pos ⟨h0, hr⟩]
  exact ⟨h1, by unfold rnG; rw [h1]; rfl⟩
theorem rnE_well {gs : GL} {r : Nat} {s : ByteArray} {g0 : ByteArray × List Nd} (h : lkR gs (r : Int) = 0) (hn : nmB s = true) (hr : gs[r]? = some g0) (hf : ¬ (fdN gs s ≥ 0 ∧ fdN gs s ≠ (r : Int))) : rnE gs (r : Int) s = 0 ∧ rnG gs (r : Int) s = reG gs r g0.1 s := by
  have h1 : rnE gs (r : Int) s = 0 := by unfold rnE; rw [if_neg (fun q => q h), if_neg (by rw [hn]; exact Bool.noConfusion), if_neg hf]
  exact ⟨h1, by unfold rnG; rw [if_pos h1, Int.toNat_natCast, hr]; rfl⟩
end Go.Proofs.Ytppggnmlbcdegab.N

namespace Go.Proofs.Ytppggnmlbcdegab.N
open Go.RowKit Go.Maps
open Go.Proofs.Ytppggnmlbcdegab.T
theorem ret_gx2 {fn : Func} {R : Ending → World → Prop} {act : Act} {W : World} {k : Nat} {a x : Value} (hF : fn.results = #[.cell 6 24, .tmp 7]) (hd : act.defers = []) (h6 : act.tmps.getD 6 undef = .pointer (some ⟨k, 0, none⟩)) (h7 : act.tmps.getD 7 undef = x) (hT : GX W k a) (hR : R (.returned (.tuple #[.agg #[a], x])) W) : bodyPost Try.prog fn R .ret act W := by
  have c0 := hT.cl
  refine bodyPost_ret (v := .tuple #[.agg #[a], x]) ?_ hd hR
  simp only [Array.getD_eq_getD_getElem?] at h6 h7
  simp [results, hF, go_sem, h6, h7, c0]
/-- While a name is changed: the grammar's box and the answer's. -/
structure RnS (w wr : World) (a : Value) : Prop where
  b : Below w.heap.size w wr
  x : GX wr w.heap.size a
  y : GX wr (w.heap.size + 1) (.slice none 0 0)
theorem RnS.later {w wr W' : World} {a : Value} (h : RnS w wr a) (hb : Below wr.heap.size wr W') : RnS w W' a := ⟨h.b.trans (hb.mono h.b.size), h.x.below hb, h.y.below hb⟩
theorem RnS.mk2 (w : World) (a : Value) : RnS w ((w.alloc (.cells #[a] 24)).alloc (.cells #[.slice none 0 0] 24)) a :=
  ⟨((Below.refl _ _).alloc (Nat.le_refl _) _).alloc (by rw [World.size_alloc]; omega) _, (GX.mk (heap_alloc_new w _)).below (below_box _ _), ⟨by have h := heap_alloc_new (w.alloc (.cells #[a] 24)) (.cells #[.slice none 0 0] 24); rw [World.size_alloc] at h; exact h⟩⟩
/-- What Rename hands back: a grammar of its own and a code. -/
def RnA (w w' : World) (e : Ending) (gs : GL) (r : Int) (s : ByteArray) : Prop := ∃ v ov, e = .returned (.tuple #[.agg #[v], .int .i64 (rnE gs r s)]) ∧ ov.map (·.1) = rnG gs r s ∧ OG w' w.heap.size v ov
theorem RnA.none {w w' : World} {gs : GL} {r : Int} {s : ByteArray} {c : Int} (h : rnE gs r s = c ∧ rnG gs r s = []) : RnA w w' (.returned (.tuple #[.agg #[.slice none 0 0], .int .i64 c])) gs r s := ⟨_, [], by rw [h.1], by rw [h.2]; rfl, OG.nil _ _⟩
end Go.Proofs.Ytppggnmlbcdegab.N

namespace Go.Proofs.Ytppggnmlbcdegab.N
open Go.RowKit Go.Maps
open Go.Proofs.Ytppggnmlbcdegab.T
/-- A call of a function value that holds what it captured, as one step of a region that draws its order. -/
theorem step_callv {F : Nat} (hen : ∀ args w, (callFunc F args).run Try.prog w = .ok (.enter F args) w) {ops : Array Oper} {o : Oper} {a : Act} {w : World} {K : Act → World → Prop} {Q : Exit → Act → World → Prop} {E : Prop} (hgd : o.guard = none) (f : Nat) (x : Operand) (T : TypeId) (ho : o.op = .call { callee := .value (.tmp f), args := #[x], argTypes := #[T] }) (p q : Value) (hf : a.eval (.tmp f) = .func (.func F) #[] #[p, q]) (v : Value) (hx : a.eval x = v)
    (hc : Calls Try.prog F #[v, p, q] w fun e w' => ∃ r, e = .returned r ∧ K (a.put o.dst r) w') :
    if Region.wanted o (yielded ops a.tmps) = true then Oper.wp Try.prog o a w K Q else E := by
  have hw : Region.wanted o (yielded ops a.tmps) = true := by simp [Region.wanted, hgd]
  rw [if_pos hw]
  have he : (execOp a.eval o).run Try.prog w = .ok (.enter F #[v, p, q]) w := by
    have hf2 : a.tmps[f]?.getD undef = .func (.func F) #[] #[p, q] := by simpa [Act.eval] using hf
    unfold execOp
    simp [ho, go_sem, invoke]
    rw [hf2]
    rw [← hx]
    cases x <;> simp [Act.eval, hen]
  unfold Oper.wp
  rw [he, Oper.upon_enter]
  refine hc.mono ?_
  rintro e w' ⟨r, rfl, hk⟩
  exact hk
theorem enters65 (args : Array Value) (w : World) : (callFunc 20 args).run Try.prog w = .ok (.enter 20 args) w := enters_of Try.func20 (by kernel_rfl) rfl args w
/-- While a renamed grammar is made. -/
structure RnT (w wr : World) (a : Value) (old nm : ByteArray) (v : Value) (ov : List Rg) : Prop where
  o : OG wr w.heap.size v ov
  b : Below w.heap.size w wr
  x : GX wr w.heap.size a
  p : BX wr (w.heap.size + 1) old
  q : BX wr (w.heap.size + 2) nm
  y : GX wr (w.heap.size + 3) (.slice none 0 0)
  z : GX wr (w.heap.size + 4) v
theorem RnT.later {w wr W' : World} {a v : Value} {old nm : ByteArray} {ov : List Rg} (h : RnT w wr a old nm v ov) (hb : Below wr.heap.size wr W') : RnT w W' a old nm v ov :=
  ⟨h.o.later hb, h.b.trans (hb.mono h.b.size), h.x.below hb, h.p.later hb, h.q.later hb, h.y.below hb, h.z.below hb⟩
theorem BX.same {W W' : World} {b : Nat} {s : ByteArray} (h : BX W b s) (hb : W'.heap[b]? = W.heap[b]?) : BX W' b s := ⟨hb.trans h.heap⟩
theorem BX.ne {W : World} {k B e s n : Nat} {u : Value} {t : ByteArray} {xs : List Value} (h : BX W k t) (ho : W.ownsRow B e s u n xs) (he : e ≠ 9) {j : Nat} (hj : u.ownBlock = some j) : j ≠ k := fun q => by
  subst q
  rcases ho.2 with ⟨rfl, _⟩ | ⟨g, cap, cur, rfl, _, hg, _⟩
  · cases hj
  · cases hj
    have h2 := h.heap
    rw [hg] at h2
    have h3 := Option.some.inj h2
    injection h3 with e1 e2 e3
    exact he e2
theorem RnT.start (w : World) (a : Value) (old nm : ByteArray) : RnT w (((((w.alloc (.cells #[a] 24)).alloc (.cells #[.string old] 9)).alloc (.cells #[.string nm] 9)).alloc (.cells #[.slice none 0 0] 24)).alloc (.cells #[.slice none 0 0] 24)) a old nm (.slice none 0 0) [] := by
  obtain ⟨w1, e1⟩ : ∃ w1, w1 = w.alloc (.cells #[a] 24) := ⟨_, rfl⟩
  obtain ⟨w2, e2⟩ : ∃ w2, w2 = w1.alloc (.cells #[.string old] 9) := ⟨_, rfl⟩
  obtain ⟨w3, e3⟩ : ∃ w3, w3 = w2.alloc (.cells #[.string nm] 9) := ⟨_, rfl⟩
  obtain ⟨w4, e4⟩ : ∃ w4, w4 = w3.alloc (.cells #[.slice none 0 0] 24) := ⟨_, rfl⟩
  obtain ⟨w5, e5⟩ : ∃ w5, w5 = w4.alloc (.cells #[.slice none 0 0] 24) := ⟨_, rfl⟩
  rw [← e1, ← e2, ← e3, ← e4, ← e5]
  have s1 : w1.heap.size = w.heap.size + 1 := by rw [e1, World.size_alloc]
  have s2 : w2.heap.size = w.heap.size + 2 := by rw [e2, World.size_alloc, s1]
  have s3 : w3.heap.size = w.heap.size + 3 := by rw [e3, World.size_alloc, s2]
  have s4 : w4.heap.size = w.heap.size + 4 := by rw [e4, World.size_alloc, s3]
  have b1 : Below w.heap.size w w1 := by rw [e1]; exact below_box _ _
  have b2 : Below w1.heap.size w1 w2 := by rw [e2]; exact below_box _ _
  have b3 : Below w2.heap.size w2 w3 := by rw [e3]; exact below_box _ _
  have b4 : Below w3.heap.size w3 w4 := by rw [e4]; exact below_box _ _
  have b5 : Below w4.heap.size w4 w5 := by rw [e5]; exact below_box _ _
  have g1 : GX w1 w.heap.size a := by rw [e1]; exact GX.mk (heap_alloc_new w _)
  have g2 : BX w2 (w.heap.size + 1) old := ⟨by rw [e2, ← s1]; exact heap_alloc_new w1 _⟩
  have g3 : BX w3 (w.heap.size + 2) nm := ⟨by rw [e3, ← s2]; exact heap_alloc_new w2 _⟩
  have g4 : GX w4 (w.heap.size + 3) (.slice none 0 0) := ⟨by rw [e4, ← s3]; exact heap_alloc_new w3 _⟩
  have g5 : GX w5 (w.heap.size + 4) (.slice none 0 0) := ⟨by rw [e5, ← s4]; exact heap_alloc_new w4 _⟩
  have c4 := b1.trans (((b2.trans (b3.mono b2.size)).trans (b4.mono (Nat.le_trans b2.size b3.size))).mono b1.size)
  exact ⟨OG.nil _ _, c4.trans (b5.mono c4.size), (((g1.below b2).below b3).below b4).below b5, ((g2.later b3).later b4).later b5, (g3.later b4).later b5, g4.below b5, g5⟩
theorem RnT.push {w wr wA w5 : World} {a v u v2 : Value} {old mm : ByteArray} {ov : List Rg} {nm : ByteArray} {L : List Nd} (h : RnT w wr a old mm v ov) (hA : Below wr.heap.size wr wA) (hl : wA.ownsRow wr.heap.size 55 7 v2 L.length (ndc L)) (hg : (wA.alloc (.cells #[.string nm, v2] 38)).grownBy w5 v.ownBlock) (ho : w5.ownsRow w.heap.size 38 2 u (ov.length + 1) (rgc ov ++ [.string nm, v2])) : GX w5 (w.heap.size + 4) v ∧ RnT w (w5.setCell ⟨w.heap.size + 4, 0, none⟩ u) a old mm u (ov ++ [((nm, L), v2)]) := by
  have h2 := (h.later hA).later (below_box wA (.cells #[.string nm, v2] 38))
  have kk : ∀ (j : Nat), j < (wA.alloc (.cells #[.string nm, v2] 38)).heap.size → (∀ q, v.ownBlock = some q → q ≠ j) → w5.heap[j]? = (wA.alloc (.cells #[.string nm, v2] 38)).heap[j]? := fun j hj hq => hg.block j hj (fun e => hq j e.symm rfl)
  have z5 := h2.z.same (kk _ h2.z.lt (fun q hq => h2.z.ne h2.o.o (by decide) hq))
  have x5 := h2.x.same (kk _ h2.x.lt (fun q hq => h2.x.ne h2.o.o (by decide) hq))
  have y5 := h2.y.same (kk _ h2.y.lt (fun q hq => h2.y.ne h2.o.o (by decide) hq))
  have p5 := h2.p.same (kk _ h2.p.lt (fun q hq => h2.p.ne h2.o.o (by decide) hq))
  have q5 := h2.q.same (kk _ h2.q.lt (fun q hq => h2.q.ne h2.o.o (by decide) hq))
  have o5 := h.o.push h.b.size hA hl hg ho
  have b5 : Below w.heap.size w w5 := h2.b.grown hg h2.b.size (fun k e => (h2.o.o.lt k e).1)
  have key : ∀ (j : Nat), j ≠ w.heap.size + 4 → (w5.setCell ⟨w.heap.size + 4, 0, none⟩ u).heap[j]? = w5.heap[j]? := fun j hj => Below.heap_setCell _ _ _ _ hj
  exact ⟨z5, o5.same fun k hk => key k (o5.ne z5 hk), b5.setCell (p := ⟨w.heap.size + 4, 0, none⟩) (by show w.heap.size ≤ w.heap.size + 4; omega) _, x5.same (key _ (by omega)), p5.same (key _ (by omega)), q5.same (key _ (by omega)), y5.same (key _ (by omega)), z5.set _⟩
/-- While a pattern of it is made. -/
structure RnJ (wA wr : World) (v : Value) (k : Nat) (L : List Nd) : Prop where
  b : Below wA.heap.size wA wr
  o : wr.ownsRow wA.heap.size 55 7 v k (ndc L)
theorem nx_put {W : World} {b : Nat} {n : Nd} (h : NX W b n) (t : ByteArray) : NX (W.setCell ⟨b, 2, none⟩ (.string t)) b { n with tx := t } := ⟨by rw [heap_setCell_same W b 2 _ 55 _ h.heap]; rfl⟩
theorem RnJ.wrote {wA wr wC : World} {v : Value} {k : Nat} {L : List Nd} {n : Nd} (h : RnJ wA wr v k L) (hC : Below (wr.alloc (ndO n)).heap.size (wr.alloc (ndO n)) wC) (t : ByteArray) : NX wC wr.heap.size n ∧ RnJ wA (wC.setCell ⟨wr.heap.size, 2, none⟩ (.string t)) v k L ∧ NX (wC.setCell ⟨wr.heap.size, 2, none⟩ (.string t)) wr.heap.size { n with tx := t } := by
  have n1 : NX (wr.alloc (ndO n)) wr.heap.size n := ⟨heap_alloc_new wr _⟩
  have n2 : NX wC wr.heap.size n := n1.same (hC.block _ n1.lt)
  have b2 : Below wr.heap.size wr wC := (below_box wr (ndO n)).trans (hC.mono (by rw [World.size_alloc]; omega))
  have o2 := T.own_below h.o b2
  have b3 := h.b.trans (b2.mono h.b.size)
  refine ⟨n2, ⟨b3.setCell (p := ⟨wr.heap.size, 2, none⟩) h.b.size _, own_same o2 fun q hq => Below.heap_setCell _ _ _ _ ?_⟩, nx_put n2 t⟩
  have := (h.o.lt q hq).2
  show q ≠ wr.heap.size
  omega
theorem RnJ.push {wA wD w5 : World} {v u : Value} {k : Nat} {L : List Nd} {n : Nd} (h : RnJ wA wD v k L) (hg : (wD.alloc (ndO n)).grownBy w5 v.ownBlock) (ho : w5.ownsRow wA.heap.size 55 7 u (k + 1) (ndc L ++ ndV n)) : RnJ wA w5 u (k + 1) (L ++ [n]) := by
  have b2 := h.b.alloc h.b.size (ndO n)
  have o2 := h.o.alloc (ndO n)
  refine ⟨b2.grown hg b2.size (fun q e => (o2.lt q e).1), ?_⟩
  have e : ndc (L ++ [n]) = ndc L ++ ndV n := by unfold ndc; rw [List.flatMap_append, List.flatMap_cons, List.flatMap_nil, List.append_nil]
  rw [e]
  exact ho
/-- What becomes of a node: by its kind. -/
theorem reN_call {a b : ByteArray} {n : Nd} (h : n.op = 6) : reN a b n = { n with tx := rnB a b n.tx } := by
  unfold reN rnB
  by_cases e : n.tx = a
  · rw [if_pos ⟨h, e⟩, if_pos e]
  · rw [if_neg (fun q => e q.2), if_neg e]
theorem reN_else {a b : ByteArray} {n : Nd} (h : ¬ n.op = 6) : reN a b n = { n with tx := n.tx } := by
  unfold reN
  rw [if_neg (fun q => h q.1)]
theorem make_nodes (w : World) (n : Nat) (hn : n ≤ 2048) : ∃ w1, (Instr.makeSlice 36 (.int .i64 0) (.int .i64 (n : Int))).run Try.prog w = .ok (.slice (some ⟨w.heap.size, 0, none⟩) 0 n) w1 ∧ RnJ w w1 (.slice (some ⟨w.heap.size, 0, none⟩) 0 n) 0 [] := by
  obtain ⟨i0, hinf, hz0, hz1, hz2⟩ := info_parts Try.info43
  obtain ⟨w2, hmk, ho2, hg2⟩ := run_make_own (P := Try.prog) w w.heap.size 36 55 i0 zA 7 Try.underlying36 hinf hz0 hz1 .i64 .i64 n (by rw [hz2]; omega) (by unfold maxLen; omega) (Nat.le_refl _)
  exact ⟨w2, hmk, U.below_grown (Below.refl _ _) hg2 (fun j e => by cases e), ho2⟩
end Go.Proofs.Ytppggnmlbcdegab.N

namespace Go.Proofs.Ytppggnmlbcdegab.N
open Go.RowKit Go.Maps
open Go.Proofs.Ytppggnmlbcdegab.T
theorem ret_gx6 {fn : Func} {R : Ending → World → Prop} {act : Act} {W : World} {k : Nat} {a : Value} (hF : fn.results = #[.cell 6 24]) (hd : act.defers = []) (h6 : act.tmps.getD 6 undef = .pointer (some ⟨k, 0, none⟩)) (hT : GX W k a) (hR : R (.returned (.agg #[a])) W) : bodyPost Try.prog fn R .ret act W := by
  have c0 := hT.cl
  refine bodyPost_ret (v := .agg #[a]) ?_ hd hR
  simp only [Array.getD_eq_getD_getElem?] at h6
  simp [results, hF, go_sem, h6, c0]
/-- A rule in a box of its own. -/
structure RlX (W : World) (k : Nat) (s : ByteArray) (v : Value) : Prop where
  heap : W.heap[k]? = some (.cells #[.string s, v] 38 (0, 0))
theorem RlX.lt {W : World} {k : Nat} {s : ByteArray} {v : Value} (h : RlX W k s v) : k < W.heap.size := (Array.getElem?_eq_some_iff.1 h.heap).1
theorem RlX.later {W W' : World} {k : Nat} {s : ByteArray} {v : Value} (h : RlX W k s v) (hb : Below W.heap.size W W') : RlX W' k s v := ⟨(hb.block k h.lt).trans h.heap⟩
theorem RlX.c0 {W : World} {k : Nat} {s : ByteArray} {v : Value} (h : RlX W k s v) : W.cell? ⟨k, 0, none⟩ = some (.string s) := by rw [cell_of_row W k 0 _ 38 (0, 0) h.heap]; rfl
theorem RlX.c1 {W : World} {k : Nat} {s : ByteArray} {v : Value} (h : RlX W k s v) : W.cell? ⟨k, 1, none⟩ = some v := by rw [cell_of_row W k 1 _ 38 (0, 0) h.heap]; rfl
set_option maxRecDepth 100000 in
set_option maxHeartbeats 32000000 in
theorem renamed_any (gs : GL) (A : Option Addr) (c : Nat) (old nm : ByteArray) (hnm : nm.size ≤ 281474976710656) (w : World) (hp : GI w A gs) (hn : gs.length ≤ 200) (hL : ∀ g ∈ gs, g.2 ≠ [] ∧ g.2.length ≤ 2048) :
    Calls Try.prog 12 #[.agg #[.slice A gs.length c], .string old, .string nm] w fun e w' => (∃ v ov, e = .returned (.agg #[v]) ∧ ov.map (·.1) = gs.map (rnR old nm) ∧ OG w' w.heap.size v ov) ∧ Below w.heap.size w w' := by
  obtain ⟨i0, hinf, hz0, hz1, hz2⟩ := info_parts Try.info41
  obtain ⟨i1, jinf, jz0, jz1, jz2⟩ := info_parts Try.info43
  have hmf : ∀ (fn : Fn) (first cap : Array Value) (w : World), (Instr.makeFunc fn first cap).run Try.prog w = .ok (.func fn first cap) w := fun _ _ _ _ => rfl
  have HG := (show Hid (∀ k, k < gs.length → ∃ g, gs[k]? = some g ∧ g.2.length ≤ 2048 ∧ g.1.size ≤ 281474976710656 ∧ (∀ n ∈ g.2, n.tx.size ≤ 281474976710656) ∧ ∃ b o g2 o2 c2, A = some ⟨b, o, none⟩ ∧ b < w.heap.size ∧ w.cell? ⟨b, o + k * 2, none⟩ = some (.string g.1) ∧ w.cell? ⟨b, o + k * 2 + 1, none⟩ = some (.slice (some ⟨g2, o2, none⟩) g.2.length c2) ∧ g2 < w.heap.size ∧ NdL w g2 o2 g.2) from fun k hk => by
    have e : gs[k]? = some gs[k] := List.getElem?_eq_getElem hk
    obtain ⟨b, o, A2, c2, h1, h2, h3, h4, h5⟩ := hp.d k _ e
    have h6 := hL _ (List.getElem_mem hk)
    have h7 := hp.t _ (List.getElem_mem hk)
    obtain ⟨b2, o2, rfl, l2, d2⟩ := h5 h6.1
    exact ⟨_, e, h6.2, by omega, fun n hn => by have := h7.2.2 n hn; omega, b, o, _, _, c2, h1, h2, h3, h4, l2, d2⟩)
  have HA := (show Hid _ from RnT.start w (.slice A gs.length c) old nm)
  have q1 := HA.out.x.cl
  clear hp hL
  go_enter Try.func12, Try.ntmps12
  go_wp2_with fail
  rw [show w.heap.size + 1 + 1 + 1 + 1 = w.heap.size + 4 from rfl, show w.heap.size + 1 + 1 + 1 = w.heap.size + 3 from rfl, show w.heap.size + 1 + 1 = w.heap.size + 2 from rfl]
  generalize ((((w.alloc (.cells #[.slice A gs.length c] 24)).alloc (.cells #[.string old] 9)).alloc (.cells #[.string nm] 9)).alloc (.cells #[.slice none 0 0] 24)).alloc (.cells #[.slice none 0 0] 24) = w1 at *
  clear q1
  go_loopw [18] (fun t wr => ∃ (i : Nat) (ov : List Rg) (Av : Option Addr) (cv : Nat), i ≤ gs.length ∧ t = .int .i64 (i : Int) ∧ Hid (ov.length = i ∧ ov.map (·.1) = (gs.take i).map (rnR old nm)) ∧ Hid (RnT w wr (.slice A gs.length c) old nm (.slice Av i cv) ov)) (fun t _ => gs.length - (intOf t).toNat)
  case atStart => exact ⟨0, [], none, 0, Nat.zero_le _, rfl, ⟨rfl, rfl⟩, HA⟩
  case round =>
    obtain ⟨i, ov, Av, cv, hi, rfl, HM, HW⟩ := hrel
    clear HA
    obtain ⟨wL, hwL⟩ : ∃ wL, wL = wr := ⟨_, rfl⟩
    subst hwL
    by_cases hlt : i < gs.length
    · obtain ⟨g, hgk, hgl, hgs, htx, b, o, g2, o2, c2, rfl, lb, e0, e1, lg2, hNd⟩ := HG.out i hlt
      have z0 : (0 : Int) ≤ (i : Int) := by omega
      have z1 : (i : Int) < (gs.length : Int) := by omega
      have d0 := (HW.out.b.cell (p := ⟨b, o + i * 2, none⟩) lb).trans e0
      have d1 := (HW.out.b.cell (p := ⟨b, o + i * 2 + 1, none⟩) lb).trans e1
      have HTk := (show Hid (gs.take (i + 1) = gs.take i ++ [g]) from by rw [List.take_add_one, hgk]; rfl)
      have HNd := (show Hid (NdL w g2 o2 g.2) from hNd)
      have HTx := (show Hid (∀ n ∈ g.2, n.tx.size ≤ 281474976710656) from htx)
      have HNm := (show Hid (nm.size ≤ 281474976710656 ∧ g.1.size ≤ 281474976710656) from ⟨hnm, hgs⟩)
      clear hgk hNd htx hgs hnm e0 e1 HG hlt lb
      obtain ⟨gn, L⟩ := g
      simp only at d0 d1 hgl HTk HNd HTx HNm
      obtain ⟨wA, hwA⟩ : ∃ wA, wA = wL.alloc (.cells #[.string gn, .slice (some ⟨g2, o2, none⟩) L.length c2] 38) := ⟨_, rfl⟩
      have HEA := (show Hid (wL.alloc (.cells #[.string gn, .slice (some ⟨g2, o2, none⟩) L.length c2] 38) = wA) from hwA.symm)
      have HBA := (show Hid (Below wL.heap.size wL wA) from by show Below _ _ _; rw [hwA]; exact below_box _ _)
      have HRl := (show Hid (RlX wA wL.heap.size gn (.slice (some ⟨g2, o2, none⟩) L.length c2)) from ⟨by rw [hwA]; exact heap_alloc_new wL _⟩)
      obtain ⟨wM, hmk, hJ0⟩ := make_nodes wA L.length hgl
      have HJ0 := (show Hid _ from hJ0)
      have r1 := HRl.out.c1
      have r2 := (HRl.out.later hJ0.b).c1
      have HT := (show Hid (∀ W, Below wA.heap.size wA W → RnT w W (.slice (some ⟨b, o, none⟩) gs.length c) old nm (.slice Av i cv) ov) from fun W hW => (HW.out.later HBA.out).later hW)
      clear hwA hJ0
      go_wp2_with (rw [HEA.out])
      clear hmk r1 r2 d0 d1 HEA
      go_loopw [11, 29] (fun u t wr => ∃ (k : Nat) (Ab : Option Addr) (cb : Nat), k ≤ L.length ∧ t = .int .i64 (k : Int) ∧ u = .slice Ab k cb ∧ Hid (RnJ wA wr (.slice Ab k cb) k ((L.take k).map (reN old nm)))) (fun _ t _ => L.length - (intOf t).toNat)
      case atStart => exact ⟨0, _, _, Nat.zero_le _, by go_num, rfl, HJ0⟩
      case round =>
        obtain ⟨k, Ab, cb, hk, rfl, rfl, HJ⟩ := hrel
        clear HJ0
        obtain ⟨wK, hwK⟩ : ∃ wK, wK = wr := ⟨_, rfl⟩
        subst hwK
        by_cases hkl : k < L.length
        · obtain ⟨nd, hnd⟩ : ∃ nd, L[k]? = some nd := ⟨_, List.getElem?_eq_getElem hkl⟩
          have y0 : (0 : Int) ≤ (k : Int) := by omega
          have y1 : (k : Int) < (L.length : Int) := by omega
          have HTL := (show Hid ((L.take (k + 1)).map (reN old nm) = (L.take k).map (reN old nm) ++ [reN old nm nd]) from by show List.map _ _ = _; rw [List.take_add_one, hnd, List.map_append]; rfl)
          have hNB := (HNd.out k nd hnd).same (((HT.out wK HJ.out.b).b).block g2 lg2)
          obtain ⟨n0, n1, n2, n3, n4, n5, n6⟩ := hNB
          have HTB := (show Hid (RnT w (wK.alloc (ndO nd)) (.slice (some ⟨b, o, none⟩) gs.length c) old nm (.slice Av i cv) ov) from (HT.out wK HJ.out.b).later (below_box _ _))
          have HX := (show Hid (NX (wK.alloc (ndO nd)) wK.heap.size nd) from ⟨heap_alloc_new wK _⟩)
          have x0 : (wK.alloc (ndO nd)).cell? ⟨wK.heap.size, 0, none⟩ = _ := HX.out.nb.c0
          have x2 : (wK.alloc (ndO nd)).cell? ⟨wK.heap.size, 2, none⟩ = _ := HX.out.nb.c2
          have hts := HTx.out nd (List.mem_of_getElem? hnd)
          obtain ⟨wB, hwB⟩ : ∃ wB, wB = wK.alloc (ndO nd) := ⟨_, rfl⟩
          have HEB := (show Hid (wK.alloc (.cells #[.int .i64 nd.op, .int .i64 nd.nn, .string nd.tx, .int .u64 nd.s0, .int .u64 nd.s1, .int .u64 nd.s2, .int .u64 nd.s3] 55) = wB) from hwB.symm)
          have HW3 := (show Hid (∀ wC t, Below wB.heap.size wB wC → NX wC wK.heap.size nd ∧ RnJ wA (wC.setCell ⟨wK.heap.size, 2, none⟩ (.string t)) (.slice Ab k cb) k ((L.take k).map (reN old nm)) ∧ NX (wC.setCell ⟨wK.heap.size, 2, none⟩ (.string t)) wK.heap.size { nd with tx := t }) from fun wC t hC => HJ.out.wrote (by rw [hwB] at hC; exact hC) t)
          have H65 := (show Hid (∀ _ : Unit, Calls Try.prog 20 #[.string nd.tx, .pointer (some ⟨w.heap.size + 1, 0, none⟩), .pointer (some ⟨w.heap.size + 2, 0, none⟩)] wB fun e w' => e = .returned (.string (rnB old nm nd.tx)) ∧ Below wB.heap.size wB w') from fun _ => by
            rw [hwB]
            exact renamed1_any old nm nd.tx HNm.out.1 hts _ _ _ HTB.out.p HTB.out.q)
          have H66 := (show Hid (∀ _ : Unit, Calls Try.prog 21 #[.string nd.tx] wB fun e w' => e = .returned (.string nd.tx) ∧ Below wB.heap.size wB w') from fun _ => clone_any nd.tx hts wB)
          rw [← hwB] at x0 x2
          clear hnd hts HTB HX hwB
          by_cases h6 : nd.op = 6
          · have te : (nd.op == 6) = true := by rw [h6]; rfl
            have HRe := (show Hid (reN old nm nd = { nd with tx := rnB old nm nd.tx }) from reN_call h6)
            clear h6 H66
            go_wp2_with (rw [HEB.out])
            refine (H65.out ()).mono ?_
            rintro e wC ⟨rfl, bC⟩
            obtain ⟨m0, m1, m2⟩ := HW3.out wC (rnB old nm nd.tx) bC
            have f2 := m0.fz 2
            have k2 : wC.cell? ⟨wK.heap.size, 2, none⟩ = some (.string nd.tx) := m0.nb.c2
            clear H65 HW3 bC m0 x0 x2 n0 n1 n2 n3 n4 n5 n6 HEB te
            generalize rnB old nm nd.tx = tt at *
            obtain ⟨wD, hwD⟩ : ∃ wD, wD = wC.setCell ⟨wK.heap.size, 2, none⟩ (.string tt) := ⟨_, rfl⟩
            have HED := (show Hid (wC.setCell ⟨wK.heap.size, 2, none⟩ (.string tt) = wD) from hwD.symm)
            rw [← hwD] at m1 m2
            have HJD := (show Hid _ from m1)
            have v0 : wD.cell? ⟨wK.heap.size, 0, none⟩ = some (.int .i64 nd.op) := m2.nb.c0
            have v1 : wD.cell? ⟨wK.heap.size, 1, none⟩ = some (.int .i64 nd.nn) := m2.nb.c1
            have v2 : wD.cell? ⟨wK.heap.size, 2, none⟩ = some (.string tt) := m2.nb.c2
            have v3 : wD.cell? ⟨wK.heap.size, 3, none⟩ = some (.int .u64 nd.s0) := m2.nb.c3
            have v4 : wD.cell? ⟨wK.heap.size, 4, none⟩ = some (.int .u64 nd.s1) := m2.nb.c4
            have v5 : wD.cell? ⟨wK.heap.size, 5, none⟩ = some (.int .u64 nd.s2) := m2.nb.c5
            have v6 : wD.cell? ⟨wK.heap.size, 6, none⟩ = some (.int .u64 nd.s3) := m2.nb.c6
            have HDs := (show Hid (wA.heap.size ≤ wD.heap.size) from m1.b.size)
            clear hwD m1 m2
            go_wp2_with (first | rw [HED.out] | (at_builtin; refine wpList_append_lies _ rfl _ _ 36 rfl wA.heap.size 55 i1 zA 7 64 Try.underlying36 jinf jz0 jz1 jz2 rfl (by decide) _ _ _ rfl (HJD.out.o.alloc _) ⟨wD.heap.size, 0, none⟩ 1 1 (ndV { nd with tx := tt }) rfl rfl (World.news_of_block (cs := #[.int .i64 nd.op, .int .i64 nd.nn, .string tt, .int .u64 nd.s0, .int .u64 nd.s1, .int .u64 nd.s2, .int .u64 nd.s3]) (t := 55) (fr := (0, 0)) (heap_alloc_new wD _)) (nd_one _) (by decide) (by unfold maxLen; omega) (by omega) (by rw [World.size_alloc]; exact Nat.le_succ_of_le HDs.out) (wD.heap.size + 1) (by simp) ?_; intro g3 cap3 w5 hown hgrow hat hltg; have HJ5 := (show Hid (RnJ wA w5 (.slice (some ⟨g3, 0, none⟩) (k + 1) cap3) (k + 1) ((L.take (k + 1)).map (reN old nm))) from (by show RnJ _ _ _ _ _; rw [HTL.out, HRe.out]; exact HJD.out.push hgrow hown)); clear hown hgrow hat hltg))
            go_roundw
            case rel => exact ⟨k + 1, _, _, by omega, by go_num, rfl, HJ5⟩
            case measure => simp [intOf]; omega
          · have te : (nd.op == 6) = false := by rw [beq_eq_false_iff_ne]; exact h6
            obtain ⟨tt, htt⟩ : ∃ tt, tt = nd.tx := ⟨_, rfl⟩
            have HRe := (show Hid (reN old nm nd = { nd with tx := tt }) from by show reN old nm nd = _; rw [htt]; exact reN_else h6)
            have H67 := (show Hid (∀ _ : Unit, Calls Try.prog 21 #[.string nd.tx] wB fun e w' => e = .returned (.string tt) ∧ Below wB.heap.size wB w') from fun _ => by rw [htt]; exact H66.out ())
            clear h6 H65 htt H66
            go_wp2_with (rw [HEB.out])
            refine (H67.out ()).mono ?_
            rintro e wC ⟨rfl, bC⟩
            obtain ⟨m0, m1, m2⟩ := HW3.out wC tt bC
            have f2 := m0.fz 2
            have k2 : wC.cell? ⟨wK.heap.size, 2, none⟩ = some (.string nd.tx) := m0.nb.c2
            clear H67 HW3 bC m0 x0 x2 n0 n1 n2 n3 n4 n5 n6 HEB te
            obtain ⟨wD, hwD⟩ : ∃ wD, wD = wC.setCell ⟨wK.heap.size, 2, none⟩ (.string tt) := ⟨_, rfl⟩
            have HED := (show Hid (wC.setCell ⟨wK.heap.size, 2, none⟩ (.string tt) = wD) from hwD.symm)
            rw [← hwD] at m1 m2
            have HJD := (show Hid _ from m1)
            have v0 : wD.cell? ⟨wK.heap.size, 0, none⟩ = some (.int .i64 nd.op) := m2.nb.c0
            have v1 : wD.cell? ⟨wK.heap.size, 1, none⟩ = some (.int .i64 nd.nn) := m2.nb.c1
            have v2 : wD.cell? ⟨wK.heap.size, 2, none⟩ = some (.string tt) := m2.nb.c2
            have v3 : wD.cell? ⟨wK.heap.size, 3, none⟩ = some (.int .u64 nd.s0) := m2.nb.c3
            have v4 : wD.cell? ⟨wK.heap.size, 4, none⟩ = some (.int .u64 nd.s1) := m2.nb.c4
            have v5 : wD.cell? ⟨wK.heap.size, 5, none⟩ = some (.int .u64 nd.s2) := m2.nb.c5
            have v6 : wD.cell? ⟨wK.heap.size, 6, none⟩ = some (.int .u64 nd.s3) := m2.nb.c6
            have HDs := (show Hid (wA.heap.size ≤ wD.heap.size) from m1.b.size)
            clear hwD m1 m2
            go_wp2_with (first | rw [HED.out] | (at_builtin; refine wpList_append_lies _ rfl _ _ 36 rfl wA.heap.size 55 i1 zA 7 64 Try.underlying36 jinf jz0 jz1 jz2 rfl (by decide) _ _ _ rfl (HJD.out.o.alloc _) ⟨wD.heap.size, 0, none⟩ 1 1 (ndV { nd with tx := tt }) rfl rfl (World.news_of_block (cs := #[.int .i64 nd.op, .int .i64 nd.nn, .string tt, .int .u64 nd.s0, .int .u64 nd.s1, .int .u64 nd.s2, .int .u64 nd.s3]) (t := 55) (fr := (0, 0)) (heap_alloc_new wD _)) (nd_one _) (by decide) (by unfold maxLen; omega) (by omega) (by rw [World.size_alloc]; exact Nat.le_succ_of_le HDs.out) (wD.heap.size + 1) (by simp) ?_; intro g3 cap3 w5 hown hgrow hat hltg; have HJ5 := (show Hid (RnJ wA w5 (.slice (some ⟨g3, 0, none⟩) (k + 1) cap3) (k + 1) ((L.take (k + 1)).map (reN old nm))) from (by show RnJ _ _ _ _ _; rw [HTL.out, HRe.out]; exact HJD.out.push hgrow hown)); clear hown hgrow hat hltg))
            go_roundw
            case rel => exact ⟨k + 1, _, _, by omega, by go_num, rfl, HJ5⟩
            case measure => simp [intOf]; omega
        · obtain rfl : k = L.length := by omega
          have HJe := (show Hid (RnJ wA wK (.slice Ab L.length cb) L.length (L.map (reN old nm))) from by have h := HJ.out; rw [List.take_length] at h; exact h)
          have hD : Below wK.heap.size wK wK.drew := (Below.refl _ _).drew
          have HTd := (show Hid (RnT w wK.drew (.slice (some ⟨b, o, none⟩) gs.length c) old nm (.slice Av i cv) ov) from (HT.out wK HJe.out.b).later hD)
          have HRd := (show Hid (RlX wK.drew wL.heap.size gn (.slice (some ⟨g2, o2, none⟩) L.length c2)) from (HRl.out.later HJe.out.b).later hD)
          have HOd := (show Hid (wK.drew.ownsRow wL.heap.size 55 7 (.slice Ab L.length cb) L.length (ndc (L.map (reN old nm)))) from T.own_base (T.own_below HJe.out.o hD) HBA.out.size)
          have HBd := (show Hid (Below wL.heap.size wL wK.drew) from (HBA.out.trans (HJe.out.b.mono HBA.out.size)).drew)
          have dz := HTd.out.z.cl
          have dn := HRd.out.c0
          have HCall := (show Hid (∀ _ : Unit, Calls Try.prog 20 #[.string gn, .pointer (some ⟨w.heap.size + 1, 0, none⟩), .pointer (some ⟨w.heap.size + 2, 0, none⟩)] wK.drew fun e w' => e = .returned (.string (rnB old nm gn)) ∧ Below wK.drew.heap.size wK.drew w') from fun _ => renamed1_any old nm gn HNm.out.1 HNm.out.2 _ _ _ HTd.out.p HTd.out.q)
          have HAft := (show Hid (∀ wX, Below wK.drew.heap.size wK.drew wX → wX.cell? ⟨wL.heap.size, 0, none⟩ = some (.string gn) ∧ wX.cell? ⟨w.heap.size + 4, 0, none⟩ = some (.slice Av i cv) ∧ ∀ ob : Obj, (wX.alloc ob).cell? ⟨w.heap.size + 4, 0, none⟩ = some (.slice Av i cv)) from fun wX hX => by
            have h3 := HTd.out.later hX
            exact ⟨(HRd.out.later hX).c0, h3.z.cl, fun ob => (h3.later (below_box wX ob)).z.cl⟩)
          have hov := HM.out.1
          have HO := (show Hid (wK.drew.ownsRow w.heap.size 38 2 (.slice Av i cv) i (rgc ov)) from by have h := HTd.out.o.o; rw [hov] at h; exact h)
          have HPu := (show Hid (∀ (wX w5 : World) (u : Value) (t : ByteArray), Below wK.drew.heap.size wK.drew wX → (wX.alloc (.cells #[.string t, .slice Ab L.length cb] 38)).grownBy w5 (Value.slice Av i cv).ownBlock → w5.ownsRow w.heap.size 38 2 u (i + 1) (rgc ov ++ [.string t, .slice Ab L.length cb]) → GX w5 (w.heap.size + 4) (.slice Av i cv) ∧ RnT w (w5.setCell ⟨w.heap.size + 4, 0, none⟩ u) (.slice (some ⟨b, o, none⟩) gs.length c) old nm u (ov ++ [((t, L.map (reN old nm)), .slice Ab L.length cb)])) from fun wX w5 u t hX hg ho => by
            refine HW.out.push (HBd.out.trans (hX.mono HBd.out.size)) ?_ hg (by rw [HM.out.1]; exact ho)
            rw [List.length_map]
            exact T.own_below HOd.out hX)
          have HsD := (show Hid (∀ wX, Below wK.drew.heap.size wK.drew wX → w.heap.size ≤ wX.heap.size) from fun wX hX => Nat.le_trans HTd.out.b.size hX.size)
          obtain ⟨tn, htn⟩ : ∃ tn, tn = rnB old nm gn := ⟨_, rfl⟩
          have HTn := (show Hid (tn = rnB old nm gn) from htn)
          rw [← htn] at HCall
          clear htn
          clear HNd HTx HNm HT HJ HJe HTd HRd HOd HBd HRl HBA hov
          go_wp2_with fail
          go_region_law (first
            | (refine step_callv enters65 rfl _ _ _ (by rfl) (.pointer (some ⟨w.heap.size + 1, 0, none⟩)) (.pointer (some ⟨w.heap.size + 2, 0, none⟩)) (by rfl) (.string gn) (by rfl) ?_; with_reducible refine (HCall.out ()).mono ?_; rintro e wX ⟨rfl, bX⟩; refine ⟨_, rfl, ?_⟩; obtain ⟨a0, az, ay⟩ := HAft.out wX bX)
            | (refine step_append_lies _ (by rfl) _ _ _ (by rfl) w.heap.size 38 i0 (.agg #[.string ⟨#[]⟩, .slice none 0 0]) 2 40 Try.underlying22 hinf hz0 hz1 hz2 rfl (by omega) _ _ (rgc ov) (by rfl) ((T.own_below HO.out bX).alloc _) ⟨wX.heap.size, 0, none⟩ 1 1 [.string tn, .slice Ab L.length cb] (by rfl) (by rfl) (World.news_of_block (cs := #[.string tn, .slice Ab L.length cb]) (t := 38) (fr := (0, 0)) (heap_alloc_new wX _)) (by intro u hu; simp only [List.mem_cons, List.not_mem_nil, or_false] at hu; rcases hu with rfl | rfl <;> rfl) (by omega) (by unfold maxLen; omega) (by omega) (by rw [World.size_alloc]; exact Nat.le_succ_of_le (HsD.out wX bX)) (wX.heap.size + 1) (by simp) ?_; intro g3 cap3 w5 hown hgrow hat hltg; obtain ⟨hz5, hpu⟩ := HPu.out wX w5 (.slice (some ⟨g3, 0, none⟩) (i + 1) cap3) tn bX hgrow hown; have HPn := (show Hid _ from hpu); clear hpu; have hzf := hz5.fz; have hzc := hz5.cl; clear hz5))
          all_goals
            clear hown hgrow hat hltg bX a0 az ay HCall HAft HO HPu HsD
            generalize w5.setCell ⟨w.heap.size + 4, 0, none⟩ (.slice (some ⟨g3, 0, none⟩) (i + 1) cap3) = w6 at *
            go_wp2_with fail
            go_roundw
            case rel => exact ⟨i + 1, _, _, _, by omega, by go_num, ⟨by rw [List.length_append, HM.out.1]; rfl, by rw [List.map_append, HM.out.2, HTk.out, List.map_append, HTn.out]; rfl⟩, HPn⟩
            case measure => simp [intOf]; omega
    · obtain rfl : i = gs.length := by omega
      have HMm := (show Hid (ov.map (·.1) = gs.map (rnR old nm)) from by have := HM.out.2; rw [List.take_length] at this; exact this)
      have hyf := HW.out.y.fz
      have hyc := HW.out.y.cl
      have hzc := HW.out.z.cl
      clear HG HM
      go_wp2_with fail
      refine ret_gx6 rfl rfl rfl (HW.out.y.set _) ?_
      have h5 := HW.out
      have key : ∀ (j : Nat), j ≠ w.heap.size + 3 → (wL.setCell ⟨w.heap.size + 3, 0, none⟩ (.slice Av gs.length cv)).heap[j]? = wL.heap[j]? := fun j hj => Below.heap_setCell _ _ _ _ hj
      exact ⟨⟨_, ov, rfl, HMm.out, h5.o.same fun j hj => key j (h5.o.ne h5.y hj)⟩, h5.b.setCell (p := ⟨w.heap.size + 3, 0, none⟩) (by show w.heap.size ≤ w.heap.size + 3; omega) _⟩
end Go.Proofs.Ytppggnmlbcdegab.N

namespace Go.Proofs.Ytppggnmlbcdegab.T
open Go.RowKit
theorem field_tx (n : Nd) (W : World) : (Instr.field 55 (ndG n) 2).run Try.prog W = .ok (.string n.tx) W := by
  simp [go_sem, asAgg, Instr.field, Try.isAgg9, Try.sizeOf9]
/-- A list of texts in a box. -/
structure TB (W : World) (b : Nat) (v : Value) : Prop where
  heap : W.heap[b]? = some (.cells #[v] 80 (0, 0))
theorem TB.lt {W : World} {b : Nat} {v : Value} (x : TB W b v) : b < W.heap.size := (Array.getElem?_eq_some_iff.1 x.heap).1
theorem TB.c0 {W : World} {b : Nat} {v : Value} (x : TB W b v) : W.cell? ⟨b, 0, none⟩ = some v := by rw [cell_of_row W b 0 _ 80 (0, 0) x.heap]; rfl
theorem TB.fz {W : World} {b : Nat} {v : Value} (x : TB W b v) : W.frozen? ⟨b, 0, none⟩ = false := frozen_of_row W b 0 _ 80 x.heap
theorem TB.same {W W' : World} {b : Nat} {v : Value} (x : TB W b v) (hb : W'.heap[b]? = W.heap[b]?) : TB W' b v := ⟨hb.trans x.heap⟩
theorem TB.set {W : World} {b : Nat} {v : Value} (x : TB W b v) (u : Value) : TB (W.setCell ⟨b, 0, none⟩ u) b u := ⟨by rw [heap_setCell_same W b 0 _ 80 _ x.heap]; rfl⟩

set_option maxRecDepth 100000 in
set_option maxHeartbeats 8000000 in
theorem names1_new (L : List Nd) (p : Pt) (va v : Value) (n : Nd) (l : List ByteArray) (g o cp bp bn B : Nat) (hl : l.length ≤ 2048) (w : World) (hn : L[p.2.1]? = some n) (_hne : bp ≠ bn) (hp : w.cell? ⟨bp, 0, none⟩ = some (.slice (some ⟨g, o, none⟩) L.length cp)) (hc : TB w bn v) (ho : w.ownsRow B 9 1 v l.length (stc l)) (hB : bn < B) (hBw : B ≤ w.heap.size) (hr : NdL w g o L) (_hg : g ≠ bn) (h6 : n.op = 6) (hi : inB n.tx l = false) :
    Calls Try.prog 37 #[ptG p, va, .pointer (some ⟨bp, 0, none⟩), .pointer (some ⟨bn, 0, none⟩)] w fun e w' => (∃ u, e = .returned u) ∧ ∃ v', TB w' bn v' ∧ w'.ownsRow B 9 1 v' (l.length + 1) (stc (l ++ [n.tx])) ∧ (∀ b, v'.ownBlock = some b → v.ownBlock = some b ∨ w.heap.size ≤ b) ∧ Kp (fun b => b = bn ∨ v.ownBlock = some b) w w' := by
  have hj : p.2.1 < L.length := by
    by_cases q : p.2.1 < L.length
    · exact q
    · rw [List.getElem?_eq_none (by omega)] at hn; cases hn
  obtain ⟨i0, hinf, hz0, hz1, hz2⟩ := info_parts Try.info9
  obtain ⟨e0, e1, e2, e3, e4, e5, e6⟩ := hr p.2.1 n hn
  have hlp := World.block_lt_of_cell? w _ hp
  have hlg := (hr p.2.1 n hn).lt
  have hlc := hc.lt
  simp only at hlp
  have c0 := hc.c0
  have f0 := hc.fz
  have z0 : (0 : Int) ≤ (p.2.1 : Int) := by omega
  have z1 : (p.2.1 : Int) < (L.length : Int) := by omega
  have t6 : (n.op == 6) = true := beq_iff_eq.2 h6
  have HCo : Hid (∀ n w, Calls Try.prog 39 #[ndG n] w fun e w' => e = .returned (ndG n) ∧ Below w.heap.size w w') := fun n w => copied_any n w
  have HCn : Hid (∀ W, Below w.heap.size w W → Calls Try.prog 38 #[v, .string n.tx] W fun e w' => e = .returned (.bool false) ∧ w' = W) := fun W hW => by
    have h := contains_any v n.tx l (by omega) W (own_rdt (own_below ho hW) rfl)
    rw [hi] at h
    exact h
  obtain ⟨W2, hW2⟩ : ∃ W2, W2 = (w.alloc (.cells #[.int .i64 p.1, .int .i64 p.2.1, .int .i64 p.2.2] 71)).alloc (.cells #[.int .i64 n.op, .int .i64 n.nn, .string n.tx, .int .u64 n.s0, .int .u64 n.s1, .int .u64 n.s2, .int .u64 n.s3] 55) := ⟨_, rfl⟩
  have hB2 : Below w.heap.size w W2 := by rw [hW2]; exact (below_box w _).alloc (below_box w _).size _
  have HB2 := (show Hid (Below w.heap.size w W2) from hB2)
  have hx2 : NB W2 (w.heap.size + 1) 0 n := by
    rw [hW2]
    have h := nb_new (w.alloc (.cells #[.int .i64 p.1, .int .i64 p.2.1, .int .i64 p.2.2] 71)) n
    rw [World.size_alloc] at h
    exact h
  have hs2 : W2.heap.size = w.heap.size + 2 := by rw [hW2]; simp
  have HO := (show Hid (W2.ownsRow B 9 1 v l.length (stc l)) from own_below ho hB2)
  have HT := (show Hid (TB W2 bn v) from hc.same (hB2.block bn hlc))
  have HX := (show Hid (NB W2 (w.heap.size + 1) 0 n) from hx2)
  have HCn2 := (show Hid (∀ _ : Unit, Calls Try.prog 38 #[v, .string n.tx] W2 fun e w' => e = .returned (.bool false) ∧ w' = W2) from fun _ => HCn.out W2 hB2)
  have HTw := (show Hid (TB w bn v) from hc)
  have HRw := (show Hid (∀ j, v.ownBlock = some j → j < w.heap.size) from fun j hj => (ho.lt j hj).2)
  clear hr hn hc ho h6 hi hx2 hB2 HCn
  subst hW2
  go_enter Try.func37, Try.ntmps37
  go_wp2_with fail
  refine (HCn2.out ()).mono ?_
  rintro e w3 ⟨rfl, rfl⟩
  clear HCn2 e0 e1 e2 e3 e4 e5 e6 c0 f0 hp t6
  generalize hW2 : (w.alloc (.cells #[.int .i64 p.1, .int .i64 p.2.1, .int .i64 p.2.2] 71)).alloc (.cells #[.int .i64 n.op, .int .i64 n.nn, .string n.tx, .int .u64 n.s0, .int .u64 n.s1, .int .u64 n.s2, .int .u64 n.s3] 55) = W2 at *
  clear hW2
  have k0 := HT.out.c0
  have f0 := HT.out.fz
  obtain ⟨d0, d1, d2, d3, d4, d5, d6⟩ := HX.out
  simp only [Nat.zero_add] at d0 d1 d2 d3 d4 d5 d6
  have hbn : bn < w.heap.size := hlc
  have hfl := field_tx n
  have HAp := (show Hid (∀ W : World, Below W2.drew.heap.size W2.drew W → ∃ g3 cap w5, (Builtin.append_ #[80, 80] 80 #[v, .slice (some ⟨W.heap.size, 0, none⟩) 1 1]).run Try.prog (W.alloc (.cells #[.string n.tx] 9)) = .ok (.slice (some ⟨g3, 0, none⟩) (l.length + 1) cap) w5 ∧ (w5.ownsRow B 9 1 (.slice (some ⟨g3, 0, none⟩) (l.length + 1) cap) (l.length + 1) (stc l ++ [.string n.tx]) ∧ (W.alloc (.cells #[.string n.tx] 9)).grownBy w5 v.ownBlock ∧ (v.ownBlock = some g3 ∨ g3 = W.heap.size + 1) ∧ g3 < w5.heap.size)) from fun W hW =>
    run_append_lies (P := Try.prog) (W.alloc (.cells #[.string n.tx] 9)) 80 80 B 9 i0 (.string ⟨#[]⟩) 1 16 Try.underlying80 hinf hz0 hz1 hz2 rfl (by decide) v l.length (stc l) ((own_below (own_drew HO.out) hW).alloc _) ⟨W.heap.size, 0, none⟩ 1 1 [.string n.tx] rfl (cell_one_new _ _ _) (by simp [Value.oneCell']) (by decide) (by unfold maxLen; omega) (by omega) (by have q1 := hW.size; have q2 : W2.drew.heap.size = W2.heap.size := rfl; rw [World.size_alloc]; omega) (W.heap.size + 1) (by simp))
  have HRow := (show Hid (∀ j, v.ownBlock = some j → B ≤ j ∧ j < W2.heap.size ∧ j < w.heap.size) from fun j hj => ⟨(HO.out.lt j hj).1, (HO.out.lt j hj).2, HRw.out j hj⟩)
  have HS := (show Hid (∀ W : World, (W.heap[bn]? = W2.heap[bn]?) → (W.heap[w.heap.size + 1]? = W2.heap[w.heap.size + 1]?) → W.cell? ⟨bn, 0, none⟩ = some v ∧ W.frozen? ⟨bn, 0, none⟩ = false ∧ W.cell? ⟨w.heap.size + 1, 0, none⟩ = some (.int .i64 n.op) ∧ W.cell? ⟨w.heap.size + 1, 1, none⟩ = some (.int .i64 n.nn) ∧ W.cell? ⟨w.heap.size + 1, 2, none⟩ = some (.string n.tx) ∧ W.cell? ⟨w.heap.size + 1, 3, none⟩ = some (.int .u64 n.s0) ∧ W.cell? ⟨w.heap.size + 1, 4, none⟩ = some (.int .u64 n.s1) ∧ W.cell? ⟨w.heap.size + 1, 5, none⟩ = some (.int .u64 n.s2) ∧ W.cell? ⟨w.heap.size + 1, 6, none⟩ = some (.int .u64 n.s3)) from fun W q1 q2 => by
    have h1 := HT.out.same q1
    have h2 := HX.out.same q2
    obtain ⟨d0, d1, d2, d3, d4, d5, d6⟩ := h2
    simp only [Nat.zero_add] at d0 d1 d2 d3 d4 d5 d6
    exact ⟨h1.c0, h1.fz, d0, d1, d2, d3, d4, d5, d6⟩)
  have HS2 := (show Hid (∀ W W5 : World, Below W2.drew.heap.size W2.drew W → (W.alloc (.cells #[.string n.tx] 9)).grownBy W5 v.ownBlock → W5.cell? ⟨bn, 0, none⟩ = some v ∧ W5.frozen? ⟨bn, 0, none⟩ = false ∧ W5.cell? ⟨w.heap.size + 1, 0, none⟩ = some (.int .i64 n.op) ∧ W5.cell? ⟨w.heap.size + 1, 1, none⟩ = some (.int .i64 n.nn) ∧ W5.cell? ⟨w.heap.size + 1, 2, none⟩ = some (.string n.tx) ∧ W5.cell? ⟨w.heap.size + 1, 3, none⟩ = some (.int .u64 n.s0) ∧ W5.cell? ⟨w.heap.size + 1, 4, none⟩ = some (.int .u64 n.s1) ∧ W5.cell? ⟨w.heap.size + 1, 5, none⟩ = some (.int .u64 n.s2) ∧ W5.cell? ⟨w.heap.size + 1, 6, none⟩ = some (.int .u64 n.s3)) from fun W W5 hW hg => by
    have q : ∀ b, b = bn ∨ b = w.heap.size + 1 → W5.heap[b]? = W2.heap[b]? := fun b hb => by
      have hb2 : b < W2.heap.size := by omega
      have hbW : b < W.heap.size := Nat.lt_of_lt_of_le hb2 hW.size
      rw [hg.block b (by rw [World.size_alloc]; omega) (fun e => by have := HRow.out b e.symm; omega), (below_box W _).block b hbW]
      exact hW.block b hb2
    exact HS.out W5 (q bn (.inl rfl)) (q _ (.inr rfl)))
  have HS1 := (show Hid (∀ W : World, Below W2.drew.heap.size W2.drew W → W.cell? ⟨bn, 0, none⟩ = some v ∧ W.frozen? ⟨bn, 0, none⟩ = false ∧ W.cell? ⟨w.heap.size + 1, 0, none⟩ = some (.int .i64 n.op) ∧ W.cell? ⟨w.heap.size + 1, 1, none⟩ = some (.int .i64 n.nn) ∧ W.cell? ⟨w.heap.size + 1, 2, none⟩ = some (.string n.tx) ∧ W.cell? ⟨w.heap.size + 1, 3, none⟩ = some (.int .u64 n.s0) ∧ W.cell? ⟨w.heap.size + 1, 4, none⟩ = some (.int .u64 n.s1) ∧ W.cell? ⟨w.heap.size + 1, 5, none⟩ = some (.int .u64 n.s2) ∧ W.cell? ⟨w.heap.size + 1, 6, none⟩ = some (.int .u64 n.s3)) from fun W hW => HS.out W (hW.block bn (by show bn < W2.heap.size; omega)) (hW.block (w.heap.size + 1) (by show w.heap.size + 1 < W2.heap.size; omega)))
  have HS4 := (show Hid (∀ W W5 : World, Below W2.drew.heap.size W2.drew W → (W.alloc (.cells #[.string n.tx] 9)).grownBy W5 v.ownBlock → ∀ b, b < w.heap.size → v.ownBlock ≠ some b → W5.heap[b]? = w.heap[b]?) from fun W W5 hW hg b hb hnb => by
    have hb2 : b < W2.heap.size := by omega
    have hbW : b < W.heap.size := Nat.lt_of_lt_of_le hb2 hW.size
    rw [hg.block b (by rw [World.size_alloc]; omega) (fun e => hnb e.symm), (below_box W _).block b hbW]
    exact (hW.block b hb2).trans (HB2.out.block b hb))
  have HS3 := (show Hid (∀ W : World, Below W2.drew.heap.size W2.drew W → (W.alloc (.cells #[.string n.tx] 9)).cell? ⟨bn, 0, none⟩ = some v) from fun W hW => by
    have h1 : TB W bn v := HT.out.same (hW.block bn (by show bn < W2.heap.size; omega))
    exact (h1.same ((below_box W _).block bn h1.lt)).c0)
  go_wp2_with fail
  go_region_law ((first
      | (refine step_call47 rfl _ (by rfl) _ (by rfl) ?_; refine (HCo.out n _).mono ?_; rintro e wA ⟨rfl, bA⟩; refine ⟨_, rfl, ?_⟩; obtain ⟨kA, fA, a0, a1, a2, a3, a4, a5, a6⟩ := HS1.out _ bA; have kB := HS3.out _ bA)
      | (refine step_append_lies _ (by rfl) _ _ _ (by rfl) B 9 i0 _ 1 16 Try.underlying80 hinf hz0 hz1 hz2 rfl (by omega) _ _ (stc l) (by rfl) ((own_below (own_drew HO.out) bA).alloc _) ⟨wA.heap.size, 0, none⟩ 1 1 [.string n.tx] (by rfl) (by rfl) (cell_one_new _ _ _) (by simp [Value.oneCell']) (by omega) (by unfold maxLen; omega) (by omega) (by have q1 := bA.size; have q2 : W2.drew.heap.size = W2.heap.size := rfl; rw [World.size_alloc]; omega) (wA.heap.size + 1) (by simp) ?_; intro g3 cap w5 hown1 hgrow hat hltg; obtain ⟨k5, f5, r0, r1, r2, r3, r4, r5, r6⟩ := HS2.out _ _ bA hgrow)))
  all_goals
    have h4 := HS4.out _ _ bA hgrow
    have hbnv : v.ownBlock ≠ some bn := fun e => by have := (HRow.out bn e).1; omega
    have hT5 : TB w5 bn v := HTw.out.same (h4 bn hlc hbnv)
    have hfin : (∃ v', TB (w5.setCell ⟨bn, 0, none⟩ (.slice (some ⟨g3, 0, none⟩) (l.length + 1) cap)) bn v' ∧ (w5.setCell ⟨bn, 0, none⟩ (.slice (some ⟨g3, 0, none⟩) (l.length + 1) cap)).ownsRow B 9 1 v' (l.length + 1) (stc (l ++ [n.tx])) ∧ (∀ b, v'.ownBlock = some b → v.ownBlock = some b ∨ w.heap.size ≤ b) ∧ Kp (fun b => b = bn ∨ v.ownBlock = some b) w (w5.setCell ⟨bn, 0, none⟩ (.slice (some ⟨g3, 0, none⟩) (l.length + 1) cap))) := by
      have q1 := bA.size
      have q2 : W2.drew.heap.size = W2.heap.size := rfl
      have q3 := HB2.out.size
      refine ⟨_, hT5.set _, ?_, fun b e => ?_, ⟨?_, ?_, ?_, ?_, fun b hb hnb => ?_⟩⟩
      · have h5 := ownsRow_setCell_below hown1 (a := ⟨bn, 0, none⟩) hB (.slice (some ⟨g3, 0, none⟩) (l.length + 1) cap)
        unfold stc
        rw [List.map_append]
        exact h5
      · have e2 : g3 = b := Option.some.inj e
        subst e2
        rcases hat with q | q
        · exact .inl q
        · exact .inr (by omega)
      · exact hgrow.os.trans (bA.os.trans HB2.out.os)
      · exact hgrow.tape.trans (bA.tape.trans HB2.out.tape)
      · exact hgrow.output.trans (bA.output.trans HB2.out.output)
      · have := hgrow.size; rw [World.size_alloc] at this; rw [World.size_setCell]; omega
      · rw [heap_setCell_other _ _ _ _ (fun e => hnb (.inl e))]
        exact h4 b hb (fun e => hnb (.inr e))
    go_end0
    exact ⟨⟨_, rfl⟩, hfin⟩
end Go.Proofs.Ytppggnmlbcdegab.T

namespace Go.Proofs.Ytppggnmlbcdegab.T
open Go.RowKit
theorem enters49 (args : Array Value) (w : World) : (callFunc 37 args).run Try.prog w = .ok (.enter 37 args) w := enters_of Try.func37 (by kernel_rfl) rfl args w
set_option maxRecDepth 100000 in
set_option maxHeartbeats 8000000 in
theorem names1_old (L : List Nd) (p : Pt) (va v : Value) (n : Nd) (l : List ByteArray) (g o cp bp bn B : Nat) (hl : l.length ≤ 2048) (w : World) (hn : L[p.2.1]? = some n) (hp : w.cell? ⟨bp, 0, none⟩ = some (.slice (some ⟨g, o, none⟩) L.length cp)) (hc : TB w bn v) (ho : w.ownsRow B 9 1 v l.length (stc l)) (hr : NdL w g o L) (h6 : ¬ (n.op = 6 ∧ inB n.tx l = false)) :
    Calls Try.prog 37 #[ptG p, va, .pointer (some ⟨bp, 0, none⟩), .pointer (some ⟨bn, 0, none⟩)] w fun e w' => (∃ u, e = .returned u) ∧ Below w.heap.size w w' := by
  have hj : p.2.1 < L.length := by
    by_cases q : p.2.1 < L.length
    · exact q
    · rw [List.getElem?_eq_none (by omega)] at hn; cases hn
  obtain ⟨e0, e1, e2, e3, e4, e5, e6⟩ := hr p.2.1 n hn
  have hlp := World.block_lt_of_cell? w _ hp
  have hlg := (hr p.2.1 n hn).lt
  have hlc := hc.lt
  simp only at hlp
  have c0 := hc.c0
  have z0 : (0 : Int) ≤ (p.2.1 : Int) := by omega
  have z1 : (p.2.1 : Int) < (L.length : Int) := by omega
  obtain ⟨W2, hW2⟩ : ∃ W2, W2 = (w.alloc (.cells #[.int .i64 p.1, .int .i64 p.2.1, .int .i64 p.2.2] 71)).alloc (.cells #[.int .i64 n.op, .int .i64 n.nn, .string n.tx, .int .u64 n.s0, .int .u64 n.s1, .int .u64 n.s2, .int .u64 n.s3] 55) := ⟨_, rfl⟩
  have hB2 : Below w.heap.size w W2 := by rw [hW2]; exact (below_box w _).alloc (below_box w _).size _
  have HB2 := (show Hid (Below w.heap.size w W2) from hB2)
  by_cases q6 : n.op = 6
  · have t6 : (n.op == 6) = true := beq_iff_eq.2 q6
    have hi : inB n.tx l = true := by
      cases q : inB n.tx l with
      | true => rfl
      | false => exact absurd ⟨q6, q⟩ h6
    have HCn : Hid (∀ _ : Unit, Calls Try.prog 38 #[v, .string n.tx] W2 fun e w' => e = .returned (.bool true) ∧ w' = W2) := fun _ => by
      have h := contains_any v n.tx l (by omega) W2 (own_rdt (own_below ho hB2) rfl)
      rw [hi] at h
      exact h
    clear hr hn hc ho h6 q6 hi hB2
    subst hW2
    go_enter Try.func37, Try.ntmps37
    go_wp2_with fail
    refine (HCn.out ()).mono ?_
    rintro e w3 ⟨rfl, rfl⟩
    clear HCn e0 e1 e2 e3 e4 e5 e6 c0 hp t6
    go_wp2_with fail
    go_end0
    exact ⟨⟨_, rfl⟩, HB2.out⟩
  · have t6 : (n.op == 6) = false := beq_eq_false_iff_ne.2 q6
    clear hr hn hc ho h6 q6 hB2
    subst hW2
    go_enter Try.func37, Try.ntmps37
    go_wp2_with fail
    go_end0
    exact ⟨⟨_, rfl⟩, HB2.out⟩

structure JM (L : List Nd) (Ap : Option Addr) (cp bp bn Bc B k : Nat) (X : Nat → Prop) (w : World) : Prop where
  far : Bc ≤ bp ∧ Bc ≤ bn ∧ bp < B ∧ bn < B ∧ bp ≠ bn ∧ Bc ≤ B
  s : ∃ v, TB w bn v ∧ (∀ b, X b ↔ b = bn ∨ v.ownBlock = some b) ∧ w.ownsRow B 9 1 v (nmL L k).length (stc (nmL L k))
  p : w.cell? ⟨bp, 0, none⟩ = some (.slice Ap L.length cp)
  r : L ≠ [] → ∃ g o, Ap = some ⟨g, o, none⟩ ∧ g < Bc ∧ g < w.heap.size ∧ NdL w g o L
theorem JM.kept {L : List Nd} {Ap : Option Addr} {cp bp bn Bc B k : Nat} {X : Nat → Prop} {w w' : World} (h : JM L Ap cp bp bn Bc B k X w) (hz : w.heap.size ≤ w'.heap.size) (hb : ∀ b, (b < B ∨ X b) → w'.heap[b]? = w.heap[b]?) : JM L Ap cp bp bn Bc B k X w' := by
  obtain ⟨f1, f2, f3, f4, f5, f6⟩ := h.far
  obtain ⟨v, hs, hx, ho⟩ := h.s
  refine ⟨h.far, ⟨v, hs.same (hb bn (.inl f4)), hx, ho.1, ?_⟩, (World.cell?_of_block (a := ⟨bp, 0, none⟩) (hb bp (.inl f3))).trans h.p, fun hne => ?_⟩
  · rcases ho.2 with q | ⟨g, cap, cur, rfl, r1, r2, rest⟩
    · exact .inl q
    · exact .inr ⟨g, cap, cur, rfl, r1, (hb g (.inr ((hx g).2 (.inr rfl)))).trans r2, rest⟩
  · obtain ⟨g, o, e, q1, q2, q3⟩ := h.r hne
    exact ⟨g, o, e, q1, by omega, q3.same (hb g (.inl (by omega)))⟩
theorem see49 (L : List Nd) (Ap : Option Addr) (cp bp bn Bc B : Nat) (hL : L.length ≤ 2048) : See L 37 #[.pointer (some ⟨bp, 0, none⟩), .pointer (some ⟨bn, 0, none⟩)] Bc B (JM L Ap cp bp bn Bc B) := by
  refine ⟨fun k X w w' h hz hb => h.kept hz hb, fun k X w h b hb => ?_, fun k X w A c h hB hk he hr hA => ?_⟩
  · obtain ⟨v, hs, hx, ho⟩ := h.s
    rcases (hx b).1 hb with rfl | q
    · exact ⟨h.far.2.1, hs.lt⟩
    · have := ho.lt b q; have := h.far.2.2.2.2.2; omega
  · obtain ⟨f1, f2, f3, f4, f5, f6⟩ := h.far
    obtain ⟨v, hs, hx, ho⟩ := h.s
    obtain ⟨g, o, rfl, q1, q2, q3⟩ := h.r (by rintro rfl; simp at hk)
    have hn : L[k]? = some L[k] := List.getElem?_eq_getElem hk
    have hpl : (pt L k).2.1 = k := mk_last _ _ _ _
    have hln := nmL_len L k
    have hrow : ∀ b, v.ownBlock = some b → B ≤ b := fun b q => (ho.lt b q).1
    have hpk : ∀ {W : World}, (∀ b, b < w.heap.size → b < B → b ≠ bn → W.heap[b]? = w.heap[b]?) → W.cell? ⟨bp, 0, none⟩ = some (.slice (some ⟨g, o, none⟩) L.length cp) ∧ NdL W g o L := fun hW =>
      ⟨(World.cell?_of_block (a := ⟨bp, 0, none⟩) (hW bp (World.block_lt_of_cell? w _ h.p) f3 f5)).trans h.p, q3.same (hW g q2 (by omega) (by omega))⟩
    by_cases h6 : L[k].op = 6 ∧ inB L[k].tx (nmL L k) = false
    · have hc := names1_new L (pt L k) (.slice A (arN (opAt L k)) c) v L[k] (nmL L k) g o cp bp bn B (by omega) w (by rw [hpl]; exact hn) f5 h.p hs ho f4 hB q3 (by omega) h6.1 h6.2
      refine hc.mono fun e w' ⟨hu, v', h1, h2, h3, h4⟩ => ⟨hu, fun b => b = bn ∨ v'.ownBlock = some b, ⟨h.far, ⟨v', h1, fun b => Iff.rfl, by rw [nmL_succ hn, if_pos h6, List.length_append]; exact h2⟩, (hpk (fun b b1 b2 b3 => h4.block b b1 (by rintro (q | q); exact b3 q; have := hrow b q; omega))).1, fun _ => ⟨g, o, rfl, q1, Nat.lt_of_lt_of_le q2 h4.size, (hpk (fun b b1 b2 b3 => h4.block b b1 (by rintro (q | q); exact b3 q; have := hrow b q; omega))).2⟩⟩, ⟨h4.os, h4.tape, h4.output, h4.size, fun b hb hnx => h4.block b hb (fun q => hnx ((hx b).2 q))⟩, fun b q => ?_⟩
      rcases q with q | q
      · exact .inl ((hx b).2 (.inl q))
      · rcases h3 b q with r | r
        · exact .inl ((hx b).2 (.inr r))
        · exact .inr r
    · have hc := names1_old L (pt L k) (.slice A (arN (opAt L k)) c) v L[k] (nmL L k) g o cp bp bn B (by omega) w (by rw [hpl]; exact hn) h.p hs ho q3 h6
      refine hc.mono fun e w' ⟨hu, hb⟩ => ⟨hu, X, ⟨h.far, ⟨v, hs.same (hb.block bn hs.lt), hx, by rw [nmL_succ hn, if_neg h6]; exact own_below ho hb⟩, (hpk (fun b b1 _ _ => hb.block b b1)).1, fun _ => ⟨g, o, rfl, q1, Nat.lt_of_lt_of_le q2 hb.size, (hpk (fun b b1 _ _ => hb.block b b1)).2⟩⟩, ⟨hb.os, hb.tape, hb.output, hb.size, fun b hlt _ => hb.block b hlt⟩, fun b q => .inl q⟩
end Go.Proofs.Ytppggnmlbcdegab.T
