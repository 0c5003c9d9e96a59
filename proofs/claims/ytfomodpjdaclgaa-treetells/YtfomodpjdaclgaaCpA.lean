/- DERIVED. Walks: Captures, by the program and by the document. -/
import Derived.Test.YtfomodpjdaclgaaCkA
namespace Go.Proofs.Ytfomodpjdaclgaa
open Go.RowKit

def cpN (L : List Nd) : Nat → Nat
  | 0 => 0
  | k + 1 => cpN L k + if 17 ≤ opAt L k then 1 else 0
theorem cpN_le (L : List Nd) (k : Nat) : cpN L k ≤ k := by
  induction k with
  | zero => exact Nat.le_refl _
  | succ k ih => rw [cpN]; split <;> omega
/-- A number in a box of its own. -/
structure IB (W : World) (b : Nat) (v : Int) : Prop where
  heap : W.heap[b]? = some (.cells #[.int .i64 v] 3 (0, 0))
theorem IB.lt {W : World} {b : Nat} {v : Int} (x : IB W b v) : b < W.heap.size := (Array.getElem?_eq_some_iff.1 x.heap).1
theorem IB.c0 {W : World} {b : Nat} {v : Int} (x : IB W b v) : W.cell? ⟨b, 0, none⟩ = some (.int .i64 v) := by rw [cell_of_row W b 0 _ 3 (0, 0) x.heap]; rfl
theorem IB.fz {W : World} {b : Nat} {v : Int} (x : IB W b v) : W.frozen? ⟨b, 0, none⟩ = false := frozen_of_row W b 0 _ 3 x.heap
theorem IB.same {W W' : World} {b : Nat} {v : Int} (x : IB W b v) (hb : W'.heap[b]? = W.heap[b]?) : IB W' b v := ⟨hb.trans x.heap⟩
theorem IB.set {W : World} {b : Nat} {v : Int} (x : IB W b v) (u : Int) : IB (W.setCell ⟨b, 0, none⟩ (.int .i64 u)) b u := ⟨by rw [heap_setCell_same W b 0 _ 3 _ x.heap]; rfl⟩

structure JC (L : List Nd) (Ap : Option Addr) (cp bp bc Bc B k : Nat) (X : Nat → Prop) (w : World) : Prop where
  far : Bc ≤ bp ∧ Bc ≤ bc ∧ bp < B ∧ bc < B ∧ bp ≠ bc
  x : ∀ b, X b ↔ b = bc
  n : IB w bc (cpN L k)
  p : w.cell? ⟨bp, 0, none⟩ = some (.slice Ap L.length cp)
  r : L ≠ [] → ∃ g o, Ap = some ⟨g, o, none⟩ ∧ g < Bc ∧ g < w.heap.size ∧ NdL w g o L
theorem JC.kept {L : List Nd} {Ap : Option Addr} {cp bp bc Bc B k : Nat} {X : Nat → Prop} {w w' : World} (h : JC L Ap cp bp bc Bc B k X w) (hz : w.heap.size ≤ w'.heap.size) (hb : ∀ b, (b < B ∨ X b) → w'.heap[b]? = w.heap[b]?) : JC L Ap cp bp bc Bc B k X w' := by
  obtain ⟨f1, f2, f3, f4, f5⟩ := h.far
  refine ⟨h.far, h.x, h.n.same (hb bc (.inl f4)), (World.cell?_of_block (a := ⟨bp, 0, none⟩) (hb bp (.inl f3))).trans h.p, fun hne => ?_⟩
  obtain ⟨g, o, e, q1, q2, q3⟩ := h.r hne
  exact ⟨g, o, e, q1, by omega, q3.same (hb g (.inl (by omega)))⟩
theorem enters51 (args : Array Value) (w : World) : (callFunc 51 args).run Try.prog w = .ok (.enter 51 args) w := enters_of Try.func51 (by kernel_rfl) rfl args w

set_option maxRecDepth 100000 in
set_option maxHeartbeats 4000000 in
theorem caps1_any (L : List Nd) (p : Pt) (v : Value) (n : Nd) (g o cp bp bc : Nat) (m : Nat) (hm : m ≤ 140737488355328) (w : World) (hn : L[p.2.1]? = some n) (_hL : L.length ≤ 140737488355328) (_hne : bp ≠ bc) (hp : w.cell? ⟨bp, 0, none⟩ = some (.slice (some ⟨g, o, none⟩) L.length cp)) (hc : IB w bc m) (hr : NdL w g o L) (_hg : g ≠ bc) :
    Calls Try.prog 51 #[ptG p, v, .pointer (some ⟨bp, 0, none⟩), .pointer (some ⟨bc, 0, none⟩)] w fun e w' => (∃ u, e = .returned u) ∧ IB w' bc ((m + if 17 ≤ n.op then 1 else 0 : Nat) : Int) ∧ Kp (fun b => b = bc) w w' := by
  have hj : p.2.1 < L.length := by
    by_cases q : p.2.1 < L.length
    · exact q
    · rw [List.getElem?_eq_none (by omega)] at hn; cases hn
  have e1 := (hr p.2.1 n hn).c0
  have hlp := World.block_lt_of_cell? w _ hp
  have hlg := (hr p.2.1 n hn).lt
  have hlc := hc.lt
  simp only at hlp
  have c0 := hc.c0
  have f0 := hc.fz
  have z0 : (0 : Int) ≤ (p.2.1 : Int) := by omega
  have z1 : (p.2.1 : Int) < (L.length : Int) := by omega
  have HB := (show Hid (Below w.heap.size w (w.alloc (.cells #[.int .i64 p.1, .int .i64 p.2.1, .int .i64 p.2.2] 59))) from below_box _ _)
  have HC := (show Hid (IB w bc m) from hc)
  clear hr hn hc
  by_cases h17 : 17 ≤ n.op
  · have HE := (show Hid (((m + if 17 ≤ n.op then 1 else 0 : Nat) : Int) = (m : Int) + 1) from by show ((_ : Nat) : Int) = _; rw [if_pos h17]; omega)
    have HK := (show Hid (IB ((w.setCell ⟨bc, 0, none⟩ (.int .i64 ((m : Int) + 1))).alloc (.cells #[.int .i64 p.1, .int .i64 p.2.1, .int .i64 p.2.2] 59)) bc ((m : Int) + 1) ∧ Kp (fun b => b = bc) w ((w.setCell ⟨bc, 0, none⟩ (.int .i64 ((m : Int) + 1))).alloc (.cells #[.int .i64 p.1, .int .i64 p.2.1, .int .i64 p.2.2] 59))) from by
      refine ⟨(HC.out.set _).same ((below_box _ _).block bc (by simp; exact hlc)), ⟨rfl, rfl, rfl, by simp, fun b hb hnb => ?_⟩⟩
      rw [(below_box _ _).block b (by simp; exact hb), heap_setCell_other _ _ _ _ hnb])
    clear HB HC
    rw [HE.out]
    go_enter Try.func51, Try.ntmps51
    go_wp2_with fail
    go_end0
    exact ⟨⟨_, rfl⟩, HK.out⟩
  · have HE := (show Hid (((m + if 17 ≤ n.op then 1 else 0 : Nat) : Int) = (m : Int)) from by show ((_ : Nat) : Int) = _; rw [if_neg h17]; omega)
    have HK := (show Hid (IB (w.alloc (.cells #[.int .i64 p.1, .int .i64 p.2.1, .int .i64 p.2.2] 59)) bc (m : Int) ∧ Kp (fun b => b = bc) w (w.alloc (.cells #[.int .i64 p.1, .int .i64 p.2.1, .int .i64 p.2.2] 59))) from
      ⟨HC.out.same (HB.out.block bc hlc), ⟨HB.out.os, HB.out.tape, HB.out.output, HB.out.size, fun b hb _ => HB.out.block b hb⟩⟩)
    clear HB HC
    rw [HE.out]
    go_enter Try.func51, Try.ntmps51
    go_wp2_with fail
    go_end0
    exact ⟨⟨_, rfl⟩, HK.out⟩
theorem see51 (L : List Nd) (Ap : Option Addr) (cp bp bc Bc B : Nat) (hL : L.length ≤ 140737488355328) : See L 51 #[.pointer (some ⟨bp, 0, none⟩), .pointer (some ⟨bc, 0, none⟩)] Bc B (JC L Ap cp bp bc Bc B) := by
  refine ⟨fun k X w w' h hz hb => h.kept hz hb, fun k X w h b hb => ?_, fun k X w A c h hB hk he hr hA => ?_⟩
  · rw [(h.x b).1 hb]
    exact ⟨h.far.2.1, h.n.lt⟩
  · obtain ⟨g, o, rfl, q1, q2, q3⟩ := h.r (by rintro rfl; simp at hk)
    have hn : L[k]? = some L[k] := List.getElem?_eq_getElem hk
    have hpl : (pt L k).2.1 = k := mk_last _ _ _ _
    have hc := caps1_any L (pt L k) (.slice A (arN (opAt L k)) c) L[k] g o cp bp bc (cpN L k) (by have := cpN_le L k; omega) w (by rw [hpl]; exact hn) hL h.far.2.2.2.2 h.p h.n q3 (by have := h.far.2.1; omega)
    refine hc.mono fun e w' ⟨hu, hi, hkp⟩ => ⟨hu, X, ⟨h.far, h.x, ?_, ?_, fun _ => ⟨g, o, rfl, q1, Nat.lt_of_lt_of_le q2 hkp.size, q3.same (hkp.block g q2 (by have := h.far.2.1; omega))⟩⟩, ⟨hkp.os, hkp.tape, hkp.output, hkp.size, fun b hb hx => hkp.block b hb (fun q => hx ((h.x b).2 q))⟩, fun b q => .inl q⟩
    · rw [cpN, op_of hn]
      exact hi
    · exact (World.cell?_of_block (a := ⟨bp, 0, none⟩) (hkp.block bp (World.block_lt_of_cell? w _ h.p) h.far.2.2.2.2)).trans h.p
end Go.Proofs.Ytfomodpjdaclgaa
