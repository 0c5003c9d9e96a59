/- DERIVED. Walks: Each: the iterator's contract. -/
import Derived.RangeFuncNested
import Derived.RangeFuncBound
import Derived.RangeFuncCalls
import Derived.RangeFuncLeaves
import Derived.RangeFuncFrom
import Derived.Shelf.Abstract
import Derived.Shelf.RegionOpen
import Derived.WalkKit
import Derived.OwnWalkIn
import Derived.TacticsInMore
import Derived.LoopNIn
import Derived.LoopIn
import Derived.Test.YtlcmlipldkpliaaBytesR
namespace Go.Proofs.Ytlcmlipldkpliaa
open Go.RowKit Go.Shelf

attribute [local go_sem] Oper.semAt_some

/-- Block b is as it was. -/
def KeepB (b : Nat) (W W' : World) : Prop := W'.heap[b]? = W.heap[b]?
theorem KeepB.refl (b : Nat) (W : World) : KeepB b W W := rfl
theorem KeepB.trans {b : Nat} {A B C : World} (h : KeepB b A B) (k : KeepB b B C) : KeepB b A C := Eq.trans k h
theorem KeepB.put {b : Nat} {w : World} (hb : b < w.heap.size) (W : World) (l : Nat) (o o' : Obj) (hl : w.heap.size ≤ l) (_ : W.heap[l]? = some o) (_ : o.isCells = false) (_ : o.isWalk = false) : KeepB b W (W.putObj l o') := by
  by_cases h : b < W.heap.size
  · exact (grownBy_putObj' W l o').block b h (fun e => by cases e; omega)
  · have e1 : W.heap[b]? = none := Array.getElem?_eq_none (by omega)
    have e2 : (W.putObj l o').heap.size = W.heap.size := by simp [World.putObj]
    show (W.putObj l o').heap[b]? = W.heap[b]?
    rw [e1]; exact Array.getElem?_eq_none (by omega)
theorem KeepB.setCell {b : Nat} {W : World} {p : Addr} (h : b ≠ p.block) (u : Value) : KeepB b W (W.setCell p u) := Below.heap_setCell _ _ _ _ h
theorem KeepB.alloc {b : Nat} {W : World} (h : b < W.heap.size) (o : Obj) : KeepB b W (W.alloc o) := Below.heap_alloc _ _ _ h
theorem KeepB.below {b B : Nat} {W W' : World} (h : Below B W W') (hb : b < B) : KeepB b W W' := h.block b hb
theorem KeepB.grown {b : Nat} {W W' : World} {row : Option Nat} (h : W.grownBy W' row) (hb : b < W.heap.size) (hne : row ≠ some b) : KeepB b W W' := h.block b hb (fun e => hne e.symm)
theorem Holds.keep {w w' : World} {b : Nat} {x : BitVec 256} (h : Holds w b x) (e : KeepB b w w') : Holds w' b x := by
  have hl : b < w'.heap.size := by
    obtain ⟨o, h1⟩ : ∃ o, w.heap[b]? = some o := ⟨_, Array.getElem?_eq_getElem h.lt⟩
    have h2 : w'.heap[b]? = some o := Eq.trans e h1
    exact (Array.getElem?_eq_some_iff.1 h2).1
  exact ⟨hl, (World.cell?_of_block (a := ⟨b, 0, none⟩) e).trans h.c0, (World.cell?_of_block (a := ⟨b, 1, none⟩) e).trans h.c1, (World.cell?_of_block (a := ⟨b, 2, none⟩) e).trans h.c2, (World.cell?_of_block (a := ⟨b, 3, none⟩) e).trans h.c3,
    (World.frozen?_of_block (a := ⟨b, 0, none⟩) e).trans h.f0, (World.frozen?_of_block (a := ⟨b, 1, none⟩) e).trans h.f1, (World.frozen?_of_block (a := ⟨b, 2, none⟩) e).trans h.f2, (World.frozen?_of_block (a := ⟨b, 3, none⟩) e).trans h.f3⟩
/-- The bytes of x below k, rising, each with its bound. -/
def byf (x : BitVec 256) : Nat → List (Fin 256)
  | 0 => []
  | n + 1 => if h : n < 256 then (if x.getLsbD n then byf x n ++ [⟨n, h⟩] else byf x n) else byf x n
theorem byf_yes (x : BitVec 256) (n : Nat) (h : n < 256) (hb : x.getLsbD n = true) : byf x (n + 1) = byf x n ++ [⟨n, h⟩] := by
  rw [byf, dif_pos h, if_pos hb]
theorem byf_no (x : BitVec 256) (n : Nat) (h : n < 256) (hb : x.getLsbD n = false) : byf x (n + 1) = byf x n := by
  rw [byf, dif_pos h, hb]; rfl
theorem byf_val (x : BitVec 256) (k : Nat) (hk : k ≤ 256) : (byf x k).map (fun b => (b.val : Int)) = bysTo x k := by
  induction k with
  | zero => rfl
  | succ n ih =>
    rw [bysTo_succ]
    cases hb : x.getLsbD n
    · rw [byf_no x n (by omega) hb, ih (by omega)]; rfl
    · rw [byf_yes x n (by omega) hb, List.map_append, ih (by omega)]; rfl
theorem byf_len (x : BitVec 256) (k : Nat) (hk : k ≤ 256) : (byf x k).length = cntTo x.getLsbD k := by
  rw [← bysTo_len, ← byf_val x k hk, List.length_map]
theorem byf_mono (x : BitVec 256) (k m : Nat) (h : k ≤ m) : byf x k <+: byf x m := by
  induction m with
  | zero => obtain rfl : k = 0 := by omega
            exact List.prefix_refl _
  | succ m ih =>
    by_cases e : k = m + 1
    · subst e; exact List.prefix_refl _
    · refine (ih (by omega)).trans ?_
      rw [byf]
      split
      · split
        · exact List.prefix_append _ _
        · exact List.prefix_refl _
      · exact List.prefix_refl _
theorem byf_pre (x : BitVec 256) (k : Nat) (h : k ≤ 256) {l : List (Fin 256)} (e : byf x k = l) : l <+: byf x 256 := by
  rw [← e]; exact byf_mono x k 256 h
theorem grown_below {W W' : World} (hb : Below W.heap.size W W') : W.grownBy W' none := ⟨hb.os, hb.tape, hb.output, hb.size, fun k hk _ => hb.block k hk⟩

set_option maxRecDepth 100000 in
set_option maxHeartbeats 1000000 in
theorem each1_in (n : Nat) (hn : 1 ≤ n) (l Bn B0 : Nat) (x : BitVec 256) (J Jx : List (Fin 256) → World → Prop) (hJ : AbidesFrom B0 J)
    (hY : ∀ pre b W, J pre W → pre.length < 256 → YieldAt Fence.wide (n - 1) Try.prog l #[.int .i64 (b.val : Int)] W fun e W' =>
      (e = .returned (.bool true) ∧ J (pre ++ [b]) W' ∧ KeepB Bn W W') ∨ (e = .returned (.bool false) ∧ Jx (pre ++ [b]) W'))
    (W : World) (hX : Holds W Bn x) (h0 : J [] W) :
    CallsIn Fence.wide n Try.prog 78 #[.func (.yield l) #[] #[], .pointer (some ⟨Bn, 0, none⟩)] W fun e W' => (∃ v, e = .returned v) ∧
      ((∃ ys, ys = byf x 256 ∧ J ys W') ∨ (∃ pre, pre <+: byf x 256 ∧ Jx pre W')) := by
  refine callsIn_of_wp Try.func78 rfl trivial ?_ rfl
  simp only [Try.ntmps78, List.size_toArray, List.length_cons, List.length_nil, Nat.reduceAdd, Nat.reduceSub, Array.replicate_succ, Array.replicate_zero, List.push_toArray, List.append_toArray, List.nil_append, List.cons_append]
  gi_wp2
  gi_loopw [4] (fun t wr => ∃ k : Nat, k ≤ 256 ∧ t = .int .i64 k ∧ J (byf x k) wr ∧ Holds wr Bn x) (fun t _ => 256 - (intOf t).toNat)
  case atStart => exact ⟨0, by omega, rfl, h0, hX⟩
  case round =>
    obtain ⟨k, hk, rfl, hj, hx⟩ := hrel
    have HX := (show Hid _ from hx)
    have HJ := (show Hid _ from hj)
    by_cases hlt : k < 256
    · obtain ⟨l0, c0, c1, c2, c3, f0, f1, f2, f3⟩ := hx
      have hd : decide ((k : Int) < 256) = true := decide_eq_true (by omega)
      have HG := (show Hid _ from hasB_yes x k (by omega) (by omega))
      have hlen : (byf x k).length < 256 := by have := cntTo_le x.getLsbD k; rw [byf_len x k hk]; omega
      clear hj
      cases hb : hasB x k
      · have HE : Hid (byf x (k + 1) = byf x k) := (by
          rw [HG.out, Int.toNat_natCast] at hb
          exact byf_no x k hlt hb)
        gi_wp2_with fail
        refine ⟨trivial, (callsIn_wide.2 (has_any x k _)).mono ?_⟩
        rintro e W1 ⟨rfl, hb1⟩
        have hX1 := (show Hid _ from HX.out.below hb1 l0)
        have hJ1 := (show Hid _ from hJ _ _ _ none HJ.out (grown_below hb1) (fun r e => by cases e))
        clear hb1
        gi_wp2
        refine ⟨fun _ h => (by cases h), ?_⟩
        gi_wp2
        go_roundw
        case rel => exact ⟨k + 1, by omega, by go_num, (by rw [HE.out]; exact hJ1.out), hX1.out⟩
        case measure => simp [intOf]; omega
      · have HE : Hid (byf x (k + 1) = byf x k ++ [⟨k, hlt⟩]) := (by
          rw [HG.out, Int.toNat_natCast] at hb
          exact byf_yes x k hlt hb)
        gi_wp2_with fail
        refine ⟨trivial, (callsIn_wide.2 (has_any x k _)).mono ?_⟩
        rintro e W1 ⟨rfl, hb1⟩
        have hX1 := (show Hid _ from HX.out.below hb1 l0)
        have hJ1 := hJ _ _ _ none HJ.out (grown_below hb1) (fun r e => by cases e)
        clear hb1
        obtain ⟨fn, tmps, assign, body, hy, hR⟩ := hY (byf x k) ⟨k, hlt⟩ W1 hJ1 hlen
        dsimp only at hy
        clear hJ1
        gi_wp2
        refine hR.mono ?_
        rintro e W3 (⟨rfl, hJ3, hk3⟩ | ⟨rfl, hJx3⟩)
        · have hX3 := (show Hid _ from hX1.out.keep hk3)
          gi_wp2
          go_roundw
          case rel => exact ⟨k + 1, by omega, by go_num, (by rw [HE.out]; exact hJ3), hX3.out⟩
          case measure => simp [intOf]; omega
        · gi_wp2
          refine bodyPost_ret (results_none rfl _ _ _) rfl ?_
          exact ⟨⟨_, rfl⟩, .inr ⟨_, byf_pre x (k + 1) (by omega) HE.out, hJx3⟩⟩
    · obtain rfl : k = 256 := by omega
      have hd : decide (((256 : Nat) : Int) < 256) = false := by simp
      gi_wp2
      go_end0
      exact ⟨⟨_, rfl⟩, .inl ⟨_, rfl, hj⟩⟩

set_option maxHeartbeats 1000000 in
/-- Each: the set is boxed; the function value captures the box. -/
theorem each_in (n : Nat) (x : BitVec 256) (w : World) :
    CallsIn Fence.wide n Try.prog 63 #[sv x] w fun e w' => e = .returned (.func (.func 78) #[] #[.pointer (some ⟨w.heap.size, 0, none⟩)]) ∧ w' = w.alloc (c4 x) := by
  refine callsIn_of_wp Try.func63 rfl trivial ?_ rfl
  simp only [Try.ntmps63, List.size_toArray, List.length_cons, List.length_nil, Nat.reduceAdd, Nat.reduceSub, Array.replicate_succ, Array.replicate_zero, List.push_toArray, List.append_toArray, List.nil_append, List.cons_append]
  gi_wp2
  go_ret
  exact ⟨rfl, rfl⟩

/-- What Each hands back goes over the set's bytes, or over the first of them. -/
theorem each_stops (n : Nat) (hn : 1 ≤ n) (Bn : Nat) (x : BitVec 256) (w : World) (hX : Holds w Bn x) :
    SeqStopsK Fence.wide n Try.prog 78 #[.pointer (some ⟨Bn, 0, none⟩)] (fun b : Fin 256 => #[Value.int .i64 (b.val : Int)]) (KeepB Bn) (fun ys => ys = byf x 256) (fun pre => pre <+: byf x 256) 256 w := fun l J Jx W hW hJ _ hY h0 =>
  each1_in n hn l Bn W.heap.size x J Jx hJ hY W (hX.below hW hX.lt) h0
end Go.Proofs.Ytlcmlipldkpliaa
