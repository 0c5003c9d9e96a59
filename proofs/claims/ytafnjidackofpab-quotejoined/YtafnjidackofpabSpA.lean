/- DERIVED. Walks: spots: the iterator's contract. -/
import Derived.RangeFuncNested
import Derived.RangeFuncBound
import Derived.RangeFuncCalls
import Derived.RangeFuncLeaves
import Derived.RangeFuncFrom
import Derived.Shelf.Abstract
import Derived.Shelf.RegionOpen
import Derived.WalkKit
import Derived.OwnWalkIn
import Derived.TacticsInMore
import Derived.LoopNIn
import Derived.LoopIn
import Derived.Lib.OthersKept
import Derived.Test.YtafnjidackofpabPlE
import Derived.Test.YtafnjidackofpabRdA
namespace Go.Proofs.Ytafnjidackofpab
open Go.RowKit Go.Shelf

attribute [local go_sem] Oper.semAt_some

set_option maxRecDepth 100000 in
set_option maxHeartbeats 1000000 in
theorem behind_any (r l c : Nat) (hl : l ≤ 65538) (hc : c ≤ 65538) (w : World) :
    Calls Try.prog 16 #[.int .i32 (r : Int), .int .i64 (l : Int), .int .i64 (c : Int)] w fun e w' => e = .returned (.tuple #[.int .i64 (lnB r l : Int), .int .i64 (coB r c : Int)]) ∧ w' = w := by
  by_cases h : r = 10
  · have HE := (show Hid (lnB r l = l + 1 ∧ coB r c = 1) from (by unfold lnB coB; rw [if_pos h, if_pos h]; exact ⟨rfl, rfl⟩))
    have e1 : ((r : Int) == 10) = true := beq_iff_eq.2 (by omega)
    clear h
    go_enter Try.func16, Try.ntmps16
    go_wp2
    go_ret2
    exact ⟨by rw [HE.out.1, HE.out.2]; rfl, rfl⟩
  · have HE := (show Hid (lnB r l = l ∧ coB r c = c + 1) from (by unfold lnB coB; rw [if_neg h, if_neg h]; exact ⟨rfl, rfl⟩))
    have e1 : ((r : Int) == 10) = false := beq_eq_false_iff_ne.2 (by omega)
    clear h
    go_enter Try.func16, Try.ntmps16
    go_wp2
    go_ret2
    exact ⟨by rw [HE.out.1, HE.out.2]; rfl, rfl⟩

/-- Block b and all walks are as they were. -/
structure KeepW (b : Nat) (W W' : World) : Prop where
  blk : W'.heap[b]? = W.heap[b]?
  wlk : KeepsWalks W W'
theorem KeepW.refl (b : Nat) (W : World) : KeepW b W W := ⟨rfl, KeepsWalks.refl W⟩
theorem KeepW.trans {b : Nat} {A B C : World} (h : KeepW b A B) (k : KeepW b B C) : KeepW b A C := ⟨k.blk.trans h.blk, h.wlk.trans k.wlk⟩
theorem KeepW.put {b : Nat} {w : World} (hb : b < w.heap.size) (W : World) (l : Nat) (o o' : Obj) (hl : w.heap.size ≤ l) (h : W.heap[l]? = some o) (_ : o.isCells = false) (hw : o.isWalk = false) : KeepW b W (W.putObj l o') :=
  ⟨World.putObj_heap_other (by omega), KeepsWalks.putObj _ h hw⟩
theorem KeepW.setCell {b : Nat} {W : World} {p : Addr} (h : b ≠ p.block) (u : Value) : KeepW b W (W.setCell p u) := ⟨Below.heap_setCell _ _ _ _ h, KeepsWalks.setCell _ _ _⟩
theorem KeepW.alloc {b : Nat} {W : World} (h : b < W.heap.size) (o : Obj) : KeepW b W (W.alloc o) := ⟨Below.heap_alloc _ _ _ h, KeepsWalks.alloc _ _⟩

/-- A box with a text. -/
abbrev TBox (W : World) (b : Nat) (s : ByteArray) : Prop := W.heap[b]? = some (.cells #[.string s] 9 (0, 0))
theorem TBox.cell {W : World} {b : Nat} {s : ByteArray} (h : TBox W b s) : W.cell? ⟨b, 0, none⟩ = some (.string s) := by
  unfold World.cell?; rw [h]; rfl
theorem TBox.lt {W : World} {b : Nat} {s : ByteArray} (h : TBox W b s) : b < W.heap.size := (Array.getElem?_eq_some_iff.1 h).1

/-- What holds within the iterator. -/
structure AtS (s : ByteArray) (Bn k0 : Nat) (wr : World) (p : Nat) : Prop where
  t : TBox wr Bn s
  i : wr.heap[k0]? = some (.stringIter s p)
  ne : Bn ≠ k0

theorem AtS.next {s : ByteArray} {Bn k0 : Nat} {wr : World} {p : Nat} (h : AtS s Bn k0 wr p) (q : Nat) : AtS s Bn k0 (wr.iterAt k0 s q) q :=
  ⟨(Lib.iterAt_other wr k0 Bn s q h.ne).trans h.t, Lib.iterAt_heap wr k0 s p q h.i, h.ne⟩
theorem AtS.pos {s : ByteArray} {Bn k0 : Nat} {wr : World} {p : Nat} (h : AtS s Bn k0 wr p) : wr.iterPos k0 = p := by unfold World.iterPos; rw [h.i]
theorem AtS.keep {s : ByteArray} {Bn k0 : Nat} {wr w2 : World} {p : Nat} (h : AtS s Bn k0 wr p) (k : KeepW Bn wr w2) : AtS s Bn k0 w2 p :=
  ⟨k.blk.trans h.t, k.wlk.same _ _ h.i rfl, h.ne⟩

set_option maxRecDepth 100000 in
set_option maxHeartbeats 2000000 in
theorem spots1_in (n : Nat) (hn : 1 ≤ n) (l Bn : Nat) (s : ByteArray) (hs : s.size ≤ 65536) (J Jx : List Spot → World → Prop) (W : World) (hJ : AbidesFrom W.heap.size J)
    (hY : ∀ pre x W1, J pre W1 → pre.length < (spots s).length → YieldAt Fence.wide (n - 1) Try.prog l #[spV x] W1 fun e W' =>
      (e = .returned (.bool true) ∧ J (pre ++ [x]) W' ∧ KeepW Bn W1 W') ∨ (e = .returned (.bool false) ∧ Jx (pre ++ [x]) W'))
    (hX : TBox W Bn s) (h0 : J [] W) :
    CallsIn Fence.wide n Try.prog 15 #[.func (.yield l) #[] #[], .pointer (some ⟨Bn, 0, none⟩)] W fun e W' => (∃ v, e = .returned v) ∧
      ((∃ ys, ys = spots s ∧ J ys W') ∨ (∃ pre, pre <+: spots s ∧ Jx pre W')) := by
  have HJ := (show Hid _ from hJ)
  have HY := (show Hid _ from hY)
  have hBn := hX.lt
  have HA := (show Hid (AtS s Bn W.heap.size (W.iter s 0) 0) from ⟨(Below.heap_alloc _ _ _ hBn).trans hX, World.iter_heap W s 0, by omega⟩)
  have H0 := (show Hid (J [] (W.iter s 0)) from hJ _ _ _ none h0 (World.grownBy_alloc W _ none) (fun r e => by cases e))
  have hc := hX.cell
  clear hJ hY h0
  refine callsIn_of_wp Try.func15 rfl trivial ?_ rfl
  simp only [Try.ntmps15, List.size_toArray, List.length_cons, List.length_nil, Nat.reduceAdd, Nat.reduceSub, Array.replicate_succ, Array.replicate_zero, List.push_toArray, List.append_toArray, List.nil_append, List.cons_append]
  gi_wp2
  clear hc hX
  gi_loopw [3, 4] (fun t u wr => ∃ f p ln c : Nat, ∃ pre : List Spot, t = .int .i64 ln ∧ u = .int .i64 c ∧ Hid (s.size + 1 ≤ f + p) ∧ (ln ≤ p + 1 ∧ c ≤ p + 1) ∧ Hid (pre ++ spF s f p ln c = spots s) ∧ Hid (AtS s Bn W.heap.size wr p) ∧ Hid (J pre wr)) (fun _ _ wr => s.size - wr.iterPos W.heap.size)
  case atStart => exact ⟨s.size + 1, 0, 1, 1, [], rfl, rfl, (show _ ≤ _ by omega), by omega, rfl, HA, H0⟩
  case round =>
    obtain ⟨f, p, ln, c, pre, rfl, rfl, HF, ⟨hl, hc⟩, HP, HS, HJ1⟩ := hrel
    clear HA H0
    by_cases hp : p < s.size
    · obtain ⟨g, rfl⟩ : ∃ g, f = g + 1 := ⟨f - 1, by have h := HF.out; omega⟩
      have hwd := Lib.decode_width_pos s p hp
      have HE := (show Hid _ from (spF_step (f := g) (l := ln) (c := c) hp))
      have HP2 := (show Hid _ from (by rw [HE.out] at HP; exact HP.out : pre ++ (p, ln, c) :: spF s g (p + (Utf8.decode s p).2) (lnB (Utf8.decode s p).1 ln) (coB (Utf8.decode s p).1 c) = spots s))
      have HF2 : Hid (s.size + 1 ≤ g + (p + (Utf8.decode s p).2)) := (by have h := HF.out; show _ ≤ _; omega)
      have hlb := lnB_le (Utf8.decode s p).1 ln
      have hcb := coB_le (Utf8.decode s p).1 c
      have hnx : ∀ ty, (Instr.next (.pointer (some ⟨W.heap.size, 0, none⟩)) true ty).run Try.prog wr = _ := fun ty => Lib.run_next_any_at wr W.heap.size s p ty HS.out.i hp
      have HS2 := (show Hid _ from HS.out.next (p + (Utf8.decode s p).2))
      have HJ2 := (show Hid (J pre (wr.iterAt W.heap.size s (p + (Utf8.decode s p).2))) from HJ.out _ _ _ (some W.heap.size) HJ1.out (grownBy_putObj' wr W.heap.size (.stringIter s (p + (Utf8.decode s p).2))) (fun r e => by cases e; exact ⟨Nat.le_refl _, _, HS.out.i, rfl⟩))
      have HPos := (show Hid _ from HS.out.pos)
      have HBe : Hid (∀ w, Calls Try.prog 16 #[.int .i32 ((Utf8.decode s p).1 : Int), .int .i64 (ln : Int), .int .i64 (c : Int)] w fun e w' => e = .returned (.tuple #[.int .i64 (lnB (Utf8.decode s p).1 ln : Int), .int .i64 (coB (Utf8.decode s p).1 c : Int)]) ∧ w' = w) := fun w => behind_any _ ln c (by omega) (by omega) w
      clear HE HP HF HS HJ1
      generalize (Utf8.decode s p).1 = r at *
      generalize (Utf8.decode s p).2 = wd at *
      generalize wr.iterAt W.heap.size s (p + wd) = w1 at *
      obtain ⟨fn, tmps, assign, body, hy, hR⟩ := HY.out pre (p, ln, c) w1 HJ2.out (pre_lt HP2.out)
      dsimp only [spV] at hy
      gi_wp2
      refine hR.mono ?_
      rintro e W3 (⟨rfl, hJ3, hk3⟩ | ⟨rfl, hJx3⟩)
      · have HJ3 := (show Hid _ from hJ3)
        have HS3 := (show Hid _ from HS2.out.keep hk3)
        have HP3 := (show Hid _ from HS3.out.pos)
        clear hJ3 hk3 hy hnx
        gi_wp2_with fail
        refine ⟨trivial, (callsIn_wide.2 (HBe.out _)).mono ?_⟩
        rintro e w4 ⟨rfl, rfl⟩
        gi_wp2
        go_roundw
        case rel => exact ⟨g, p + wd, lnB r ln, coB r c, pre ++ [(p, ln, c)], rfl, rfl, HF2, by omega, pre_next HP2.out, HS3, HJ3⟩
        case measure => rw [HP3.out, HPos.out]; omega
      · gi_wp2
        refine bodyPost_ret (results_none rfl _ _ _) rfl ?_
        exact ⟨⟨_, rfl⟩, .inr ⟨_, pre_pre HP2.out, hJx3⟩⟩
    · have HP2 := (show Hid _ from (by rw [spF_end hp] at HP; exact HP.out : pre ++ [(s.size, ln, c)] = spots s))
      have hnx : ∀ ty, (Instr.next (.pointer (some ⟨W.heap.size, 0, none⟩)) true ty).run Try.prog wr = _ := fun ty => Lib.run_next_end_at wr W.heap.size s p ty HS.out.i hp
      obtain ⟨fn, tmps, assign, body, hy, hR⟩ := HY.out pre (s.size, ln, c) wr HJ1.out (pre_lt HP2.out)
      dsimp only [spV] at hy
      have hc := HS.out.t.cell
      clear HP HF
      gi_wp2
      refine hR.mono ?_
      rintro e W3 (⟨rfl, hJ3, hk3⟩ | ⟨rfl, hJx3⟩)
      · gi_wp2
        go_end0
        exact ⟨⟨_, rfl⟩, .inl ⟨_, HP2.out, hJ3⟩⟩
      · gi_wp2
        go_end0
        exact ⟨⟨_, rfl⟩, .inr ⟨_, ⟨[], by rw [List.append_nil]; exact HP2.out⟩, hJx3⟩⟩

set_option maxHeartbeats 1000000 in
/-- spots: the text is boxed; the function value captures the box. -/
theorem spots_in (n : Nat) (s : ByteArray) (w : World) :
    CallsIn Fence.wide n Try.prog 11 #[.string s] w fun e w' => e = .returned (.func (.func 15) #[] #[.pointer (some ⟨w.heap.size, 0, none⟩)]) ∧ w' = w.alloc (.cells #[.string s] 9) := by
  refine callsIn_of_wp Try.func11 rfl trivial ?_ rfl
  simp only [Try.ntmps11, List.size_toArray, List.length_cons, List.length_nil, Nat.reduceAdd, Nat.reduceSub, Array.replicate_succ, Array.replicate_zero, List.push_toArray, List.append_toArray, List.nil_append, List.cons_append]
  gi_wp2
  go_ret
  exact ⟨rfl, rfl⟩

/-- What spots hands back goes over the spots, or over the first of them. -/
theorem spots_stops (n : Nat) (hn : 1 ≤ n) (Bn : Nat) (s : ByteArray) (hs : s.size ≤ 65536) (w : World) (hX : TBox w Bn s) :
    SeqStopsK Fence.wide n Try.prog 15 #[.pointer (some ⟨Bn, 0, none⟩)] (fun x : Spot => #[spV x]) (KeepW Bn) (fun ys => ys = spots s) (fun pre => pre <+: spots s) (spots s).length w := fun l J Jx W hW hJ _ hY h0 =>
  spots1_in n hn l Bn s hs J Jx W hJ hY ((hW.block Bn hX.lt).trans hX) h0
end Go.Proofs.Ytafnjidackofpab
