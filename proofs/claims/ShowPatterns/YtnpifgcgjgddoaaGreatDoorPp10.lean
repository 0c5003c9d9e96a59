/- DERIVED. Plain mathematics and walks, laid together (10). -/
import Derived.Deep.RegionHeld3
import Derived.Test.YtnpifgcgjgddoaaGreatDoorPp09
namespace Go.Proofs.YtnpifgcgjgddoaaGreatDoor.N
open Go.RowKit
/-- A frame. -/
abbrev frG (x y z : ByteArray) : Value := .agg #[.string x, .string y, .string z]
abbrev nbO (op nn : Int) (tx : ByteArray) (a b c d : Int) : Obj := .cells #[.int .i64 op, .int .i64 nn, .string tx, .int .u64 a, .int .u64 b, .int .u64 c, .int .u64 d] 51
structure FB (W : World) (b : Nat) (x y z : ByteArray) : Prop where
  heap : W.heap[b]? = some (.cells #[.string x, .string y, .string z] 143 (0, 0))
theorem FB.lt {W : World} {b : Nat} {x y z : ByteArray} (h : FB W b x y z) : b < W.heap.size := (Array.getElem?_eq_some_iff.1 h.heap).1
theorem FB.c {W : World} {b : Nat} {x y z : ByteArray} (h : FB W b x y z) (j : Nat) : W.cell? ⟨b, j, none⟩ = (#[.string x, .string y, .string z] : Array Value)[j]? := cell_of_row W b j _ 143 (0, 0) h.heap
theorem FB.c0 {W : World} {b : Nat} {x y z : ByteArray} (h : FB W b x y z) : W.cell? ⟨b, 0, none⟩ = some (.string x) := h.c 0
theorem FB.c1 {W : World} {b : Nat} {x y z : ByteArray} (h : FB W b x y z) : W.cell? ⟨b, 1, none⟩ = some (.string y) := h.c 1
theorem FB.c2 {W : World} {b : Nat} {x y z : ByteArray} (h : FB W b x y z) : W.cell? ⟨b, 2, none⟩ = some (.string z) := h.c 2
theorem FB.fz {W : World} {b : Nat} {x y z : ByteArray} (h : FB W b x y z) (j : Nat) : W.frozen? ⟨b, j, none⟩ = false := frozen_of_row W b j _ 143 h.heap
theorem FB.new (W : World) (x y z : ByteArray) : FB (W.alloc (.cells #[.string x, .string y, .string z] 143)) W.heap.size x y z := ⟨heap_alloc_new W _⟩
theorem FB.same {W W' : World} {b : Nat} {x y z : ByteArray} (h : FB W b x y z) (hb : W'.heap[b]? = W.heap[b]?) : FB W' b x y z := ⟨hb.trans h.heap⟩
abbrev stF (W : World) (b : Nat) (x y z : ByteArray) : World := ((W.setCell ⟨b, 0, none⟩ (.string x)).setCell ⟨b, 1, none⟩ (.string y)).setCell ⟨b, 2, none⟩ (.string z)
theorem FB.st {W : World} {b : Nat} {x y z x' y' z' : ByteArray} (h : FB W b x y z) : FB (stF W b x' y' z') b x' y' z' := by
  have h0 : FB (W.setCell ⟨b, 0, none⟩ (.string x')) b x' y z := ⟨by rw [heap_setCell_same W b 0 _ 143 _ h.heap]; rfl⟩
  have h1 : FB ((W.setCell ⟨b, 0, none⟩ (.string x')).setCell ⟨b, 1, none⟩ (.string y')) b x' y' z := ⟨by rw [heap_setCell_same _ b 1 _ 143 _ h0.heap]; rfl⟩
  exact ⟨by rw [heap_setCell_same _ b 2 _ 143 _ h1.heap]; rfl⟩
theorem below_stF {w W : World} {b : Nat} {x y z : ByteArray} {B : Nat} (h : Below B w W) (hb : B ≤ b) : Below B w (stF W b x y z) := ((h.setCell (p := ⟨b, 0, none⟩) hb _).setCell (p := ⟨b, 1, none⟩) hb _).setCell (p := ⟨b, 2, none⟩) hb _
theorem fr_two (w : World) (op nn : Int) (tx : ByteArray) (a b c d : Int) (x y z : ByteArray) : FB ((w.alloc (nbO op nn tx a b c d)).alloc (.cells #[.string x, .string y, .string z] 143)) (w.heap.size + 1) x y z ∧ Below w.heap.size w ((w.alloc (nbO op nn tx a b c d)).alloc (.cells #[.string x, .string y, .string z] 143)) := by
  refine ⟨?_, (below_box w _).alloc (below_box w _).size _⟩
  have := FB.new (w.alloc (nbO op nn tx a b c d)) x y z
  rw [World.size_alloc] at this
  exact this
/-- What frameOf leaves. -/
theorem fr_end {w W : World} {x y z : ByteArray} (h : Below w.heap.size w W) (hf : FB W (w.heap.size + 1) ⟨#[]⟩ ⟨#[]⟩ ⟨#[]⟩) : FB (stF W (w.heap.size + 1) x y z) (w.heap.size + 1) x y z ∧ Below w.heap.size w (stF W (w.heap.size + 1) x y z) := ⟨hf.st, below_stF h (by omega)⟩
set_option maxRecDepth 100000 in
set_option maxHeartbeats 2000000 in
theorem gsign_any (s : ByteArray) (hs : s.size ≤ 32) (w : World) : Calls Tryz.prog 122 #[.string s] w fun e w' => e = .returned (.string (grS s)) ∧ w' = w := by
  by_cases h : s.size = 0
  · have t : (s.toList == []) = true := by
      have e := T.emp_t h
      rw [List.isEmpty_iff] at e
      rw [e]; rfl
    have HE := (show Hid (grS s = ⟨#[123, 58]⟩) from by show grS s = _; unfold grS; rw [if_pos h])
    have e0 := T.emp_t h
    clear h hs
    go_enter Tryz.func122, Tryz.ntmps122
    go_wp2_with fail
    go_ret
    exact ⟨by rw [HE.out]; rfl, rfl⟩
  · have t : (s.toList == []) = false := by
      have e := T.emp_f h
      cases hl : s.toList with
      | nil => rw [hl] at e; cases e
      | cons x r => rfl
    have HE := (show Hid (grS s = ⟨#[123, 58]⟩ ++ s ++ ⟨#[58]⟩) from by show grS s = _; unfold grS; rw [if_neg h])
    have e0 := T.emp_f h
    have q1 : ¬ 9223372036854775807 < 2 + s.size := by omega
    have q2 : ¬ 9223372036854775807 < 2 + s.size + 1 := by omega
    clear h hs
    go_enter Tryz.func122, Tryz.ntmps122
    go_wp2_with fail
    go_ret
    exact ⟨by rw [HE.out]; rfl, rfl⟩
theorem grS_len (s : ByteArray) : (grS s).size ≤ s.size + 3 := by
  unfold grS
  split
  · show 2 ≤ _; omega
  · rw [ByteArray.size_append, ByteArray.size_append]; show 2 + s.size + 1 ≤ _; omega
set_option maxRecDepth 100000 in
set_option maxHeartbeats 2000000 in
theorem fw_19 (nn : Int) (tx : ByteArray) (a b c d : Int) (w : World) (hs : tx.size ≤ 32) : Calls Tryz.prog 95 #[(.agg #[.int .i64 19, .int .i64 nn, .string tx, .int .u64 a, .int .u64 b, .int .u64 c, .int .u64 d])] w fun e w' => e = .returned (frG (grS tx ++ ⟨#[32]⟩) ⟨#[]⟩ ⟨#[32, 58, 125]⟩) ∧ Below w.heap.size w w' := by
  have HZ := (show Hid _ from fr_two w 19 nn tx a b c d (grS tx ++ ⟨#[32]⟩) ⟨#[]⟩ ⟨#[32, 58, 125]⟩)
  have HG := (show Hid (∀ w, Calls Tryz.prog 122 #[.string tx] w fun e w' => e = .returned (.string (grS tx)) ∧ w' = w) from fun w => gsign_any tx hs w)
  have hl := grS_len tx
  have hq : ¬ 9223372036854775807 < (grS tx).size + 1 := by omega
  clear hs hl
  go_enter Tryz.func95, Tryz.ntmps95
  go_wp2_with fail
  refine (HG.out _).mono ?_
  rintro e w1 ⟨rfl, rfl⟩
  go_wp2_with fail
  have r0 := HZ.out.1.c0
  have r1 := HZ.out.1.c1
  have r2 := HZ.out.1.c2
  refine bodyPost_ret (v := frG (grS tx ++ ⟨#[32]⟩) ⟨#[]⟩ ⟨#[32, 58, 125]⟩) ?_ rfl ⟨rfl, HZ.out.2⟩
  simp [results, Tryz.results95, go_sem, r0, r1, r2]
set_option maxRecDepth 100000 in
set_option maxHeartbeats 2000000 in
theorem fw_1 (nn : Int) (tx : ByteArray) (a b c d : Int) (w : World) : Calls Tryz.prog 95 #[(.agg #[.int .i64 1, .int .i64 nn, .string tx, .int .u64 a, .int .u64 b, .int .u64 c, .int .u64 d])] w fun e w' => e = .returned (frG ⟨#[37, 101]⟩ ⟨#[]⟩ ⟨#[]⟩) ∧ Below w.heap.size w w' := by
  have HZ := (show Hid _ from fr_two w 1 nn tx a b c d ⟨#[37, 101]⟩ ⟨#[]⟩ ⟨#[]⟩)
  go_enter Tryz.func95, Tryz.ntmps95
  go_wp2_with fail
  have r0 := HZ.out.1.c0
  have r1 := HZ.out.1.c1
  have r2 := HZ.out.1.c2
  refine bodyPost_ret (v := frG ⟨#[37, 101]⟩ ⟨#[]⟩ ⟨#[]⟩) ?_ rfl ⟨rfl, HZ.out.2⟩
  simp [results, Tryz.results95, go_sem, r0, r1, r2]
set_option maxRecDepth 100000 in
set_option maxHeartbeats 2000000 in
theorem fw_2 (nn : Int) (tx : ByteArray) (a b c d : Int) (w : World) : Calls Tryz.prog 95 #[(.agg #[.int .i64 2, .int .i64 nn, .string tx, .int .u64 a, .int .u64 b, .int .u64 c, .int .u64 d])] w fun e w' => e = .returned (frG ⟨#[37, 102]⟩ ⟨#[]⟩ ⟨#[]⟩) ∧ Below w.heap.size w w' := by
  have HZ := (show Hid _ from fr_two w 2 nn tx a b c d ⟨#[37, 102]⟩ ⟨#[]⟩ ⟨#[]⟩)
  go_enter Tryz.func95, Tryz.ntmps95
  go_wp2_with fail
  have r0 := HZ.out.1.c0
  have r1 := HZ.out.1.c1
  have r2 := HZ.out.1.c2
  refine bodyPost_ret (v := frG ⟨#[37, 102]⟩ ⟨#[]⟩ ⟨#[]⟩) ?_ rfl ⟨rfl, HZ.out.2⟩
  simp [results, Tryz.results95, go_sem, r0, r1, r2]
set_option maxRecDepth 100000 in
set_option maxHeartbeats 2000000 in
theorem fw_3 (nn : Int) (tx : ByteArray) (a b c d : Int) (w : World) : Calls Tryz.prog 95 #[(.agg #[.int .i64 3, .int .i64 nn, .string tx, .int .u64 a, .int .u64 b, .int .u64 c, .int .u64 d])] w fun e w' => e = .returned (frG ⟨#[46]⟩ ⟨#[]⟩ ⟨#[]⟩) ∧ Below w.heap.size w w' := by
  have HZ := (show Hid _ from fr_two w 3 nn tx a b c d ⟨#[46]⟩ ⟨#[]⟩ ⟨#[]⟩)
  go_enter Tryz.func95, Tryz.ntmps95
  go_wp2_with fail
  have r0 := HZ.out.1.c0
  have r1 := HZ.out.1.c1
  have r2 := HZ.out.1.c2
  refine bodyPost_ret (v := frG ⟨#[46]⟩ ⟨#[]⟩ ⟨#[]⟩) ?_ rfl ⟨rfl, HZ.out.2⟩
  simp [results, Tryz.results95, go_sem, r0, r1, r2]
set_option maxRecDepth 100000 in
set_option maxHeartbeats 2000000 in
theorem fw_17 (nn : Int) (tx : ByteArray) (a b c d : Int) (w : World) : Calls Tryz.prog 95 #[(.agg #[.int .i64 17, .int .i64 nn, .string tx, .int .u64 a, .int .u64 b, .int .u64 c, .int .u64 d])] w fun e w' => e = .returned (frG ⟨#[123, 125]⟩ ⟨#[]⟩ ⟨#[]⟩) ∧ Below w.heap.size w w' := by
  have HZ := (show Hid _ from fr_two w 17 nn tx a b c d ⟨#[123, 125]⟩ ⟨#[]⟩ ⟨#[]⟩)
  go_enter Tryz.func95, Tryz.ntmps95
  go_wp2_with fail
  have r0 := HZ.out.1.c0
  have r1 := HZ.out.1.c1
  have r2 := HZ.out.1.c2
  refine bodyPost_ret (v := frG ⟨#[123, 125]⟩ ⟨#[]⟩ ⟨#[]⟩) ?_ rfl ⟨rfl, HZ.out.2⟩
  simp [results, Tryz.results95, go_sem, r0, r1, r2]
set_option maxRecDepth 100000 in
set_option maxHeartbeats 2000000 in
theorem fw_7 (nn : Int) (tx : ByteArray) (a b c d : Int) (w : World) : Calls Tryz.prog 95 #[(.agg #[.int .i64 7, .int .i64 nn, .string tx, .int .u64 a, .int .u64 b, .int .u64 c, .int .u64 d])] w fun e w' => e = .returned (frG ⟨#[]⟩ ⟨#[32]⟩ ⟨#[]⟩) ∧ Below w.heap.size w w' := by
  have HZ := (show Hid _ from fr_two w 7 nn tx a b c d ⟨#[]⟩ ⟨#[32]⟩ ⟨#[]⟩)
  go_enter Tryz.func95, Tryz.ntmps95
  go_wp2_with fail
  have r0 := HZ.out.1.c0
  have r1 := HZ.out.1.c1
  have r2 := HZ.out.1.c2
  refine bodyPost_ret (v := frG ⟨#[]⟩ ⟨#[32]⟩ ⟨#[]⟩) ?_ rfl ⟨rfl, HZ.out.2⟩
  simp [results, Tryz.results95, go_sem, r0, r1, r2]
set_option maxRecDepth 100000 in
set_option maxHeartbeats 2000000 in
theorem fw_8 (nn : Int) (tx : ByteArray) (a b c d : Int) (w : World) : Calls Tryz.prog 95 #[(.agg #[.int .i64 8, .int .i64 nn, .string tx, .int .u64 a, .int .u64 b, .int .u64 c, .int .u64 d])] w fun e w' => e = .returned (frG ⟨#[]⟩ ⟨#[32, 47, 32]⟩ ⟨#[]⟩) ∧ Below w.heap.size w w' := by
  have HZ := (show Hid _ from fr_two w 8 nn tx a b c d ⟨#[]⟩ ⟨#[32, 47, 32]⟩ ⟨#[]⟩)
  go_enter Tryz.func95, Tryz.ntmps95
  go_wp2_with fail
  have r0 := HZ.out.1.c0
  have r1 := HZ.out.1.c1
  have r2 := HZ.out.1.c2
  refine bodyPost_ret (v := frG ⟨#[]⟩ ⟨#[32, 47, 32]⟩ ⟨#[]⟩) ?_ rfl ⟨rfl, HZ.out.2⟩
  simp [results, Tryz.results95, go_sem, r0, r1, r2]
set_option maxRecDepth 100000 in
set_option maxHeartbeats 2000000 in
theorem fw_9 (nn : Int) (tx : ByteArray) (a b c d : Int) (w : World) : Calls Tryz.prog 95 #[(.agg #[.int .i64 9, .int .i64 nn, .string tx, .int .u64 a, .int .u64 b, .int .u64 c, .int .u64 d])] w fun e w' => e = .returned (frG ⟨#[]⟩ ⟨#[]⟩ ⟨#[42]⟩) ∧ Below w.heap.size w w' := by
  have HZ := (show Hid _ from fr_two w 9 nn tx a b c d ⟨#[]⟩ ⟨#[]⟩ ⟨#[42]⟩)
  go_enter Tryz.func95, Tryz.ntmps95
  go_wp2_with fail
  have r0 := HZ.out.1.c0
  have r1 := HZ.out.1.c1
  have r2 := HZ.out.1.c2
  refine bodyPost_ret (v := frG ⟨#[]⟩ ⟨#[]⟩ ⟨#[42]⟩) ?_ rfl ⟨rfl, HZ.out.2⟩
  simp [results, Tryz.results95, go_sem, r0, r1, r2]
set_option maxRecDepth 100000 in
set_option maxHeartbeats 2000000 in
theorem fw_10 (nn : Int) (tx : ByteArray) (a b c d : Int) (w : World) : Calls Tryz.prog 95 #[(.agg #[.int .i64 10, .int .i64 nn, .string tx, .int .u64 a, .int .u64 b, .int .u64 c, .int .u64 d])] w fun e w' => e = .returned (frG ⟨#[]⟩ ⟨#[]⟩ ⟨#[43]⟩) ∧ Below w.heap.size w w' := by
  have HZ := (show Hid _ from fr_two w 10 nn tx a b c d ⟨#[]⟩ ⟨#[]⟩ ⟨#[43]⟩)
  go_enter Tryz.func95, Tryz.ntmps95
  go_wp2_with fail
  have r0 := HZ.out.1.c0
  have r1 := HZ.out.1.c1
  have r2 := HZ.out.1.c2
  refine bodyPost_ret (v := frG ⟨#[]⟩ ⟨#[]⟩ ⟨#[43]⟩) ?_ rfl ⟨rfl, HZ.out.2⟩
  simp [results, Tryz.results95, go_sem, r0, r1, r2]
set_option maxRecDepth 100000 in
set_option maxHeartbeats 2000000 in
theorem fw_11 (nn : Int) (tx : ByteArray) (a b c d : Int) (w : World) : Calls Tryz.prog 95 #[(.agg #[.int .i64 11, .int .i64 nn, .string tx, .int .u64 a, .int .u64 b, .int .u64 c, .int .u64 d])] w fun e w' => e = .returned (frG ⟨#[]⟩ ⟨#[]⟩ ⟨#[63]⟩) ∧ Below w.heap.size w w' := by
  have HZ := (show Hid _ from fr_two w 11 nn tx a b c d ⟨#[]⟩ ⟨#[]⟩ ⟨#[63]⟩)
  go_enter Tryz.func95, Tryz.ntmps95
  go_wp2_with fail
  have r0 := HZ.out.1.c0
  have r1 := HZ.out.1.c1
  have r2 := HZ.out.1.c2
  refine bodyPost_ret (v := frG ⟨#[]⟩ ⟨#[]⟩ ⟨#[63]⟩) ?_ rfl ⟨rfl, HZ.out.2⟩
  simp [results, Tryz.results95, go_sem, r0, r1, r2]
set_option maxRecDepth 100000 in
set_option maxHeartbeats 2000000 in
theorem fw_12 (nn : Int) (tx : ByteArray) (a b c d : Int) (w : World) : Calls Tryz.prog 95 #[(.agg #[.int .i64 12, .int .i64 nn, .string tx, .int .u64 a, .int .u64 b, .int .u64 c, .int .u64 d])] w fun e w' => e = .returned (frG ⟨#[38]⟩ ⟨#[]⟩ ⟨#[]⟩) ∧ Below w.heap.size w w' := by
  have HZ := (show Hid _ from fr_two w 12 nn tx a b c d ⟨#[38]⟩ ⟨#[]⟩ ⟨#[]⟩)
  go_enter Tryz.func95, Tryz.ntmps95
  go_wp2_with fail
  have r0 := HZ.out.1.c0
  have r1 := HZ.out.1.c1
  have r2 := HZ.out.1.c2
  refine bodyPost_ret (v := frG ⟨#[38]⟩ ⟨#[]⟩ ⟨#[]⟩) ?_ rfl ⟨rfl, HZ.out.2⟩
  simp [results, Tryz.results95, go_sem, r0, r1, r2]
set_option maxRecDepth 100000 in
set_option maxHeartbeats 2000000 in
theorem fw_13 (nn : Int) (tx : ByteArray) (a b c d : Int) (w : World) : Calls Tryz.prog 95 #[(.agg #[.int .i64 13, .int .i64 nn, .string tx, .int .u64 a, .int .u64 b, .int .u64 c, .int .u64 d])] w fun e w' => e = .returned (frG ⟨#[33]⟩ ⟨#[]⟩ ⟨#[]⟩) ∧ Below w.heap.size w w' := by
  have HZ := (show Hid _ from fr_two w 13 nn tx a b c d ⟨#[33]⟩ ⟨#[]⟩ ⟨#[]⟩)
  go_enter Tryz.func95, Tryz.ntmps95
  go_wp2_with fail
  have r0 := HZ.out.1.c0
  have r1 := HZ.out.1.c1
  have r2 := HZ.out.1.c2
  refine bodyPost_ret (v := frG ⟨#[33]⟩ ⟨#[]⟩ ⟨#[]⟩) ?_ rfl ⟨rfl, HZ.out.2⟩
  simp [results, Tryz.results95, go_sem, r0, r1, r2]
set_option maxRecDepth 100000 in
set_option maxHeartbeats 2000000 in
theorem fw_18 (nn : Int) (tx : ByteArray) (a b c d : Int) (w : World) : Calls Tryz.prog 95 #[(.agg #[.int .i64 18, .int .i64 nn, .string tx, .int .u64 a, .int .u64 b, .int .u64 c, .int .u64 d])] w fun e w' => e = .returned (frG ⟨#[123]⟩ ⟨#[]⟩ ⟨#[125]⟩) ∧ Below w.heap.size w w' := by
  have HZ := (show Hid _ from fr_two w 18 nn tx a b c d ⟨#[123]⟩ ⟨#[]⟩ ⟨#[125]⟩)
  go_enter Tryz.func95, Tryz.ntmps95
  go_wp2_with fail
  have r0 := HZ.out.1.c0
  have r1 := HZ.out.1.c1
  have r2 := HZ.out.1.c2
  refine bodyPost_ret (v := frG ⟨#[123]⟩ ⟨#[]⟩ ⟨#[125]⟩) ?_ rfl ⟨rfl, HZ.out.2⟩
  simp [results, Tryz.results95, go_sem, r0, r1, r2]
set_option maxRecDepth 100000 in
set_option maxHeartbeats 2000000 in
theorem fw_20 (nn : Int) (tx : ByteArray) (a b c d : Int) (w : World) : Calls Tryz.prog 95 #[(.agg #[.int .i64 20, .int .i64 nn, .string tx, .int .u64 a, .int .u64 b, .int .u64 c, .int .u64 d])] w fun e w' => e = .returned (frG ⟨#[123, 124, 32]⟩ ⟨#[]⟩ ⟨#[32, 124, 125]⟩) ∧ Below w.heap.size w w' := by
  have HZ := (show Hid _ from fr_two w 20 nn tx a b c d ⟨#[123, 124, 32]⟩ ⟨#[]⟩ ⟨#[32, 124, 125]⟩)
  go_enter Tryz.func95, Tryz.ntmps95
  go_wp2_with fail
  have r0 := HZ.out.1.c0
  have r1 := HZ.out.1.c1
  have r2 := HZ.out.1.c2
  refine bodyPost_ret (v := frG ⟨#[123, 124, 32]⟩ ⟨#[]⟩ ⟨#[32, 124, 125]⟩) ?_ rfl ⟨rfl, HZ.out.2⟩
  simp [results, Tryz.results95, go_sem, r0, r1, r2]
set_option maxRecDepth 100000 in
set_option maxHeartbeats 2000000 in
theorem fw_21 (nn : Int) (tx : ByteArray) (a b c d : Int) (w : World) : Calls Tryz.prog 95 #[(.agg #[.int .i64 21, .int .i64 nn, .string tx, .int .u64 a, .int .u64 b, .int .u64 c, .int .u64 d])] w fun e w' => e = .returned (frG ⟨#[123, 126, 32]⟩ ⟨#[]⟩ ⟨#[32, 126, 125]⟩) ∧ Below w.heap.size w w' := by
  have HZ := (show Hid _ from fr_two w 21 nn tx a b c d ⟨#[123, 126, 32]⟩ ⟨#[]⟩ ⟨#[32, 126, 125]⟩)
  go_enter Tryz.func95, Tryz.ntmps95
  go_wp2_with fail
  have r0 := HZ.out.1.c0
  have r1 := HZ.out.1.c1
  have r2 := HZ.out.1.c2
  refine bodyPost_ret (v := frG ⟨#[123, 126, 32]⟩ ⟨#[]⟩ ⟨#[32, 126, 125]⟩) ?_ rfl ⟨rfl, HZ.out.2⟩
  simp [results, Tryz.results95, go_sem, r0, r1, r2]
set_option maxRecDepth 100000 in
set_option maxHeartbeats 2000000 in
theorem fw_14 (nn : Int) (tx : ByteArray) (a b c d : Int) (w : World) (s : ByteArray) (hs : s.size ≤ 3000) (hc : ∀ w, Calls Tryz.prog 78 #[(.agg #[.int .i64 14, .int .i64 nn, .string tx, .int .u64 a, .int .u64 b, .int .u64 c, .int .u64 d])] w fun e w' => e = .returned (.string s) ∧ Below w.heap.size w w') : Calls Tryz.prog 95 #[(.agg #[.int .i64 14, .int .i64 nn, .string tx, .int .u64 a, .int .u64 b, .int .u64 c, .int .u64 d])] w fun e w' => e = .returned (frG ⟨#[]⟩ ⟨#[]⟩ (⟨#[94]⟩ ++ s)) ∧ Below w.heap.size w w' := by
  have HF := (show Hid _ from fr_two w 14 nn tx a b c d ⟨#[]⟩ ⟨#[]⟩ ⟨#[]⟩)
  have HC := (show Hid _ from hc)
  have hq : ¬ 9223372036854775807 < 1 + s.size := by omega
  clear hc hs
  go_enter Tryz.func95, Tryz.ntmps95
  go_wp2_with fail
  refine (HC.out _).mono ?_
  rintro e w1 ⟨rfl, b1⟩
  have HF1 := (show Hid (FB w1 (w.heap.size + 1) ⟨#[]⟩ ⟨#[]⟩ ⟨#[]⟩) from HF.out.1.same (b1.block _ HF.out.1.lt))
  have HB1 := (show Hid (Below w.heap.size w w1) from HF.out.2.trans (b1.mono HF.out.2.size))
  have HZ := (show Hid _ from fr_end (x := ⟨#[]⟩) (y := ⟨#[]⟩) (z := (⟨#[94]⟩ ++ s)) HB1.out HF1.out)
  have g0 := HF1.out.c0
  have g1 := HF1.out.c1
  have g2 := HF1.out.c2
  have f0 := HF1.out.fz 0
  have f1 := HF1.out.fz 1
  have f2 := HF1.out.fz 2
  clear b1 HF HB1 HC
  go_wp2_with fail
  have r0 := HZ.out.1.c0
  have r1 := HZ.out.1.c1
  have r2 := HZ.out.1.c2
  refine bodyPost_ret (v := frG ⟨#[]⟩ ⟨#[]⟩ (⟨#[94]⟩ ++ s)) ?_ rfl ⟨rfl, HZ.out.2⟩
  simp [results, Tryz.results95, go_sem, r0, r1, r2]
set_option maxRecDepth 100000 in
set_option maxHeartbeats 2000000 in
theorem fw_15 (nn : Int) (tx : ByteArray) (a b c d : Int) (w : World) (s : ByteArray) (hs : s.size ≤ 3000) (hc : ∀ w, Calls Tryz.prog 78 #[(.agg #[.int .i64 15, .int .i64 nn, .string tx, .int .u64 a, .int .u64 b, .int .u64 c, .int .u64 d])] w fun e w' => e = .returned (.string s) ∧ Below w.heap.size w w') : Calls Tryz.prog 95 #[(.agg #[.int .i64 15, .int .i64 nn, .string tx, .int .u64 a, .int .u64 b, .int .u64 c, .int .u64 d])] w fun e w' => e = .returned (frG ⟨#[]⟩ ⟨#[]⟩ (⟨#[94, 43]⟩ ++ s)) ∧ Below w.heap.size w w' := by
  have HF := (show Hid _ from fr_two w 15 nn tx a b c d ⟨#[]⟩ ⟨#[]⟩ ⟨#[]⟩)
  have HC := (show Hid _ from hc)
  have hq : ¬ 9223372036854775807 < 2 + s.size := by omega
  clear hc hs
  go_enter Tryz.func95, Tryz.ntmps95
  go_wp2_with fail
  refine (HC.out _).mono ?_
  rintro e w1 ⟨rfl, b1⟩
  have HF1 := (show Hid (FB w1 (w.heap.size + 1) ⟨#[]⟩ ⟨#[]⟩ ⟨#[]⟩) from HF.out.1.same (b1.block _ HF.out.1.lt))
  have HB1 := (show Hid (Below w.heap.size w w1) from HF.out.2.trans (b1.mono HF.out.2.size))
  have HZ := (show Hid _ from fr_end (x := ⟨#[]⟩) (y := ⟨#[]⟩) (z := (⟨#[94, 43]⟩ ++ s)) HB1.out HF1.out)
  have g0 := HF1.out.c0
  have g1 := HF1.out.c1
  have g2 := HF1.out.c2
  have f0 := HF1.out.fz 0
  have f1 := HF1.out.fz 1
  have f2 := HF1.out.fz 2
  clear b1 HF HB1 HC
  go_wp2_with fail
  have r0 := HZ.out.1.c0
  have r1 := HZ.out.1.c1
  have r2 := HZ.out.1.c2
  refine bodyPost_ret (v := frG ⟨#[]⟩ ⟨#[]⟩ (⟨#[94, 43]⟩ ++ s)) ?_ rfl ⟨rfl, HZ.out.2⟩
  simp [results, Tryz.results95, go_sem, r0, r1, r2]
set_option maxRecDepth 100000 in
set_option maxHeartbeats 2000000 in
theorem fw_16 (nn : Int) (tx : ByteArray) (a b c d : Int) (w : World) (s : ByteArray) (hs : s.size ≤ 3000) (hc : ∀ w, Calls Tryz.prog 78 #[(.agg #[.int .i64 16, .int .i64 nn, .string tx, .int .u64 a, .int .u64 b, .int .u64 c, .int .u64 d])] w fun e w' => e = .returned (.string s) ∧ Below w.heap.size w w') : Calls Tryz.prog 95 #[(.agg #[.int .i64 16, .int .i64 nn, .string tx, .int .u64 a, .int .u64 b, .int .u64 c, .int .u64 d])] w fun e w' => e = .returned (frG ⟨#[]⟩ ⟨#[]⟩ (⟨#[94, 45]⟩ ++ s)) ∧ Below w.heap.size w w' := by
  have HF := (show Hid _ from fr_two w 16 nn tx a b c d ⟨#[]⟩ ⟨#[]⟩ ⟨#[]⟩)
  have HC := (show Hid _ from hc)
  have hq : ¬ 9223372036854775807 < 2 + s.size := by omega
  clear hc hs
  go_enter Tryz.func95, Tryz.ntmps95
  go_wp2_with fail
  refine (HC.out _).mono ?_
  rintro e w1 ⟨rfl, b1⟩
  have HF1 := (show Hid (FB w1 (w.heap.size + 1) ⟨#[]⟩ ⟨#[]⟩ ⟨#[]⟩) from HF.out.1.same (b1.block _ HF.out.1.lt))
  have HB1 := (show Hid (Below w.heap.size w w1) from HF.out.2.trans (b1.mono HF.out.2.size))
  have HZ := (show Hid _ from fr_end (x := ⟨#[]⟩) (y := ⟨#[]⟩) (z := (⟨#[94, 45]⟩ ++ s)) HB1.out HF1.out)
  have g0 := HF1.out.c0
  have g1 := HF1.out.c1
  have g2 := HF1.out.c2
  have f0 := HF1.out.fz 0
  have f1 := HF1.out.fz 1
  have f2 := HF1.out.fz 2
  clear b1 HF HB1 HC
  go_wp2_with fail
  have r0 := HZ.out.1.c0
  have r1 := HZ.out.1.c1
  have r2 := HZ.out.1.c2
  refine bodyPost_ret (v := frG ⟨#[]⟩ ⟨#[]⟩ (⟨#[94, 45]⟩ ++ s)) ?_ rfl ⟨rfl, HZ.out.2⟩
  simp [results, Tryz.results95, go_sem, r0, r1, r2]
set_option maxRecDepth 100000 in
set_option maxHeartbeats 2000000 in
theorem fw_22 (nn : Int) (tx : ByteArray) (a b c d : Int) (w : World) (s : ByteArray) (hs : s.size ≤ 3000) (hc : ∀ w, Calls Tryz.prog 78 #[(.agg #[.int .i64 22, .int .i64 nn, .string tx, .int .u64 a, .int .u64 b, .int .u64 c, .int .u64 d])] w fun e w' => e = .returned (.string s) ∧ Below w.heap.size w w') : Calls Tryz.prog 95 #[(.agg #[.int .i64 22, .int .i64 nn, .string tx, .int .u64 a, .int .u64 b, .int .u64 c, .int .u64 d])] w fun e w' => e = .returned (frG ⟨#[]⟩ ⟨#[]⟩ (⟨#[32, 45, 62, 32]⟩ ++ s)) ∧ Below w.heap.size w w' := by
  have HF := (show Hid _ from fr_two w 22 nn tx a b c d ⟨#[]⟩ ⟨#[]⟩ ⟨#[]⟩)
  have HC := (show Hid _ from hc)
  have hq : ¬ 9223372036854775807 < 4 + s.size := by omega
  clear hc hs
  go_enter Tryz.func95, Tryz.ntmps95
  go_wp2_with fail
  refine (HC.out _).mono ?_
  rintro e w1 ⟨rfl, b1⟩
  have HF1 := (show Hid (FB w1 (w.heap.size + 1) ⟨#[]⟩ ⟨#[]⟩ ⟨#[]⟩) from HF.out.1.same (b1.block _ HF.out.1.lt))
  have HB1 := (show Hid (Below w.heap.size w w1) from HF.out.2.trans (b1.mono HF.out.2.size))
  have HZ := (show Hid _ from fr_end (x := ⟨#[]⟩) (y := ⟨#[]⟩) (z := (⟨#[32, 45, 62, 32]⟩ ++ s)) HB1.out HF1.out)
  have g0 := HF1.out.c0
  have g1 := HF1.out.c1
  have g2 := HF1.out.c2
  have f0 := HF1.out.fz 0
  have f1 := HF1.out.fz 1
  have f2 := HF1.out.fz 2
  clear b1 HF HB1 HC
  go_wp2_with fail
  have r0 := HZ.out.1.c0
  have r1 := HZ.out.1.c1
  have r2 := HZ.out.1.c2
  refine bodyPost_ret (v := frG ⟨#[]⟩ ⟨#[]⟩ (⟨#[32, 45, 62, 32]⟩ ++ s)) ?_ rfl ⟨rfl, HZ.out.2⟩
  simp [results, Tryz.results95, go_sem, r0, r1, r2]
set_option maxRecDepth 100000 in
set_option maxHeartbeats 2000000 in
theorem fw_23 (nn : Int) (tx : ByteArray) (a b c d : Int) (w : World) (s : ByteArray) (hs : s.size ≤ 3000) (hc : ∀ w, Calls Tryz.prog 78 #[(.agg #[.int .i64 23, .int .i64 nn, .string tx, .int .u64 a, .int .u64 b, .int .u64 c, .int .u64 d])] w fun e w' => e = .returned (.string s) ∧ Below w.heap.size w w') : Calls Tryz.prog 95 #[(.agg #[.int .i64 23, .int .i64 nn, .string tx, .int .u64 a, .int .u64 b, .int .u64 c, .int .u64 d])] w fun e w' => e = .returned (frG ⟨#[]⟩ ⟨#[]⟩ (⟨#[32, 45, 62, 32]⟩ ++ s)) ∧ Below w.heap.size w w' := by
  have HF := (show Hid _ from fr_two w 23 nn tx a b c d ⟨#[]⟩ ⟨#[]⟩ ⟨#[]⟩)
  have HC := (show Hid _ from hc)
  have hq : ¬ 9223372036854775807 < 4 + s.size := by omega
  clear hc hs
  go_enter Tryz.func95, Tryz.ntmps95
  go_wp2_with fail
  refine (HC.out _).mono ?_
  rintro e w1 ⟨rfl, b1⟩
  have HF1 := (show Hid (FB w1 (w.heap.size + 1) ⟨#[]⟩ ⟨#[]⟩ ⟨#[]⟩) from HF.out.1.same (b1.block _ HF.out.1.lt))
  have HB1 := (show Hid (Below w.heap.size w w1) from HF.out.2.trans (b1.mono HF.out.2.size))
  have HZ := (show Hid _ from fr_end (x := ⟨#[]⟩) (y := ⟨#[]⟩) (z := (⟨#[32, 45, 62, 32]⟩ ++ s)) HB1.out HF1.out)
  have g0 := HF1.out.c0
  have g1 := HF1.out.c1
  have g2 := HF1.out.c2
  have f0 := HF1.out.fz 0
  have f1 := HF1.out.fz 1
  have f2 := HF1.out.fz 2
  clear b1 HF HB1 HC
  go_wp2_with fail
  have r0 := HZ.out.1.c0
  have r1 := HZ.out.1.c1
  have r2 := HZ.out.1.c2
  refine bodyPost_ret (v := frG ⟨#[]⟩ ⟨#[]⟩ (⟨#[32, 45, 62, 32]⟩ ++ s)) ?_ rfl ⟨rfl, HZ.out.2⟩
  simp [results, Tryz.results95, go_sem, r0, r1, r2]
set_option maxRecDepth 100000 in
set_option maxHeartbeats 2000000 in
theorem fw_4 (nn : Int) (tx : ByteArray) (a b c d : Int) (w : World) (s : ByteArray) (_hs : s.size ≤ 3000) (hc : ∀ w, Calls Tryz.prog 78 #[(.agg #[.int .i64 4, .int .i64 nn, .string tx, .int .u64 a, .int .u64 b, .int .u64 c, .int .u64 d])] w fun e w' => e = .returned (.string s) ∧ Below w.heap.size w w') : Calls Tryz.prog 95 #[(.agg #[.int .i64 4, .int .i64 nn, .string tx, .int .u64 a, .int .u64 b, .int .u64 c, .int .u64 d])] w fun e w' => e = .returned (frG s ⟨#[]⟩ ⟨#[]⟩) ∧ Below w.heap.size w w' := by
  have HF := (show Hid _ from fr_two w 4 nn tx a b c d ⟨#[]⟩ ⟨#[]⟩ ⟨#[]⟩)
  have HC := (show Hid _ from hc)
  skip
  clear hc
  go_enter Tryz.func95, Tryz.ntmps95
  go_wp2_with fail
  refine (HC.out _).mono ?_
  rintro e w1 ⟨rfl, b1⟩
  have HF1 := (show Hid (FB w1 (w.heap.size + 1) ⟨#[]⟩ ⟨#[]⟩ ⟨#[]⟩) from HF.out.1.same (b1.block _ HF.out.1.lt))
  have HB1 := (show Hid (Below w.heap.size w w1) from HF.out.2.trans (b1.mono HF.out.2.size))
  have HZ := (show Hid _ from fr_end (x := s) (y := ⟨#[]⟩) (z := ⟨#[]⟩) HB1.out HF1.out)
  have g0 := HF1.out.c0
  have g1 := HF1.out.c1
  have g2 := HF1.out.c2
  have f0 := HF1.out.fz 0
  have f1 := HF1.out.fz 1
  have f2 := HF1.out.fz 2
  clear b1 HF HB1 HC
  go_wp2_with fail
  have r0 := HZ.out.1.c0
  have r1 := HZ.out.1.c1
  have r2 := HZ.out.1.c2
  refine bodyPost_ret (v := frG s ⟨#[]⟩ ⟨#[]⟩) ?_ rfl ⟨rfl, HZ.out.2⟩
  simp [results, Tryz.results95, go_sem, r0, r1, r2]
set_option maxRecDepth 100000 in
set_option maxHeartbeats 2000000 in
theorem fw_5 (nn : Int) (tx : ByteArray) (a b c d : Int) (w : World) (s : ByteArray) (_hs : s.size ≤ 3000) (hc : ∀ w, Calls Tryz.prog 78 #[(.agg #[.int .i64 5, .int .i64 nn, .string tx, .int .u64 a, .int .u64 b, .int .u64 c, .int .u64 d])] w fun e w' => e = .returned (.string s) ∧ Below w.heap.size w w') : Calls Tryz.prog 95 #[(.agg #[.int .i64 5, .int .i64 nn, .string tx, .int .u64 a, .int .u64 b, .int .u64 c, .int .u64 d])] w fun e w' => e = .returned (frG s ⟨#[]⟩ ⟨#[]⟩) ∧ Below w.heap.size w w' := by
  have HF := (show Hid _ from fr_two w 5 nn tx a b c d ⟨#[]⟩ ⟨#[]⟩ ⟨#[]⟩)
  have HC := (show Hid _ from hc)
  skip
  clear hc
  go_enter Tryz.func95, Tryz.ntmps95
  go_wp2_with fail
  refine (HC.out _).mono ?_
  rintro e w1 ⟨rfl, b1⟩
  have HF1 := (show Hid (FB w1 (w.heap.size + 1) ⟨#[]⟩ ⟨#[]⟩ ⟨#[]⟩) from HF.out.1.same (b1.block _ HF.out.1.lt))
  have HB1 := (show Hid (Below w.heap.size w w1) from HF.out.2.trans (b1.mono HF.out.2.size))
  have HZ := (show Hid _ from fr_end (x := s) (y := ⟨#[]⟩) (z := ⟨#[]⟩) HB1.out HF1.out)
  have g0 := HF1.out.c0
  have g1 := HF1.out.c1
  have g2 := HF1.out.c2
  have f0 := HF1.out.fz 0
  have f1 := HF1.out.fz 1
  have f2 := HF1.out.fz 2
  clear b1 HF HB1 HC
  go_wp2_with fail
  have r0 := HZ.out.1.c0
  have r1 := HZ.out.1.c1
  have r2 := HZ.out.1.c2
  refine bodyPost_ret (v := frG s ⟨#[]⟩ ⟨#[]⟩) ?_ rfl ⟨rfl, HZ.out.2⟩
  simp [results, Tryz.results95, go_sem, r0, r1, r2]
set_option maxRecDepth 100000 in
set_option maxHeartbeats 2000000 in
theorem fw_6 (nn : Int) (tx : ByteArray) (a b c d : Int) (w : World) (s : ByteArray) (_hs : s.size ≤ 3000) (hc : ∀ w, Calls Tryz.prog 78 #[(.agg #[.int .i64 6, .int .i64 nn, .string tx, .int .u64 a, .int .u64 b, .int .u64 c, .int .u64 d])] w fun e w' => e = .returned (.string s) ∧ Below w.heap.size w w') : Calls Tryz.prog 95 #[(.agg #[.int .i64 6, .int .i64 nn, .string tx, .int .u64 a, .int .u64 b, .int .u64 c, .int .u64 d])] w fun e w' => e = .returned (frG s ⟨#[]⟩ ⟨#[]⟩) ∧ Below w.heap.size w w' := by
  have HF := (show Hid _ from fr_two w 6 nn tx a b c d ⟨#[]⟩ ⟨#[]⟩ ⟨#[]⟩)
  have HC := (show Hid _ from hc)
  skip
  clear hc
  go_enter Tryz.func95, Tryz.ntmps95
  go_wp2_with fail
  refine (HC.out _).mono ?_
  rintro e w1 ⟨rfl, b1⟩
  have HF1 := (show Hid (FB w1 (w.heap.size + 1) ⟨#[]⟩ ⟨#[]⟩ ⟨#[]⟩) from HF.out.1.same (b1.block _ HF.out.1.lt))
  have HB1 := (show Hid (Below w.heap.size w w1) from HF.out.2.trans (b1.mono HF.out.2.size))
  have HZ := (show Hid _ from fr_end (x := s) (y := ⟨#[]⟩) (z := ⟨#[]⟩) HB1.out HF1.out)
  have g0 := HF1.out.c0
  have g1 := HF1.out.c1
  have g2 := HF1.out.c2
  have f0 := HF1.out.fz 0
  have f1 := HF1.out.fz 1
  have f2 := HF1.out.fz 2
  clear b1 HF HB1 HC
  go_wp2_with fail
  have r0 := HZ.out.1.c0
  have r1 := HZ.out.1.c1
  have r2 := HZ.out.1.c2
  refine bodyPost_ret (v := frG s ⟨#[]⟩ ⟨#[]⟩) ?_ rfl ⟨rfl, HZ.out.2⟩
  simp [results, Tryz.results95, go_sem, r0, r1, r2]
theorem fld_len {n : Nd} (h : T.alE n = 0) : (fldX n).size ≤ 3000 := by
  rcases ar_ops h with ⟨z, o⟩ | ⟨z, o⟩ | ⟨z, o⟩
  · rcases o with o | o | o | o | o | o | o
    · rw [fdx1 o]; decide
    · rw [fdx2 o]; decide
    · rw [fdx3 o]; decide
    · rw [fdx4 o, Q.asText_size]; have := qT_len n.tx; have := (tx4 h o).2; omega
    · rw [fdx5 o, txO_size]; have := shT_len (mkS n.s0 n.s1 n.s2 n.s3); omega
    · rw [fdx6 o]; have := isNm_len (tx6 h o); omega
    · rw [fdx17 o]; decide
  · rcases o with o | o
    · rw [fdx7 o]; decide
    · rw [fdx8 o]; decide
  · rcases o with o | o | o | o | o | o | o | o | o | o | o | o | o | o
    · rw [fdx9 o]; decide
    · rw [fdx10 o]; decide
    · rw [fdx11 o]; decide
    · rw [fdx12 o]; decide
    · rw [fdx13 o]; decide
    · rw [fdx14 o, txO_size]; have := nu_of h (by omega); have := dgT_len 10 (by omega) 5 n.nn.toNat (by omega); omega
    · rw [fdx15 o, txO_size]; have := nu_of h (by omega); have := dgT_len 10 (by omega) 5 n.nn.toNat (by omega); omega
    · rw [fdx16 o, txO_size]; have := nu_of h (by omega); have := dgT_len 10 (by omega) 5 n.nn.toNat (by omega); omega
    · rw [fdx18 o]; decide
    · rw [fdx19 o]
      rcases tx19 h o with q | q
      · rw [q]; decide
      · have := isNm_len q; omega
    · rw [fdx20 o]; decide
    · rw [fdx21 o]; decide
    · rw [fdx22 o, Q.asText_size]; have := qT_len n.tx; have := tx22 h o; omega
    · rw [fdx23 o, txO_size]; have := nu_of h (by omega); have := dgT_len 10 (by omega) 5 n.nn.toNat (by omega); omega
theorem frame_any (n : Nd) (ha : T.alE n = 0) (hw : NdW n) (w : World) : Calls Tryz.prog 95 #[T.ndG n] w fun e w' => e = .returned (frG (frA n) (frB n) (frC n)) ∧ Below w.heap.size w w' := by
  rcases ar_ops ha with ⟨z, o⟩ | ⟨z, o⟩ | ⟨z, o⟩
  · rcases o with o | o | o | o | o | o | o
    · obtain ⟨fa, fb, fc⟩ := fr1 o
      rw [fa, fb, fc]
      have h := fw_1 n.nn n.tx n.s0 n.s1 n.s2 n.s3 w
      rw [← o] at h
      exact h
    · obtain ⟨fa, fb, fc⟩ := fr2 o
      rw [fa, fb, fc]
      have h := fw_2 n.nn n.tx n.s0 n.s1 n.s2 n.s3 w
      rw [← o] at h
      exact h
    · obtain ⟨fa, fb, fc⟩ := fr3 o
      rw [fa, fb, fc]
      have h := fw_3 n.nn n.tx n.s0 n.s1 n.s2 n.s3 w
      rw [← o] at h
      exact h
    · obtain ⟨fa, fb, fc⟩ := fr4 o
      rw [fa, fb, fc]
      have h := fw_4 n.nn n.tx n.s0 n.s1 n.s2 n.s3 w (fldX n) (fld_len ha) (fun w => by have := field_any n ha hw w; unfold T.ndG at this; rw [o] at this; exact this)
      rw [← o] at h
      exact h
    · obtain ⟨fa, fb, fc⟩ := fr5 o
      rw [fa, fb, fc]
      have h := fw_5 n.nn n.tx n.s0 n.s1 n.s2 n.s3 w (fldX n) (fld_len ha) (fun w => by have := field_any n ha hw w; unfold T.ndG at this; rw [o] at this; exact this)
      rw [← o] at h
      exact h
    · obtain ⟨fa, fb, fc⟩ := fr6 o
      rw [fa, fb, fc]
      have h := fw_6 n.nn n.tx n.s0 n.s1 n.s2 n.s3 w (fldX n) (fld_len ha) (fun w => by have := field_any n ha hw w; unfold T.ndG at this; rw [o] at this; exact this)
      rw [← o] at h
      exact h
    · obtain ⟨fa, fb, fc⟩ := fr17 o
      rw [fa, fb, fc]
      have h := fw_17 n.nn n.tx n.s0 n.s1 n.s2 n.s3 w
      rw [← o] at h
      exact h
  · rcases o with o | o
    · obtain ⟨fa, fb, fc⟩ := fr7 o
      rw [fa, fb, fc]
      have h := fw_7 n.nn n.tx n.s0 n.s1 n.s2 n.s3 w
      rw [← o] at h
      exact h
    · obtain ⟨fa, fb, fc⟩ := fr8 o
      rw [fa, fb, fc]
      have h := fw_8 n.nn n.tx n.s0 n.s1 n.s2 n.s3 w
      rw [← o] at h
      exact h
  · rcases o with o | o | o | o | o | o | o | o | o | o | o | o | o | o
    · obtain ⟨fa, fb, fc⟩ := fr9 o
      rw [fa, fb, fc]
      have h := fw_9 n.nn n.tx n.s0 n.s1 n.s2 n.s3 w
      rw [← o] at h
      exact h
    · obtain ⟨fa, fb, fc⟩ := fr10 o
      rw [fa, fb, fc]
      have h := fw_10 n.nn n.tx n.s0 n.s1 n.s2 n.s3 w
      rw [← o] at h
      exact h
    · obtain ⟨fa, fb, fc⟩ := fr11 o
      rw [fa, fb, fc]
      have h := fw_11 n.nn n.tx n.s0 n.s1 n.s2 n.s3 w
      rw [← o] at h
      exact h
    · obtain ⟨fa, fb, fc⟩ := fr12 o
      rw [fa, fb, fc]
      have h := fw_12 n.nn n.tx n.s0 n.s1 n.s2 n.s3 w
      rw [← o] at h
      exact h
    · obtain ⟨fa, fb, fc⟩ := fr13 o
      rw [fa, fb, fc]
      have h := fw_13 n.nn n.tx n.s0 n.s1 n.s2 n.s3 w
      rw [← o] at h
      exact h
    · obtain ⟨fa, fb, fc⟩ := fr14 o
      rw [fa, fb, fc]
      have h := fw_14 n.nn n.tx n.s0 n.s1 n.s2 n.s3 w (fldX n) (fld_len ha) (fun w => by have := field_any n ha hw w; unfold T.ndG at this; rw [o] at this; exact this)
      rw [← o] at h
      exact h
    · obtain ⟨fa, fb, fc⟩ := fr15 o
      rw [fa, fb, fc]
      have h := fw_15 n.nn n.tx n.s0 n.s1 n.s2 n.s3 w (fldX n) (fld_len ha) (fun w => by have := field_any n ha hw w; unfold T.ndG at this; rw [o] at this; exact this)
      rw [← o] at h
      exact h
    · obtain ⟨fa, fb, fc⟩ := fr16 o
      rw [fa, fb, fc]
      have h := fw_16 n.nn n.tx n.s0 n.s1 n.s2 n.s3 w (fldX n) (fld_len ha) (fun w => by have := field_any n ha hw w; unfold T.ndG at this; rw [o] at this; exact this)
      rw [← o] at h
      exact h
    · obtain ⟨fa, fb, fc⟩ := fr18 o
      rw [fa, fb, fc]
      have h := fw_18 n.nn n.tx n.s0 n.s1 n.s2 n.s3 w
      rw [← o] at h
      exact h
    · obtain ⟨fa, fb, fc⟩ := fr19 o
      rw [fa, fb, fc]
      have hs : n.tx.size ≤ 32 := by
        rcases tx19 ha o with q | q
        · rw [q]; decide
        · exact (isNm_len q).2
      have h := fw_19 n.nn n.tx n.s0 n.s1 n.s2 n.s3 w hs
      rw [← o] at h
      exact h
    · obtain ⟨fa, fb, fc⟩ := fr20 o
      rw [fa, fb, fc]
      have h := fw_20 n.nn n.tx n.s0 n.s1 n.s2 n.s3 w
      rw [← o] at h
      exact h
    · obtain ⟨fa, fb, fc⟩ := fr21 o
      rw [fa, fb, fc]
      have h := fw_21 n.nn n.tx n.s0 n.s1 n.s2 n.s3 w
      rw [← o] at h
      exact h
    · obtain ⟨fa, fb, fc⟩ := fr22 o
      rw [fa, fb, fc]
      have h := fw_22 n.nn n.tx n.s0 n.s1 n.s2 n.s3 w (fldX n) (fld_len ha) (fun w => by have := field_any n ha hw w; unfold T.ndG at this; rw [o] at this; exact this)
      rw [← o] at h
      exact h
    · obtain ⟨fa, fb, fc⟩ := fr23 o
      rw [fa, fb, fc]
      have h := fw_23 n.nn n.tx n.s0 n.s1 n.s2 n.s3 w (fldX n) (fld_len ha) (fun w => by have := field_any n ha hw w; unfold T.ndG at this; rw [o] at this; exact this)
      rw [← o] at h
      exact h
end Go.Proofs.YtnpifgcgjgddoaaGreatDoor.N

namespace Go.Proofs.YtnpifgcgjgddoaaGreatDoor.N
open Go.RowKit
/-- A slice of numbers, beside a page. -/
def KdF (W : World) (b : Nat) (u : Value) (ks : List Nat) : Prop := ∃ A c, u = .slice A ks.length c ∧ (ks ≠ [] → ∃ g cur, A = some ⟨g, 0, none⟩ ∧ Fx W b g cur 3 ∧ ∀ (i j : Nat), ks[i]? = some j → cur[i]? = some (.int .i64 j))
theorem KdF.keep {W W' : World} {b : Nat} {u : Value} {ks : List Nat} (h : KdF W b u ks) (k : KeepT b W W') : KdF W' b u ks := by
  obtain ⟨A, c, e, h⟩ := h
  refine ⟨A, c, e, fun hne => ?_⟩
  obtain ⟨g, cur, h1, h2, h3⟩ := h hne
  exact ⟨g, cur, h1, h2.keep k, h3⟩
theorem KdF.of {W : World} {B b : Nat} {u : Value} {ks : List Nat} (h : KdE W B none u ks) (hb : b < B) : KdF W b u ks := by
  obtain ⟨A, c, e, h⟩ := h
  refine ⟨A, c, e, fun hne => ?_⟩
  obtain ⟨g, cur, h1, h2, h3, h4, h5⟩ := h hne
  exact ⟨g, cur, h1, ⟨⟨_, h4⟩, by omega, by decide⟩, h5⟩
abbrev telV (b : Nat) : Value := .func (.func 27) #[.pointer (some ⟨b, 0, none⟩)] #[]
/-- A teller, beside its page. -/
structure Tl (W : World) (b tb : Nat) (L : List Nd) (gp op cp : Nat) : Prop where
  t : ∃ g, Fx W b tb #[.slice (some ⟨gp, op, none⟩) L.length cp, .slice (some ⟨g, 0, none⟩) L.length L.length, telV b] 93 ∧ ∃ cur, Fx W b g cur 67 ∧ ∀ j, j < L.length → ∃ u, cur[j]? = some u ∧ KdF W b u (kds L j)
  n : T.NdL W gp op L
  l : gp < b
theorem Tl.keep {W W' : World} {b tb : Nat} {L : List Nd} {gp op cp : Nat} (h : Tl W b tb L gp op cp) (k : KeepT b W W') (hb : Below b W W') : Tl W' b tb L gp op cp := by
  obtain ⟨⟨g, h1, cur, h2, h3⟩, h4, h5⟩ := h
  refine ⟨⟨g, h1.keep k, cur, h2.keep k, fun j hj => ?_⟩, h4.same (hb.block gp h5), h5⟩
  obtain ⟨u, q1, q2⟩ := h3 j hj
  exact ⟨u, q1, q2.keep k⟩
theorem Tl.pg {W W' : World} {b tb : Nat} {L : List Nd} {gp op cp : Nat} {bs : List UInt8} (h : Tl W b tb L gp op cp) (p : Pg b W W' bs) : Tl W' b tb L gp op cp := h.keep p.k p.bl
theorem Tl.later {W W' : World} {b tb : Nat} {L : List Nd} {gp op cp : Nat} (h : Tl W b tb L gp op cp) (hl : b < W.heap.size) (hb : Below W.heap.size W W') : Tl W' b tb L gp op cp := h.keep (KeepT.below hb) (hb.mono (Nat.le_of_lt hl))
/-- What node, and what part, keep to. -/
def NodC (L : List Nd) (b tb gp op cp k : Nat) : Prop := ∀ (W : World) (bs : List UInt8), Tl W b tb L gp op cp → Lib.IsBuilder 59 5 b b (Lib.byteCells bs) W → bs.length + (itT (enX L k).2).length ≤ 100000000 → Calls Tryz.prog 73 #[.pointer (some ⟨tb, 0, none⟩), .int .i64 k] W fun e W' => e = .returned (.tuple #[]) ∧ Pg b W W' (bs ++ itT (enX L k).2)
def ParC (L : List Nd) (b tb gp op cp k d : Nat) : Prop := ∀ (W : World) (bs : List UInt8), Tl W b tb L gp op cp → Lib.IsBuilder 59 5 b b (Lib.byteCells bs) W → bs.length + (itT (partI d (enX L k))).length ≤ 100000000 → Calls Tryz.prog 49 #[.pointer (some ⟨tb, 0, none⟩), .int .i64 k, .int .i64 d] W fun e W' => e = .returned (.tuple #[]) ∧ Pg b W W' (bs ++ itT (partI d (enX L k)))
/-- One text told. -/
theorem tell_one {W : World} {b : Nat} {bs : List UInt8} (s : ByteArray) (h : Lib.IsBuilder 59 5 b b (Lib.byteCells bs) W) (hl : bs.length + s.data.toList.length ≤ 140737488355328) : Calls Tryz.prog 27 #[.pointer (some ⟨b, 0, none⟩), .slice (some ⟨W.heap.size, 0, none⟩) 1 1] (W.alloc (.cells #[.string s] 9)) fun e W' => e = .returned (.tuple #[]) ∧ Pg b W W' (bs ++ s.data.toList) := by
  have hlt := pg_lt h
  have e : catS [s] = s.data.toList := by unfold catS; rw [List.flatMap_cons, List.flatMap_nil, List.append_nil]
  refine (add_any b W.heap.size bs [s] (W.alloc (.cells #[.string s] 9)) (pg_below h (below_box W _)) ⟨⟨_, heap_alloc_new W _⟩, by omega, by decide⟩ (by rw [e]; exact hl) (Nat.le_succ 1)).mono ?_
  rintro e' W' ⟨rfl, hp⟩
  refine ⟨rfl, ?_⟩
  rw [e] at hp
  exact ((Pg.start h).later (below_box W _)).trans hp
theorem tell_two {W : World} {b : Nat} {bs : List UInt8} (s t : ByteArray) (h : Lib.IsBuilder 59 5 b b (Lib.byteCells bs) W) (hl : bs.length + (s.data.toList ++ t.data.toList).length ≤ 140737488355328) : Calls Tryz.prog 27 #[.pointer (some ⟨b, 0, none⟩), .slice (some ⟨W.heap.size, 0, none⟩) 2 2] (W.alloc (.cells #[.string s, .string t] 9)) fun e W' => e = .returned (.tuple #[]) ∧ Pg b W W' (bs ++ (s.data.toList ++ t.data.toList)) := by
  have hlt := pg_lt h
  have e : catS [s, t] = s.data.toList ++ t.data.toList := by unfold catS; rw [List.flatMap_cons, List.flatMap_cons, List.flatMap_nil, List.append_nil]
  refine (add_any b W.heap.size bs [s, t] (W.alloc (.cells #[.string s, .string t] 9)) (pg_below h (below_box W _)) ⟨⟨_, heap_alloc_new W _⟩, by omega, by decide⟩ (by rw [e]; exact hl) (Nat.le_refl 2)).mono ?_
  rintro e' W' ⟨rfl, hp⟩
  refine ⟨rfl, ?_⟩
  rw [e] at hp
  exact ((Pg.start h).later (below_box W _)).trans hp
theorem tell_drew {W : World} {b : Nat} {bs : List UInt8} (s : ByteArray) (h : Lib.IsBuilder 59 5 b b (Lib.byteCells bs) W) (hl : bs.length + s.data.toList.length ≤ 140737488355328) : Calls Tryz.prog 27 #[.pointer (some ⟨b, 0, none⟩), .slice (some ⟨W.heap.size, 0, none⟩) 1 1] (W.alloc (.cells #[.string s] 9)).drew fun e W' => e = .returned (.tuple #[]) ∧ Pg b W W' (bs ++ s.data.toList) := by
  have hq := (Pg.start h).later ((Below.refl W.heap.size W).drew)
  have hc := tell_one (W := W.drew) s hq.i hl
  have e : W.drew.alloc (.cells #[.string s] 9) = (W.alloc (.cells #[.string s] 9)).drew := rfl
  rw [e] at hc
  refine Calls.mono hc ?_
  rintro e W' ⟨rfl, hp⟩
  exact ⟨rfl, hq.trans hp⟩
set_option maxRecDepth 100000 in
set_option maxHeartbeats 4000000 in
theorem part_of {L : List Nd} {b tb gp op cp k : Nat} {n : Nd} (hn : L[k]? = some n) (he : ∀ j, j ≤ k → T.er L j = 0) (hc : NodC L b tb gp op cp k) (d : Nat) (_hd : d ≤ 6) : ParC L b tb gp op cp k d := by
  intro W bs hT hB hl
  have hk : k < L.length := (List.getElem?_eq_some_iff.1 hn).1
  have hh := en_hld hn he
  obtain ⟨g, ht, _⟩ := hT.t
  have a0 := ht.cell 0
  have a2 := ht.cell 2
  obtain ⟨c0, _⟩ := hT.n k n hn
  have a0' : W.cell? ⟨tb, 0, none⟩ = some (.slice (some ⟨gp, op, none⟩) L.length cp) := a0
  have a2' : W.cell? ⟨tb, 2, none⟩ = some (telV b) := a2
  have HH : Hid (∀ w, Calls Tryz.prog 72 #[.int .i64 n.op] w fun e w' => e = .returned (.int .i64 (hld n.op)) ∧ w' = w) := fun w => holds_any n.op w
  have z0 : (0 : Int) ≤ (k : Int) := by omega
  have z1 : (k : Int) < (L.length : Int) := by omega
  have hle := hld_le n.op
  have HT := (show Hid _ from hT)
  have HB := (show Hid _ from hB)
  have HC := (show Hid (NodC L b tb gp op cp k) from hc)
  clear hT hB ht a0 a2 hc
  by_cases hx : hld n.op < d
  · have e : partI d (enX L k) = [sgI 16] ++ ((enX L k).2 ++ [sgI 17]) := by unfold partI; rw [if_pos (by rw [hh]; exact hx)]
    have e2 : itT (partI d (enX L k)) = [40] ++ (itT (enX L k).2 ++ [41]) := by rw [e, itT_app, itT_app]; rfl
    rw [e2] at hl ⊢
    have zz : ¬ ((d : Int) ≤ ((hld n.op : Nat) : Int)) := by omega
    have HE := (show Hid _ from e2)
    clear e e2 hh he hn hx
    rw [List.length_append, List.length_append] at hl
    have hl' : bs.length + (1 + ((itT (enX L k).2).length + 1)) ≤ 100000000 := hl
    have HL := (show Hid _ from hl')
    clear hl hl'
    generalize hld n.op = m at *
    go_enter Tryz.func49, Tryz.ntmps49
    go_wp2_with fail
    refine (HH.out _).mono ?_
    rintro e w1 ⟨rfl, rfl⟩
    go_wp2_with fail
    refine (tell_one ⟨#[40]⟩ HB.out (by have := HL.out; show bs.length + 1 ≤ _; omega)).mono ?_
    rintro e w2 ⟨rfl, p1⟩
    have HP1 := (show Hid (Pg b w1 w2 (bs ++ [40])) from p1)
    have HT1 := (show Hid (Tl w2 b tb L gp op cp) from HT.out.pg p1)
    have HN : Hid (∀ _ : Unit, Calls Tryz.prog 73 #[.pointer (some ⟨tb, 0, none⟩), .int .i64 k] w2 fun e W' => e = .returned (.tuple #[]) ∧ Pg b w2 W' ((bs ++ [40]) ++ itT (enX L k).2)) := fun _ => HC.out w2 (bs ++ [40]) HT1.out p1.i (by have := HL.out; rw [List.length_append]; show bs.length + 1 + _ ≤ _; omega)
    clear p1 a0' a2' c0
    go_wp2_with fail
    refine (HN.out ()).mono ?_
    rintro e w3 ⟨rfl, p2⟩
    have HP2 := (show Hid (Pg b w1 w3 ((bs ++ [40]) ++ itT (enX L k).2)) from HP1.out.trans p2)
    have HT2 := (show Hid (Tl w3 b tb L gp op cp) from HT1.out.pg p2)
    obtain ⟨g2, ht2, _⟩ := HT2.out.t
    have a2 : w3.cell? ⟨tb, 2, none⟩ = some (telV b) := ht2.cell 2
    clear p2 ht2 HN HP1 HT1
    go_wp2_with fail
    refine (tell_one ⟨#[41]⟩ HP2.out.i (by have := HL.out; rw [List.length_append, List.length_append]; show bs.length + 1 + _ + 1 ≤ _; omega)).mono ?_
    rintro e w4 ⟨rfl, p3⟩
    have HP3 := (show Hid (Pg b w1 w4 (((bs ++ [40]) ++ itT (enX L k).2) ++ [41])) from HP2.out.trans p3)
    clear p3 HP2
    go_wp2_with fail
    go_end0
    refine ⟨rfl, ?_⟩
    have := HP3.out
    rw [List.append_assoc, List.append_assoc] at this
    exact this
  · have e : partI d (enX L k) = (enX L k).2 := by unfold partI; rw [if_neg (by rw [hh]; exact hx)]
    rw [e] at hl ⊢
    have zz : ((d : Int) ≤ ((hld n.op : Nat) : Int)) := by omega
    have HN : Hid (∀ _ : Unit, Calls Tryz.prog 73 #[.pointer (some ⟨tb, 0, none⟩), .int .i64 k] W fun e W' => e = .returned (.tuple #[]) ∧ Pg b W W' (bs ++ itT (enX L k).2)) := fun _ => HC.out W bs HT.out HB.out hl
    clear e hh he hn hx hl
    generalize hld n.op = m at *
    go_enter Tryz.func49, Tryz.ntmps49
    go_wp2_with fail
    refine (HH.out _).mono ?_
    rintro e w1 ⟨rfl, rfl⟩
    go_wp2_with fail
    refine (HN.out ()).mono ?_
    rintro e w3 ⟨rfl, p2⟩
    have HP2 := (show Hid _ from p2)
    clear p2
    go_wp2_with fail
    refine bodyPost_ret (v := .tuple #[]) (by simp [results, Tryz.results49, go_sem]) rfl ⟨rfl, HP2.out⟩
theorem kdT_mono (L : List Nd) (n : Nd) (ks : List Nat) (i : Nat) : ∀ d, (kdT L n ks i).length ≤ (kdT L n ks (i + d)).length := by
  intro d
  induction d with
  | zero => exact Nat.le_refl _
  | succ d ih =>
    refine Nat.le_trans ih ?_
    show _ ≤ (kdT L n ks (i + d + 1)).length
    rw [kdT]
    split
    · rw [List.length_append]; omega
    · exact Nat.le_refl _
theorem kdT_le {L : List Nd} {n : Nd} {ks : List Nat} {i m : Nat} (h : i ≤ m) : (kdT L n ks i).length ≤ (kdT L n ks m).length := by
  have := kdT_mono L n ks i (m - i)
  rwa [show i + (m - i) = m from by omega] at this
/-- A node's own boxes, beside the page. -/
structure NdS (L : List Nd) (b tb gp op cp : Nat) (n : Nd) (nb fb : Nat) (wr : World) : Prop where
  t : Tl wr b tb L gp op cp
  nd : Fx wr b nb #[.int .i64 n.op, .int .i64 n.nn, .string n.tx, .int .u64 n.s0, .int .u64 n.s1, .int .u64 n.s2, .int .u64 n.s3] 51
  f : Fx wr b fb #[.string (frA n), .string (frB n), .string (frC n)] 143
theorem NdS.pg {L : List Nd} {b tb gp op cp : Nat} {n : Nd} {nb fb : Nat} {wr w' : World} {bs : List UInt8} (h : NdS L b tb gp op cp n nb fb wr) (p : Pg b wr w' bs) : NdS L b tb gp op cp n nb fb w' := ⟨h.t.pg p, h.nd.keep p.k, h.f.keep p.k⟩
set_option maxRecDepth 100000 in
set_option maxHeartbeats 8000000 in
theorem node_of {L : List Nd} {b tb gp op cp k : Nat} {n : Nd} (hn : L[k]? = some n) (he : ∀ j, j ≤ k → T.er L j = 0) (hw : NdW n) (_hL : L.length ≤ 2048) (hc : ∀ j ∈ kds L k, ∀ d, d ≤ 6 → ParC L b tb gp op cp j d) : NodC L b tb gp op cp k := by
  intro W bs hT hB hl
  have hk : k < L.length := (List.getElem?_eq_some_iff.1 hn).1
  have hok := T.er_ok hn (he k (Nat.le_refl _))
  have hal := hok.al
  obtain ⟨g, ht, _⟩ := hT.t
  have a0 : W.cell? ⟨tb, 0, none⟩ = some (.slice (some ⟨gp, op, none⟩) L.length cp) := ht.cell 0
  obtain ⟨c0, c1, c2, c3, c4, c5, c6⟩ := hT.n k n hn
  have z0 : (0 : Int) ≤ (k : Int) := by omega
  have z1 : (k : Int) < (L.length : Int) := by omega
  have HF : Hid (∀ w, Calls Tryz.prog 95 #[T.ndG n] w fun e w' => e = .returned (frG (frA n) (frB n) (frC n)) ∧ Below w.heap.size w w') := fun w => frame_any n hal hw w
  have HX := (show Hid (itT (enX L k).2 = (frA n).data.toList ++ (kdT L n (kds L k) (kds L k).length ++ (frC n).data.toList)) from en_text hn he)
  have HC := (show Hid _ from hc)
  have HKl := (show Hid (∀ i j, (kds L k)[i]? = some j → j < L.length ∧ j ∈ kds L k ∧ i ≤ 1) from fun i j hij => by
    have hm := List.mem_of_getElem? hij
    have h1 := kds_lt hn he j hm
    have h2 := (List.getElem?_eq_some_iff.1 hij).1
    have h3 := kds_len L k
    have h4 := T.arN_le (T.opAt L k)
    exact ⟨by omega, hm, by omega⟩)
  have hlt := pg_lt hB
  have HT := (show Hid _ from hT)
  have HB := (show Hid _ from hB)
  have HL := (show Hid _ from hl)
  clear hT hB hl hc ht hok hal he hw
  go_enter Tryz.func73, Tryz.ntmps73
  go_wp2_with fail
  refine (HF.out _).mono ?_
  rintro e w2 ⟨rfl, b2⟩
  have HS := (show Hid (NdS L b tb gp op cp n W.heap.size w2.heap.size (w2.alloc (.cells #[.string (frA n), .string (frB n), .string (frC n)] 143))) from by
    have hb1 := (below_box W (T.ndO n))
    have hb2 : Below W.heap.size W w2 := hb1.trans (b2.mono hb1.size)
    have hb3 : Below W.heap.size W (w2.alloc (.cells #[.string (frA n), .string (frB n), .string (frC n)] 143)) := hb2.alloc hb2.size _
    have hsz : W.heap.size < w2.heap.size := by have := b2.size; rw [World.size_alloc] at this; omega
    refine ⟨HT.out.later hlt hb3, ⟨⟨(0, 0), ?_⟩, by omega, by decide⟩, ⟨⟨_, heap_alloc_new w2 _⟩, by omega, by decide⟩⟩
    rw [(below_box w2 _).block W.heap.size hsz, b2.block W.heap.size (by rw [World.size_alloc]; omega)]
    exact heap_alloc_new W _)
  have HP := (show Hid (Pg b W (w2.alloc (.cells #[.string (frA n), .string (frB n), .string (frC n)] 143)) bs) from (Pg.start HB.out).later (by
    have hb1 := (below_box W (T.ndO n))
    have hb2 : Below W.heap.size W w2 := hb1.trans (b2.mono hb1.size)
    exact hb2.alloc hb2.size _))
  clear b2 HF HT HB a0 c0 c1 c2 c3 c4 c5 c6 hlt
  go_wp2_with fail
  generalize w2.alloc (.cells #[.string (frA n), .string (frB n), .string (frC n)] 143) = w3 at *
  generalize w2.heap.size = fb at *
  obtain ⟨g, ht, cur, hcu, hcr⟩ := HS.out.t.t
  have a2 : w3.cell? ⟨tb, 2, none⟩ = some (telV b) := ht.cell 2
  have f0 : w3.cell? ⟨fb, 0, none⟩ = some (.string (frA n)) := HS.out.f.cell 0
  have HTl : Hid (∀ _ : Unit, Calls Tryz.prog 27 #[.pointer (some ⟨b, 0, none⟩), .slice (some ⟨w3.heap.size, 0, none⟩) 1 1] (w3.alloc (.cells #[.string (frA n)] 9)).drew fun e W'' => e = .returned (.tuple #[]) ∧ Pg b w3 W'' (bs ++ (frA n).data.toList)) := fun _ => tell_drew (frA n) HP.out.i (by have := HL.out; rw [HX.out, List.length_append] at this; omega)
  have HKa := (show Hid (∀ W' bs', Pg b w3 W' bs' → W'.cell? ⟨tb, 2, none⟩ = some (telV b) ∧ W'.cell? ⟨fb, 0, none⟩ = some (.string (frA n))) from fun W' bs' hp => ⟨(ht.keep hp.k).cell 2, (HS.out.f.keep hp.k).cell 0⟩)
  clear ht
  go_region_held3 (fun W => W.cell? ⟨tb, 2, none⟩ = some (telV b) ∧ W.cell? ⟨fb, 0, none⟩ = some (.string (frA n))) (first | go_keep | exact HKa.out _ _ hp) ((with_reducible refine (HTl.out ()).mono ?_; rintro e wA ⟨rfl, hp⟩))
  have HP1 := (show Hid (Pg b W wA (bs ++ (frA n).data.toList)) from HP.out.trans hp)
  have HS1 := (show Hid (NdS L b tb gp op cp n W.heap.size fb wA) from HS.out.pg hp)
  rename_i hHeld
  clear hHeld hp HKa HTl a2 f0 HS HP hcu hcr cur g
  obtain ⟨g, ht, cur, hcu, hcr⟩ := HS1.out.t.t
  obtain ⟨u, hu, A, c, rfl, hA⟩ := hcr k hk
  have d1 : wA.cell? ⟨tb, 1, none⟩ = some (.slice (some ⟨g, 0, none⟩) L.length L.length) := ht.cell 1
  have d2 : wA.cell? ⟨g, k, none⟩ = some (.slice A (kds L k).length c) := (hcu.cell k).trans hu
  have HG := (show Hid (∀ (i j : Nat), (kds L k)[i]? = some j → ∃ gg, A = some ⟨gg, 0, none⟩ ∧ ∀ wr bs', Pg b wA wr bs' → wr.cell? ⟨gg, i, none⟩ = some (.int .i64 j)) from fun i j hij => by
    obtain ⟨gg, cc, e, hf, hc⟩ := hA (by rintro e; rw [e] at hij; cases hij)
    exact ⟨gg, e, fun wr bs' hp => ((hf.keep hp.k).cell i).trans (hc i j hij)⟩)
  have H0 := (show Hid (Pg b wA wA ((bs ++ (frA n).data.toList) ++ kdT L n (kds L k) 0)) from by
    show Pg b wA wA ((bs ++ (frA n).data.toList) ++ [])
    rw [List.append_nil]
    exact Pg.start HP1.out.i)
  have HK := (show Hid (∀ i, i < (kds L k).length → ∃ j, (kds L k)[i]? = some j) from fun i hi => ⟨_, List.getElem?_eq_getElem hi⟩)
  have hm2 : (kds L k).length ≤ 2 := by rw [kds_len]; exact T.arN_le _
  have HLe := (show Hid (∀ i, i ≤ (kds L k).length → bs.length + ((frA n).data.toList.length + ((kdT L n (kds L k) i).length + (frC n).data.toList.length)) ≤ 100000000) from fun i hi => by
    have h1 := HL.out
    rw [HX.out, List.length_append, List.length_append] at h1
    have h2 := kdT_le (L := L) (n := n) (ks := kds L k) hi
    omega)
  have HXm := (show Hid (∀ m, (kds L k).length = m → itT (enX L k).2 = (frA n).data.toList ++ (kdT L n (kds L k) m ++ (frC n).data.toList)) from fun m e => by rw [← e]; exact HX.out)
  clear ht hcu hcr hu hA hn HX HL
  generalize hks : kds L k = ks at *
  clear hks
  generalize hm : ks.length = m at *
  go_wp2_with fail
  go_loopw [33] (fun t wr => ∃ i : Nat, i ≤ m ∧ t = .int .i64 i ∧ Hid (Pg b wA wr ((bs ++ (frA n).data.toList) ++ kdT L n ks i))) (fun t _ => m - (intOf t).toNat)
  case atStart => exact ⟨0, by omega, by go_num, H0⟩
  case round =>
    obtain ⟨i, hi, rfl, HW⟩ := hrel
    clear H0
    by_cases hlt : i < m
    · obtain ⟨j, hj⟩ := HK.out i hlt
      obtain ⟨gg, rfl, hgc⟩ := HG.out i j hj
      obtain ⟨hjL, hjm, hi1⟩ := HKl.out i j hj
      have e0 := hgc wr _ HW.out
      have HSr := (show Hid (NdS L b tb gp op cp n W.heap.size fb wr) from HS1.out.pg HW.out)
      have z2 : (0 : Int) ≤ (i : Int) := by omega
      have z3 : (i : Int) < (m : Int) := by omega
      have HA : Hid (∀ w, Calls Tryz.prog 96 #[.int .i64 n.op, .int .i64 i] w fun e w' => e = .returned (.int .i64 (asK n.op i)) ∧ w' = w) := fun w => asks_any n.op i (by omega) w
      have hask : asK n.op i ≤ 6 := by
        unfold asK
        have := hld_le n.op
        split <;> omega
      have HPc := (show Hid (ParC L b tb gp op cp j (asK n.op i)) from HC.out j hjm _ hask)
      have hle := HLe.out (i + 1) (by omega)
      have hE := kdT_succ (L := L) (n := n) hj
      clear hj hjm HKl HK HG hgc HLe
      by_cases hi0 : i = 0
      · rw [if_pos hi0, List.nil_append] at hE
        rw [hE, List.length_append] at hle
        have HE := (show Hid _ from hE)
        have b0 : wr.cell? ⟨W.heap.size, 0, none⟩ = some (.int .i64 n.op) := HSr.out.nd.cell 0
        have HCp : Hid (∀ _ : Unit, Calls Tryz.prog 49 #[.pointer (some ⟨tb, 0, none⟩), .int .i64 j, .int .i64 (asK n.op i)] wr fun e W' => e = .returned (.tuple #[]) ∧ Pg b wr W' (((bs ++ (frA n).data.toList) ++ kdT L n ks i) ++ itT (partI (asK n.op i) (enX L j)))) := fun _ => HPc.out wr _ HSr.out.t HW.out.i (by rw [List.length_append, List.length_append]; omega)
        have zi : ¬ (0 : Int) < (i : Int) := by omega
        clear hle hE HPc HC hi0
        generalize asK n.op i = aa at *
        go_wp2_with fail
        refine (HA.out _).mono ?_
        rintro e w2 ⟨rfl, rfl⟩
        go_wp2_with fail
        refine (HCp.out ()).mono ?_
        rintro e w5 ⟨rfl, p5⟩
        have HW2 := (show Hid (Pg b wA w5 ((bs ++ (frA n).data.toList) ++ kdT L n ks (i + 1))) from by
          show Pg b wA w5 _
          rw [HE.out, ← List.append_assoc]
          exact HW.out.trans p5)
        clear p5 HCp HW HSr HE b0 e0 HA
        go_wp2_with fail
        go_roundw
        case rel => exact ⟨i + 1, by omega, by go_num, HW2⟩
        case measure => simp [intOf]; omega
      · rw [if_neg hi0] at hE
        rw [hE, List.length_append, List.length_append] at hle
        have HE := (show Hid _ from hE)
        have zi : (0 : Int) < (i : Int) := by omega
        obtain ⟨g2, ht2, _⟩ := HSr.out.t.t
        have a2 : wr.cell? ⟨tb, 2, none⟩ = some (telV b) := ht2.cell 2
        have f1 : wr.cell? ⟨fb, 1, none⟩ = some (.string (frB n)) := HSr.out.f.cell 1
        have HTl : Hid (∀ _ : Unit, Calls Tryz.prog 27 #[.pointer (some ⟨b, 0, none⟩), .slice (some ⟨wr.heap.size, 0, none⟩) 1 1] (wr.alloc (.cells #[.string (frB n)] 9)).drew fun e W'' => e = .returned (.tuple #[]) ∧ Pg b wr W'' (((bs ++ (frA n).data.toList) ++ kdT L n ks i) ++ (frB n).data.toList)) := fun _ => tell_drew (frB n) HW.out.i (by rw [List.length_append, List.length_append]; omega)
        have HKa := (show Hid (∀ W' bs', Pg b wr W' bs' → W'.cell? ⟨tb, 2, none⟩ = some (telV b) ∧ W'.cell? ⟨fb, 1, none⟩ = some (.string (frB n))) from fun W' bs' hp => ⟨(ht2.keep hp.k).cell 2, (HSr.out.f.keep hp.k).cell 1⟩)
        have HLl := (show Hid _ from hle)
        clear hle hE hi0 ht2
        go_wp2_with fail
        go_region_held3 (fun W => W.cell? ⟨tb, 2, none⟩ = some (telV b) ∧ W.cell? ⟨fb, 1, none⟩ = some (.string (frB n))) (first | go_keep | exact HKa.out _ _ hp) ((with_reducible refine (HTl.out ()).mono ?_; rintro e wB ⟨rfl, hp⟩))
        rename_i hHeld
        have HWB := (show Hid (Pg b wA wB (((bs ++ (frA n).data.toList) ++ kdT L n ks i) ++ (frB n).data.toList)) from HW.out.trans hp)
        have HSB := (show Hid (NdS L b tb gp op cp n W.heap.size fb wB) from HSr.out.pg hp)
        have b0 : wB.cell? ⟨W.heap.size, 0, none⟩ = some (.int .i64 n.op) := HSB.out.nd.cell 0
        have HCp : Hid (∀ _ : Unit, Calls Tryz.prog 49 #[.pointer (some ⟨tb, 0, none⟩), .int .i64 j, .int .i64 (asK n.op i)] wB fun e W' => e = .returned (.tuple #[]) ∧ Pg b wB W' ((((bs ++ (frA n).data.toList) ++ kdT L n ks i) ++ (frB n).data.toList) ++ itT (partI (asK n.op i) (enX L j)))) := fun _ => HPc.out wB _ HSB.out.t HWB.out.i (by rw [List.length_append, List.length_append, List.length_append]; have := HLl.out; omega)
        clear hHeld hp HKa HTl a2 f1 HSr HW HLl HPc HC
        generalize asK n.op i = aa at *
        go_wp2_with fail
        refine (HA.out _).mono ?_
        rintro e w2 ⟨rfl, rfl⟩
        go_wp2_with fail
        refine (HCp.out ()).mono ?_
        rintro e w5 ⟨rfl, p5⟩
        have HW2 := (show Hid (Pg b wA w5 ((bs ++ (frA n).data.toList) ++ kdT L n ks (i + 1))) from by
          show Pg b wA w5 _
          rw [HE.out, ← List.append_assoc, ← List.append_assoc]
          exact HWB.out.trans p5)
        clear p5 HCp HWB HSB HE b0 e0 HA
        go_wp2_with fail
        go_roundw
        case rel => exact ⟨i + 1, by omega, by go_num, HW2⟩
        case measure => simp [intOf]; omega
    · obtain rfl : i = m := by omega
      have z3 : ¬ (i : Int) < (i : Int) := by omega
      have HSr := (show Hid (NdS L b tb gp op cp n W.heap.size fb wr) from HS1.out.pg HW.out)
      have hle := HLe.out i (Nat.le_refl _)
      obtain ⟨g2, ht2, _⟩ := HSr.out.t.t
      have a2 : wr.cell? ⟨tb, 2, none⟩ = some (telV b) := ht2.cell 2
      have f1 : wr.cell? ⟨fb, 2, none⟩ = some (.string (frC n)) := HSr.out.f.cell 2
      have HTl : Hid (∀ _ : Unit, Calls Tryz.prog 27 #[.pointer (some ⟨b, 0, none⟩), .slice (some ⟨wr.heap.size, 0, none⟩) 1 1] (wr.alloc (.cells #[.string (frC n)] 9)).drew fun e W'' => e = .returned (.tuple #[]) ∧ Pg b wr W'' (((bs ++ (frA n).data.toList) ++ kdT L n ks i) ++ (frC n).data.toList)) := fun _ => tell_drew (frC n) HW.out.i (by rw [List.length_append, List.length_append]; omega)
      have HKa := (show Hid (∀ W' bs', Pg b wr W' bs' → W'.cell? ⟨tb, 2, none⟩ = some (telV b) ∧ W'.cell? ⟨fb, 2, none⟩ = some (.string (frC n))) from fun W' bs' hp => ⟨(ht2.keep hp.k).cell 2, (HSr.out.f.keep hp.k).cell 2⟩)
      have HXe := (show Hid _ from HXm.out i rfl)
      clear hle ht2 HLe HKl HK HG HC
      go_wp2_with fail
      go_region_held3 (fun W => W.cell? ⟨tb, 2, none⟩ = some (telV b) ∧ W.cell? ⟨fb, 2, none⟩ = some (.string (frC n))) (first | go_keep | exact HKa.out _ _ hp) ((with_reducible refine (HTl.out ()).mono ?_; rintro e wB ⟨rfl, hp⟩))
      rename_i hHeld
      have HWB := (show Hid (Pg b W wB (bs ++ itT (enX L k).2)) from by
        show Pg b W wB _
        rw [HXe.out, ← List.append_assoc, ← List.append_assoc]
        exact (HP1.out.trans HW.out).trans hp)
      clear hHeld hp HKa HTl a2 f1 HSr HW
      go_wp2_with fail
      go_end0
      exact ⟨rfl, HWB.out⟩
theorem node_all {L : List Nd} {b tb gp op cp : Nat} (he : ∀ j, j < L.length → T.er L j = 0) (hw : ∀ n ∈ L, NdW n) (hL : L.length ≤ 2048) : ∀ m k, k < m → k < L.length → NodC L b tb gp op cp k := by
  intro m
  induction m with
  | zero => intro k hk; omega
  | succ m ih =>
    intro k hk hkl
    have hn : L[k]? = some L[k] := List.getElem?_eq_getElem hkl
    refine node_of hn (fun j hj => he j (by omega)) (hw _ (List.getElem_mem hkl)) hL fun j hj d hd => ?_
    have hjk := kds_lt hn (fun j hj => he j (by omega)) j hj
    exact part_of (List.getElem?_eq_getElem (show j < L.length by omega)) (fun i hi => he i (by omega)) (ih j (by omega) (by omega)) d hd
theorem part_all {L : List Nd} {b tb gp op cp : Nat} (he : ∀ j, j < L.length → T.er L j = 0) (hw : ∀ n ∈ L, NdW n) (hL : L.length ≤ 2048) (k d : Nat) (hk : k < L.length) (hd : d ≤ 6) : ParC L b tb gp op cp k d :=
  part_of (List.getElem?_eq_getElem hk) (fun i hi => he i (by omega)) (node_all he hw hL (k + 1) k (by omega) hk) d hd
end Go.Proofs.YtnpifgcgjgddoaaGreatDoor.N

namespace Go.Proofs.YtnpifgcgjgddoaaGreatDoor.N
open Go.RowKit
theorem fr_len {n : Nd} (h : T.alE n = 0) : (frA n).size ≤ 3004 ∧ (frB n).size ≤ 3004 ∧ (frC n).size ≤ 3004 := by
  rcases ar_ops h with ⟨z, o⟩ | ⟨z, o⟩ | ⟨z, o⟩
  · rcases o with o | o | o | o | o | o | o
    · obtain ⟨fa, fb, fc⟩ := fr1 o
      rw [fa, fb, fc]
      exact ⟨by decide, by decide, by decide⟩
    · obtain ⟨fa, fb, fc⟩ := fr2 o
      rw [fa, fb, fc]
      exact ⟨by decide, by decide, by decide⟩
    · obtain ⟨fa, fb, fc⟩ := fr3 o
      rw [fa, fb, fc]
      exact ⟨by decide, by decide, by decide⟩
    · obtain ⟨fa, fb, fc⟩ := fr4 o
      rw [fa, fb, fc]
      have := fld_len h
      exact ⟨by omega, by decide, by decide⟩
    · obtain ⟨fa, fb, fc⟩ := fr5 o
      rw [fa, fb, fc]
      have := fld_len h
      exact ⟨by omega, by decide, by decide⟩
    · obtain ⟨fa, fb, fc⟩ := fr6 o
      rw [fa, fb, fc]
      have := fld_len h
      exact ⟨by omega, by decide, by decide⟩
    · obtain ⟨fa, fb, fc⟩ := fr17 o
      rw [fa, fb, fc]
      exact ⟨by decide, by decide, by decide⟩
  · rcases o with o | o
    · obtain ⟨fa, fb, fc⟩ := fr7 o
      rw [fa, fb, fc]
      exact ⟨by decide, by decide, by decide⟩
    · obtain ⟨fa, fb, fc⟩ := fr8 o
      rw [fa, fb, fc]
      exact ⟨by decide, by decide, by decide⟩
  · rcases o with o | o | o | o | o | o | o | o | o | o | o | o | o | o
    · obtain ⟨fa, fb, fc⟩ := fr9 o
      rw [fa, fb, fc]
      exact ⟨by decide, by decide, by decide⟩
    · obtain ⟨fa, fb, fc⟩ := fr10 o
      rw [fa, fb, fc]
      exact ⟨by decide, by decide, by decide⟩
    · obtain ⟨fa, fb, fc⟩ := fr11 o
      rw [fa, fb, fc]
      exact ⟨by decide, by decide, by decide⟩
    · obtain ⟨fa, fb, fc⟩ := fr12 o
      rw [fa, fb, fc]
      exact ⟨by decide, by decide, by decide⟩
    · obtain ⟨fa, fb, fc⟩ := fr13 o
      rw [fa, fb, fc]
      exact ⟨by decide, by decide, by decide⟩
    · obtain ⟨fa, fb, fc⟩ := fr14 o
      rw [fa, fb, fc]
      have := fld_len h
      refine ⟨by decide, by decide, ?_⟩
      rw [ByteArray.size_append]
      show 1 + _ ≤ _
      omega
    · obtain ⟨fa, fb, fc⟩ := fr15 o
      rw [fa, fb, fc]
      have := fld_len h
      refine ⟨by decide, by decide, ?_⟩
      rw [ByteArray.size_append]
      show 2 + _ ≤ _
      omega
    · obtain ⟨fa, fb, fc⟩ := fr16 o
      rw [fa, fb, fc]
      have := fld_len h
      refine ⟨by decide, by decide, ?_⟩
      rw [ByteArray.size_append]
      show 2 + _ ≤ _
      omega
    · obtain ⟨fa, fb, fc⟩ := fr18 o
      rw [fa, fb, fc]
      exact ⟨by decide, by decide, by decide⟩
    · obtain ⟨fa, fb, fc⟩ := fr19 o
      rw [fa, fb, fc]
      have h1 := grS_len n.tx
      have h2 : n.tx.size ≤ 32 := by
        rcases tx19 h o with q | q
        · rw [q]; decide
        · exact (isNm_len q).2
      refine ⟨?_, by decide, by decide⟩
      rw [ByteArray.size_append]
      show _ + 1 ≤ _
      omega
    · obtain ⟨fa, fb, fc⟩ := fr20 o
      rw [fa, fb, fc]
      exact ⟨by decide, by decide, by decide⟩
    · obtain ⟨fa, fb, fc⟩ := fr21 o
      rw [fa, fb, fc]
      exact ⟨by decide, by decide, by decide⟩
    · obtain ⟨fa, fb, fc⟩ := fr22 o
      rw [fa, fb, fc]
      have := fld_len h
      refine ⟨by decide, by decide, ?_⟩
      rw [ByteArray.size_append]
      show 4 + _ ≤ _
      omega
    · obtain ⟨fa, fb, fc⟩ := fr23 o
      rw [fa, fb, fc]
      have := fld_len h
      refine ⟨by decide, by decide, ?_⟩
      rw [ByteArray.size_append]
      show 4 + _ ≤ _
      omega
theorem part_len (d : Nat) (e : Ent) : (itT (partI d e)).length ≤ (itT e.2).length + 2 := by
  unfold partI
  split
  · rw [itT_app, itT_app, List.length_append, List.length_append]
    show 1 + (_ + 1) ≤ _
    omega
  · omega
/-- How much lies on the stack of texts. -/
def totI (st : List Ent) : Nat := (st.map fun e => (itT e.2).length).sum
theorem totI_cons (e : Ent) (st : List Ent) : totI (e :: st) = (itT e.2).length + totI st := by unfold totI; rw [List.map_cons, List.sum_cons]
theorem sh_tot {L : List Nd} (he : ∀ j, j < L.length → T.er L j = 0) : ∀ k, k ≤ L.length → totI (shK L k) ≤ 10000 * k := by
  intro k
  induction k with
  | zero => intro _; exact Nat.zero_le _
  | succ k ih =>
    intro hk
    have hi := ih (by omega)
    have hn : L[k]? = some L[k] := List.getElem?_eq_getElem (by omega)
    have hok := T.er_ok hn (he k (by omega))
    have hlen := shK_len (L := L) k (by omega)
    have har := hok.ar
    have h2 := T.arN_le L[k].op
    obtain ⟨f1, f2, f3⟩ := fr_len hok.al
    rw [shK_succ hn]
    unfold stepI
    rw [totI_cons]
    show (itT (nodeI L[k] _ _)).length + _ ≤ _
    rw [fr_node hok.al, List.length_append, List.length_append, dlen, dlen]
    cases hs : shK L k with
    | nil =>
      rw [hs] at hlen hi
      have a0 : T.arN L[k].op = 0 := by simp at hlen; omega
      rw [if_pos a0, a0]
      simp only [List.length_nil, List.drop_zero]
      omega
    | cons x st =>
      rw [hs, totI_cons] at hi
      by_cases a0 : T.arN L[k].op = 0
      · rw [if_pos a0, a0]
        simp only [List.length_nil, List.drop_zero]
        rw [totI_cons]
        omega
      rw [if_neg a0]
      by_cases a1 : T.arN L[k].op = 1
      · rw [if_pos a1, if_neg (by omega), a1]
        have := part_len (asK L[k].op 0) x
        show (frA L[k]).size + ((itT (partI (asK L[k].op 0) x)).length + _) + totI st ≤ _
        omega
      · rw [if_neg a1, show T.arN L[k].op = 2 from by omega]
        cases st with
        | nil => rw [hs] at hlen; simp at hlen; omega
        | cons y st =>
          rw [totI_cons] at hi
          have q1 := part_len (asK L[k].op 0) y
          have q2 := part_len (asK L[k].op 1) x
          show (frA L[k]).size + ((itT (partI (asK L[k].op 0) y) ++ ((frB L[k]).data.toList ++ itT (partI (asK L[k].op 1) x))).length + _) + totI st ≤ _
          rw [List.length_append, List.length_append, dlen]
          omega
theorem en_len {L : List Nd} (he : ∀ j, j < L.length → T.er L j = 0) (hL : L.length ≤ 2048) (k : Nat) (hk : k < L.length) : (itT (enX L k).2).length ≤ 20480000 := by
  have h := sh_tot he (k + 1) (by omega)
  unfold enX
  cases hs : shK L (k + 1) with
  | nil => show (itT []).length ≤ _; decide
  | cons x st =>
    rw [hs, totI_cons] at h
    show (itT x.2).length ≤ _
    omega
theorem rt_pos {L : List Nd} (h : T.Rt L) : 0 < L.length := by
  rcases Nat.eq_zero_or_pos L.length with q | q
  · have := h.one
    rw [List.eq_nil_of_length_eq_zero q] at this
    simp [T.run] at this
  · exact q
set_option maxRecDepth 100000 in
set_option maxHeartbeats 2000000 in
theorem newTeller_any (L : List Nd) (b gp op cp : Nat) (hL : L.length ≤ 2048) (he : ∀ j, j < L.length → T.er L j = 0) (w : World) (hp : T.NdL w gp op L) (lp : gp < b) (lb : b < w.heap.size) :
    Calls Tryz.prog 26 #[.slice (some ⟨gp, op, none⟩) L.length cp, telV b] w fun e w' => (∃ tb, e = .returned (.pointer (some ⟨tb, 0, none⟩)) ∧ Tl w' b tb L gp op cp) ∧ Below w.heap.size w w' := by
  have HP : Hid (∀ _ : Unit, Calls Tryz.prog 47 #[.slice (some ⟨gp, op, none⟩) L.length cp] w fun e w' => (∃ g, e = .returned (.slice (some ⟨g, 0, none⟩) L.length L.length) ∧ PtR w' w.heap.size g L) ∧ Below w.heap.size w w') := fun _ => parts_any L gp op cp hL he w hp (by omega)
  have HN := (show Hid (T.NdL w gp op L) from hp)
  clear hp he
  go_enter Tryz.func26, Tryz.ntmps26
  go_wp2_with fail
  refine (HP.out ()).mono ?_
  rintro e w1 ⟨⟨g, rfl, hg⟩, b1⟩
  have HT := (show Hid (Tl (w1.alloc (.cells #[.slice (some ⟨gp, op, none⟩) L.length cp, .slice (some ⟨g, 0, none⟩) L.length L.length, telV b] 93)) b w1.heap.size L gp op cp ∧ Below w.heap.size w (w1.alloc (.cells #[.slice (some ⟨gp, op, none⟩) L.length cp, .slice (some ⟨g, 0, none⟩) L.length L.length, telV b] 93))) from by
    have h2 := hg.later (below_box w1 (.cells #[.slice (some ⟨gp, op, none⟩) L.length cp, .slice (some ⟨g, 0, none⟩) L.length L.length, telV b] 93))
    have hs := b1.size
    refine ⟨⟨⟨g, ⟨⟨_, heap_alloc_new w1 _⟩, by omega, by decide⟩, ?_⟩, ?_, lp⟩, b1.alloc b1.size _⟩
    · obtain ⟨q1, cur, q2, q3⟩ := h2
      refine ⟨cur, ⟨⟨_, q2⟩, by omega, by decide⟩, fun j hj => ?_⟩
      obtain ⟨u, r1, r2⟩ := q3 j hj
      exact ⟨u, r1, KdF.of r2 lb⟩
    · exact HN.out.same ((b1.alloc b1.size _).block gp (by omega)))
  clear hg b1 HP HN
  go_wp2_with fail
  go_ret
  exact ⟨⟨_, rfl, HT.out.1⟩, HT.out.2⟩
set_option maxRecDepth 100000 in
set_option maxHeartbeats 2000000 in
theorem pattern_any {L : List Nd} {b tb gp op cp : Nat} (hr : T.Rt L) (hw : ∀ n ∈ L, NdW n) (W : World) (bs : List UInt8) (hT : Tl W b tb L gp op cp) (hB : Lib.IsBuilder 59 5 b b (Lib.byteCells bs) W) (hl : bs.length ≤ 60000000) :
    Calls Tryz.prog 28 #[.pointer (some ⟨tb, 0, none⟩)] W fun e W' => e = .returned (.tuple #[]) ∧ Pg b W W' (bs ++ itT (shI L)) := by
  have hL : L.length ≤ 2048 := by have := hr.len; omega
  have h0 := rt_pos hr
  have hen := en_len hr.each hL (L.length - 1) (by omega)
  obtain ⟨k, hk⟩ : ∃ k, k + 1 = L.length := ⟨L.length - 1, by omega⟩
  have ek : L.length - 1 = k := by omega
  rw [ek] at hen
  have e0 : partI 0 (enX L k) = (enX L k).2 := by unfold partI; rw [if_neg (by omega)]
  have HC : Hid (∀ _ : Unit, Calls Tryz.prog 49 #[.pointer (some ⟨tb, 0, none⟩), .int .i64 k, .int .i64 0] W fun e W' => e = .returned (.tuple #[]) ∧ Pg b W W' (bs ++ itT (shI L))) := fun _ => by
    have h := part_all (b := b) (tb := tb) (gp := gp) (op := op) (cp := cp) hr.each hw hL k 0 (by omega) (by omega) W bs hT hB (by rw [e0]; omega)
    rw [e0] at h
    rw [sh_last h0, ek]
    exact h
  obtain ⟨g, ht, _⟩ := hT.t
  have a0 : W.cell? ⟨tb, 0, none⟩ = some (.slice (some ⟨gp, op, none⟩) L.length cp) := ht.cell 0
  have es : (L.length : Int) - 1 = (k : Int) := by omega
  clear hT hB ht hen e0 h0 hw hr ek
  go_enter Tryz.func28, Tryz.ntmps28
  go_wp2_with fail
  refine (HC.out ()).mono ?_
  rintro e w1 ⟨rfl, p1⟩
  have HP := (show Hid _ from p1)
  clear p1 HC a0
  go_wp2_with fail
  go_end0
  exact ⟨rfl, HP.out⟩
/-- What is told of a text: it, or that it is too long. -/
def lnR (l : List UInt8) : ByteArray × Int := if 65536 < l.length then (⟨#[]⟩, 2) else (txO l, 0)
set_option maxRecDepth 100000 in
set_option maxHeartbeats 2000000 in
theorem whole_any (b : Nat) (l : List UInt8) (w : World) (h : Lib.IsBuilder 59 5 b b (Lib.byteCells l) w) (h0 : l ≠ []) (hl : l.length ≤ 100000000) : Calls Tryz.prog 29 #[.pointer (some ⟨b, 0, none⟩)] w fun e w' => e = .returned (.tuple #[.string (lnR l).1, .int .i64 (lnR l).2]) ∧ Below b w w' := by
  have HL : Hid (∀ _ : Unit, Calls Tryz.prog 50 #[.pointer (some ⟨b, 0, none⟩)] w fun e w' => e = .returned (.int .i64 l.length) ∧ w' = w) := fun _ => by
    have := pg_len b _ w h
    rw [Lib.byteCells_length] at this
    exact this
  by_cases q : 65536 < l.length
  · have HE := (show Hid (lnR l = (⟨#[]⟩, 2)) from by show lnR l = _; unfold lnR; rw [if_pos q])
    have z : (65536 : Int) < (l.length : Int) := by omega
    clear h h0 q
    generalize hm : l.length = m at *
    go_enter Tryz.func29, Tryz.ntmps29
    go_wp2_with fail
    refine (HL.out ()).mono ?_
    rintro e w1 ⟨rfl, rfl⟩
    clear HL
    go_wp2_with fail
    go_ret2
    exact ⟨by rw [HE.out]; rfl, Below.refl _ _⟩
  · have HE := (show Hid (lnR l = (txO l, 0)) from by show lnR l = _; unfold lnR; rw [if_neg q])
    have z : ¬ (65536 : Int) < (l.length : Int) := by omega
    have HT : Hid (∀ _ : Unit, Calls Tryz.prog 51 #[.pointer (some ⟨b, 0, none⟩)] w fun e w' => e = .returned (.string (txO l)) ∧ Below b w w') := fun _ => pg_text b l w h h0
    clear h h0 q
    generalize hm : l.length = m at *
    go_enter Tryz.func29, Tryz.ntmps29
    go_wp2_with fail
    refine (HL.out ()).mono ?_
    rintro e w1 ⟨rfl, rfl⟩
    clear HL
    go_wp2_with fail
    refine (HT.out ()).mono ?_
    rintro e w2 ⟨rfl, b2⟩
    have HB := (show Hid _ from b2)
    clear HT b2
    go_wp2_with fail
    go_ret2
    exact ⟨by rw [HE.out]; rfl, HB.out⟩
/-- What show's Pattern answers. -/
def shR (L : List Nd) : ByteArray × Int := if (T.ck L).2 = 0 then lnR (itT (shI L)) else (⟨#[]⟩, (T.ck L).2)
theorem sh_ne {L : List Nd} (hr : T.Rt L) (hw : ∀ n ∈ L, NdW n) : itT (shI L) ≠ [] := by
  obtain ⟨t, ht, _⟩ := (sh_she hr hw).hd
  have hrt := (sh_she hr hw).rt
  cases hs : shI L with
  | nil => rw [hs] at ht; cases ht
  | cons x r =>
    rw [hs] at ht hrt
    have ex : x = some t := by simpa using ht
    subst ex
    have hg := hrt t (mem_tks.2 List.mem_cons_self)
    have h1 := (tok_there hg.r hg.b (s := tkX t) (b := 0) (fun k _ => rfl) (by rw [chr_out (by omega)]; decide)).1
    rw [itT_cons, itX_some]
    intro e
    have h2 := dlen (tkX t)
    rw [(List.append_eq_nil_iff.1 e).1] at h2
    simp at h2
    omega
set_option maxRecDepth 100000 in
set_option maxHeartbeats 4000000 in
theorem show_any (L : List Nd) (Ap : Option Addr) (cp : Nat) (hL : L.length ≤ 140737488355328) (hT : ∀ n ∈ L, n.tx.size ≤ 140737488355328) (hw : ∀ n ∈ L, NdW n) (w : World) (hp : T.RdN w Ap L) :
    Calls Tryz.prog 9 #[.slice Ap L.length cp] w fun e w' => e = .returned (.tuple #[.string (shR L).1, .int .i64 (shR L).2]) ∧ Below w.heap.size w w' := by
  have HC : Hid (∀ _ : Unit, Calls Tryz.prog 25 #[.slice Ap L.length cp] w fun e w' => e = .returned (.tuple #[.int .i64 (T.ck L).1, .int .i64 (T.ck L).2]) ∧ Below w.heap.size w w') := fun _ => T.check_any L Ap cp hL hT w hp
  by_cases hc : (T.ck L).2 = 0
  · have hr := T.rt_of hc
    have t0 : ((T.ck L).2 != 0) = false := by rw [hc]; rfl
    obtain ⟨gp, op, rfl, lp, hn⟩ := hp (by rintro rfl; have := rt_pos hr; simp at this)
    have hmf : ∀ (fn : Fn) (first cap : Array Value) (w : World), (Instr.makeFunc fn first cap).run Tryz.prog w = .ok (.func fn first cap) w := fun _ _ _ _ => rfl
    have HE := (show Hid (shR L = lnR (itT (shI L))) from by show shR L = _; unfold shR; rw [if_pos hc])
    have HR := (show Hid (T.Rt L) from hr)
    have HW := (show Hid (∀ n ∈ L, NdW n) from hw)
    have HN := (show Hid (T.NdL w gp op L) from hn)
    have HNe := (show Hid (itT (shI L) ≠ []) from sh_ne hr hw)
    have HLe := (show Hid ((itT (shI L)).length ≤ 20480000) from by
      have := en_len hr.each (by have := hr.len; omega) (L.length - 1) (by have := rt_pos hr; omega)
      rw [← sh_last (rt_pos hr)] at this
      exact this)
    clear hr hw hp hc hT hn
    generalize (T.ck L).2 = cc at *
    generalize (T.ck L).1 = c1 at *
    go_enter Tryz.func9, Tryz.ntmps9
    go_wp2_with fail
    refine (HC.out ()).mono ?_
    rintro e w1 ⟨rfl, b1⟩
    have HB1 := (show Hid (Below w.heap.size w w1) from b1)
    have hs1 := b1.size
    have HF := (show Hid (Lib.IsBuilder 59 5 w1.heap.size w1.heap.size (Lib.byteCells []) (w1.alloc (.cells #[.pointer none, .slice none 0 0] 59))) from Lib.fresh_isBuilder 59 5 w1)
    have HNt : Hid (∀ _ : Unit, Calls Tryz.prog 26 #[.slice (some ⟨gp, op, none⟩) L.length cp, telV w1.heap.size] (w1.alloc (.cells #[.pointer none, .slice none 0 0] 59)) fun e w' => (∃ tb, e = .returned (.pointer (some ⟨tb, 0, none⟩)) ∧ Tl w' w1.heap.size tb L gp op cp) ∧ Below (w1.alloc (.cells #[.pointer none, .slice none 0 0] 59)).heap.size (w1.alloc (.cells #[.pointer none, .slice none 0 0] 59)) w') := fun _ =>
      newTeller_any L w1.heap.size gp op cp (by have := HR.out.len; omega) HR.out.each _ (HN.out.same ((b1.alloc b1.size _).block gp lp)) (by omega) (by rw [World.size_alloc]; omega)
    clear b1 HC HN
    go_wp2_with fail
    refine (HNt.out ()).mono ?_
    rintro e w2 ⟨⟨tb, rfl, ht⟩, b2⟩
    have HP0 := (show Hid (Pg w1.heap.size (w1.alloc (.cells #[.pointer none, .slice none 0 0] 59)) w2 []) from (Pg.start HF.out).later b2)
    have HPa : Hid (∀ _ : Unit, Calls Tryz.prog 28 #[.pointer (some ⟨tb, 0, none⟩)] w2 fun e W' => e = .returned (.tuple #[]) ∧ Pg w1.heap.size w2 W' ([] ++ itT (shI L))) := fun _ => pattern_any HR.out HW.out w2 [] ht HP0.out.i (by decide)
    clear ht b2 HNt HF
    go_wp2_with fail
    refine (HPa.out ()).mono ?_
    rintro e w3 ⟨rfl, p3⟩
    rw [List.nil_append] at p3
    have HP3 := (show Hid (Pg w1.heap.size (w1.alloc (.cells #[.pointer none, .slice none 0 0] 59)) w3 (itT (shI L))) from HP0.out.trans p3)
    have HWh : Hid (∀ _ : Unit, Calls Tryz.prog 29 #[.pointer (some ⟨w1.heap.size, 0, none⟩)] w3 fun e w' => e = .returned (.tuple #[.string (lnR (itT (shI L))).1, .int .i64 (lnR (itT (shI L))).2]) ∧ Below w1.heap.size w3 w') := fun _ => whole_any w1.heap.size _ w3 p3.i HNe.out (by have := HLe.out; omega)
    clear p3 HPa HP0 HR HW
    go_wp2_with fail
    refine (HWh.out ()).mono ?_
    rintro e w4 ⟨rfl, b4⟩
    have HB4 := (show Hid (Below w.heap.size w w4) from (((HB1.out.alloc hs1 (.cells #[.pointer none, .slice none 0 0] 59)).trans (HP3.out.bl.mono hs1)).trans (b4.mono hs1)))
    clear b4 HWh HP3
    go_wp2_with fail
    go_ret2
    exact ⟨by rw [HE.out]; rfl, HB4.out⟩
  · have t0 : ((T.ck L).2 != 0) = true := by rw [bne, beq_eq_false_iff_ne.2 hc]; rfl
    have HE := (show Hid (shR L = (⟨#[]⟩, (T.ck L).2)) from by show shR L = _; unfold shR; rw [if_neg hc])
    clear hp hT hw hc
    generalize (T.ck L).2 = cc at *
    generalize (T.ck L).1 = c1 at *
    go_enter Tryz.func9, Tryz.ntmps9
    go_wp2_with fail
    refine (HC.out ()).mono ?_
    rintro e w1 ⟨rfl, b1⟩
    have HB1 := (show Hid _ from b1)
    clear b1 HC
    go_wp2_with fail
    go_ret2
    exact ⟨by rw [HE.out]; rfl, HB1.out⟩
end Go.Proofs.YtnpifgcgjgddoaaGreatDoor.N
