/- DERIVED. Plain mathematics and walks, laid together (13). -/
import Derived.Deep.RegionHeld3
import Derived.Lib.SliceRun
import Derived.Test.YtbipjdgholdhcabGreatFs12
namespace Go.Proofs.YtbipjdgholdhcabGreat.N
open Go.RowKit Go.Maps
open Go.Proofs.YtbipjdgholdhcabGreat.T

open U (below_grown own_get own_slice)
/-- A part of a pattern: may it match nothing, and with which rules it begins; as it lies. -/
abbrev Hp : Type := Bool × (Nat → Bool)
def RdP (W : World) (A : Option Addr) (ps : List Hp) : Prop := ∀ (j : Nat) p, ps[j]? = some p → ∃ g o, A = some ⟨g, o, none⟩ ∧ g < W.heap.size ∧ W.cell? ⟨g, o + j * 201, none⟩ = some (.bool p.1) ∧ W.rangeAt g (o + j * 201 + 1) (mkL p.2)
theorem range_below {W W2 : World} {g o : Nat} {cs : List Value} (h : W.rangeAt g o cs) (hg : g < W.heap.size) (hb : Below W.heap.size W W2) : W2.rangeAt g o cs := fun j v hv => (hb.cell (p := ⟨g, o + j, none⟩) hg).trans (h j v hv)
theorem RdP.later {W W2 : World} {A : Option Addr} {ps : List Hp} (h : RdP W A ps) (hb : Below W.heap.size W W2) : RdP W2 A ps := fun j p hp => by
  obtain ⟨g, o, h1, h2, h3, h4⟩ := h j p hp
  exact ⟨g, o, h1, Nat.lt_of_lt_of_le h2 hb.size, (hb.cell (p := ⟨g, o + j * 201, none⟩) h2).trans h3, range_below h4 h2 hb⟩
theorem enters_or (args : Array Value) (w : World) : (callFunc 59 args).run Tryz.prog w = .ok (.enter 59 args) w := enters_of Tryz.func59 (by kernel_rfl) rfl args w
/-- The boxes of a call of begins. -/
structure Bx3 (w wr : World) (r m k : Value) (n : Nd) (f : Nat → Bool) : Prop where
  b : Below w.heap.size w wr
  v : VX wr w.heap.size r m k
  n : NX wr (w.heap.size + 1) n
  z : MX wr (w.heap.size + 1 + 1) f
theorem Bx3.start (w : World) (r m k : Value) (n : Nd) : Bx3 w (((w.alloc (.cells #[r, m, k] 66)).alloc (ndO n)).alloc (.cells (mkA fun _ => false) 87)) r m k n (fun _ => false) := by
  have s1 := World.size_alloc w (.cells #[r, m, k] 66)
  have s2 := World.size_alloc (w.alloc (.cells #[r, m, k] 66)) (ndO n)
  refine ⟨(((Below.refl _ _).alloc (Nat.le_refl _) _).alloc (by omega) _).alloc (by omega) _, ((VX.new w r m k).below (below_box _ _)).below (below_box _ _), ?_, ?_⟩
  · have h : NX ((w.alloc (.cells #[r, m, k] 66)).alloc (ndO n)) (w.alloc (.cells #[r, m, k] 66)).heap.size n := ⟨heap_alloc_new _ _⟩
    rw [s1] at h
    exact nx_below h (below_box _ _)
  · have h := MX.new ((w.alloc (.cells #[r, m, k] 66)).alloc (ndO n)) (fun _ => false)
    rw [s2, s1] at h
    exact h
theorem Bx3.later {w wr w2 : World} {r m k : Value} {n : Nd} {f : Nat → Bool} (h : Bx3 w wr r m k n f) (hb : Below wr.heap.size wr w2) : Bx3 w w2 r m k n f := ⟨h.b.trans (hb.mono h.b.size), h.v.below hb, nx_below h.n hb, h.z.below hb⟩
theorem Bx3.ret {w wr : World} {r m k : Value} {n : Nd} {f : Nat → Bool} (h : Bx3 w wr r m k n f) (g : Nat → Bool) : MX (wr.setRow (w.heap.size + 1 + 1) (mkA g)) (w.heap.size + 1 + 1) g ∧ Below w.heap.size w (wr.setRow (w.heap.size + 1 + 1) (mkA g)) := ⟨h.z.all g, below_setRow h.b (by omega) _⟩
set_option maxRecDepth 100000 in
set_option maxHeartbeats 16000000 in
theorem begins_0 (n : Nd) (r m k : Value) (A : Option Addr) (l c : Nat) (h6 : ¬ n.op = 6) (h7 : ¬ n.op = 7) (h8 : ¬ n.op = 8) (h14 : ¬ n.op = 14) (h16 : ¬ n.op = 16) (hl : l = 0) (w : World) : Calls Tryz.prog 42 #[.agg #[r, m, k], ndG n, .slice A l c] w fun e w' => e = .returned (.agg (mkA fun _ => false)) ∧ Below w.heap.size w w' := by
  have hv := zero_mk
  have hsz := mkA_size (fun _ => false)
  obtain ⟨w1, hw1⟩ : ∃ w1, w1 = ((w.alloc (.cells #[r, m, k] 66)).alloc (ndO n)).alloc (.cells (mkA fun _ => false) 87) := ⟨_, rfl⟩
  have HE1 := (show Hid (((w.alloc (.cells #[r, m, k] 66)).alloc (.cells #[.int .i64 n.op, .int .i64 n.nn, .string n.tx, .int .u64 n.s0, .int .u64 n.s1, .int .u64 n.s2, .int .u64 n.s3] 57)).alloc (.cells (mkA fun _ => false) 87) = w1) from hw1.symm)
  have HB := (show Hid (Bx3 w w1 r m k n (fun _ => false)) from by rw [hw1]; exact Bx3.start w r m k n)
  have q0 : w1.cell? ⟨w.heap.size + 1, 0, none⟩ = some (.int .i64 n.op) := HB.out.n.nb.c0
  have t6 : (n.op == 6) = false := by rw [beq_eq_false_iff_ne]; exact h6
  have t7 : (n.op == 7) = false := by rw [beq_eq_false_iff_ne]; exact h7
  have t8 : (n.op == 8) = false := by rw [beq_eq_false_iff_ne]; exact h8
  have t14 : (n.op == 14) = false := by rw [beq_eq_false_iff_ne]; exact h14
  have t16 : (n.op == 16) = false := by rw [beq_eq_false_iff_ne]; exact h16
  subst hl
  clear h6 h7 h8 h14 h16 hw1
  go_enter Tryz.func42, Tryz.ntmps42
  go_wp2_with (first | rw [HE1.out] | refine wpList_storeM rfl _ _ rfl (w.heap.size + 1 + 1) (fun _ => false) (fun _ => false) rfl rfl HB.out.z ?_)
  refine ret_mx (s := 6) (b := w.heap.size + 1 + 1) (by rfl) (by rfl) (by rfl) (HB.out.ret (fun _ => false)).1 ?_
  exact ⟨rfl, (HB.out.ret (fun _ => false)).2⟩
set_option maxRecDepth 100000 in
set_option maxHeartbeats 16000000 in
theorem begins_z (n : Nd) (r m k : Value) (A : Option Addr) (l c : Nat) (h : n.op = 14 ∨ n.op = 16) (hz : n.nn = 0) (w : World) : Calls Tryz.prog 42 #[.agg #[r, m, k], ndG n, .slice A l c] w fun e w' => e = .returned (.agg (mkA fun _ => false)) ∧ Below w.heap.size w w' := by
  have hv := zero_mk
  have hsz := mkA_size (fun _ => false)
  obtain ⟨w1, hw1⟩ : ∃ w1, w1 = ((w.alloc (.cells #[r, m, k] 66)).alloc (ndO n)).alloc (.cells (mkA fun _ => false) 87) := ⟨_, rfl⟩
  have HE1 := (show Hid (((w.alloc (.cells #[r, m, k] 66)).alloc (.cells #[.int .i64 n.op, .int .i64 n.nn, .string n.tx, .int .u64 n.s0, .int .u64 n.s1, .int .u64 n.s2, .int .u64 n.s3] 57)).alloc (.cells (mkA fun _ => false) 87) = w1) from hw1.symm)
  have HB := (show Hid (Bx3 w w1 r m k n (fun _ => false)) from by rw [hw1]; exact Bx3.start w r m k n)
  have q0 : w1.cell? ⟨w.heap.size + 1, 0, none⟩ = some (.int .i64 n.op) := HB.out.n.nb.c0
  have q1 : w1.cell? ⟨w.heap.size + 1, 1, none⟩ = some (.int .i64 n.nn) := HB.out.n.nb.c1
  clear hw1
  rcases h with h | h
  · have tz : (n.nn == 0) = true := by rw [hz]; rfl
    have t6 : (n.op == 6) = false := by rw [h]; rfl
    have t7 : (n.op == 7) = false := by rw [h]; rfl
    have t8 : (n.op == 8) = false := by rw [h]; rfl
    have t14 : (n.op == 14) = true := by rw [h]; rfl
    clear h hz
    go_enter Tryz.func42, Tryz.ntmps42
    go_wp2_with (first | rw [HE1.out] | refine wpList_storeM rfl _ _ rfl (w.heap.size + 1 + 1) (fun _ => false) (fun _ => false) rfl rfl HB.out.z ?_)
    refine ret_mx (s := 6) (b := w.heap.size + 1 + 1) (by rfl) (by rfl) (by rfl) (HB.out.ret (fun _ => false)).1 ?_
    exact ⟨rfl, (HB.out.ret (fun _ => false)).2⟩
  · have tz : (n.nn == 0) = true := by rw [hz]; rfl
    have t6 : (n.op == 6) = false := by rw [h]; rfl
    have t7 : (n.op == 7) = false := by rw [h]; rfl
    have t8 : (n.op == 8) = false := by rw [h]; rfl
    have t14 : (n.op == 14) = false := by rw [h]; rfl
    have t16 : (n.op == 16) = true := by rw [h]; rfl
    clear h hz
    go_enter Tryz.func42, Tryz.ntmps42
    go_wp2_with (first | rw [HE1.out] | refine wpList_storeM rfl _ _ rfl (w.heap.size + 1 + 1) (fun _ => false) (fun _ => false) rfl rfl HB.out.z ?_)
    refine ret_mx (s := 6) (b := w.heap.size + 1 + 1) (by rfl) (by rfl) (by rfl) (HB.out.ret (fun _ => false)).1 ?_
    exact ⟨rfl, (HB.out.ret (fun _ => false)).2⟩
set_option maxRecDepth 100000 in
set_option maxHeartbeats 16000000 in
theorem begins_1 {w0 : World} (n : Nd) (r m k : Value) (A : Option Addr) (l c : Nat) (x : Hp) (h6 : ¬ n.op = 6) (h7 : n.op = 7 → x.1 = false) (h8 : ¬ n.op = 8) (hz : ¬ ((n.op = 14 ∨ n.op = 16) ∧ n.nn = 0)) (hl : 0 < l) (hl2 : l ≤ 2) (hp : ∃ g o, A = some ⟨g, o, none⟩ ∧ g < w0.heap.size ∧ w0.cell? ⟨g, o, none⟩ = some (.bool x.1) ∧ w0.rangeAt g (o + 1) (mkL x.2)) (w : World) (hw0 : w0 = w) : Calls Tryz.prog 42 #[.agg #[r, m, k], ndG n, .slice A l c] w fun e w' => e = .returned (.agg (mkA x.2)) ∧ Below w0.heap.size w w' := by
  subst hw0
  have hv := zero_mk
  have hsz := mkA_size (fun _ => false)
  obtain ⟨w1, hw1⟩ : ∃ w1, w1 = ((w0.alloc (.cells #[r, m, k] 66)).alloc (ndO n)).alloc (.cells (mkA fun _ => false) 87) := ⟨_, rfl⟩
  have HE1 := (show Hid (((w0.alloc (.cells #[r, m, k] 66)).alloc (.cells #[.int .i64 n.op, .int .i64 n.nn, .string n.tx, .int .u64 n.s0, .int .u64 n.s1, .int .u64 n.s2, .int .u64 n.s3] 57)).alloc (.cells (mkA fun _ => false) 87) = w1) from hw1.symm)
  have HB := (show Hid (Bx3 w0 w1 r m k n (fun _ => false)) from by rw [hw1]; exact Bx3.start w0 r m k n)
  obtain ⟨g, o, rfl, hg, hc, hr⟩ := hp
  have HR := (show Hid (w1.rangeAt g (o + 1) (mkL x.2)) from range_below hr hg HB.out.b)
  have p0 := (HB.out.b.cell (p := ⟨g, o, none⟩) hg).trans hc
  have q1 : w1.cell? ⟨w0.heap.size + 1, 1, none⟩ = some (.int .i64 n.nn) := HB.out.n.nb.c1
  have q0 : w1.cell? ⟨w0.heap.size + 1, 0, none⟩ = some (.int .i64 n.op) := HB.out.n.nb.c0
  have z1 : (0 : Int) < (l : Int) := by omega
  have z2 : ¬ (l : Int) = 0 := by omega
  have z3 : ((l : Int) == 0) = false := by rw [beq_eq_false_iff_ne]; omega
  have z4 : 0 < l := hl
  have t6 : (n.op == 6) = false := by rw [beq_eq_false_iff_ne]; exact h6
  have t8 : (n.op == 8) = false := by rw [beq_eq_false_iff_ne]; exact h8
  obtain ⟨xb, xf⟩ := x
  simp only at *
  by_cases c7 : n.op = 7
  · have hx := h7 c7
    subst hx
    have t7 : (n.op == 7) = true := by rw [c7]; rfl
    have t14 : (n.op == 14) = false := by rw [c7]; rfl
    have t16 : (n.op == 16) = false := by rw [c7]; rfl
    clear c7 h6 h7 h8 hz hl hg hc hr hw1
    go_enter Tryz.func42, Tryz.ntmps42
    go_wp2_with (first | rw [HE1.out] | refine wpList_loadM rfl _ rfl g (o + 1) xf rfl HR.out ?_ | refine wpList_storeM rfl _ _ rfl (w0.heap.size + 1 + 1) (fun _ => false) xf rfl rfl HB.out.z ?_)
    refine ret_mx (s := 6) (b := w0.heap.size + 1 + 1) (by rfl) (by rfl) (by rfl) (HB.out.ret xf).1 ?_
    exact ⟨rfl, (HB.out.ret xf).2⟩
  · have t7 : (n.op == 7) = false := by rw [beq_eq_false_iff_ne]; exact c7
    by_cases c14 : n.op = 14 ∨ n.op = 16
    · have tz : (n.nn == 0) = false := by rw [beq_eq_false_iff_ne]; exact fun q => hz ⟨c14, q⟩
      rcases c14 with c14 | c14
      · have t14 : (n.op == 14) = true := by rw [c14]; rfl
        clear c14 c7 h6 h7 h8 hz hl hg hc hr hw1
        go_enter Tryz.func42, Tryz.ntmps42
        go_wp2_with (first | rw [HE1.out] | refine wpList_loadM rfl _ rfl g (o + 1) xf rfl HR.out ?_ | refine wpList_storeM rfl _ _ rfl (w0.heap.size + 1 + 1) (fun _ => false) xf rfl rfl HB.out.z ?_)
        refine ret_mx (s := 6) (b := w0.heap.size + 1 + 1) (by rfl) (by rfl) (by rfl) (HB.out.ret xf).1 ?_
        exact ⟨rfl, (HB.out.ret xf).2⟩
      · have t14 : (n.op == 14) = false := by rw [c14]; rfl
        have t16 : (n.op == 16) = true := by rw [c14]; rfl
        clear c14 c7 h6 h7 h8 hz hl hg hc hr hw1
        go_enter Tryz.func42, Tryz.ntmps42
        go_wp2_with (first | rw [HE1.out] | refine wpList_loadM rfl _ rfl g (o + 1) xf rfl HR.out ?_ | refine wpList_storeM rfl _ _ rfl (w0.heap.size + 1 + 1) (fun _ => false) xf rfl rfl HB.out.z ?_)
        refine ret_mx (s := 6) (b := w0.heap.size + 1 + 1) (by rfl) (by rfl) (by rfl) (HB.out.ret xf).1 ?_
        exact ⟨rfl, (HB.out.ret xf).2⟩
    · have t14 : (n.op == 14) = false := by rw [beq_eq_false_iff_ne]; exact fun q => c14 (.inl q)
      have t16 : (n.op == 16) = false := by rw [beq_eq_false_iff_ne]; exact fun q => c14 (.inr q)
      clear c14 c7 h6 h7 h8 hz hl hg hc hr hw1
      go_enter Tryz.func42, Tryz.ntmps42
      go_wp2_with (first | rw [HE1.out] | refine wpList_loadM rfl _ rfl g (o + 1) xf rfl HR.out ?_ | refine wpList_storeM rfl _ _ rfl (w0.heap.size + 1 + 1) (fun _ => false) xf rfl rfl HB.out.z ?_)
      refine ret_mx (s := 6) (b := w0.heap.size + 1 + 1) (by rfl) (by rfl) (by rfl) (HB.out.ret xf).1 ?_
      exact ⟨rfl, (HB.out.ret xf).2⟩
end Go.Proofs.YtbipjdgholdhcabGreat.N

namespace Go.Proofs.YtbipjdgholdhcabGreat.N
open Go.RowKit Go.Maps
open Go.Proofs.YtbipjdgholdhcabGreat.T

open U (below_grown own_get own_slice)
set_option maxRecDepth 100000 in
set_option maxHeartbeats 16000000 in
theorem begins_6 {gs : GL} {j : Nat} (n : Nd) (r k : Value) (B : Nat) (A : Option Addr) (l c : Nat) (h : n.op = 6) (hs : n.tx.size ≤ 140737488355328) (hf : fdG gs n.tx = some j) (hj : j < 200) (w : World) (hm : NmM w B gs) : Calls Tryz.prog 42 #[.agg #[r, .map (some B), k], ndG n, .slice A l c] w fun e w' => e = .returned (.agg (mkA fun q => decide (fdG gs n.tx = some q))) ∧ Below w.heap.size w w' := by
  have hv := zero_mk
  have hsz := mkA_size (fun _ => false)
  obtain ⟨w1, hw1⟩ : ∃ w1, w1 = ((w.alloc (.cells #[r, .map (some B), k] 66)).alloc (ndO n)).alloc (.cells (mkA fun _ => false) 87) := ⟨_, rfl⟩
  have HE1 := (show Hid (((w.alloc (.cells #[r, .map (some B), k] 66)).alloc (.cells #[.int .i64 n.op, .int .i64 n.nn, .string n.tx, .int .u64 n.s0, .int .u64 n.s1, .int .u64 n.s2, .int .u64 n.s3] 57)).alloc (.cells (mkA fun _ => false) 87) = w1) from hw1.symm)
  have HB := (show Hid (Bx3 w w1 r (.map (some B)) k n (fun _ => false)) from by rw [hw1]; exact Bx3.start w r (.map (some B)) k n)
  have q0 : w1.cell? ⟨w.heap.size + 1, 0, none⟩ = some (.int .i64 n.op) := HB.out.n.nb.c0
  have q2 : w1.cell? ⟨w.heap.size + 1, 2, none⟩ = some (.string n.tx) := HB.out.n.nb.c2
  have y1 : w1.cell? ⟨w.heap.size, 1, none⟩ = some (.map (some B)) := HB.out.v.c1
  obtain ⟨w2, hw2⟩ : ∃ w2, w2 = w1.alloc (.cells (mkA fun _ => false) 87) := ⟨_, rfl⟩
  have HE2 := (show Hid (w1.alloc (.cells (mkA fun _ => false) 87) = w2) from hw2.symm)
  have hb2 : Below w1.heap.size w1 w2 := by rw [hw2]; exact below_box _ _
  have HB2 := (show Hid (Bx3 w w2 r (.map (some B)) k n (fun _ => false)) from HB.out.later hb2)
  have HM2 := (show Hid (MX w2 w1.heap.size (fun _ => false)) from by rw [hw2]; exact MX.new w1 _)
  have q2' : w2.cell? ⟨w.heap.size + 1, 2, none⟩ = some (.string n.tx) := HB2.out.n.nb.c2
  have y1' : w2.cell? ⟨w.heap.size, 1, none⟩ = some (.map (some B)) := HB2.out.v.c1
  have hrun := NmM.look0 (hm.later HB2.out.b) hs hf
  have z0 : (0 : Int) ≤ (j : Int) := by omega
  have z1 : (j : Int) < 200 := by omega
  have x0 := HM2.out.cl hj
  have f0 := HM2.out.fz j
  have hz2 := HB.out.z.lt
  obtain ⟨w3, hw3⟩ : ∃ w3, w3 = w2.setCell ⟨w1.heap.size, j, none⟩ (.bool true) := ⟨_, rfl⟩
  have HE3 := (show Hid (w2.setCell ⟨w1.heap.size, j, none⟩ (.bool true) = w3) from hw3.symm)
  have HM3 := (show Hid (w3.rangeAt w1.heap.size 0 (mkL (upM (fun _ => false) j true))) from by rw [hw3]; exact (HM2.out.set true).at')
  have HB3 := (show Hid (MX w3 (w.heap.size + 1 + 1) (fun _ => false) ∧ Below w.heap.size w w3) from by
    rw [hw3]
    have hs1 := HB.out.b.size
    exact ⟨HB2.out.z.same (heap_setCell_other _ ⟨w1.heap.size, j, none⟩ _ _ (show w.heap.size + 1 + 1 ≠ w1.heap.size by omega)), HB2.out.b.setCell (p := ⟨w1.heap.size, j, none⟩) (show w.heap.size ≤ w1.heap.size from hs1) _⟩)
  have HEq := (show Hid ((mkA fun q => decide (fdG gs n.tx = some q)) = mkA (upM (fun _ => false) j true)) from mkA_ext fun q _ => by
    unfold upM
    rw [hf]
    by_cases e : q = j
    · subst e; rw [if_pos rfl, decide_eq_true rfl]
    · rw [if_neg e, decide_eq_false (fun q2 => e (Option.some.inj q2).symm)])
  rw [HEq.out]
  have t6 : (n.op == 6) = true := by rw [h]; rfl
  generalize upM (fun _ => false) j true = g at HM3 HEq ⊢
  clear hw1 hw2 hw3 hb2 hm hf hs HB HB2 HM2 h HEq hz2
  go_enter Tryz.func42, Tryz.ntmps42
  go_wp2_with (first | rw [HE1.out] | rw [HE2.out] | rw [HE3.out] | refine wpList_loadM rfl _ rfl w1.heap.size 0 g rfl HM3.out ?_ | refine wpList_storeM rfl _ _ rfl (w.heap.size + 1 + 1) (fun _ => false) g rfl rfl HB3.out.1 ?_)
  refine ret_mx (s := 6) (b := w.heap.size + 1 + 1) (by rfl) (by rfl) (by rfl) (HB3.out.1.all g) ?_
  exact ⟨rfl, below_setRow HB3.out.2 (by omega) _⟩

/-- Long loads and stores, kept whole in a walk. -/
def LdV (v : Value) : Sem Value := Instr.loadAt 87 v
def StV (p v : Value) : Sem Unit := Instr.storeAt 87 p v
theorem ld_fold (v : Value) : Instr.loadAt 87 v = LdV v := rfl
theorem st_fold (p v : Value) : Instr.storeAt 87 p v = StV p v := rfl
def OkR (W : World) (b o : Nat) (L : List Value) : Prop := L.length = 200 ∧ W.rangeAt b o L
def ldR (W : World) (b o : Nat) : Value := .agg ((List.range 200).map fun j => (W.cell? ⟨b, o + j, none⟩).getD undef).toArray
def IsR2 (W : World) (b o : Nat) : Prop := ∃ L, OkR W b o L
theorem OkR.val {W : World} {b o : Nat} {L : List Value} (h : OkR W b o L) : ldR W b o = .agg L.toArray := by
  unfold ldR
  congr 2
  apply List.ext_getElem?
  intro j
  rw [List.getElem?_map]
  by_cases hj : j < 200
  · rw [List.getElem?_range hj]
    obtain ⟨x, hx⟩ : ∃ x, L[j]? = some x := ⟨_, List.getElem?_eq_getElem (by rw [h.1]; exact hj)⟩
    rw [hx]
    show some ((W.cell? ⟨b, o + j, none⟩).getD undef) = some x
    rw [h.2 j x hx]
    rfl
  · rw [List.getElem?_eq_none (by rw [List.length_range]; omega), List.getElem?_eq_none (by rw [h.1]; omega)]
    rfl
theorem ld_run {W : World} {b o : Nat} (h : IsR2 W b o) : Sem.run Tryz.prog (LdV (.pointer (some ⟨b, o, none⟩))) W = .ok (ldR W b o) W := by
  obtain ⟨L, hL⟩ := h
  rw [hL.val]
  exact run_loadAt_mid W b o 87 L (.array 200 4) hL.2 Tryz.underlying87 rfl (by rw [hL.1]; exact Tryz.size87)
/-- Marks may be written there. -/
def OkS (W : World) (b : Nat) : Prop := ∃ f, MX W b f
def IsM (L : List Value) : Prop := ∃ f, L = mkL f
theorem st_run {W : World} {b : Nat} {L : List Value} (h : OkS W b) (hl : IsM L) : Sem.run Tryz.prog (StV (.pointer (some ⟨b, 0, none⟩)) (.agg L.toArray)) W = .ok () (W.setRow b L.toArray) := by
  obtain ⟨f, hf⟩ := h
  obtain ⟨g, rfl⟩ := hl
  have hr := run_storeVar_row (P := Tryz.prog) W b 87 87 (mkA f) (mkA g) hf.heap (by rw [mkA_size]; exact Tryz.size87) (by rw [mkA_size, mkA_size]) (mkA_one g)
  unfold StV
  simp only [Instr.storeAt, Instr.sureAddr, Sem.run_bind, Sem.run_pure, Result.andThen_ok]
  exact hr
attribute [local go_sem ↓] ld_fold st_fold
attribute [local go_sem] ld_run st_run
set_option maxRecDepth 100000 in
set_option maxHeartbeats 16000000 in
theorem begins_7 (n : Nd) (r m k : Value) (A : Option Addr) (c : Nat) (xb yb : Bool) (xf yf : Nat → Bool) (h : n.op = 7) (hx : xb = true) (w : World) (hp : RdP w A [(xb, xf), (yb, yf)]) : Calls Tryz.prog 42 #[.agg #[r, m, k], ndG n, .slice A 2 c] w fun e w' => e = .returned (.agg (mkA fun q => xf q || yf q)) ∧ Below w.heap.size w w' := by
  have hv := zero_mk
  have hsz := mkA_size (fun _ => false)
  obtain ⟨w1, hw1⟩ : ∃ w1, w1 = ((w.alloc (.cells #[r, m, k] 66)).alloc (ndO n)).alloc (.cells (mkA fun _ => false) 87) := ⟨_, rfl⟩
  have HE1 := (show Hid (((w.alloc (.cells #[r, m, k] 66)).alloc (.cells #[.int .i64 n.op, .int .i64 n.nn, .string n.tx, .int .u64 n.s0, .int .u64 n.s1, .int .u64 n.s2, .int .u64 n.s3] 57)).alloc (.cells (mkA fun _ => false) 87) = w1) from hw1.symm)
  have HB := (show Hid (Bx3 w w1 r m k n (fun _ => false)) from by rw [hw1]; exact Bx3.start w r m k n)
  have q0 : w1.cell? ⟨w.heap.size + 1, 0, none⟩ = some (.int .i64 n.op) := HB.out.n.nb.c0
  obtain ⟨g, o, rfl, hg, hc, hr⟩ := hp 0 (xb, xf) rfl
  obtain ⟨g2, o2, e2, hg2, hc2, hr2⟩ := hp 1 (yb, yf) rfl
  cases e2
  rw [Nat.zero_mul, Nat.add_zero] at hc hr
  have hr : w.rangeAt g (o + 1) (mkL xf) := hr
  have hr2 : w.rangeAt g (o + 1 * 201 + 1) (mkL yf) := hr2
  rw [Nat.one_mul] at hr2
  have hb1 := HB.out.b
  have p0 : w1.cell? ⟨g, o, none⟩ = some (.bool xb) := (hb1.cell (p := ⟨g, o, none⟩) hg).trans hc
  obtain ⟨hf, hhf⟩ : ∃ hf : Nat → Bool, hf = fun q => xf q || yf q := ⟨_, rfl⟩
  obtain ⟨Lx, hLx⟩ : ∃ Lx, Lx = mkL xf := ⟨_, rfl⟩
  obtain ⟨Ly, hLy⟩ : ∃ Ly, Ly = mkL yf := ⟨_, rfl⟩
  obtain ⟨Lh, hLh⟩ : ∃ Lh, Lh = mkL hf := ⟨_, rfl⟩
  have HR1 := (show Hid (w1.rangeAt g (o + 1) Lx) from by rw [hLx]; exact range_below hr hg hb1)
  have HR2 := (show Hid (w1.rangeAt g (o + 202) Ly) from by rw [hLy]; exact range_below hr2 hg hb1)
  have HO := (show Hid (∀ W : World, Calls Tryz.prog 59 #[.agg Lx.toArray, .agg Ly.toArray] W fun e w' => e = .returned (.agg Lh.toArray) ∧ Below W.heap.size W w') from fun W => by
    rw [hLx, hLy, hLh, hhf]
    exact or_any xf yf W)
  have hg1 := Nat.lt_of_lt_of_le hg hb1.size
  have HF := (show Hid (∀ w4, Below w1.drew.heap.size w1.drew w4 → Hid (Bx3 w w4 r m k n (fun _ => false)) ∧ OkS w4 (w.heap.size + 1 + 1)) from fun w4 h4 => by
    have h5 : Below w1.heap.size w1 w4 := ⟨h4.os, h4.tape, h4.output, h4.size, h4.block⟩
    exact ⟨HB.out.later h5, ⟨_, (HB.out.later h5).z⟩⟩)
  have HEnd := (show Hid (∀ w4, Bx3 w w4 r m k n (fun _ => false) → MX (w4.setRow (w.heap.size + 1 + 1) Lh.toArray) (w.heap.size + 1 + 1) (fun q => xf q || yf q) ∧ Below w.heap.size w (w4.setRow (w.heap.size + 1 + 1) Lh.toArray)) from fun w4 h4 => by
    rw [hLh, ← hhf]
    exact h4.ret hf)
  have l1 : Lx.length = 200 := by rw [hLx, mkL_len]
  have l2 : Ly.length = 200 := by rw [hLy, mkL_len]
  have hd : Below w1.heap.size w1 w1.drew := (Below.refl _ _).drew
  have k1 : IsR2 w1.drew g (o + 1) := ⟨Lx, l1, range_below HR1.out hg1 hd⟩
  have k2 : IsR2 w1.drew g (o + 202) := ⟨Ly, l2, range_below HR2.out hg1 hd⟩
  have v1 : ldR w1.drew g (o + 1) = .agg Lx.toArray := OkR.val ⟨l1, range_below HR1.out hg1 hd⟩
  have v2 : ldR w1.drew g (o + 202) = .agg Ly.toArray := OkR.val ⟨l2, range_below HR2.out hg1 hd⟩
  have m3 : IsM Lh := ⟨hf, hLh⟩
  subst hx
  have t6 : (n.op == 6) = false := by rw [h]; rfl
  have t7 : (n.op == 7) = true := by rw [h]; rfl
  clear h hw1 hc hr hc2 hr2 hb1 HB hp hg hg2 hhf hLx hLy hLh hg1 hd l1 l2 HR1 HR2
  go_enter Tryz.func42, Tryz.ntmps42
  go_wp2_with (first | rw [HE1.out])
  go_region_law (refine step_call2 enters_or rfl _ _ _ _ (by rfl) (.agg Lx.toArray) (.agg Ly.toArray) (by rfl) (by rfl) ?_; with_reducible refine (HO.out _).mono ?_; rintro e w4 ⟨rfl, b4⟩; refine ⟨_, rfl, ?_⟩; obtain ⟨HB4, s4⟩ := HF.out w4 b4)
  all_goals
    go_wp2_with fail
    refine ret_mx (s := 6) (b := w.heap.size + 1 + 1) (by rfl) (by rfl) (by rfl) (HEnd.out w4 HB4.out).1 ?_
    exact ⟨rfl, (HEnd.out w4 HB4.out).2⟩
set_option maxRecDepth 100000 in
set_option maxHeartbeats 16000000 in
theorem begins_8 (n : Nd) (r m k : Value) (A : Option Addr) (c : Nat) (xb yb : Bool) (xf yf : Nat → Bool) (h : n.op = 8) (w : World) (hp : RdP w A [(xb, xf), (yb, yf)]) : Calls Tryz.prog 42 #[.agg #[r, m, k], ndG n, .slice A 2 c] w fun e w' => e = .returned (.agg (mkA fun q => xf q || yf q)) ∧ Below w.heap.size w w' := by
  have hv := zero_mk
  have hsz := mkA_size (fun _ => false)
  obtain ⟨w1, hw1⟩ : ∃ w1, w1 = ((w.alloc (.cells #[r, m, k] 66)).alloc (ndO n)).alloc (.cells (mkA fun _ => false) 87) := ⟨_, rfl⟩
  have HE1 := (show Hid (((w.alloc (.cells #[r, m, k] 66)).alloc (.cells #[.int .i64 n.op, .int .i64 n.nn, .string n.tx, .int .u64 n.s0, .int .u64 n.s1, .int .u64 n.s2, .int .u64 n.s3] 57)).alloc (.cells (mkA fun _ => false) 87) = w1) from hw1.symm)
  have HB := (show Hid (Bx3 w w1 r m k n (fun _ => false)) from by rw [hw1]; exact Bx3.start w r m k n)
  have q0 : w1.cell? ⟨w.heap.size + 1, 0, none⟩ = some (.int .i64 n.op) := HB.out.n.nb.c0
  obtain ⟨g, o, rfl, hg, hc, hr⟩ := hp 0 (xb, xf) rfl
  obtain ⟨g2, o2, e2, hg2, hc2, hr2⟩ := hp 1 (yb, yf) rfl
  cases e2
  rw [Nat.zero_mul, Nat.add_zero] at hc hr
  have hr : w.rangeAt g (o + 1) (mkL xf) := hr
  have hr2 : w.rangeAt g (o + 1 * 201 + 1) (mkL yf) := hr2
  rw [Nat.one_mul] at hr2
  have hb1 := HB.out.b
  have p0 : w1.cell? ⟨g, o, none⟩ = some (.bool xb) := (hb1.cell (p := ⟨g, o, none⟩) hg).trans hc
  obtain ⟨hf, hhf⟩ : ∃ hf : Nat → Bool, hf = fun q => xf q || yf q := ⟨_, rfl⟩
  obtain ⟨Lx, hLx⟩ : ∃ Lx, Lx = mkL xf := ⟨_, rfl⟩
  obtain ⟨Ly, hLy⟩ : ∃ Ly, Ly = mkL yf := ⟨_, rfl⟩
  obtain ⟨Lh, hLh⟩ : ∃ Lh, Lh = mkL hf := ⟨_, rfl⟩
  have HR1 := (show Hid (w1.rangeAt g (o + 1) Lx) from by rw [hLx]; exact range_below hr hg hb1)
  have HR2 := (show Hid (w1.rangeAt g (o + 202) Ly) from by rw [hLy]; exact range_below hr2 hg hb1)
  have HO := (show Hid (∀ W : World, Calls Tryz.prog 59 #[.agg Lx.toArray, .agg Ly.toArray] W fun e w' => e = .returned (.agg Lh.toArray) ∧ Below W.heap.size W w') from fun W => by
    rw [hLx, hLy, hLh, hhf]
    exact or_any xf yf W)
  have hg1 := Nat.lt_of_lt_of_le hg hb1.size
  have HF := (show Hid (∀ w4, Below w1.drew.heap.size w1.drew w4 → Hid (Bx3 w w4 r m k n (fun _ => false)) ∧ OkS w4 (w.heap.size + 1 + 1)) from fun w4 h4 => by
    have h5 : Below w1.heap.size w1 w4 := ⟨h4.os, h4.tape, h4.output, h4.size, h4.block⟩
    exact ⟨HB.out.later h5, ⟨_, (HB.out.later h5).z⟩⟩)
  have HEnd := (show Hid (∀ w4, Bx3 w w4 r m k n (fun _ => false) → MX (w4.setRow (w.heap.size + 1 + 1) Lh.toArray) (w.heap.size + 1 + 1) (fun q => xf q || yf q) ∧ Below w.heap.size w (w4.setRow (w.heap.size + 1 + 1) Lh.toArray)) from fun w4 h4 => by
    rw [hLh, ← hhf]
    exact h4.ret hf)
  have l1 : Lx.length = 200 := by rw [hLx, mkL_len]
  have l2 : Ly.length = 200 := by rw [hLy, mkL_len]
  have hd : Below w1.heap.size w1 w1.drew := (Below.refl _ _).drew
  have k1 : IsR2 w1.drew g (o + 1) := ⟨Lx, l1, range_below HR1.out hg1 hd⟩
  have k2 : IsR2 w1.drew g (o + 202) := ⟨Ly, l2, range_below HR2.out hg1 hd⟩
  have v1 : ldR w1.drew g (o + 1) = .agg Lx.toArray := OkR.val ⟨l1, range_below HR1.out hg1 hd⟩
  have v2 : ldR w1.drew g (o + 202) = .agg Ly.toArray := OkR.val ⟨l2, range_below HR2.out hg1 hd⟩
  have m3 : IsM Lh := ⟨hf, hLh⟩
  have t6 : (n.op == 6) = false := by rw [h]; rfl
  have t7 : (n.op == 7) = false := by rw [h]; rfl
  have t8 : (n.op == 8) = true := by rw [h]; rfl
  clear h hw1 hc hr hc2 hr2 hb1 HB hp hg hg2 hhf hLx hLy hLh hg1 hd l1 l2 HR1 HR2
  go_enter Tryz.func42, Tryz.ntmps42
  go_wp2_with (first | rw [HE1.out])
  go_region_law (refine step_call2 enters_or rfl _ _ _ _ (by rfl) (.agg Lx.toArray) (.agg Ly.toArray) (by rfl) (by rfl) ?_; with_reducible refine (HO.out _).mono ?_; rintro e w4 ⟨rfl, b4⟩; refine ⟨_, rfl, ?_⟩; obtain ⟨HB4, s4⟩ := HF.out w4 b4)
  all_goals
    go_wp2_with fail
    refine ret_mx (s := 6) (b := w.heap.size + 1 + 1) (by rfl) (by rfl) (by rfl) (HEnd.out w4 HB4.out).1 ?_
    exact ⟨rfl, (HEnd.out w4 HB4.out).2⟩
end Go.Proofs.YtbipjdgholdhcabGreat.N

namespace Go.Proofs.YtbipjdgholdhcabGreat.N
open Go.RowKit Go.Maps
open Go.Proofs.YtbipjdgholdhcabGreat.T

open U (below_grown own_get own_slice)
/-- A part's cells. -/
def hpV (p : Hp) : List Value := .bool p.1 :: mkL p.2
def hpc (l : List Hp) : List Value := l.flatMap hpV
theorem hpV_len (p : Hp) : (hpV p).length = 201 := by unfold hpV; rw [List.length_cons, mkL_len]
theorem hpV_one (p : Hp) : ∀ u ∈ hpV p, u.oneCell' = true := fun u hu => by
  unfold hpV at hu
  rcases List.mem_cons.1 hu with e | e
  · rw [e]; rfl
  · exact mkL_one _ u e
theorem hpc_app (a b : List Hp) : hpc (a ++ b) = hpc a ++ hpc b := List.flatMap_append
theorem hpc_one (p : Hp) : hpc [p] = hpV p := by unfold hpc; rw [List.flatMap_cons, List.flatMap_nil, List.append_nil]
theorem hpc_len (l : List Hp) : (hpc l).length = l.length * 201 := by
  induction l with
  | nil => rfl
  | cons a l ih => show (hpV a ++ hpc l).length = _; rw [List.length_append, ih, List.length_cons, hpV_len]; omega
theorem hpc_get (l : List Hp) : ∀ (j : Nat) (p : Hp), l[j]? = some p → ∀ i, i < 201 → (hpc l)[j * 201 + i]? = (hpV p)[i]? := by
  induction l with
  | nil => intro j p h; cases h
  | cons a l ih =>
    intro j p h i hi
    have e : hpc (a :: l) = hpV a ++ hpc l := rfl
    rw [e]
    cases j with
    | zero =>
      cases h
      rw [Nat.zero_mul, Nat.zero_add, List.getElem?_append_left (by rw [hpV_len]; exact hi)]
    | succ j =>
      have h2 : l[j]? = some p := by simpa using h
      rw [List.getElem?_append_right (by rw [hpV_len]; omega), hpV_len, show (j + 1) * 201 + i - 201 = j * 201 + i from by omega]
      exact ih j p h2 i hi
/-- What is known of the parts that belong to no node yet. -/
def hpS (E : Nat → Hp) (st : List Pt) : List Hp := (st.map fun p => E p.2.1).reverse
theorem hpS_len (E : Nat → Hp) (st : List Pt) : (hpS E st).length = st.length := by unfold hpS; rw [List.length_reverse, List.length_map]
theorem hpS_cons (E : Nat → Hp) (p : Pt) (st : List Pt) : hpS E (p :: st) = hpS E st ++ [E p.2.1] := by unfold hpS; rw [List.map_cons, List.reverse_cons]
theorem hpS_split (E : Nat → Hp) (st : List Pt) (a : Nat) : hpS E st = hpS E (st.drop a) ++ hpS E (st.take a) := by
  unfold hpS
  rw [← List.reverse_append, ← List.map_append, List.take_append_drop]
theorem hp_read {W : World} {B g n cap : Nat} {l : List Hp} (h : W.ownsRow B 90 201 (.slice (some ⟨g, 0, none⟩) n cap) n (hpc l)) (a b : List Hp) (hl : l = a ++ b) : RdP W (some ⟨g, a.length * 201, none⟩) b := fun j p hp => by
  have hc := h.cells (g := g) rfl
  have hg : l[a.length + j]? = some p := by rw [hl, List.getElem?_append_right (by omega), Nat.add_sub_cancel_left]; exact hp
  have key : ∀ (i : Nat) u, i < 201 → (hpV p)[i]? = some u → W.cell? ⟨g, a.length * 201 + j * 201 + i, none⟩ = some u := fun i u hi hu => by
    have := hc ((a.length + j) * 201 + i) u (by rw [hpc_get l _ p hg i hi]; exact hu)
    rw [Addr.add_lit, Nat.zero_add, Nat.add_mul] at this
    exact this
  refine ⟨g, a.length * 201, rfl, (h.lt g rfl).2, key 0 _ (by omega) rfl, fun i u hu => ?_⟩
  have hi := (List.getElem?_eq_some_iff.1 hu).1
  rw [mkL_len] at hi
  rw [Nat.add_assoc, Nat.add_comm 1 i]
  exact key (i + 1) u (by omega) hu
theorem hp_front {W : World} {B m r cA : Nat} {A : Option Addr} {l a b : List Hp} (h : W.ownsRow B 90 201 (.slice A m cA) m (hpc l)) (hl : l = a ++ b) (ha : a.length = r) (hm : r ≤ m) (hA : A = none ∧ m = 0 ∧ cA = 0 ∨ ∃ g, A = some ⟨g, 0, none⟩) : W.ownsRow B 90 201 (.slice A r cA) r (hpc a) := by
  rcases hA with ⟨rfl, h2, h3⟩ | ⟨g, rfl⟩
  · have e : r = 0 := by omega
    subst e
    have ea : a = [] := List.eq_nil_of_length_eq_zero ha
    rw [ea, h3]
    exact World.ownsRow_nil _ _ _ _
  · have h2 := T.own_cut h hm
    have e : (hpc l).take (r * 201) = hpc a := by
      rw [hl, hpc_app, List.take_append_of_le_length (by rw [hpc_len, ha]; exact Nat.le_refl _)]
      exact List.take_of_length_le (by rw [hpc_len, ha]; exact Nat.le_refl _)
    rw [e] at h2
    exact h2
/-- A part in a box. -/
structure PX (W : World) (b : Nat) (p : Hp) : Prop where
  heap : W.heap[b]? = some (.cells (hpV p).toArray 90 (0, 0))
theorem PX.lt {W : World} {b : Nat} {p : Hp} (h : PX W b p) : b < W.heap.size := (Array.getElem?_eq_some_iff.1 h.heap).1
theorem PX.below {W W' : World} {b : Nat} {p : Hp} (h : PX W b p) (hb : Below W.heap.size W W') : PX W' b p := ⟨(hb.block b h.lt).trans h.heap⟩
def hp0 : Hp := (false, fun _ => false)
theorem Tryz.infoPt : (Tryz.prog.info? 90).map (fun i => (i.zero, i.size, i.bytes)) = some (some (.agg (hpV hp0).toArray), 201, 201) := by kernel_rfl
theorem Tryz.sizePt : (Tryz.prog.info? 90).map (·.size) = some 201 := by kernel_rfl
/-- Parts, kept whole in a walk. -/
def LdP (v : Value) : Sem Value := Instr.loadAt 90 v
def StP (p v : Value) : Sem Unit := Instr.storeAt 90 p v
def BdP (v : Array (Nat × Value)) : Sem Value := Instr.build 90 v
def BsP (n : Nat) (v : Array (Nat × Value)) : Sem Value := Instr.buildSlice 84 n v
def AlP (b : Bool) (v : Value) : Sem Value := Instr.alloc 90 b v
theorem ldp_fold (v : Value) : Instr.loadAt 90 v = LdP v := rfl
theorem stp_fold (p v : Value) : Instr.storeAt 90 p v = StP p v := rfl
theorem bdp_fold (v : Array (Nat × Value)) : Instr.build 90 v = BdP v := rfl
theorem bsp_fold (n : Nat) (v : Array (Nat × Value)) : Instr.buildSlice 84 n v = BsP n v := rfl
theorem alp_fold (b : Bool) (v : Value) : Instr.alloc 90 b v = AlP b v := rfl
theorem bdp_run (b : Bool) (f : Nat → Bool) (W : World) : Sem.run Tryz.prog (BdP #[(0, .bool b), (1, .agg (mkA f))]) W = .ok (.agg (hpV (b, f)).toArray) W := by kernel_rfl
theorem bsp_run (b : Bool) (f : Nat → Bool) (W : World) : Sem.run Tryz.prog (BsP 1 #[(0, .agg (hpV (b, f)).toArray)]) W = .ok (.slice (some ⟨W.heap.size, 0, none⟩) 1 1) (W.alloc (.cells (hpV (b, f)).toArray 90)) := by kernel_rfl
theorem alp_run (W : World) : Sem.run Tryz.prog (AlP true (.tuple #[])) W = .ok (.pointer (some ⟨W.heap.size, 0, none⟩)) (W.alloc (.cells (hpV hp0).toArray 90)) := by kernel_rfl
def OkP (W : World) (b : Nat) : Prop := ∃ p, PX W b p
def ldPv (W : World) (b : Nat) : Value := match W.heap[b]? with
  | some (.cells c _ _) => .agg c
  | _ => undef
theorem PX.val {W : World} {b : Nat} {p : Hp} (h : PX W b p) : ldPv W b = .agg (hpV p).toArray := by unfold ldPv; rw [h.heap]
theorem ldp_run {W : World} {b : Nat} (h : OkP W b) : Sem.run Tryz.prog (LdP (.pointer (some ⟨b, 0, none⟩))) W = .ok (ldPv W b) W := by
  obtain ⟨p, hp⟩ := h
  have hs : (hpV p).toArray.size = 201 := by rw [List.size_toArray, hpV_len]
  obtain ⟨fs, hu⟩ : ∃ fs, Tryz.prog.underlying 90 = some (.struct fs) := ⟨_, Tryz.underlying90⟩
  have hr := run_loadVar_row (P := Tryz.prog) W b 90 90 (hpV p).toArray (0, 0) (.struct fs) hp.heap hu rfl (by rw [hs]; exact Tryz.sizePt)
  rw [hp.val]
  unfold LdP
  simp only [Instr.loadAt, Instr.sureAddr, Sem.run_bind, Sem.run_pure, Result.andThen_ok]
  exact hr
theorem stp_run {W : World} {b : Nat} {c : Bool} {f : Nat → Bool} (h : OkP W b) : Sem.run Tryz.prog (StP (.pointer (some ⟨b, 0, none⟩)) (.agg (hpV (c, f)).toArray)) W = .ok () (W.setRow b (hpV (c, f)).toArray) := by
  obtain ⟨p, hp⟩ := h
  have hs : ∀ q : Hp, (hpV q).toArray.size = 201 := fun q => by rw [List.size_toArray, hpV_len]
  have hr := run_storeVar_row (P := Tryz.prog) W b 90 90 (hpV p).toArray (hpV (c, f)).toArray hp.heap (by rw [hs]; exact Tryz.sizePt) (by rw [hs, hs]) (all_oneCell_toArray (hpV_one _))
  unfold StP
  simp only [Instr.storeAt, Instr.sureAddr, Sem.run_bind, Sem.run_pure, Result.andThen_ok]
  exact hr
/-- Any node. -/
theorem begins_any {gs : GL} (n : Nd) (r k : Value) (B : Nat) (A : Option Addr) (c : Nat) (ps : List Hp) (hal : alE n = 0) (hs : n.tx.size ≤ 140737488355328) (hf : n.op = 6 → ∃ j, fdG gs n.tx = some j) (hgl : gs.length ≤ 200) (hl : ps.length = arN n.op) (w : World) (hm : NmM w B gs) (hp : RdP w A ps) : Calls Tryz.prog 42 #[.agg #[r, .map (some B), k], ndG n, .slice A (arN n.op) c] w fun e w' => e = .returned (.agg (mkA (hbN n ((ps[0]?).getD hp0).2 ((ps[1]?).getD hp0).2 ((ps[0]?).getD hp0).1 (fdG gs)))) ∧ Below w.heap.size w w' := by
  obtain ⟨hop, _⟩ := al_facts hal
  unfold hbN
  by_cases c6 : n.op = 6
  · rw [if_pos c6]
    obtain ⟨j, hj⟩ := hf c6
    exact begins_6 n r k B A _ c c6 hs hj (Nat.lt_of_lt_of_le (fdG_lt hj) hgl) w hm
  rw [if_neg c6]
  by_cases c7 : n.op = 7
  · have a2 := arN_2 (n := n) (.inl c7)
    rw [if_pos c7]
    rw [a2] at hl ⊢
    obtain ⟨x, y, rfl⟩ : ∃ x y, ps = [x, y] := by
      match ps, hl with
      | [x, y], _ => exact ⟨x, y, rfl⟩
    obtain ⟨xb, xf⟩ := x
    obtain ⟨yb, yf⟩ := y
    cases xb with
    | true => exact begins_7 n r (.map (some B)) k A c true yb xf yf c7 rfl w hp
    | false =>
      refine begins_1 n r (.map (some B)) k A 2 c (false, xf) c6 (fun _ => rfl) (by omega) (fun q => by omega) (by omega) (by omega) ?_ w rfl
      obtain ⟨g, o, h1, h2, h3, h4⟩ := hp 0 (false, xf) rfl
      rw [Nat.zero_mul, Nat.add_zero] at h3 h4
      exact ⟨g, o, h1, h2, h3, h4⟩
  rw [if_neg c7]
  by_cases c8 : n.op = 8
  · have a2 := arN_2 (n := n) (.inr c8)
    rw [if_pos c8]
    rw [a2] at hl ⊢
    obtain ⟨x, y, rfl⟩ : ∃ x y, ps = [x, y] := by
      match ps, hl with
      | [x, y], _ => exact ⟨x, y, rfl⟩
    obtain ⟨xb, xf⟩ := x
    obtain ⟨yb, yf⟩ := y
    exact begins_8 n r (.map (some B)) k A c xb yb xf yf c8 w hp
  rw [if_neg c8]
  by_cases cz : (n.op = 14 ∨ n.op = 16) ∧ n.nn = 0
  · rw [if_pos cz]
    exact begins_z n r (.map (some B)) k A _ c cz.1 cz.2 w
  rw [if_neg cz]
  by_cases c17 : n.op ≤ 6 ∨ n.op = 17
  · rw [if_pos c17]
    have a0 := arN_0 hop c17
    rw [a0]
    exact begins_0 n r (.map (some B)) k A 0 c c6 c7 c8 (by omega) (by omega) rfl w
  · rw [if_neg c17]
    have a1 := arN_1 hop c17 (by omega)
    rw [a1] at hl ⊢
    obtain ⟨x, rfl⟩ : ∃ x, ps = [x] := by
      match ps, hl with
      | [x], _ => exact ⟨x, rfl⟩
    refine begins_1 n r (.map (some B)) k A 1 c x c6 (fun q => absurd q c7) c8 cz (by omega) (by omega) ?_ w rfl
    obtain ⟨g, o, h1, h2, h3, h4⟩ := hp 0 x rfl
    rw [Nat.zero_mul, Nat.add_zero] at h3 h4
    exact ⟨g, o, h1, h2, h3, h4⟩
end Go.Proofs.YtbipjdgholdhcabGreat.N

namespace Go.Proofs.YtbipjdgholdhcabGreat.N
open Go.RowKit Go.Maps
open Go.Proofs.YtbipjdgholdhcabGreat.T

open U (below_grown)
set_option maxRecDepth 100000 in
set_option maxHeartbeats 4000000 in
/-- slices.Clone of a pattern. -/
theorem clone_any (ad : Addr) (c : Nat) (L : List Nd) (w : World) (h0 : L ≠ []) (hl : L.length * 64 ≤ 140737488351232) (hc : ∀ (j : Nat) u, (ndc L)[j]? = some u → w.cell? (ad.add j) = some u) :
    Calls Tryz.prog 74 #[.slice (some ad) L.length c] w fun e w' => (∃ g cap, e = .returned (.slice (some ⟨g, 0, none⟩) L.length cap) ∧ w'.ownsRow w.heap.size 57 7 (.slice (some ⟨g, 0, none⟩) L.length cap) L.length (ndc L)) ∧ Below w.heap.size w w' := by
  obtain ⟨i0, hinf, hz0, hz1, hz2⟩ := info_parts Tryz.info43
  have hq : ∀ (W : World) (a : Option Addr) (n c n2 c2 : Nat), (binOp .eql 50 (.slice a n c) (.slice none n2 c2)).run Tryz.prog W = .ok (.bool a.isNone) W := fun W a n c n2 c2 => Lib.run_eql_slice_nil W _ _ a n c n2 c2 Tryz.underlying50
  have hO := own_empty w
  have HB := (show Hid (Below w.heap.size w (w.alloc (.cells #[] 57))) from below_box _ _)
  have HC := (show Hid (∀ (j : Nat) u, (ndc L)[j]? = some u → (w.alloc (.cells #[] 57)).cell? (ad.add j) = some u) from fun j u hj => by
    have h1 := hc j u hj
    have h2 := World.block_lt_of_cell? w _ h1
    exact ((below_box w (.cells #[] 57)).cell (p := ad.add j) h2).trans h1)
  have HI := (show Hid ((ndc L).length = L.length * 7 ∧ ∀ u ∈ ndc L, u.oneCell' = true) from ⟨ndc_len L, ndc_cell L⟩)
  have H0 := (show Hid (0 < L.length) from List.length_pos_iff.2 h0)
  clear hc h0
  go_enter Tryz.func74, Tryz.ntmps74
  go_wp2_with (at_builtin; refine wpList_append_own _ rfl _ _ 50 rfl w.heap.size 57 i0 zA 7 64 Tryz.underlying50 hinf hz0 hz1 hz2 rfl (by decide) _ _ _ rfl hO ad L.length c (ndc L) rfl HI.out.1 HC.out HI.out.2 ?c3 ?c4 ?c5 ?_)
  case c3 => unfold maxLen; omega
  case c4 => omega
  case c5 => simp
  intro v1 w1 hown hgrow _
  have HB1 := (show Hid (Below w.heap.size w w1) from HB.out.grown hgrow (by simp) (fun k e => (hO.lt k e).1))
  obtain ⟨g, cap, rfl, _⟩ := hown.form H0.out
  have HO := (show Hid (w1.ownsRow w.heap.size 57 7 (.slice (some ⟨g, 0, none⟩) L.length cap) L.length (ndc L)) from hown)
  clear hown hgrow HB HC HI hO
  go_wp2_with fail
  go_ret
  exact ⟨⟨g, cap, rfl, HO.out⟩, HB1.out⟩
/-- A node written over another in a row. -/
def nw7 (W : World) (g o : Nat) (n : Nd) : World := (((((((W.setCell ⟨g, o, none⟩ (.int .i64 n.op)).setCell ⟨g, o + 1, none⟩ (.int .i64 n.nn)).setCell ⟨g, o + 2, none⟩ (.string n.tx)).setCell ⟨g, o + 3, none⟩ (.int .u64 n.s0)).setCell ⟨g, o + 4, none⟩ (.int .u64 n.s1)).setCell ⟨g, o + 5, none⟩ (.int .u64 n.s2)).setCell ⟨g, o + 6, none⟩ (.int .u64 n.s3))
def ls7 (l : List Value) (o : Nat) (n : Nd) : List Value := ((((((l.set o (.int .i64 n.op)).set (o + 1) (.int .i64 n.nn)).set (o + 2) (.string n.tx)).set (o + 3) (.int .u64 n.s0)).set (o + 4) (.int .u64 n.s1)).set (o + 5) (.int .u64 n.s2)).set (o + 6) (.int .u64 n.s3)
theorem ls7_ndc (n : Nd) : ∀ (M : List Nd) (k : Nat), k < M.length → ls7 (ndc M) (k * 7) n = ndc (M.set k n) := by
  intro M
  induction M with
  | nil => intro k h; exact absurd h (Nat.not_lt_zero _)
  | cons a M ih =>
    intro k h
    cases k with
    | zero => rfl
    | succ k =>
      have h2 : k < M.length := by simpa using h
      rw [List.set_cons_succ, show ndc (a :: M.set k n) = ndV a ++ ndc (M.set k n) from rfl, ← ih k h2, show ndc (a :: M) = ndV a ++ ndc M from rfl, show (k + 1) * 7 = k * 7 + 7 from by omega]
      unfold ls7 ndV
      rw [show k * 7 + 7 + 1 = (k * 7 + 1) + 7 from by omega, show k * 7 + 7 + 2 = (k * 7 + 2) + 7 from by omega, show k * 7 + 7 + 3 = (k * 7 + 3) + 7 from by omega, show k * 7 + 7 + 4 = (k * 7 + 4) + 7 from by omega, show k * 7 + 7 + 5 = (k * 7 + 5) + 7 from by omega, show k * 7 + 7 + 6 = (k * 7 + 6) + 7 from by omega]
      simp only [List.cons_append, List.nil_append, List.set_cons_succ]
theorem nw7_own {W : World} {B g m cap k : Nat} {M : List Nd} (n : Nd) (h : W.ownsRow B 57 7 (.slice (some ⟨g, 0, none⟩) m cap) m (ndc M)) (hk : k < M.length) : (nw7 W g (k * 7) n).ownsRow B 57 7 (.slice (some ⟨g, 0, none⟩) m cap) m (ndc (M.set k n)) ∧ W.grownBy (nw7 W g (k * 7) n) (some g) := by
  rw [← ls7_ndc n M k hk]
  obtain ⟨a1, b1⟩ := h.stored (k * 7) (.int .i64 n.op)
  obtain ⟨a2, b2⟩ := a1.stored (k * 7 + 1) (.int .i64 n.nn)
  obtain ⟨a3, b3⟩ := a2.stored (k * 7 + 2) (.string n.tx)
  obtain ⟨a4, b4⟩ := a3.stored (k * 7 + 3) (.int .u64 n.s0)
  obtain ⟨a5, b5⟩ := a4.stored (k * 7 + 4) (.int .u64 n.s1)
  obtain ⟨a6, b6⟩ := a5.stored (k * 7 + 5) (.int .u64 n.s2)
  obtain ⟨a7, b7⟩ := a6.stored (k * 7 + 6) (.int .u64 n.s3)
  exact ⟨a7, (((((b1.trans b2).trans b3).trans b4).trans b5).trans b6).trans b7⟩
end Go.Proofs.YtbipjdgholdhcabGreat.N

namespace Go.Proofs.YtbipjdgholdhcabGreat.N
open Go.RowKit Go.Maps
open Go.Proofs.YtbipjdgholdhcabGreat.T

open U (below_grown)
theorem seL_at {nu : ByteArray → Bool} {L : List Nd} {k : Nat} {n : Nd} (hn : L[k]? = some n) : (((L.take k).map (seN nu) ++ L.drop k).set k (seN nu n)) = (L.take (k + 1)).map (seN nu) ++ L.drop (k + 1) := by
  have hk := (List.getElem?_eq_some_iff.1 hn).1
  have hl : ((L.take k).map (seN nu)).length = k := by rw [List.length_map, List.length_take]; omega
  rw [List.set_append_right _ _ (by omega), hl, Nat.sub_self, List.take_add_one, hn, List.map_append]
  have hd : L.drop k = n :: L.drop (k + 1) := by
    rw [List.drop_eq_getElem_cons hk]
    congr 1
    exact Option.some.inj ((List.getElem?_eq_getElem hk).symm.trans hn)
  rw [hd, List.set_cons_zero]
  simp
theorem seL_get {nu : ByteArray → Bool} {L : List Nd} {k : Nat} {n : Nd} (hn : L[k]? = some n) : ((L.take k).map (seN nu) ++ L.drop k)[k]? = some n := by
  have hk := (List.getElem?_eq_some_iff.1 hn).1
  have hl : ((L.take k).map (seN nu)).length = k := by rw [List.length_map, List.length_take]; omega
  rw [List.getElem?_append_right (by omega), hl, Nat.sub_self, List.getElem?_drop]
  exact hn
/-- While calls give way. -/
structure SeS (w wr : World) (r m kn : Value) (g cap n0 : Nat) (M : List Nd) : Prop where
  b : Below w.heap.size w wr
  x : VX wr w.heap.size r m kn
  o : wr.ownsRow (w.heap.size + 1) 57 7 (.slice (some ⟨g, 0, none⟩) n0 cap) n0 (ndc M)
  l : M.length = n0
  g1 : w.heap.size + 1 ≤ g
  g2 : g < wr.heap.size
theorem SeS.later {w wr w2 : World} {r m kn : Value} {g cap n0 : Nat} {M : List Nd} (h : SeS w wr r m kn g cap n0 M) (hb : Below wr.heap.size wr w2) : SeS w w2 r m kn g cap n0 M :=
  ⟨h.b.trans (hb.mono h.b.size), h.x.below hb, U.own_below h.o hb, h.l, h.g1, Nat.lt_of_lt_of_le h.g2 hb.size⟩
theorem SeS.put {w wr : World} {r m kn : Value} {g cap n0 k : Nat} {M : List Nd} (h : SeS w wr r m kn g cap n0 M) (hk : k < n0) (n : Nd) : SeS w (nw7 wr g (k * 7) n) r m kn g cap n0 (M.set k n) ∧ (∀ j, j ≠ g → (nw7 wr g (k * 7) n).heap[j]? = wr.heap[j]?) ∧ (nw7 wr g (k * 7) n).heap.size = wr.heap.size := by
  obtain ⟨h1, h2⟩ := nw7_own n h.o (by rw [h.l]; exact hk)
  have hz : (nw7 wr g (k * 7) n).heap.size = wr.heap.size := by unfold nw7; simp only [World.size_setCell]
  have hj : ∀ j, j ≠ g → (nw7 wr g (k * 7) n).heap[j]? = wr.heap[j]? := fun j hj => by
    unfold nw7
    exact ((((((heap_setCell_other _ ⟨g, _, none⟩ j _ hj).trans (heap_setCell_other _ ⟨g, _, none⟩ j _ hj)).trans (heap_setCell_other _ ⟨g, _, none⟩ j _ hj)).trans (heap_setCell_other _ ⟨g, _, none⟩ j _ hj)).trans (heap_setCell_other _ ⟨g, _, none⟩ j _ hj)).trans (heap_setCell_other _ ⟨g, _, none⟩ j _ hj)).trans (heap_setCell_other _ ⟨g, _, none⟩ j _ hj)
  have hg := h.g1
  refine ⟨⟨below_grown h.b h2 (fun k e => by cases e; omega), h.x.same (hj _ (by omega)), h1, by rw [List.length_set]; exact h.l, h.g1, by rw [hz]; exact h.g2⟩, hj, hz⟩
set_option maxRecDepth 100000 in
set_option maxHeartbeats 32000000 in
theorem settled_any {gs : GL} {now : List Em} {L : List Nd} (mb : Nat) (A Ak : Option Addr) (ad : Addr) (c ck cp : Nat) (hl : L.length ≤ 2048) (h0 : L ≠ []) (hsz : ∀ n ∈ L, n.tx.size ≤ 140737488355328) (hfd : ∀ n ∈ L, n.op = 6 → ∃ i, fdG gs n.tx = some i) (w : World) (hm : NmM w mb gs) (hk : RdE w Ak now) (hn : now.length = gs.length) (hL : RdN w (some ad) L) :
    Calls Tryz.prog 57 #[.agg #[.slice A gs.length c, .map (some mb), .slice Ak gs.length ck], .slice (some ad) L.length cp] w fun e w' => (∃ g cap, e = .returned (.slice (some ⟨g, 0, none⟩) L.length cap) ∧ w'.ownsRow w.heap.size 57 7 (.slice (some ⟨g, 0, none⟩) L.length cap) L.length (ndc (seL (lkB gs (now.map Em.nu)) L))) ∧ Below w.heap.size w w' := by
  obtain ⟨nu, hnu⟩ : ∃ nu, nu = lkB gs (now.map Em.nu) := ⟨_, rfl⟩
  obtain ⟨w1, hw1⟩ : ∃ w1, w1 = w.alloc (.cells #[.slice A gs.length c, .map (some mb), .slice Ak gs.length ck] 66) := ⟨_, rfl⟩
  have HE1 := (show Hid (w.alloc (.cells #[.slice A gs.length c, .map (some mb), .slice Ak gs.length ck] 66) = w1) from hw1.symm)
  have hb1 : Below w.heap.size w w1 := by rw [hw1]; exact below_box _ _
  have hs1 : w1.heap.size = w.heap.size + 1 := by rw [hw1, World.size_alloc]
  have hx1 : VX w1 w.heap.size (.slice A gs.length c) (.map (some mb)) (.slice Ak gs.length ck) := by rw [hw1]; exact VX.new w _ _ _
  have hml := hm.lt
  have HL := (show Hid (∀ (j : Nat) u, (ndc L)[j]? = some u → w1.cell? (ad.add j) = some u) from fun j u hj => in_cells (hL.below hb1 (Nat.le_refl _)) j u hj)
  have HCl := (show Hid (∀ _ : Unit, Calls Tryz.prog 74 #[.slice (some ad) L.length cp] w1 fun e w' => (∃ g cap, e = .returned (.slice (some ⟨g, 0, none⟩) L.length cap) ∧ w'.ownsRow w1.heap.size 57 7 (.slice (some ⟨g, 0, none⟩) L.length cap) L.length (ndc L)) ∧ Below w1.heap.size w1 w') from fun _ => clone_any ad cp L w1 h0 (by omega) HL.out)
  have HP := (show Hid (L ≠ [] ∧ Below w.heap.size w w1 ∧ w1.heap.size = w.heap.size + 1 ∧ VX w1 w.heap.size (.slice A gs.length c) (.map (some mb)) (.slice Ak gs.length ck)) from ⟨h0, hb1, hs1, hx1⟩)
  have HM := (show Hid (NmM w mb gs ∧ mb < w.heap.size ∧ RdE w Ak now ∧ now.length = gs.length) from ⟨hm, hml, hk, hn⟩)
  have HF := (show Hid (∀ n ∈ L, n.op = 6 → ∃ i e, fdG gs n.tx = some i ∧ now[i]? = some e ∧ e.nu = nu n.tx ∧ n.tx.size ≤ 140737488355328) from fun n hn6 h6 => by
    obtain ⟨i, hi⟩ := hfd n hn6 h6
    have hil : i < now.length := by rw [hn]; exact fdG_lt hi
    refine ⟨i, now[i], hi, List.getElem?_eq_getElem hil, ?_, hsz n hn6⟩
    rw [hnu]
    unfold lkB
    rw [hi]
    show _ = ((now.map Em.nu)[i]?).getD false
    rw [List.getElem?_map, List.getElem?_eq_getElem hil]
    rfl)
  have HR := (show Hid (∀ (g cap : Nat) (w' : World), w'.ownsRow w.heap.size 57 7 (.slice (some ⟨g, 0, none⟩) L.length cap) L.length (ndc (seL nu L)) → w'.ownsRow w.heap.size 57 7 (.slice (some ⟨g, 0, none⟩) L.length cap) L.length (ndc (seL (lkB gs (now.map Em.nu)) L))) from fun g cap w' h => by rw [← hnu]; exact h)
  clear hw1 hb1 hs1 hx1 hml hm hk hn hL hfd hsz HL hnu h0
  go_enter Tryz.func57, Tryz.ntmps57
  go_wp2_with (rw [HE1.out])
  clear HE1
  refine (HCl.out ()).mono ?_
  rintro e w2 ⟨⟨g, cap, rfl, ho⟩, b2⟩
  have hg := ho.lt g rfl
  have HS := (show Hid (SeS w w2 (.slice A gs.length c) (.map (some mb)) (.slice Ak gs.length ck) g cap L.length ((L.take 0).map (seN nu) ++ L.drop 0)) from by
    obtain ⟨h1, h2, h3, h4⟩ := HP.out
    rw [h3] at ho hg
    exact ⟨h2.trans (b2.mono h2.size), h4.below b2, ho, by simp, hg.1, hg.2⟩)
  clear ho hg b2 HCl HP
  go_wp2_with fail
  go_loopw [12] (fun t wr => ∃ k : Nat, k ≤ L.length ∧ t = .int .i64 (k : Int) ∧ Hid (SeS w wr (.slice A gs.length c) (.map (some mb)) (.slice Ak gs.length ck) g cap L.length ((L.take k).map (seN nu) ++ L.drop k))) (fun t _ => L.length - (intOf t).toNat)
  case atStart => exact ⟨0, Nat.zero_le _, by go_num, HS⟩
  case round =>
    obtain ⟨k, hk, rfl, HW⟩ := hrel
    clear HS
    by_cases hlt : k < L.length
    · obtain ⟨n, hn⟩ : ∃ n, L[k]? = some n := ⟨_, List.getElem?_eq_getElem hlt⟩
      have HSt := (show Hid ((((L.take k).map (seN nu) ++ L.drop k).set k (seN nu n)) = (L.take (k + 1)).map (seN nu) ++ L.drop (k + 1)) from seL_at hn)
      have HGt := (show Hid (((L.take k).map (seN nu) ++ L.drop k)[k]? = some n) from seL_get hn)
      have HF2 := (show Hid (n.op = 6 → ∃ i e, fdG gs n.tx = some i ∧ now[i]? = some e ∧ e.nu = nu n.tx ∧ n.tx.size ≤ 140737488355328) from HF.out n (List.mem_of_getElem? hn))
      clear hn
      generalize hM : (L.take k).map (seN nu) ++ L.drop k = M at HW HSt HGt
      clear hM
      generalize hM2 : (L.take (k + 1)).map (seN nu) ++ L.drop (k + 1) = M2 at HSt
      have HM2 := (show Hid ((L.take (k + 1)).map (seN nu) ++ L.drop (k + 1) = M2) from hM2)
      clear hM2
      obtain ⟨d0, d1, d2, d3, d4, d5, d6⟩ := own_ndl (xs := []) (by rw [List.append_nil]; exact HW.out.o) k n HGt.out
      rw [Nat.zero_add] at d0 d1 d2 d3 d4 d5 d6
      obtain ⟨w4, hw4⟩ : ∃ w4, w4 = wr.alloc (.cells #[.int .i64 n.op, .int .i64 n.nn, .string n.tx, .int .u64 n.s0, .int .u64 n.s1, .int .u64 n.s2, .int .u64 n.s3] 57) := ⟨_, rfl⟩
      have HE4 := (show Hid (wr.alloc (.cells #[.int .i64 n.op, .int .i64 n.nn, .string n.tx, .int .u64 n.s0, .int .u64 n.s1, .int .u64 n.s2, .int .u64 n.s3] 57) = w4) from hw4.symm)
      have hb4 : Below wr.heap.size wr w4 := by rw [hw4]; exact below_box _ _
      have HN4 := (show Hid (NX w4 wr.heap.size n) from by rw [hw4]; exact ⟨heap_alloc_new wr _⟩)
      have HS4 := (show Hid (SeS w w4 (.slice A gs.length c) (.map (some mb)) (.slice Ak gs.length ck) g cap L.length M) from HW.out.later hb4)
      have q0 : w4.cell? ⟨wr.heap.size, 0, none⟩ = some (.int .i64 n.op) := HN4.out.nb.c0
      have z0 : (0 : Int) ≤ (k : Int) := by omega
      have z1 : (k : Int) < (L.length : Int) := by omega
      have hgr := HW.out.g2
      clear hw4 hb4 HW
      by_cases h6 : n.op = 6
      · have t6 : (n.op != 6) = false := by rw [h6]; rfl
        obtain ⟨i, e, hi, he, hnu, hts⟩ := HF2.out h6
        have hil := (List.getElem?_eq_some_iff.1 he).1
        have hne : now ≠ [] := by rintro rfl; cases he
        obtain ⟨w5, hw5⟩ : ∃ w5, w5 = nw7 w4 g (k * 7) (zN 3) := ⟨_, rfl⟩
        have HE5 := (show Hid (nw7 w4 g (k * 7) (zN 3) = w5) from hw5.symm)
        unfold nw7 zN at HE5
        simp only at HE5
        obtain ⟨p1, p2, p3⟩ := HS4.out.put hlt (zN 3)
        rw [← hw5] at p1 p2 p3
        have HS5 := (show Hid (SeS w w5 (.slice A gs.length c) (.map (some mb)) (.slice Ak gs.length ck) g cap L.length (M.set k (zN 3))) from p1)
        have HN5 := (show Hid (NX w5 wr.heap.size n) from HN4.out.same (p2 _ (by omega)))
        have q2 : w5.cell? ⟨wr.heap.size, 2, none⟩ = some (.string n.tx) := HN5.out.nb.c2
        have v1 := HS5.out.x.c1
        have v2 := HS5.out.x.c2
        obtain ⟨ge, oe, rfl, lge, hEB⟩ := HM.out.2.2.1 hne
        obtain ⟨r0, _, _, _⟩ := (hEB i e he).same (HS5.out.b.block ge lge)
        have hrun := NmM.look0 (HM.out.1.same (HS5.out.b.block mb HM.out.2.1)) hts hi
        have z2 : (0 : Int) ≤ (i : Int) := by omega
        have z3 : (i : Int) < (gs.length : Int) := by have := HM.out.2.2.2; omega
        obtain ⟨e0', e1', e2', e3', e4', e5', e6'⟩ := own_ndl (xs := []) (by rw [List.append_nil]; exact HS4.out.o) k n HGt.out
        rw [Nat.zero_add] at e0' e1' e2' e3' e4' e5' e6'
        have f0 := HS4.out.o.frozenAt (k * 7)
        have f1 := HS4.out.o.frozenAt (k * 7 + 1)
        have f2 := HS4.out.o.frozenAt (k * 7 + 2)
        have f3 := HS4.out.o.frozenAt (k * 7 + 3)
        have f4 := HS4.out.o.frozenAt (k * 7 + 4)
        have f5 := HS4.out.o.frozenAt (k * 7 + 5)
        have f6 := HS4.out.o.frozenAt (k * 7 + 6)
        have H6 := (show Hid (n.op = 6) from h6)
        clear hw5 p1 p2 p3 hi he hts hne lge hEB hil HN4 HN5 h6
        cases hb : e.nu with
        | false =>
          rw [hb] at r0 hnu
          have HN := (show Hid (SeS w w5 (.slice A gs.length c) (.map (some mb)) (.slice (some ⟨ge, oe, none⟩) gs.length ck) g cap L.length ((L.take (k + 1)).map (seN nu) ++ L.drop (k + 1))) from by
            rw [HM2.out, ← HSt.out]
            have e : seN nu n = zN 3 := by unfold seN; rw [if_pos H6.out, if_neg (by rw [← hnu]; exact Bool.noConfusion)]; rfl
            rw [e]
            exact HS5.out)
          clear HS4 HS5 HM2 HSt HGt HF2 HM HF HR hb hnu H6
          go_wp2_with (first | rw [HE4.out] | rw [HE5.out])
          go_roundw
          case rel => exact ⟨k + 1, by omega, by go_num, HN⟩
          case measure => simp [intOf] <;> omega
        | true =>
          rw [hb] at r0 hnu
          obtain ⟨w6, hw6⟩ : ∃ w6, w6 = nw7 w5 g (k * 7) (zN 1) := ⟨_, rfl⟩
          have HE6 := (show Hid (nw7 w5 g (k * 7) (zN 1) = w6) from hw6.symm)
          unfold nw7 zN at HE6
          simp only at HE6
          have HGt5 := (show Hid ((M.set k (zN 3))[k]? = some (zN 3)) from List.getElem?_set_self (by rw [HS4.out.l]; exact hlt))
          have HN := (show Hid (SeS w w6 (.slice A gs.length c) (.map (some mb)) (.slice (some ⟨ge, oe, none⟩) gs.length ck) g cap L.length ((L.take (k + 1)).map (seN nu) ++ L.drop (k + 1))) from by
            rw [HM2.out, ← HSt.out]
            have e : seN nu n = zN 1 := by unfold seN; rw [if_pos H6.out, if_pos (by rw [← hnu])]; rfl
            rw [e, hw6]
            have h := (HS5.out.put hlt (zN 1)).1
            rw [List.set_set] at h
            exact h)
          obtain ⟨g0', g1', g2', g3', g4', g5', g6'⟩ := own_ndl (xs := []) (by rw [List.append_nil]; exact HS5.out.o) k _ HGt5.out
          unfold zN at g0' g1' g2' g3' g4' g5' g6'
          rw [Nat.zero_add] at g0' g1' g2' g3' g4' g5' g6'
          simp only at g0' g1' g2' g3' g4' g5' g6'
          have k0 := HS5.out.o.frozenAt (k * 7)
          have k1 := HS5.out.o.frozenAt (k * 7 + 1)
          have k2 := HS5.out.o.frozenAt (k * 7 + 2)
          have k3 := HS5.out.o.frozenAt (k * 7 + 3)
          have k4 := HS5.out.o.frozenAt (k * 7 + 4)
          have k5 := HS5.out.o.frozenAt (k * 7 + 5)
          have k6 := HS5.out.o.frozenAt (k * 7 + 6)
          clear hw6 HS4 HS5 HM2 HSt HGt HGt5 HF2 HM HF HR hb hnu H6
          go_wp2_with (first | rw [HE4.out] | rw [HE5.out] | rw [HE6.out])
          go_roundw
          case rel => exact ⟨k + 1, by omega, by go_num, HN⟩
          case measure => simp [intOf] <;> omega
      · have t6 : (n.op != 6) = true := by rw [bne, beq_eq_false_iff_ne.2 h6]; rfl
        have HS5 := (show Hid (SeS w w4 (.slice A gs.length c) (.map (some mb)) (.slice Ak gs.length ck) g cap L.length ((L.take (k + 1)).map (seN nu) ++ L.drop (k + 1))) from by
          rw [HM2.out, ← HSt.out, seN_6 h6]
          have e : M.set k n = M := by
            apply List.ext_getElem?
            intro j
            by_cases q : j = k
            · subst q
              rw [List.getElem?_set_self (by rw [HS4.out.l]; exact hlt), HGt.out]
            · rw [List.getElem?_set_ne (Ne.symm q)]
          rw [e]
          exact HS4.out)
        clear h6 HS4 HN4 HM2 HSt HGt HF2 HM HF HR
        go_wp2_with (rw [HE4.out])
        go_roundw
        case rel => exact ⟨k + 1, by omega, by go_num, HS5⟩
        case measure => simp [intOf] <;> omega
    · obtain rfl : k = L.length := by omega
      have HO := (show Hid (wr.ownsRow w.heap.size 57 7 (.slice (some ⟨g, 0, none⟩) L.length cap) L.length (ndc (seL nu L)) ∧ Below w.heap.size w wr) from by
        have h := HW.out.o
        rw [List.take_length, List.drop_length, List.append_nil] at h
        exact ⟨U.own_base h (Nat.le_succ _), HW.out.b⟩)
      clear HW HM HF
      go_wp2_with fail
      go_ret
      exact ⟨⟨g, cap, rfl, HR.out _ _ _ HO.out.1⟩, HO.out.2⟩
end Go.Proofs.YtbipjdgholdhcabGreat.N

namespace Go.Proofs.YtbipjdgholdhcabGreat.N
open Go.RowKit Go.Maps
open Go.Proofs.YtbipjdgholdhcabGreat.T

open U (below_grown own_get own_slice)
/-- A view that is right: the rules, their numbers, what is known of them. -/
structure VwO (w : World) (gs : GL) (A : Option Addr) (mb : Nat) (Ak : Option Addr) (now : List Em) : Prop where
  R : RtG gs
  g : GI w A gs
  m : NmM w mb gs
  k : RdE w Ak now
  n : now.length = gs.length
theorem VwO.later {w w2 : World} {gs : GL} {A : Option Addr} {mb : Nat} {Ak : Option Addr} {now : List Em} (h : VwO w gs A mb Ak now) (hb : Below w.heap.size w w2) : VwO w2 gs A mb Ak now := ⟨h.R, h.g.later hb, h.m.later hb, h.k.later hb, h.n⟩
def nbE (now : List Em) : List Bool := now.map Em.nu
theorem enters_settled (args : Array Value) (w : World) : (callFunc 57 args).run Tryz.prog w = .ok (.enter 57 args) w := enters_of Tryz.func57 (by kernel_rfl) rfl args w
/-- Of each part of a rule's pattern: may it match nothing? -/
def nuR (gs : GL) (now : List Em) (L : List Nd) (j : Nat) : Bool := nuA (kdR L) (lkB gs (nbE now)) L j
structure NuS (w wr : World) (vv : Value) (L : List Nd) (E : Nat → Bool) (Al : Option Addr) (l : List Em) (N k : Nat) (v : Value) : Prop where
  b : Below w.heap.size w wr
  r : RdE wr Al l
  o : wr.ownsRow N 4 1 v k ((List.range k).map fun j => Value.bool (E j))
  n : w.heap.size ≤ N ∧ N ≤ wr.heap.size
  q : ∀ g o, Al = some ⟨g, o, none⟩ → g < N
theorem NuS.later {w wr w2 : World} {vv : Value} {L : List Nd} {E : Nat → Bool} {Al : Option Addr} {l : List Em} {N k : Nat} {v : Value} (h : NuS w wr vv L E Al l N k v) (hb : Below wr.heap.size wr w2) : NuS w w2 vv L E Al l N k v :=
  ⟨h.b.trans (hb.mono h.b.size), h.r.later hb, U.own_below h.o hb, ⟨h.n.1, Nat.le_trans h.n.2 hb.size⟩, h.q⟩
theorem NuS.push {w wr w2 : World} {vv : Value} {L : List Nd} {E : Nat → Bool} {Al : Option Addr} {l : List Em} {N k : Nat} {v v2 : Value} (h : NuS w wr vv L E Al l N k v) (ho : w2.ownsRow N 4 1 v2 (k + 1) ((List.range k).map (fun j => Value.bool (E j)) ++ [.bool (E k)])) (hg : wr.grownBy w2 v.ownBlock) : NuS w w2 vv L E Al l N (k + 1) v2 := by
  have hlow : ∀ q, v.ownBlock = some q → N ≤ q := fun q hq => (h.o.lt q hq).1
  have hn := h.n
  refine ⟨below_grown h.b hg (fun q e => by have := hlow q e; omega), h.r.same hg.size (fun g o e => ?_), ?_, ⟨hn.1, Nat.le_trans hn.2 hg.size⟩, h.q⟩
  · have hgN := h.q g o e
    exact hg.block g (by omega) (fun q => by have := hlow _ q.symm; omega)
  · rw [List.range_succ, List.map_append]
    exact ho
/-- Behind the settled pattern: the rule's box, and the row. -/
structure NuB (w W : World) (kk g cap : Nat) (M : List Nd) (n : Nat) : Prop where
  r : RB W kk ⟨#[]⟩ (.slice (some ⟨g, 0, none⟩) n cap)
  b : Below w.heap.size w W
  o : W.ownsRow (w.heap.size + 1) 57 7 (.slice (some ⟨g, 0, none⟩) n cap) n (ndc M)
  k : w.heap.size < kk
theorem seL_tx {nu : ByteArray → Bool} {L : List Nd} (h : ∀ n ∈ L, n.tx.size ≤ 140737488355328) : ∀ n ∈ seL nu L, n.tx.size ≤ 140737488355328 := fun n hn => by
  unfold seL at hn
  obtain ⟨m, hm, rfl⟩ := List.mem_map.1 hn
  by_cases h6 : m.op = 6
  · unfold seN
    rw [if_pos h6]
    split <;> exact Nat.zero_le _
  · rw [seN_6 h6]; exact h m hm
/-- A grammar of one rule, just laid down. -/
theorem gi_one {W : World} {kk g cap n : Nat} {M : List Nd} (hl : M.length = n) (hn : n ≤ 2048) (ht : ∀ n ∈ M, n.tx.size ≤ 140737488355328) (o : RdN W (some ⟨g, 0, none⟩) M) (hr : RB W kk ⟨#[]⟩ (.slice (some ⟨g, 0, none⟩) n cap)) : GI W (some ⟨kk, 0, none⟩) [(⟨#[]⟩, M)] := by
  subst hl
  refine ⟨fun k p hp => ?_, by show 1 ≤ _; omega, fun p hp => ?_⟩
  · have hk := (List.getElem?_eq_some_iff.1 hp).1
    have e : k = 0 := by simp at hk; exact hk
    subst e
    cases hp
    exact ⟨kk, 0, some ⟨g, 0, none⟩, cap, rfl, hr.lt, hr.c0, hr.c1, o⟩
  · rw [List.mem_singleton.1 hp]
    exact ⟨Nat.zero_le _, by show M.length ≤ _; omega, ht⟩
set_option maxRecDepth 100000 in
set_option maxHeartbeats 128000000 in
theorem nullable_any {gs : GL} {now : List Em} (mb : Nat) (A Ak : Option Addr) (c ck : Nat) {r : Nat} {gn : ByteArray} {L : List Nd} (hg : gs[r]? = some (gn, L)) (w : World) (hv : VwO w gs A mb Ak now) :
    Calls Tryz.prog 40 #[.agg #[.slice A gs.length c, .map (some mb), .slice Ak gs.length ck], .int .i64 (r : Int)] w fun e w' => (∃ v, e = .returned v ∧ w'.ownsRow w.heap.size 4 1 v L.length ((List.range L.length).map fun j => Value.bool (nuR gs now L j))) ∧ Below w.heap.size w w' := by
  have hm := List.mem_of_getElem? hg
  have hrl : r < gs.length := (List.getElem?_eq_some_iff.1 hg).1
  obtain ⟨hrt, _, _, hpos, hlen⟩ := rt_facts hv.R hm
  have hrt : Rt L := hrt
  have hpos : 0 < L.length := hpos
  have hlen : L.length ≤ 2048 := hlen
  have hsz : ∀ n ∈ L, n.tx.size ≤ 140737488355328 := (hv.g.t _ hm).2.2
  obtain ⟨b, o, A3, c3, rfl, lb, _, x1, r2⟩ := hv.g.d r _ hg
  have hLn : L ≠ [] := by rintro rfl; simp at hpos
  obtain ⟨gp, op, rfl, lp, cl⟩ := r2 hLn
  obtain ⟨nu, hnu⟩ : ∃ nu, nu = lkB gs (nbE now) := ⟨_, rfl⟩
  obtain ⟨w1, hw1⟩ : ∃ w1, w1 = w.alloc (.cells #[.slice (some ⟨b, o, none⟩) gs.length c, .map (some mb), .slice Ak gs.length ck] 66) := ⟨_, rfl⟩
  have HE1 := (show Hid (w.alloc (.cells #[.slice (some ⟨b, o, none⟩) gs.length c, .map (some mb), .slice Ak gs.length ck] 66) = w1) from hw1.symm)
  have hb1 : Below w.heap.size w w1 := by rw [hw1]; exact below_box _ _
  have hs1 : w1.heap.size = w.heap.size + 1 := by rw [hw1, World.size_alloc]
  have hx1 : VX w1 w.heap.size (.slice (some ⟨b, o, none⟩) gs.length c) (.map (some mb)) (.slice Ak gs.length ck) := by rw [hw1]; exact VX.new w _ _ _
  obtain ⟨wz, hwz⟩ : ∃ wz, wz = (w1.alloc (.cells #[.string ⟨#[]⟩, .slice none 0 0] 52)).drew := ⟨_, rfl⟩
  have hbz : Below w1.heap.size w1 wz := by rw [hwz]; exact (below_box w1 _).drew
  have hsz1 : wz.heap.size = w1.heap.size + 1 := by rw [hwz]; exact World.size_alloc w1 (.cells #[.string ⟨#[]⟩, .slice none 0 0] 52)
  have hRz : RB wz w1.heap.size ⟨#[]⟩ (.slice none 0 0) := by rw [hwz]; exact (⟨heap_alloc_new w1 _⟩ : RB _ w1.heap.size _ _).later (Below.refl _ _).drew
  have HSe := (show Hid (∀ W, Below w1.heap.size w1 W → Calls Tryz.prog 57 #[.agg #[.slice (some ⟨b, o, none⟩) gs.length c, .map (some mb), .slice Ak gs.length ck], .slice (some ⟨gp, op, none⟩) L.length c3] W fun e w' => (∃ g cap, e = .returned (.slice (some ⟨g, 0, none⟩) L.length cap) ∧ w'.ownsRow W.heap.size 57 7 (.slice (some ⟨g, 0, none⟩) L.length cap) L.length (ndc (seL nu L))) ∧ Below W.heap.size W w') from fun W hW => by
    have hbW := hb1.trans (hW.mono hb1.size)
    have h := settled_any (gs := gs) (now := now) (L := L) mb (some ⟨b, o, none⟩) Ak ⟨gp, op, none⟩ c ck c3 hlen hLn hsz (fun n hn h6 => hv.R.dn.c _ hm n hn h6) W (hv.m.later hbW) (hv.k.later hbW) hv.n (fun _ => ⟨gp, op, rfl, Nat.lt_of_lt_of_le lp hbW.size, cl.same (hbW.block gp lp)⟩)
    rw [hnu]
    exact h)
  have HA1 := (show Hid (∀ (g cap : Nat) (w4 : World), w4.ownsRow w1.drew.heap.size 57 7 (.slice (some ⟨g, 0, none⟩) L.length cap) L.length (ndc (seL nu L)) → Below w1.drew.heap.size w1.drew w4 → Hid (NuB w (w4.alloc (.cells #[.string ⟨#[]⟩, .slice (some ⟨g, 0, none⟩) L.length cap] 52)) w4.heap.size g cap (seL nu L) L.length)) from fun g cap w4 h1 h2 => by
    have h3 : Below w1.heap.size w1 w4 := ⟨h2.os, h2.tape, h2.output, h2.size, h2.block⟩
    have hz := h3.size
    exact ⟨⟨heap_alloc_new w4 _⟩, hb1.trans ((h3.alloc h3.size _).mono hb1.size), U.own_base (U.own_below h1 (below_box _ _)) (Nat.le_of_eq hs1.symm), by omega⟩)
  have HA2 := (show Hid (∀ (g cap : Nat) (w4 : World), w4.ownsRow wz.heap.size 57 7 (.slice (some ⟨g, 0, none⟩) L.length cap) L.length (ndc (seL nu L)) → Below wz.heap.size wz w4 → Hid (RB w4 w1.heap.size ⟨#[]⟩ (.slice none 0 0)) ∧ Hid (NuB w ((w4.setCell ⟨w1.heap.size, 0, none⟩ (.string ⟨#[]⟩)).setCell ⟨w1.heap.size, 1, none⟩ (.slice (some ⟨g, 0, none⟩) L.length cap)) w1.heap.size g cap (seL nu L) L.length)) from fun g cap w4 h1 h2 => by
    have hr := hRz.later h2
    have hb := hbz.trans (h2.mono hbz.size)
    have e0 := heap_setCell_same w4 w1.heap.size 0 _ 52 (.string ⟨#[]⟩) hr.heap
    have e1 := heap_setCell_same _ w1.heap.size 1 _ 52 (.slice (some ⟨g, 0, none⟩) L.length cap) e0
    have hg := (h1.lt g rfl).1
    have h := own_same (U.own_base h1 (by omega : w.heap.size + 1 ≤ wz.heap.size)) (W' := (w4.setCell ⟨w1.heap.size, 0, none⟩ (.string ⟨#[]⟩)).setCell ⟨w1.heap.size, 1, none⟩ (.slice (some ⟨g, 0, none⟩) L.length cap)) (fun k hk => by
      cases hk
      exact (heap_setCell_other _ ⟨w1.heap.size, 1, none⟩ g _ (show g ≠ w1.heap.size by omega)).trans (heap_setCell_other _ ⟨w1.heap.size, 0, none⟩ g _ (show g ≠ w1.heap.size by omega)))
    refine ⟨hr, ⟨by rw [e1]; rfl⟩, ?_, h, by omega⟩
    exact hb1.trans (((hb.setCell (p := ⟨w1.heap.size, 0, none⟩) (Nat.le_refl _) _).setCell (p := ⟨w1.heap.size, 1, none⟩) (Nat.le_refl _) _).mono hb1.size))
  have HSd := (show Hid (Below w1.heap.size w1 w1.drew ∧ Below w1.heap.size w1 wz) from ⟨(Below.refl _ _).drew, hbz⟩)
  have HP1 := (show Hid (Below w.heap.size w w1 ∧ w1.heap.size = w.heap.size + 1) from ⟨hb1, hs1⟩)
  have HRt := (show Hid (Rt L ∧ 0 < L.length ∧ L.length ≤ 2048 ∧ ∀ n ∈ L, n.tx.size ≤ 140737488355328) from ⟨hrt, hpos, hlen, hsz⟩)
  have HEq := (show Hid (∀ j, nuR gs now L j = nuA (kdR L) nu L j) from fun j => by rw [hnu]; rfl)
  have y0 : w1.cell? ⟨w.heap.size, 0, none⟩ = _ := hx1.c0
  have y1 : w1.cell? ⟨w.heap.size, 1, none⟩ = _ := hx1.c1
  have y2 : w1.cell? ⟨w.heap.size, 2, none⟩ = _ := hx1.c2
  have x1' := (hb1.cell (p := ⟨b, o + r * 2 + 1, none⟩) lb).trans x1
  have hxz := hx1.below hbz
  have y0z : wz.cell? ⟨w.heap.size, 0, none⟩ = _ := hxz.c0
  have y1z : wz.cell? ⟨w.heap.size, 1, none⟩ = _ := hxz.c1
  have y2z : wz.cell? ⟨w.heap.size, 2, none⟩ = _ := hxz.c2
  have x1z := (hbz.cell (p := ⟨b, o + r * 2 + 1, none⟩) (Nat.lt_of_lt_of_le lb hb1.size)).trans x1'
  have z0 : (0 : Int) ≤ (r : Int) := by omega
  have z1 : (r : Int) < (gs.length : Int) := by omega
  rw [hwz] at y0z y1z y2z x1z
  clear hg hm hrl hrt hpos hlen hsz lb x1 r2 hLn lp cl hnu hw1 hb1 hs1 hx1 hbz hsz1 hRz hv hxz
  go_enter Tryz.func40, Tryz.ntmps40
  go_wp2_with (rw [HE1.out])
  go_region_law (first
    | (refine step_call2 enters_settled rfl _ _ _ _ (by rfl) (.agg #[.slice (some ⟨b, o, none⟩) gs.length c, .map (some mb), .slice Ak gs.length ck]) (.slice (some ⟨gp, op, none⟩) L.length c3) (by rfl) (by rfl) ?_; with_reducible refine (HSe.out w1.drew HSd.out.1).mono ?_; rintro e w4 ⟨⟨g4, cap4, rfl, ho4⟩, b4⟩; refine ⟨_, rfl, ?_⟩; have HF := HA1.out g4 cap4 w4 ho4 b4)
    | (refine step_call2 enters_settled rfl _ _ _ _ (by rfl) (.agg #[.slice (some ⟨b, o, none⟩) gs.length c, .map (some mb), .slice Ak gs.length ck]) (.slice (some ⟨gp, op, none⟩) L.length c3) (by rfl) (by rfl) ?_; rw [← hwz]; with_reducible refine (HSe.out wz HSd.out.2).mono ?_; rintro e w4 ⟨⟨g4, cap4, rfl, ho4⟩, b4⟩; refine ⟨_, rfl, ?_⟩; have HF := HA2.out g4 cap4 w4 ho4 b4; have e0 := HF.1.out.c0; have e1 := HF.1.out.c1; have f0 := frozen_of_row w4 w1.heap.size 0 _ 52 HF.1.out.heap; have f1 := frozen_of_row w4 w1.heap.size 1 _ 52 HF.1.out.heap))
  all_goals
    first
      | (have HG := HF.2
         clear e0 e1 f0 f1 HF
         generalize (w4.setCell ⟨w1.heap.size, 0, none⟩ (.string ⟨#[]⟩)).setCell ⟨w1.heap.size, 1, none⟩ (.slice (some ⟨g4, 0, none⟩) L.length cap4) = w5 at HG ⊢
         generalize w1.heap.size = kk at HG ⊢)
      | (have HG := HF
         clear HF
         generalize w4.alloc (.cells #[.string ⟨#[]⟩, .slice (some ⟨g4, 0, none⟩) L.length cap4] 52) = w5 at HG ⊢
         generalize w4.heap.size = kk at HG ⊢)
    clear ho4 b4 HA1 HA2 HSe HSd HP1 y0 y1 y2 x1' y0z y1z y2z x1z hwz HE1
    have q0 := HG.out.r.c0
    have q1 := HG.out.r.c1
    obtain ⟨w6, hw6⟩ : ∃ w6, w6 = w5.alloc (.cells #[.string ⟨#[]⟩, .slice (some ⟨g4, 0, none⟩) L.length cap4] 52) := ⟨_, rfl⟩
    have HE6 := (show Hid (w5.alloc (.cells #[.string ⟨#[]⟩, .slice (some ⟨g4, 0, none⟩) L.length cap4] 52) = w6) from hw6.symm)
    have hb6 : Below w5.heap.size w5 w6 := by rw [hw6]; exact below_box _ _
    have HB6 := (show Hid (Below w.heap.size w w6) from HG.out.b.trans (hb6.mono HG.out.b.size))
    have HPa := (show Hid (∀ _ : Unit, Calls Tryz.prog 58 #[.agg #[.slice (some ⟨w5.heap.size, 0, none⟩) 1 1], .int .i64 0] w6 fun e w' => (∃ v l cd, e = .returned (.tuple #[v, .int .i64 cd]) ∧ PaR [(⟨#[]⟩, seL nu L)] 0 l cd ∧ w'.ownsRow w6.heap.size 110 4 v l.length (emc l)) ∧ Below w6.heap.size w6 w') from fun _ => by
      have hr : RB w6 w5.heap.size ⟨#[]⟩ (.slice (some ⟨g4, 0, none⟩) L.length cap4) := by rw [hw6]; exact ⟨heap_alloc_new w5 _⟩
      have ho := U.own_below HG.out.o hb6
      exact partsP_any [(⟨#[]⟩, seL nu L)] (some ⟨w5.heap.size, 0, none⟩) 1 0 w6 (gi_one (by rw [seL_len]) HRt.out.2.2.1 (seL_tx HRt.out.2.2.2) (fun _ => ⟨g4, 0, rfl, (ho.lt g4 rfl).2, own_ndl (xs := []) (by rw [List.append_nil]; exact ho)⟩) hr))
    clear hw6 hb6 HG
    go_wp2_with (rw [HE6.out])
    refine (HPa.out ()).mono ?_
    rintro e w7 ⟨⟨v, l, cd, rfl, hpa, ho⟩, b7⟩
    obtain ⟨rfl, hl, hln⟩ := pa_se HRt.out.1 hpa
    rw [hl] at ho
    obtain ⟨Al, cl, rfl⟩ := own_fm ho
    have HS := (show Hid (NuS w w7 (.slice none 0 0) L (nuR gs now L) Al l w7.heap.size 0 (.slice none 0 0)) from by
      refine ⟨HB6.out.trans (b7.mono HB6.out.size), own_rd ho hl, World.ownsRow_nil _ _ _ _, ⟨(HB6.out.trans (b7.mono HB6.out.size)).size, Nat.le_refl _⟩, fun g o e => rde_lt (own_rd ho hl) (by rintro rfl; have := HRt.out.2.1; rw [← hl] at this; exact absurd this (by decide)) g o e⟩)
    have HLn := (show Hid (∀ k, k < L.length → ∃ e, l[k]? = some e ∧ e.nu = nuR gs now L k) from fun k hk => by
      obtain ⟨e, he⟩ : ∃ e, l[k]? = some e := ⟨_, List.getElem?_eq_getElem (by rw [hl]; exact hk)⟩
      refine ⟨e, he, ?_⟩
      have h : (l.map Em.nu)[k]? = ((List.range L.length).map (nuA (kdR L) nu L))[k]? := by rw [hln]
      rw [List.getElem?_map, he, List.getElem?_map, List.getElem?_range hk] at h
      rw [HEq.out k]
      exact Option.some.inj h)
    have hlen := HRt.out.2.2.1
    generalize hN : w7.heap.size = N at HS
    clear hN ho hpa hln hl b7 HPa HB6 HE6 q0 q1
    go_wp2_with fail
    go_loopw [8, 29] (fun v t wr => ∃ (k : Nat) (A2 : Option Addr) (c2 : Nat), k ≤ L.length ∧ t = .int .i64 (k : Int) ∧ v = .slice A2 k c2 ∧ Hid (NuS w wr (.slice none 0 0) L (nuR gs now L) Al l N k (.slice A2 k c2))) (fun _ t _ => L.length - (intOf t).toNat)
    case atStart => exact ⟨0, none, 0, Nat.zero_le _, by go_num, rfl, HS⟩
    case round =>
      obtain ⟨k, A2, c2, hk, rfl, rfl, HW⟩ := hrel
      clear HS
      by_cases hlt : k < L.length
      · obtain ⟨e, he, hen⟩ := HLn.out k hlt
        have hne : l ≠ [] := by rintro rfl; cases he
        obtain ⟨gl, ol, rfl, lgl, hEB⟩ := HW.out.r hne
        obtain ⟨r0, r1, r2, r3⟩ := hEB k e he
        obtain ⟨w8, hw8⟩ : ∃ w8, w8 = wr.alloc (emO e) := ⟨_, rfl⟩
        obtain ⟨en, ec, el, em⟩ := e
        simp only at r0 r1 r2 r3 hen
        have HE8 := (show Hid (wr.alloc (.cells #[.bool en, .bool ec, .int .i64 el, .int .i64 em] 110) = w8) from hw8.symm)
        have hb8 : Below wr.heap.size wr w8 := by rw [hw8]; exact below_box _ _
        have HX8 := (show Hid (EX w8 wr.heap.size ⟨en, ec, el, em⟩) from by rw [hw8]; exact EX.new wr _)
        have HW8 := (show Hid (NuS w w8 (.slice none 0 0) L (nuR gs now L) (some ⟨gl, ol, none⟩) l N k (.slice A2 k c2)) from HW.out.later hb8)
        have x0 : w8.cell? ⟨wr.heap.size, 0, none⟩ = some (.bool en) := HX8.out.eb.c0
        have z0 : (0 : Int) ≤ (k : Int) := by omega
        have z1 : (k : Int) < (L.length : Int) := by omega
        have HEn := (show Hid (en = nuR gs now L k) from hen)
        have HN8 := (show Hid (N ≤ w8.heap.size) from HW8.out.n.2)
        have HO8 := (show Hid (w8.ownsRow N 4 1 (.slice A2 k c2) k ((List.range k).map fun j => Value.bool (nuR gs now L j))) from HW8.out.o)
        clear he hne lgl hEB hw8 hb8 HX8 hen HW HRt HEq
        go_wp2_with (first | rw [HE8.out] | (at_builtin; refine U.wpList_app1 rfl _ _ 82 rfl (.bool false) 1 Tryz.underlying82 Tryz.info4 rfl N k _ _ rfl rfl HO8.out rfl (by omega) (by decide) HN8.out ?_; intro g9 cap9 w9 ho9 hg9 hat9 hl9; have HV9 := (show Hid (NuS w w9 (.slice none 0 0) L (nuR gs now L) (some ⟨gl, ol, none⟩) l N (k + 1) (.slice (some ⟨g9, 0, none⟩) (k + 1) cap9)) from HW8.out.push (by rw [← HEn.out]; exact ho9) hg9); clear ho9 hg9 hat9 hl9 HW8 HO8 HN8 HE8 x0 r0 r1 r2 r3))
        go_roundw
        case rel => exact ⟨k + 1, some ⟨g9, 0, none⟩, cap9, by omega, by go_num, rfl, HV9⟩
        case measure => simp [intOf]; omega
      · obtain rfl : k = L.length := by omega
        have HO := (show Hid (wr.ownsRow w.heap.size 4 1 (.slice A2 L.length c2) L.length ((List.range L.length).map fun j => Value.bool (nuR gs now L j)) ∧ Below w.heap.size w wr) from ⟨U.own_base HW.out.o HW.out.n.1, HW.out.b⟩)
        clear HW HRt HEq
        go_wp2_with fail
        go_ret
        exact ⟨⟨_, rfl, HO.out.1⟩, HO.out.2⟩
end Go.Proofs.YtbipjdgholdhcabGreat.N
