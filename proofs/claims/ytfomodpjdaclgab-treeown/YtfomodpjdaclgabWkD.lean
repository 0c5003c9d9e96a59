/- DERIVED. Walks: textFits, numberFits, setFits, alone. -/
import Derived.Test.YtfomodpjdaclgabWkB
import Derived.Test.YtfomodpjdaclgabEqA
namespace Go.Proofs.Ytfomodpjdaclgab
open Go.RowKit

/-- A node, laid in a block. -/
structure NB (W : World) (g o : Nat) (n : Nd) : Prop where
  c0 : W.cell? ⟨g, o, none⟩ = some (.int .i64 n.op)
  c1 : W.cell? ⟨g, o + 1, none⟩ = some (.int .i64 n.nn)
  c2 : W.cell? ⟨g, o + 2, none⟩ = some (.string n.tx)
  c3 : W.cell? ⟨g, o + 3, none⟩ = some (.int .u64 n.s0)
  c4 : W.cell? ⟨g, o + 4, none⟩ = some (.int .u64 n.s1)
  c5 : W.cell? ⟨g, o + 5, none⟩ = some (.int .u64 n.s2)
  c6 : W.cell? ⟨g, o + 6, none⟩ = some (.int .u64 n.s3)
theorem NB.lt {W : World} {g o : Nat} {n : Nd} (h : NB W g o n) : g < W.heap.size := World.block_lt_of_cell? W _ h.c0
theorem NB.same {W W' : World} {g o : Nat} {n : Nd} (h : NB W g o n) (hb : W'.heap[g]? = W.heap[g]?) : NB W' g o n := by
  have key : ∀ j, W'.cell? ⟨g, j, none⟩ = W.cell? ⟨g, j, none⟩ := fun j => World.cell?_of_block (a := ⟨g, j, none⟩) hb
  exact ⟨(key _).trans h.c0, (key _).trans h.c1, (key _).trans h.c2, (key _).trans h.c3, (key _).trans h.c4, (key _).trans h.c5, (key _).trans h.c6⟩
theorem NB.below {W W' : World} {g o : Nat} {n : Nd} (h : NB W g o n) (hb : Below W.heap.size W W') : NB W' g o n := h.same (hb.block g h.lt)
abbrev ndO (n : Nd) : Obj := .cells #[.int .i64 n.op, .int .i64 n.nn, .string n.tx, .int .u64 n.s0, .int .u64 n.s1, .int .u64 n.s2, .int .u64 n.s3] 37
theorem nb_new (w : World) (n : Nd) : NB (w.alloc (ndO n)) w.heap.size 0 n := by
  have key : ∀ (j : Nat) u, (#[Value.int .i64 n.op, .int .i64 n.nn, .string n.tx, .int .u64 n.s0, .int .u64 n.s1, .int .u64 n.s2, .int .u64 n.s3] : Array Value)[j]? = some u → (w.alloc (ndO n)).cell? ⟨w.heap.size, j, none⟩ = some u := fun j u hu => by
    rw [cell_of_row (w.alloc (ndO n)) w.heap.size j _ 37 (0, 0) (heap_alloc_new w _)]
    exact hu
  exact ⟨key 0 _ rfl, key 1 _ rfl, key 2 _ rfl, key 3 _ rfl, key 4 _ rfl, key 5 _ rfl, key 6 _ rfl⟩
theorem below_box (w : World) (o : Obj) : Below w.heap.size w (w.alloc o) := (Below.refl _ _).alloc (Nat.le_refl _) _

set_option maxRecDepth 100000 in
set_option maxHeartbeats 2000000 in
theorem numberFits_any (op nn : Int) (tx : ByteArray) (a b c d : Int) (w : World) : Calls Try.prog 39 #[.agg #[.int .i64 op, .int .i64 nn, .string tx, .int .u64 a, .int .u64 b, .int .u64 c, .int .u64 d]] w fun e w' => e = .returned (.bool (nuF op nn)) ∧ Below w.heap.size w w' := by
  have key : ∀ (q : op = 14 ∨ op = 15 ∨ op = 16 ∨ op = 23), Hid (nuF op nn = decide (0 ≤ nn ∧ nn ≤ 50)) := fun q => (by show nuF op nn = _; unfold nuF; rw [if_pos q])
  by_cases h0 : op = 14 ∨ op = 15 ∨ op = 16 ∨ op = 23
  · have HE := key h0
    clear key
    rcases h0 with rfl | rfl | rfl | rfl
    all_goals
      by_cases n0 : 0 ≤ nn
      · have HF : Hid (nuF _ nn = decide (nn ≤ 50)) := (by show nuF _ nn = _; rw [HE.out]; simp only [n0, true_and])
        clear HE
        go_enter Try.func39, Try.ntmps39
        go_wp2_with fail
        go_ret
        exact ⟨by rw [HF.out]; rfl, below_box _ _⟩
      · have HF : Hid (nuF _ nn = false) := (by show nuF _ nn = _; rw [HE.out]; simp only [n0, false_and, decide_false])
        clear HE
        go_enter Try.func39, Try.ntmps39
        go_wp2_with fail
        go_ret
        exact ⟨by rw [HF.out]; rfl, below_box _ _⟩
  · have HF : Hid (nuF op nn = (nn == 0)) := (by show nuF op nn = _; unfold nuF; rw [if_neg h0]; rfl)
    have e1 : (op == 14) = false := beq_eq_false_iff_ne.2 (by omega)
    have e2 : (op == 15) = false := beq_eq_false_iff_ne.2 (by omega)
    have e3 : (op == 16) = false := beq_eq_false_iff_ne.2 (by omega)
    have e4 : (op == 23) = false := beq_eq_false_iff_ne.2 (by omega)
    clear h0 key
    go_enter Try.func39, Try.ntmps39
    go_wp2_with fail
    go_ret
    exact ⟨by rw [HF.out]; rfl, below_box _ _⟩

set_option maxRecDepth 100000 in
set_option maxHeartbeats 2000000 in
theorem setFits_any (op nn : Int) (tx : ByteArray) (a b c d : Int) (w : World) : Calls Try.prog 40 #[.agg #[.int .i64 op, .int .i64 nn, .string tx, .int .u64 a, .int .u64 b, .int .u64 c, .int .u64 d]] w fun e w' => e = .returned (.bool (seF op a b c d)) ∧ Below w.heap.size w w' := by
  by_cases h5 : op = 5
  · have HF : Hid (seF op a b c d = true) := (by show seF op a b c d = _; unfold seF; rw [if_pos h5])
    have e5 : (op == 5) = true := beq_iff_eq.2 h5
    clear h5
    go_enter Try.func40, Try.ntmps40
    go_wp2_with fail
    go_ret
    exact ⟨by rw [HF.out]; rfl, below_box _ _⟩
  · have HF : Hid (seF op a b c d = seE a b c d 0 0 0 0) := (by show seF op a b c d = _; rw [seE_zero op a b c d h5])
    have e5 : (op == 5) = false := beq_eq_false_iff_ne.2 h5
    have hq := set_eql a b c d 0 0 0 0
    clear h5
    go_enter Try.func40, Try.ntmps40
    go_wp2_with fail
    go_ret
    exact ⟨by rw [HF.out]; rfl, below_box _ _⟩

set_option maxRecDepth 100000 in
set_option maxHeartbeats 4000000 in
theorem textFits_any (op nn : Int) (tx : ByteArray) (a b c d : Int) (hs : tx.size ≤ 140737488355328) (w : World) : Calls Try.prog 38 #[.agg #[.int .i64 op, .int .i64 nn, .string tx, .int .u64 a, .int .u64 b, .int .u64 c, .int .u64 d]] w fun e w' => e = .returned (.bool (txF op tx)) ∧ Below w.heap.size w w' := by
  have HN : Hid (∀ w, Calls Try.prog 45 #[.string tx] w fun e w' => e = .returned (.bool (nmB tx)) ∧ w' = w) := fun w => isName_any tx hs w
  have HT : Hid (∀ w, Calls Try.prog 46 #[.string tx] w fun e w' => e = .returned (.bool (tmB tx)) ∧ w' = w) := fun w => isTemplate_any tx hs w
  by_cases h4 : op = 4
  · have e4 : (op == 4) = true := beq_iff_eq.2 h4
    by_cases q0 : tx.size = 0
    · have HF : Hid (txF op tx = false) := (by show txF op tx = _; unfold txF; rw [if_pos h4, decide_eq_false (by omega)])
      have t0 := emp_t q0
      clear h4 q0 HN HT
      go_enter Try.func38, Try.ntmps38
      go_wp2_with fail
      go_ret
      exact ⟨by rw [HF.out]; rfl, below_box _ _⟩
    · have HF : Hid (txF op tx = decide ((tx.size : Int) ≤ 255)) := (by
        show txF op tx = _
        unfold txF
        rw [if_pos h4]
        by_cases q : tx.size ≤ 255
        · rw [decide_eq_true (by omega), decide_eq_true (by omega)]
        · rw [decide_eq_false (by omega), decide_eq_false (by omega)])
      have t0 := emp_f q0
      clear h4 q0 HN HT
      go_enter Try.func38, Try.ntmps38
      go_wp2_with fail
      go_ret
      exact ⟨by rw [HF.out]; rfl, below_box _ _⟩
  have e4 : (op == 4) = false := beq_eq_false_iff_ne.2 h4
  by_cases h6 : op = 6
  · have e6 : (op == 6) = true := beq_iff_eq.2 h6
    have HF : Hid (txF op tx = nmB tx) := (by show txF op tx = _; unfold txF; rw [if_neg h4, if_pos h6])
    clear h4 h6 HT
    go_enter Try.func38, Try.ntmps38
    go_wp2_with fail
    refine (HN.out _).mono ?_
    rintro e w2 ⟨rfl, rfl⟩
    clear HN
    go_wp2_with fail
    go_ret
    exact ⟨by rw [HF.out]; rfl, below_box _ _⟩
  have e6 : (op == 6) = false := beq_eq_false_iff_ne.2 h6
  by_cases h19 : op = 19
  · have e19 : (op == 19) = true := beq_iff_eq.2 h19
    by_cases q0 : tx.size = 0
    · have HF : Hid (txF op tx = true) := (by show txF op tx = _; unfold txF; rw [if_neg h4, if_neg h6, if_pos h19, decide_eq_true q0]; rfl)
      have t0 := emp_t q0
      clear h4 h6 h19 q0 HN HT
      go_enter Try.func38, Try.ntmps38
      go_wp2_with fail
      go_ret
      exact ⟨by rw [HF.out]; rfl, below_box _ _⟩
    · have HF : Hid (txF op tx = nmB tx) := (by show txF op tx = _; unfold txF; rw [if_neg h4, if_neg h6, if_pos h19, decide_eq_false q0]; rfl)
      have t0 := emp_f q0
      clear h4 h6 h19 q0 HT
      go_enter Try.func38, Try.ntmps38
      go_wp2_with fail
      refine (HN.out _).mono ?_
      rintro e w2 ⟨rfl, rfl⟩
      clear HN
      go_wp2_with fail
      go_ret
      exact ⟨by rw [HF.out]; rfl, below_box _ _⟩
  have e19 : (op == 19) = false := beq_eq_false_iff_ne.2 h19
  by_cases h22 : op = 22
  · have e22 : (op == 22) = true := beq_iff_eq.2 h22
    have HF : Hid (txF op tx = tmB tx) := (by show txF op tx = _; unfold txF; rw [if_neg h4, if_neg h6, if_neg h19, if_pos h22])
    clear h4 h6 h19 h22 HN
    go_enter Try.func38, Try.ntmps38
    go_wp2_with fail
    refine (HT.out _).mono ?_
    rintro e w2 ⟨rfl, rfl⟩
    clear HT
    go_wp2_with fail
    go_ret
    exact ⟨by rw [HF.out]; rfl, below_box _ _⟩
  have e22 : (op == 22) = false := beq_eq_false_iff_ne.2 h22
  by_cases q0 : tx.size = 0
  · have HF : Hid (txF op tx = true) := (by show txF op tx = _; unfold txF; rw [if_neg h4, if_neg h6, if_neg h19, if_neg h22, decide_eq_true q0])
    have t0 := emp_t q0
    clear h4 h6 h19 h22 q0 HN HT
    go_enter Try.func38, Try.ntmps38
    go_wp2_with fail
    go_ret
    exact ⟨by rw [HF.out]; rfl, below_box _ _⟩
  · have HF : Hid (txF op tx = false) := (by show txF op tx = _; unfold txF; rw [if_neg h4, if_neg h6, if_neg h19, if_neg h22, decide_eq_false q0])
    have t0 := emp_f q0
    clear h4 h6 h19 h22 q0 HN HT
    go_enter Try.func38, Try.ntmps38
    go_wp2_with fail
    go_ret
    exact ⟨by rw [HF.out]; rfl, below_box _ _⟩

set_option maxRecDepth 100000 in
set_option maxHeartbeats 4000000 in
theorem alone_any (n : Nd) (hs : n.tx.size ≤ 140737488355328) (w : World) : Calls Try.prog 27 #[ndG n] w fun e w' => e = .returned (.int .i64 (alE n)) ∧ Below w.heap.size w w' := by
  obtain ⟨op, nn, tx, a, b, c, d⟩ := n
  have HA : Hid (∀ w, Calls Try.prog 10 #[.int .i64 op] w fun e w' => e = .returned (.int .i64 (ar op)) ∧ w' = w) := fun w => arity_any op w
  have HT : Hid (∀ w, Calls Try.prog 38 #[.agg #[.int .i64 op, .int .i64 nn, .string tx, .int .u64 a, .int .u64 b, .int .u64 c, .int .u64 d]] w fun e w' => e = .returned (.bool (txF op tx)) ∧ Below w.heap.size w w') := fun w => textFits_any op nn tx a b c d hs w
  have HN : Hid (∀ w, Calls Try.prog 39 #[.agg #[.int .i64 op, .int .i64 nn, .string tx, .int .u64 a, .int .u64 b, .int .u64 c, .int .u64 d]] w fun e w' => e = .returned (.bool (nuF op nn)) ∧ Below w.heap.size w w') := fun w => numberFits_any op nn tx a b c d w
  have HS : Hid (∀ w, Calls Try.prog 40 #[.agg #[.int .i64 op, .int .i64 nn, .string tx, .int .u64 a, .int .u64 b, .int .u64 c, .int .u64 d]] w fun e w' => e = .returned (.bool (seF op a b c d)) ∧ Below w.heap.size w w') := fun w => setFits_any op nn tx a b c d w
  by_cases h0 : ar op < 0
  · have HE : Hid (alE ⟨op, nn, tx, a, b, c, d⟩ = 40) := (by show alE _ = _; unfold alE; rw [if_pos h0])
    go_enter Try.func27, Try.ntmps27
    go_wp2_with fail
    refine (HA.out _).mono ?_
    rintro e w2 ⟨rfl, rfl⟩
    clear HA HT HN HS
    generalize ar op = k at *
    go_wp2_with fail
    go_ret
    exact ⟨by rw [HE.out]; rfl, below_box _ _⟩
  have HE : Hid (alE ⟨op, nn, tx, a, b, c, d⟩ = if txF op tx && nuF op nn && seF op a b c d then 0 else 41) := (by show alE _ = _; unfold alE; rw [if_neg h0]; rfl)
  go_enter Try.func27, Try.ntmps27
  go_wp2_with fail
  refine (HA.out _).mono ?_
  rintro e w2 ⟨rfl, rfl⟩
  clear HA
  generalize ar op = k at *
  go_wp2_with fail
  refine (HT.out _).mono ?_
  rintro e w3 ⟨rfl, b3⟩
  have HB : Hid (NB w3 w.heap.size 0 ⟨op, nn, tx, a, b, c, d⟩) := (nb_new w ⟨op, nn, tx, a, b, c, d⟩).below b3
  have HW : Hid (Below w.heap.size w w3) := (below_box _ _).trans (b3.mono (below_box _ _).size)
  clear b3 HT
  obtain ⟨c0, c1, c2, c3, c4, c5, c6⟩ := HB.out
  simp only [Nat.zero_add] at c0 c1 c2 c3 c4 c5 c6
  generalize txF op tx = t1 at *
  cases t1 with
  | false =>
    clear HN HS
    go_wp2_with fail
    go_ret
    exact ⟨by rw [HE.out]; rfl, HW.out⟩
  | true =>
    go_wp2_with fail
    refine (HN.out _).mono ?_
    rintro e w4 ⟨rfl, b4⟩
    clear HN c0 c1 c2 c3 c4 c5 c6
    have HB4 : Hid (NB w4 w.heap.size 0 ⟨op, nn, tx, a, b, c, d⟩) := HB.out.below b4
    have HW4 : Hid (Below w.heap.size w w4) := HW.out.trans (b4.mono HW.out.size)
    clear b4 HB HW
    obtain ⟨c0, c1, c2, c3, c4, c5, c6⟩ := HB4.out
    simp only [Nat.zero_add] at c0 c1 c2 c3 c4 c5 c6
    generalize nuF op nn = t2 at *
    cases t2 with
    | false =>
      clear HS
      go_wp2_with fail
      go_ret
      exact ⟨by rw [HE.out]; rfl, HW4.out⟩
    | true =>
      go_wp2_with fail
      refine (HS.out _).mono ?_
      rintro e w5 ⟨rfl, b5⟩
      clear HS c0 c1 c2 c3 c4 c5 c6
      have HW5 : Hid (Below w.heap.size w w5) := HW4.out.trans (b5.mono HW4.out.size)
      clear b5 HW4 HB4
      generalize seF op a b c d = t3 at *
      cases t3 with
      | false =>
        go_wp2_with fail
        go_ret
        exact ⟨by rw [HE.out]; rfl, HW5.out⟩
      | true =>
        go_wp2_with fail
        go_ret
        exact ⟨by rw [HE.out]; rfl, HW5.out⟩
end Go.Proofs.Ytfomodpjdaclgab
