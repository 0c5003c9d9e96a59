/- DERIVED. Plain mathematics and walks, laid together (1). -/
import Derived.Recover
import Derived.Defers
import Derived.Test.YtkihfkcmcdiajaaGreatDoorPk20
namespace Go.Proofs.YtkihfkcmcdiajaaGreatDoor.N
open Go.RowKit
def rlG (ex : Nat → PR) (E : PE) : Nat → Nat → List Rl → Sum (List Rl) (Nat × Int)
  | 0, _, out => .inl out
  | f + 1, i, out => if i < E.l.length then (if ruB E i = true then (match ex (i + 2) with
    | .inr q => .inr q
    | .inl p => rlG ex E f p.1 (out ++ [(i, (tkA E i).tx, p.2)])) else .inr (i, 60)) else .inl out
def rdN (E : PE) : Sum (List Rl) (Nat × Int) := if ruB E 0 = true then rlG (exN E) E (E.l.length + 1) 0 [] else (match exN E 0 with
  | .inr q => .inr q
  | .inl p => if p.1 < E.l.length then .inr (p.1, 60) else .inl [(0, ⟨#[]⟩, p.2)])
theorem ru_lt {E : PE} {i : Nat} (h : ruB E i = true) : i + 2 ≤ E.l.length := by
  unfold ruB at h
  simp only [Bool.and_eq_true, beq_iff_eq] at h
  have := kd_lt (E := E) (i := i + 1) (by omega)
  omega
theorem rlG_err (E : PE) : ∀ (f i : Nat) (out : List Rl) (q : Nat × Int), rlG (exN E) E f i out = .inr q → q.1 ≤ E.l.length ∧ (q.2 = 60 ∨ q.2 = 61 ∨ q.2 = 4 ∨ q.2 = 1) := by
  intro f
  induction f with
  | zero => intro i out q h; rw [rlG] at h; cases h
  | succ f ih =>
    intro i out q h
    rw [rlG] at h
    by_cases hi : i < E.l.length
    · rw [if_pos hi] at h
      by_cases hr : ruB E i = true
      · rw [if_pos hr] at h
        cases he : exN E (i + 2) with
        | inr p => rw [he] at h; cases h; exact ex_err (ru_lt hr) he
        | inl p => rw [he] at h; exact ih _ _ _ h
      · rw [if_neg hr] at h; cases h; exact ⟨Nat.le_of_lt hi, by simp⟩
    · rw [if_neg hi] at h; cases h
theorem rdN_err {E : PE} {q : Nat × Int} (h : rdN E = .inr q) : q.1 ≤ E.l.length ∧ (q.2 = 60 ∨ q.2 = 61 ∨ q.2 = 4 ∨ q.2 = 1) := by
  unfold rdN at h
  by_cases hr : ruB E 0 = true
  · rw [if_pos hr] at h; exact rlG_err E _ _ _ _ h
  · rw [if_neg hr] at h
    cases he : exN E 0 with
    | inr p => rw [he] at h; cases h; exact ex_err (Nat.zero_le _) he
    | inl p =>
      rw [he] at h
      dsimp only at h
      split at h
      · next hp => cases h; exact ⟨Nat.le_of_lt hp, by simp⟩
      · cases h
end Go.Proofs.YtkihfkcmcdiajaaGreatDoor.N

namespace Go.Proofs.YtkihfkcmcdiajaaGreatDoor.N
open Go.RowKit
theorem PF_end (E : PE) : ∀ (f m i d a : Nat) (ns : List Nd), PF E f m i d = .inl (a, ns) → (m = 0 ∨ m = 2 ∨ m = 3 → bgn E a = false) ∧ (m = 1 → bgn E i = false → bgn E a = false) := by
  intro f
  induction f with
  | zero => intro m i d a ns h; rw [PF] at h; cases h
  | succ f ih =>
    intro m i d a ns h
    rw [PF] at h
    by_cases m0 : m = 0
    · rw [if_pos m0] at h
      obtain ⟨a1, n1, r1, h⟩ := bnd_inl h
      obtain ⟨n2, r2, _⟩ := ahd_inl h
      have h1 := (ih _ _ _ _ _ r1).1 (by omega)
      have h2 := (ih _ _ _ _ _ r2).2 rfl h1
      exact ⟨fun _ => h2, fun q => by omega⟩
    rw [if_neg m0] at h
    by_cases m1 : m = 1
    · rw [if_pos m1] at h
      by_cases k7 : kdA E i = 7
      · rw [if_pos k7] at h
        obtain ⟨a1, n1, r1, h⟩ := bnd_inl h
        obtain ⟨n2, r2, _⟩ := ahd_inl h
        have h1 := (ih _ _ _ _ _ r1).1 (by omega)
        have h2 := (ih _ _ _ _ _ r2).2 rfl h1
        exact ⟨fun q => by omega, fun _ _ => h2⟩
      · rw [if_neg k7] at h
        cases h
        exact ⟨fun q => by omega, fun _ q => q⟩
    rw [if_neg m1] at h
    by_cases m2 : m = 2
    · rw [if_pos m2] at h
      obtain ⟨a1, n1, r1, h⟩ := bnd_inl h
      obtain ⟨n2, r2, _⟩ := ahd_inl h
      have h2 := (ih _ _ _ _ _ r2).1 (by omega)
      exact ⟨fun _ => h2, fun q => by omega⟩
    rw [if_neg m2] at h
    by_cases m3 : m = 3
    · rw [if_pos m3] at h
      by_cases kb : bgn E i = true
      · rw [if_pos kb] at h
        obtain ⟨a1, n1, r1, h⟩ := bnd_inl h
        obtain ⟨n2, r2, _⟩ := ahd_inl h
        have h2 := (ih _ _ _ _ _ r2).1 (by omega)
        exact ⟨fun _ => h2, fun q => by omega⟩
      · rw [if_neg kb] at h
        cases h
        exact ⟨fun _ => Bool.eq_false_iff.2 kb, fun q => by omega⟩
    exact ⟨fun q => by omega, fun q => by omega⟩
theorem ex_end {E : PE} {i a : Nat} {ns : List Nd} (h : exN E i = .inl (a, ns)) : bgn E a = false := (PF_end E _ _ _ _ _ _ h).1 (.inl rfl)
/-- Behind a pattern a name begins a rule. -/
theorem ex_name {E : PE} {i a : Nat} {ns : List Nd} (h : exN E i = .inl (a, ns)) (hk : kdA E a = 1) : ruB E a = true := by
  have h1 := ex_end h
  unfold bgn at h1
  unfold ruB
  rw [hk] at h1 ⊢
  simp only [Bool.or_eq_false_iff] at h1
  have h2 := h1.2
  revert h2
  cases (kdA E (a + 1) == 6) <;> simp
/-- What Parse answers. -/
def psR (s : ByteArray) : Sum (List (ByteArray × List Nd)) (Int × Int) := match lexR (oneP s) s with
  | .inr q => .inr (q.1, q.2)
  | .inl l => fin (mkE l) s.size (rdN (mkE l))
theorem rdN_al {E : PE} (h : ¬ ruB E 0 = true) : rdN E = alN E := by
  unfold rdN alN
  rw [if_neg h]
  cases exN E 0 <;> rfl
end Go.Proofs.YtkihfkcmcdiajaaGreatDoor.N

namespace Go.Proofs.YtkihfkcmcdiajaaGreatDoor
open Go.RowKit
theorem ne_emp {s : ByteArray} (h : 0 < s.size) : (s.toList == []) = false := by
  rw [beq_eq_false_iff_ne, ByteArray.toList_eq]
  intro e
  have h2 : s.data.toList.length = 0 := by rw [e]; rfl
  have h3 : s.data.toList.length = s.size := rfl
  omega
theorem emp_of {s : ByteArray} (h : ¬ 0 < s.size) : s = ⟨#[]⟩ := by
  apply ByteArray.ext
  apply Array.eq_empty_of_size_eq_zero
  have : s.data.size = s.size := rfl
  omega
end Go.Proofs.YtkihfkcmcdiajaaGreatDoor

namespace Go.Proofs.YtkihfkcmcdiajaaGreatDoor.T
open Go.RowKit
/-- A call with one argument as a step of a region that draws its order. -/
theorem step_call1 {F : Nat} (hen : ∀ args w, (callFunc F args).run Tryz.prog w = .ok (.enter F args) w) {ops : Array Oper} {o : Oper} {a : Act} {w : World} {K : Act → World → Prop} {Q : Exit → Act → World → Prop} {E : Prop} (hgd : o.guard = none) (x : Operand) (T : TypeId) (ho : o.op = .call { callee := .value (.func F), args := #[x], argTypes := #[T] }) (v : Value) (hx : a.eval x = v)
    (hc : Calls Tryz.prog F #[v] w fun e w' => ∃ r, e = .returned r ∧ K (a.put o.dst r) w') :
    if Region.wanted o (yielded ops a.tmps) = true then Oper.wp Tryz.prog o a w K Q else E := by
  have hw : Region.wanted o (yielded ops a.tmps) = true := by simp [Region.wanted, hgd]
  rw [if_pos hw]
  have he : (execOp a.eval o).run Tryz.prog w = .ok (.enter F #[v]) w := by
    unfold execOp
    simp [ho, go_sem, invoke, hen]
    rw [← hx]
    cases x <;> simp [Act.eval]
  unfold Oper.wp
  rw [he, Oper.upon_enter]
  refine hc.mono ?_
  rintro e w' ⟨r, rfl, hk⟩
  exact hk
end Go.Proofs.YtkihfkcmcdiajaaGreatDoor.T

namespace Go.Proofs.YtkihfkcmcdiajaaGreatDoor.N
open Go.RowKit
theorem enters49 (args : Array Value) (w : World) : (callFunc 49 args).run Tryz.prog w = .ok (.enter 49 args) w := enters_of Tryz.func49 (by kernel_rfl) rfl args w
theorem hid_of {p : Prop} (h : p) : Hid p := h
/-- A call that panics, as a step of a region that draws its order. -/
theorem step_callp {F : Nat} (hen : ∀ args w, (callFunc F args).run Tryz.prog w = .ok (.enter F args) w) {ops : Array Oper} {o : Oper} {a : Act} {w : World} {K : Act → World → Prop} {Q : Exit → Act → World → Prop} {E : Prop} (hgd : o.guard = none) (x : Operand) (T : TypeId) (ho : o.op = .call { callee := .value (.func F), args := #[x], argTypes := #[T] }) (v : Value) (hx : a.eval x = v)
    (hc : Calls Tryz.prog F #[v] w fun e w' => ∃ ch, e = .panicked ch ∧ Q (.panic ch) a w') (_ : Hid False → K (a.put o.dst (.slice none 0 0)) w) :
    if Region.wanted o (yielded ops a.tmps) = true then Oper.wp Tryz.prog o a w K Q else E := by
  have hw : Region.wanted o (yielded ops a.tmps) = true := by simp [Region.wanted, hgd]
  rw [if_pos hw]
  have he : (execOp a.eval o).run Tryz.prog w = .ok (.enter F #[v]) w := by
    unfold execOp
    simp [ho, go_sem, invoke, hen]
    rw [← hx]
    cases x <;> simp [Act.eval]
  unfold Oper.wp
  rw [he, Oper.upon_enter]
  refine hc.mono ?_
  rintro e w' ⟨r, rfl, hk⟩
  exact hk
set_option maxRecDepth 100000 in
set_option maxHeartbeats 8000000 in
theorem pass_nil {E : PE} {z : Nat} {w0 W : World} {b : Nat} {tv : Value} {i d : Nat} {v : Value} {L : List Nd} (h : RS E z w0 W b tv i d v L) (hlt : i < E.l.length) (hz : E.l.length ≤ 1000000) :
    Calls Tryz.prog 80 #[.pointer (some ⟨b, 0, none⟩), .int .i64 (kdA E i)] W fun e W' => e = .returned (.tuple #[]) ∧ RS E z w0 W' b tv (i + 1) d v L ∧ Fr W W' b (.slice none 0 0) (.slice none 0 0) := by
  obtain ⟨t, ht, hk, _, _⟩ := toks_get E z h.hi
  have HH : Hid (∀ _ : Unit, Calls Tryz.prog 46 #[.pointer (some ⟨b, 0, none⟩)] W fun e W' => e = .returned (.agg #[.int .i64 t.kd, .int .i64 t.nn, .int .i64 t.fr, .int .i64 t.en, .string t.tx, .int .u64 t.s0, .int .u64 t.s1, .int .u64 t.s2, .int .u64 t.s3]) ∧ Below W.heap.size W W') := fun _ => here_any h t ht
  have H := (show Hid _ from h)
  have fl0 := fld0
  rw [← hk]
  have t1 : (t.kd != t.kd) = false := by simp
  obtain ⟨j, hj⟩ : ∃ j, j = i + 1 := ⟨_, rfl⟩
  have u1 : IntKind.i64.wrap ((i : Int) + 1) = (j : Int) := by rw [IntKind.wrap_i64]; omega
  have hj2 : j ≤ E.l.length := by omega
  rw [← hj]
  clear h ht hk hj
  go_enter Tryz.func80, Tryz.ntmps80
  go_wp2_with fail
  refine (HH.out ()).mono ?_
  rintro e w1 ⟨rfl, hb⟩
  have H1 := (show Hid _ from H.out.later hb)
  have HF := (show Hid (Fr W w1 b (.slice none 0 0) (.slice none 0 0)) from Fr.below b _ hb)
  clear hb HH H
  obtain ⟨k0, k1, k2, k3⟩ := H1.out.x.cl
  have f1' := H1.out.x.fz 1
  go_wp2_with fail
  go_end0
  exact ⟨rfl, H1.out.s1 hj2, HF.out.trans (Fr.set _ _ _ _ _)⟩
set_option maxRecDepth 100000 in
set_option maxHeartbeats 8000000 in
theorem rule_x {E : PE} (hE : OkE E) {z : Nat} {w0 : World} (hv : R.VB w0) {b : Nat} {tv : Value} {i : Nat} {W : World} {v : Value} {L : List Nd} (h : RS E z w0 W b tv i 0 v L) (hr : ruB E i = true) (q : Nat × Int) (hq : exN E (i + 2) = .inr q) : Calls Tryz.prog 48 #[.pointer (some ⟨b, 0, none⟩)] W fun e W' => e = pnc (plA E z q.1) q.2 ∧ Below w0.heap.size w0 W' := by
  have hz := hE.z
  have hlt2 := ru_lt hr
  have hr2 := hr
  unfold ruB at hr2
  simp only [Bool.and_eq_true, beq_iff_eq] at hr2
  obtain ⟨t, ht, hk, hpl, hta⟩ := toks_get E z h.hi
  obtain rfl : t = tkA E i := hta (by omega)
  have HH : Hid (∀ W, RS E z w0 W b tv i 0 v L → Calls Tryz.prog 46 #[.pointer (some ⟨b, 0, none⟩)] W fun e W' => e = .returned (.agg #[.int .i64 1, .int .i64 (tkA E i).nn, .int .i64 (plA E z i), .int .i64 (tkA E i).en, .string (tkA E i).tx, .int .u64 (tkA E i).s0, .int .u64 (tkA E i).s1, .int .u64 (tkA E i).s2, .int .u64 (tkA E i).s3]) ∧ Below W.heap.size W W') := fun W h => by
    have := here_any h _ ht
    rw [hpl, hk, hr2.1] at this
    exact this
  have HP1 : Hid (∀ W, RS E z w0 W b tv i 0 v L → Calls Tryz.prog 80 #[.pointer (some ⟨b, 0, none⟩), .int .i64 1] W fun e W' => e = .returned (.tuple #[]) ∧ RS E z w0 W' b tv (i + 1) 0 v L ∧ Fr W W' b (.slice none 0 0) (.slice none 0 0)) := fun W h => by
    have := pass_nil h (by omega) hz
    rw [hr2.1] at this
    exact this
  have HP2 : Hid (∀ W, RS E z w0 W b tv (i + 1) 0 v L → Calls Tryz.prog 80 #[.pointer (some ⟨b, 0, none⟩), .int .i64 6] W fun e W' => e = .returned (.tuple #[]) ∧ RS E z w0 W' b tv ((i + 1) + 1) 0 v L ∧ Fr W W' b (.slice none 0 0) (.slice none 0 0)) := fun W h => by
    have := pass_nil h (by omega) hz
    rw [hr2.2] at this
    exact this
  have HP := (show Hid (PX (W.alloc (.cells #[.int .i64 0, .string ⟨#[]⟩, .slice none 0 0] 62)) W.heap.size (.int .i64 0) (.string ⟨#[]⟩) (.slice none 0 0)) from ⟨heap_alloc_new W _⟩)
  have H := (show Hid (RS E z w0 (W.alloc (.cells #[.int .i64 0, .string ⟨#[]⟩, .slice none 0 0] 62)) b tv i 0 v L) from h.later (below_box _ _))
  have HF := (show Hid (Fr W (W.alloc (.cells #[.int .i64 0, .string ⟨#[]⟩, .slice none 0 0] 62)) b (.slice none 0 0) (.slice none 0 0)) from Fr.below b _ (below_box _ _))
  have hnb := h.x.lt
  have hw0 := h.bl.size
  have HBo : Hid (∀ W, RS E z w0 W b tv (i + 1 + 1) 0 v L → Calls Tryz.prog 49 #[.pointer (some ⟨b, 0, none⟩)] W fun e W' => e = pnc (plA E z q.1) q.2 ∧ Below w0.heap.size w0 W') := fun W h => body_no hE hv h q hq
  clear h ht hk hpl hta hE hv hq hr hr2
  generalize plA E z i = p0 at *
  generalize tkA E i = t at *
  go_enter Tryz.func48, Tryz.ntmps48
  go_wp2_with fail
  generalize W.alloc (.cells #[.int .i64 0, .string ⟨#[]⟩, .slice none 0 0] 62) = w1 at *
  refine (HH.out _ H.out).mono ?_
  rintro e w2 ⟨rfl, hb⟩
  have H2 := (show Hid (RS E z w0 (w2.alloc (.cells #[.int .i64 1, .int .i64 t.nn, .int .i64 p0, .int .i64 t.en, .string t.tx, .int .u64 t.s0, .int .u64 t.s1, .int .u64 t.s2, .int .u64 t.s3] 79)) b tv i 0 v L) from (H.out.later hb).later (below_box _ _))
  have HF2 := (show Hid (Fr W (w2.alloc (.cells #[.int .i64 1, .int .i64 t.nn, .int .i64 p0, .int .i64 t.en, .string t.tx, .int .u64 t.s0, .int .u64 t.s1, .int .u64 t.s2, .int .u64 t.s3] 79)) b (.slice none 0 0) (.slice none 0 0)) from HF.out.trans ((Fr.below b _ hb).trans (Fr.below b _ (below_box _ _))))
  have HP2' := (show Hid (PX (w2.alloc (.cells #[.int .i64 1, .int .i64 t.nn, .int .i64 p0, .int .i64 t.en, .string t.tx, .int .u64 t.s0, .int .u64 t.s1, .int .u64 t.s2, .int .u64 t.s3] 79)) W.heap.size (.int .i64 0) (.string ⟨#[]⟩) (.slice none 0 0)) from (HP.out.same (hb.block _ HP.out.lt)).same ((below_box w2 _).block _ (Nat.lt_of_lt_of_le HP.out.lt hb.size)))
  have HT2 := (show Hid (TX (w2.alloc (.cells #[.int .i64 1, .int .i64 t.nn, .int .i64 p0, .int .i64 t.en, .string t.tx, .int .u64 t.s0, .int .u64 t.s1, .int .u64 t.s2, .int .u64 t.s3] 79)) w2.heap.size ⟨1, t.nn, p0, t.en, t.tx, t.s0, t.s1, t.s2, t.s3⟩) from ⟨heap_alloc_new w2 _⟩)
  have hw2 : W.heap.size < w2.heap.size := Nat.lt_of_lt_of_le HP.out.lt hb.size
  clear hb HH H HF HP
  go_wp2_with fail
  generalize w2.alloc (.cells #[.int .i64 1, .int .i64 t.nn, .int .i64 p0, .int .i64 t.en, .string t.tx, .int .u64 t.s0, .int .u64 t.s1, .int .u64 t.s2, .int .u64 t.s3] 79) = w3 at *
  refine (HP1.out _ H2.out).mono ?_
  rintro e w4 ⟨rfl, h4, hf4⟩
  have H4 := (show Hid _ from h4)
  have HF4 := (show Hid (Fr W w4 b (.slice none 0 0) (.slice none 0 0)) from HF2.out.trans hf4)
  have HP4 := (show Hid _ from HP2'.out.same (hf4.block _ HP2'.out.lt (by omega) (by intro q; cases q)))
  have HT4 := (show Hid _ from tx_fr HT2.out hf4 (by omega) (by intro q; cases q))
  clear h4 hf4 H2 HF2 HP2' HT2 HP1
  go_wp2_with fail
  refine (HP2.out _ H4.out).mono ?_
  rintro e w5 ⟨rfl, h5, hf5⟩
  have H5 := (show Hid _ from h5)
  have HF5 := (show Hid (Fr W w5 b (.slice none 0 0) (.slice none 0 0)) from HF4.out.trans hf5)
  have HP5 := (show Hid _ from HP4.out.same (hf5.block _ HP4.out.lt (by omega) (by intro q; cases q)))
  have HT5 := (show Hid _ from tx_fr HT4.out hf5 (by omega) (by intro q; cases q))
  clear h5 hf5 H4 HF4 HP4 HT4 HP2
  have HD := (show Hid (RS E z w0 w5.drew b tv (i + 1 + 1) 0 v L) from H5.out.later (Below.refl _ _).drew)
  obtain ⟨c0, c1, c2, c3, c4, c5, c6, c7, c8⟩ := HT5.out.cells
  go_wp2_with fail
  have HQ : Hid (∀ act : Act, act.defers = [] → Calls Tryz.prog 49 #[.pointer (some ⟨b, 0, none⟩)] w5.drew fun e w' => ∃ ch, e = .panicked ch ∧ bodyPost Tryz.prog Tryz.f48 (fun e W' => e = pnc (plA E z q.1) q.2 ∧ Below w0.heap.size w0 W') (.panic ch) act w') := fun act hd => (HBo.out _ HD.out).mono (by
    rintro e wA ⟨rfl, hb⟩
    exact ⟨_, rfl, post_panic hd ⟨rfl, hb⟩⟩)
  obtain ⟨y0, y1, y2⟩ := HP5.out.cl
  have g0 := HP5.out.fz 0
  have g1 := HP5.out.fz 1
  have g2 := HP5.out.fz 2
  go_region_law (refine step_callp enters49 rfl _ _ (by rfl) (.pointer (some ⟨b, 0, none⟩)) (by rfl) ?_ ?_; exact HQ.out _ rfl; intro hf)
  all_goals exact hf.out.elim
set_option maxRecDepth 100000 in
set_option maxHeartbeats 8000000 in
theorem rule_ok {E : PE} (hE : OkE E) {z : Nat} {w0 : World} (hv : R.VB w0) {b : Nat} {tv : Value} {i : Nat} {W : World} {v : Value} {L : List Nd} (h : RS E z w0 W b tv i 0 v L) (hr : ruB E i = true) (a : Nat) (ns : List Nd) (hq : exN E (i + 2) = .inl (a, ns)) : Calls Tryz.prog 48 #[.pointer (some ⟨b, 0, none⟩)] W fun e W' => ∃ v', e = .returned (.agg #[.int .i64 (plA E z i), .string (tkA E i).tx, v']) ∧ RS E z w0 W' b tv a 0 v' ns ∧ Fr W W' b (.slice none 0 0) v' := by
  have hz := hE.z
  have hlt2 := ru_lt hr
  have hr2 := hr
  unfold ruB at hr2
  simp only [Bool.and_eq_true, beq_iff_eq] at hr2
  obtain ⟨t, ht, hk, hpl, hta⟩ := toks_get E z h.hi
  obtain rfl : t = tkA E i := hta (by omega)
  have HH : Hid (∀ W, RS E z w0 W b tv i 0 v L → Calls Tryz.prog 46 #[.pointer (some ⟨b, 0, none⟩)] W fun e W' => e = .returned (.agg #[.int .i64 1, .int .i64 (tkA E i).nn, .int .i64 (plA E z i), .int .i64 (tkA E i).en, .string (tkA E i).tx, .int .u64 (tkA E i).s0, .int .u64 (tkA E i).s1, .int .u64 (tkA E i).s2, .int .u64 (tkA E i).s3]) ∧ Below W.heap.size W W') := fun W h => by
    have := here_any h _ ht
    rw [hpl, hk, hr2.1] at this
    exact this
  have HP1 : Hid (∀ W, RS E z w0 W b tv i 0 v L → Calls Tryz.prog 80 #[.pointer (some ⟨b, 0, none⟩), .int .i64 1] W fun e W' => e = .returned (.tuple #[]) ∧ RS E z w0 W' b tv (i + 1) 0 v L ∧ Fr W W' b (.slice none 0 0) (.slice none 0 0)) := fun W h => by
    have := pass_nil h (by omega) hz
    rw [hr2.1] at this
    exact this
  have HP2 : Hid (∀ W, RS E z w0 W b tv (i + 1) 0 v L → Calls Tryz.prog 80 #[.pointer (some ⟨b, 0, none⟩), .int .i64 6] W fun e W' => e = .returned (.tuple #[]) ∧ RS E z w0 W' b tv ((i + 1) + 1) 0 v L ∧ Fr W W' b (.slice none 0 0) (.slice none 0 0)) := fun W h => by
    have := pass_nil h (by omega) hz
    rw [hr2.2] at this
    exact this
  have HP := (show Hid (PX (W.alloc (.cells #[.int .i64 0, .string ⟨#[]⟩, .slice none 0 0] 62)) W.heap.size (.int .i64 0) (.string ⟨#[]⟩) (.slice none 0 0)) from ⟨heap_alloc_new W _⟩)
  have H := (show Hid (RS E z w0 (W.alloc (.cells #[.int .i64 0, .string ⟨#[]⟩, .slice none 0 0] 62)) b tv i 0 v L) from h.later (below_box _ _))
  have HF := (show Hid (Fr W (W.alloc (.cells #[.int .i64 0, .string ⟨#[]⟩, .slice none 0 0] 62)) b (.slice none 0 0) (.slice none 0 0)) from Fr.below b _ (below_box _ _))
  have hnb := h.x.lt
  have hw0 := h.bl.size
  have HBo : Hid (∀ W, RS E z w0 W b tv (i + 1 + 1) 0 v L → Calls Tryz.prog 49 #[.pointer (some ⟨b, 0, none⟩)] W fun e W' => ∃ v', e = .returned v' ∧ RS E z w0 W' b tv a 0 v' ns ∧ Fr W W' b (.slice none 0 0) v') := fun W h => body_ok hE hv h a ns hq
  clear h ht hk hpl hta hE hv hq hr hr2
  generalize plA E z i = p0 at *
  generalize tkA E i = t at *
  go_enter Tryz.func48, Tryz.ntmps48
  go_wp2_with fail
  generalize W.alloc (.cells #[.int .i64 0, .string ⟨#[]⟩, .slice none 0 0] 62) = w1 at *
  refine (HH.out _ H.out).mono ?_
  rintro e w2 ⟨rfl, hb⟩
  have H2 := (show Hid (RS E z w0 (w2.alloc (.cells #[.int .i64 1, .int .i64 t.nn, .int .i64 p0, .int .i64 t.en, .string t.tx, .int .u64 t.s0, .int .u64 t.s1, .int .u64 t.s2, .int .u64 t.s3] 79)) b tv i 0 v L) from (H.out.later hb).later (below_box _ _))
  have HF2 := (show Hid (Fr W (w2.alloc (.cells #[.int .i64 1, .int .i64 t.nn, .int .i64 p0, .int .i64 t.en, .string t.tx, .int .u64 t.s0, .int .u64 t.s1, .int .u64 t.s2, .int .u64 t.s3] 79)) b (.slice none 0 0) (.slice none 0 0)) from HF.out.trans ((Fr.below b _ hb).trans (Fr.below b _ (below_box _ _))))
  have HP2' := (show Hid (PX (w2.alloc (.cells #[.int .i64 1, .int .i64 t.nn, .int .i64 p0, .int .i64 t.en, .string t.tx, .int .u64 t.s0, .int .u64 t.s1, .int .u64 t.s2, .int .u64 t.s3] 79)) W.heap.size (.int .i64 0) (.string ⟨#[]⟩) (.slice none 0 0)) from (HP.out.same (hb.block _ HP.out.lt)).same ((below_box w2 _).block _ (Nat.lt_of_lt_of_le HP.out.lt hb.size)))
  have HT2 := (show Hid (TX (w2.alloc (.cells #[.int .i64 1, .int .i64 t.nn, .int .i64 p0, .int .i64 t.en, .string t.tx, .int .u64 t.s0, .int .u64 t.s1, .int .u64 t.s2, .int .u64 t.s3] 79)) w2.heap.size ⟨1, t.nn, p0, t.en, t.tx, t.s0, t.s1, t.s2, t.s3⟩) from ⟨heap_alloc_new w2 _⟩)
  have hw2 : W.heap.size < w2.heap.size := Nat.lt_of_lt_of_le HP.out.lt hb.size
  clear hb HH H HF HP
  go_wp2_with fail
  generalize w2.alloc (.cells #[.int .i64 1, .int .i64 t.nn, .int .i64 p0, .int .i64 t.en, .string t.tx, .int .u64 t.s0, .int .u64 t.s1, .int .u64 t.s2, .int .u64 t.s3] 79) = w3 at *
  refine (HP1.out _ H2.out).mono ?_
  rintro e w4 ⟨rfl, h4, hf4⟩
  have H4 := (show Hid _ from h4)
  have HF4 := (show Hid (Fr W w4 b (.slice none 0 0) (.slice none 0 0)) from HF2.out.trans hf4)
  have HP4 := (show Hid _ from HP2'.out.same (hf4.block _ HP2'.out.lt (by omega) (by intro q; cases q)))
  have HT4 := (show Hid _ from tx_fr HT2.out hf4 (by omega) (by intro q; cases q))
  clear h4 hf4 H2 HF2 HP2' HT2 HP1
  go_wp2_with fail
  refine (HP2.out _ H4.out).mono ?_
  rintro e w5 ⟨rfl, h5, hf5⟩
  have H5 := (show Hid _ from h5)
  have HF5 := (show Hid (Fr W w5 b (.slice none 0 0) (.slice none 0 0)) from HF4.out.trans hf5)
  have HP5 := (show Hid _ from HP4.out.same (hf5.block _ HP4.out.lt (by omega) (by intro q; cases q)))
  have HT5 := (show Hid _ from tx_fr HT4.out hf5 (by omega) (by intro q; cases q))
  clear h5 hf5 H4 HF4 HP4 HT4 HP2
  have HD := (show Hid (RS E z w0 w5.drew b tv (i + 1 + 1) 0 v L) from H5.out.later (Below.refl _ _).drew)
  obtain ⟨c0, c1, c2, c3, c4, c5, c6, c7, c8⟩ := HT5.out.cells
  go_wp2_with fail
  have HA := (show Hid (∀ wA A3 n3, RS E z w0 wA b tv a 0 (.slice A3 ns.length n3) ns → Fr w5.drew wA b (.slice none 0 0) (.slice A3 ns.length n3) → PX wA W.heap.size (.int .i64 0) (.string ⟨#[]⟩) (.slice none 0 0) ∧ TX wA w2.heap.size ⟨1, t.nn, p0, t.en, t.tx, t.s0, t.s1, t.s2, t.s3⟩ ∧ Fr W wA b (.slice none 0 0) (.slice A3 ns.length n3)) from fun wA A3 n3 hA hf => by
    have hf := hf.drew
    exact ⟨HP5.out.same (hf.block _ HP5.out.lt (by omega) (by intro q; cases q)), HT5.out.same (hf.block _ HT5.out.lt (by omega) (by intro q; cases q)), HF5.out.trans hf⟩)
  go_region_law (refine T.step_call1 enters49 rfl _ _ (by rfl) (.pointer (some ⟨b, 0, none⟩)) (by rfl) ?_; with_reducible refine (HBo.out _ HD.out).mono ?_; rintro e wA ⟨v6, rfl, h6, hf6⟩; obtain ⟨A3, n3, rfl⟩ := own_form h6.o; refine ⟨_, rfl, ?_⟩; have HY := hid_of (HA.out wA A3 n3 h6 hf6); have H6 := hid_of h6; obtain ⟨y0, y1, y2⟩ := HY.out.1.cl; have g0 := HY.out.1.fz 0; have g1 := HY.out.1.fz 1; have g2 := HY.out.1.fz 2; obtain ⟨d0, d1, d2, d3, d4, d5, d6, d7, d8⟩ := HY.out.2.1.cells)
  all_goals
    clear c0 c1 c2 c3 c4 c5 c6 c7 c8 d0 d1 d2 d3 d4 d5 d6 d7 d8 y0 y1 y2 g0 g1 g2
    go_wp2_with fail
    refine ret_px rfl rfl rfl (st3_px HY.out.1 (.int .i64 p0) (.string t.tx) (.slice A3 ns.length n3)) ?_
    exact ⟨_, rfl, H6.out.st3 HY.out.1 hw0 _ _ _, HY.out.2.2.st3 (Nat.le_refl _) _ _ _⟩
end Go.Proofs.YtkihfkcmcdiajaaGreatDoor.N

namespace Go.Proofs.YtkihfkcmcdiajaaGreatDoor.N
open Go.RowKit
set_option maxRecDepth 100000 in
set_option maxHeartbeats 8000000 in
theorem rule_no {E : PE} {z : Nat} {w0 : World} {b : Nat} {tv : Value} {i : Nat} {W : World} {v : Value} {L : List Nd} (h : RS E z w0 W b tv i 0 v L) (h1 : ¬ kdA E i = 1) : Calls Tryz.prog 48 #[.pointer (some ⟨b, 0, none⟩)] W fun e W' => e = pnc (plA E z i) 60 ∧ Below w0.heap.size w0 W' := by
  obtain ⟨t, ht, hk, hpl, _⟩ := toks_get E z h.hi
  have HH : Hid (∀ W, RS E z w0 W b tv i 0 v L → Calls Tryz.prog 46 #[.pointer (some ⟨b, 0, none⟩)] W fun e W' => e = .returned (.agg #[.int .i64 t.kd, .int .i64 t.nn, .int .i64 t.fr, .int .i64 t.en, .string t.tx, .int .u64 t.s0, .int .u64 t.s1, .int .u64 t.s2, .int .u64 t.s3]) ∧ Below W.heap.size W W') := fun W h => here_any h _ ht
  have HP1 : Hid (∀ W, RS E z w0 W b tv i 0 v L → Calls Tryz.prog 80 #[.pointer (some ⟨b, 0, none⟩), .int .i64 1] W fun e W' => e = pnc (plA E z i) 60 ∧ Below w0.heap.size w0 W') := fun W h => pass_no h 1 h1
  have H := (show Hid (RS E z w0 (W.alloc (.cells #[.int .i64 0, .string ⟨#[]⟩, .slice none 0 0] 62)) b tv i 0 v L) from h.later (below_box _ _))
  clear h ht hk hpl h1
  go_enter Tryz.func48, Tryz.ntmps48
  go_wp2_with fail
  generalize W.alloc (.cells #[.int .i64 0, .string ⟨#[]⟩, .slice none 0 0] 62) = w1 at *
  refine (HH.out _ H.out).mono ?_
  rintro e w2 ⟨rfl, hb⟩
  have H2 := (show Hid (RS E z w0 (w2.alloc (.cells #[.int .i64 t.kd, .int .i64 t.nn, .int .i64 t.fr, .int .i64 t.en, .string t.tx, .int .u64 t.s0, .int .u64 t.s1, .int .u64 t.s2, .int .u64 t.s3] 79)) b tv i 0 v L) from (H.out.later hb).later (below_box _ _))
  clear hb HH H
  go_wp2_with fail
  refine (HP1.out _ H2.out).mono ?_
  rintro e w4 ⟨rfl, hb⟩
  exact post_panic rfl ⟨rfl, hb⟩
theorem Tryz.info62 : (Tryz.prog.info? 62).map (fun i => (i.zero, i.size, i.bytes)) = some (some (.agg #[.int .i64 0, .string ⟨#[]⟩, .slice none 0 0]), 3, 48) := by kernel_rfl
theorem plc_append (E : PE) (z : Nat) (a b : List (Rl × Value)) : plc E z (a ++ b) = plc E z a ++ plc E z b := List.flatMap_append
theorem RS.gr {E : PE} {z : Nat} {w0 W W' : World} {b : Nat} {tv : Value} {i d : Nat} {v : Value} {L : List Nd} {u : Value} {n : Nat} {xs : List Value} (h : RS E z w0 W b tv i d v L) (ho : W.ownsRow w0.heap.size 62 3 u n xs) (hg : W.grownBy W' u.ownBlock) : RS E z w0 W' b tv i d v L :=
  ⟨h.bl.grown hg h.bl.size (fun k e => (ho.lt k e).1), h.lo, h.x.same (hg.block b h.x.lt (fun e => h.x.ne ho (by decide) e.symm rfl)), own_same h.t fun k hk => hg.block k (h.t.lt k hk).2 (fun e => own_apart h.t ho (by decide) hk e.symm), own_same h.o fun k hk => hg.block k (h.o.lt k hk).2 (fun e => own_apart h.o ho (by decide) hk e.symm), h.hi, h.hd⟩
/-- How rules ends. -/
def RlV (E : PE) (z : Nat) (w0 : World) (r : Sum (List Rl) (Nat × Int)) (e : Ending) (W' : World) : Prop := match r with
  | .inr q => e = pnc (plA E z q.1) q.2 ∧ Below w0.heap.size w0 W'
  | .inl rs => ∃ u ov, e = .returned u ∧ W'.ownsRow w0.heap.size 62 3 u ov.length (plc E z ov) ∧ Bds w0 W' ov ∧ ov.map (·.1) = rs ∧ Below w0.heap.size w0 W'
set_option maxRecDepth 100000 in
set_option maxHeartbeats 8000000 in
theorem rules_any {E : PE} (hE : OkE E) (hk0 : ∀ a, a < E.l.length → ¬ kdA E a = 0) {z : Nat} {w0 : World} (hv : R.VB w0) {b : Nat} {tv : Value} {W : World} (h : RS E z w0 W b tv 0 0 (.slice none 0 0) []) (hr0 : ruB E 0 = true) : Calls Tryz.prog 25 #[.pointer (some ⟨b, 0, none⟩)] W fun e W' => RlV E z w0 (rdN E) e W' := by
  have hlen := hE.len
  obtain ⟨i0, hinf, hz0, hz1, hz2⟩ := info_parts Tryz.info62
  have HE := (show Hid _ from hE)
  have HK := (show Hid _ from hk0)
  have HVB := (show Hid _ from hv)
  have HA := (show Hid (AtR E z w0 W b tv 0 (.slice none 0 0) [] (.slice none 0 0) []) from ⟨h, World.ownsRow_nil _ _ _ _, ⟨fun x hx => (by cases hx), List.Pairwise.nil⟩, Nat.le_refl _, fun _ => hr0⟩)
  have HR0 : Hid (rdN E = rlG (exN E) E (E.l.length + 1) 0 (([] : List (Rl × Value)).map (·.1))) := by
    show rdN E = _
    unfold rdN
    rw [if_pos hr0]
    rfl
  generalize rdN E = R0 at *
  clear h hE hk0 hv hr0
  go_enter Tryz.func25, Tryz.ntmps25
  go_wp2_with fail
  go_loopw [3] (fun u wr => ∃ (a : Nat) (v : Value) (L : List Nd) (ov : List (Rl × Value)) (f : Nat), E.l.length < f + a ∧ Hid (AtR E z w0 wr b tv a v L u ov) ∧ Hid (R0 = rlG (exN E) E f a (ov.map (·.1)))) (fun _ wr => E.l.length - nxt b wr)
  case atStart => exact ⟨0, _, _, _, _, by omega, HA, HR0⟩
  case round =>
    obtain ⟨a, v, L, ov, f, hfa, HW, HR⟩ := hrel
    clear HA HR0
    have ha := HW.out.s.hi
    obtain ⟨f, rfl⟩ : ∃ g, f = g + 1 := ⟨f - 1, by omega⟩
    obtain ⟨t, ht, hk, hpl, hta⟩ := toks_get E z ha
    clear hta
    have HH : Hid (∀ _ : Unit, Calls Tryz.prog 46 #[.pointer (some ⟨b, 0, none⟩)] wr fun e W' => e = .returned (.agg #[.int .i64 t.kd, .int .i64 t.nn, .int .i64 t.fr, .int .i64 t.en, .string t.tx, .int .u64 t.s0, .int .u64 t.s1, .int .u64 t.s2, .int .u64 t.s3]) ∧ Below wr.heap.size wr W') := fun _ => here_any HW.out.s _ ht
    have fl0 := fld0
    have HG : Hid (R0 = if a < E.l.length then (if ruB E a = true then (match exN E (a + 2) with
      | .inr q => .inr q
      | .inl p => rlG (exN E) E f p.1 (ov.map (·.1) ++ [(a, (tkA E a).tx, p.2)])) else .inr (a, 60)) else .inl (ov.map (·.1))) := by
      show R0 = _
      rw [HR.out, rlG]
      all_goals
        split
        · split
          · cases exN E (a + 2) <;> rfl
          · rfl
        · rfl
    by_cases hlt : a < E.l.length
    · have t1 : (t.kd != 0) = true := by rw [hk]; simpa using HK.out a hlt
      by_cases hru : ruB E a = true
      · cases hx : exN E (a + 2) with
        | inr q =>
          have HV : Hid (R0 = .inr q) := by
            show R0 = _
            rw [HG.out, if_pos hlt, if_pos hru, hx]
          have HRu : Hid (∀ W, AtR E z w0 W b tv a v L u3 ov → Calls Tryz.prog 48 #[.pointer (some ⟨b, 0, none⟩)] W fun e W' => e = pnc (plA E z q.1) q.2 ∧ Below w0.heap.size w0 W') := fun W h => rule_x HE.out HVB.out h.s hru q hx
          clear HR HG ht hk hpl hru hx
          go_wp2_with fail
          refine (HH.out ()).mono ?_
          rintro e w1 ⟨rfl, hb⟩
          have H1 := (show Hid _ from HW.out.later hb)
          clear hb HH
          go_wp2_with fail
          refine (HRu.out _ H1.out).mono ?_
          rintro e w2 ⟨rfl, hb⟩
          exact post_panic (P := Tryz.prog) (fn := Tryz.f25) rfl (by show RlV E z w0 R0 _ _; rw [HV.out]; exact ⟨rfl, hb⟩)
        | inl p =>
          obtain ⟨a2, ns⟩ := p
          have hadv := ex_adv (ru_lt hru) hx
          have hnm := fun hq => ex_name (E := E) hx hq
          have HV : Hid (R0 = rlG (exN E) E f a2 (ov.map (·.1) ++ [(a, (tkA E a).tx, ns)])) := by
            show R0 = _
            rw [HG.out, if_pos hlt, if_pos hru, hx]
          have HRu : Hid (∀ W, AtR E z w0 W b tv a v L u3 ov → Calls Tryz.prog 48 #[.pointer (some ⟨b, 0, none⟩)] W fun e W' => ∃ v', e = .returned (.agg #[.int .i64 (plA E z a), .string (tkA E a).tx, v']) ∧ RS E z w0 W' b tv a2 0 v' ns ∧ Fr W W' b (.slice none 0 0) v') := fun W h => rule_ok HE.out HVB.out h.s hru a2 ns hx
          have HNm := (show Hid _ from hnm)
          have hn := HW.out.n
          have HNx := (show Hid (nxt b wr = a) from HW.out.s.nx)
          clear HR HG ht hk hpl hru hx hnm
          go_wp2_with fail
          refine (HH.out ()).mono ?_
          rintro e w1 ⟨rfl, hb⟩
          have H1 := (show Hid _ from HW.out.later hb)
          clear hb HH HW
          go_wp2_with fail
          refine (HRu.out _ H1.out).mono ?_
          rintro e w2 ⟨v2, rfl, h2, hf2⟩
          obtain ⟨A2, n2, rfl⟩ := own_form h2.o
          have H2 := (show Hid _ from h2)
          have HK2 := (show Hid _ from H1.out.read hf2)
          have hO := HK2.out.1
          have hs2 := h2.bl.size
          clear h2 hf2 H1 HRu
          generalize hpa : plA E z a = p0 at *
          generalize htx : (tkA E a).tx = tx0 at *
          go_wp2_with (at_builtin; refine wpList_append_lies _ rfl _ _ 59 rfl w0.heap.size 62 i0 (.agg #[.int .i64 0, .string ⟨#[]⟩, .slice none 0 0]) 3 48 Tryz.underlying59 hinf hz0 hz1 hz2 rfl (by decide) _ _ _ rfl (hO.alloc _) ⟨w2.heap.size, 0, none⟩ 1 1 [.int .i64 p0, .string tx0, .slice A2 ns.length n2] rfl rfl ?c1 ?c2 (by decide) ?c3 ?c4 ?c5 (w2.heap.size + 1) (by simp) ?_)
          case c1 => exact World.news_of_block (cs := #[.int .i64 p0, .string tx0, .slice A2 ns.length n2]) (t := 62) (fr := (0, 0)) (heap_alloc_new w2 _)
          case c2 => intro u hu; simp only [List.mem_cons, List.not_mem_nil, or_false] at hu; rcases hu with rfl | rfl | rfl <;> rfl
          case c3 => unfold maxLen; omega
          case c4 => omega
          case c5 => rw [World.size_alloc]; omega
          intro g3 cap w3 hown hgrow hat hlt3
          have HW3 := (show Hid (AtR E z w0 w3 b tv a2 (.slice A2 ns.length n2) ns (.slice (some ⟨g3, 0, none⟩) (ov.length + 1) cap) (ov ++ [((a, tx0, ns), .slice A2 ns.length n2)])) from by
            have ha2 := hO.alloc (.cells #[.int .i64 p0, .string tx0, .slice A2 ns.length n2] 62)
            have hS := (H2.out.later (below_box w2 (.cells #[.int .i64 p0, .string tx0, .slice A2 ns.length n2] 62))).gr ha2 hgrow
            refine ⟨hS, ?_, ((HK2.out.2.1.later (below_box w2 _)).grow hgrow ha2 (by decide)).push _ hS.o HK2.out.2.2, by rw [List.length_append, List.length_singleton]; omega, HNm.out⟩
            rw [List.length_append, List.length_singleton, plc_append, plc_one]
            unfold plV
            rw [hpa]
            exact hown)
          have HV3 : Hid (R0 = rlG (exN E) E f a2 ((ov ++ [((a, tx0, ns), Value.slice A2 ns.length n2)]).map (·.1))) := by
            show R0 = _
            rw [HV.out, List.map_append]
            rfl
          clear hown hgrow hat hlt3 H2 HK2 hO hpa htx HV
          go_wp2_with fail
          go_roundw
          case rel => exact ⟨a2, _, _, _, f, by omega, HW3, HV3⟩
          case measure => rw [HNx.out, HW3.out.s.nx]; omega
      · have hk1 : ¬ kdA E a = 1 := fun q => hru (HW.out.nm q)
        have HV : Hid (R0 = .inr (a, 60)) := by
          show R0 = _
          rw [HG.out, if_pos hlt, if_neg hru]
        have HRu : Hid (∀ W, AtR E z w0 W b tv a v L u3 ov → Calls Tryz.prog 48 #[.pointer (some ⟨b, 0, none⟩)] W fun e W' => e = pnc (plA E z a) 60 ∧ Below w0.heap.size w0 W') := fun W h => rule_no h.s hk1
        clear HR HG ht hk hpl hru hk1
        go_wp2_with fail
        refine (HH.out ()).mono ?_
        rintro e w1 ⟨rfl, hb⟩
        have H1 := (show Hid _ from HW.out.later hb)
        clear hb HH
        go_wp2_with fail
        refine (HRu.out _ H1.out).mono ?_
        rintro e w2 ⟨rfl, hb⟩
        exact post_panic (P := Tryz.prog) (fn := Tryz.f25) rfl (by show RlV E z w0 R0 _ _; rw [HV.out]; exact ⟨rfl, hb⟩)
    · have hae : a = E.l.length := by omega
      have t1 : (t.kd != 0) = false := by rw [hk, hae, kd_end]; rfl
      have HV : Hid (R0 = .inl (ov.map (·.1))) := by
        show R0 = _
        rw [HG.out, if_neg hlt]
      clear HR HG ht hk hpl hae
      go_wp2_with fail
      refine (HH.out ()).mono ?_
      rintro e w1 ⟨rfl, hb⟩
      have H1 := (show Hid _ from HW.out.later hb)
      clear hb HH
      go_wp2_with fail
      go_ret
      show RlV E z w0 R0 _ _
      rw [HV.out]
      exact ⟨_, ov, rfl, H1.out.o, H1.out.bd, rfl, H1.out.s.bl⟩
end Go.Proofs.YtkihfkcmcdiajaaGreatDoor.N

namespace Go.Proofs.YtkihfkcmcdiajaaGreatDoor.N
open Go.RowKit
/-- What is known of rules that were read. -/
theorem rlG_tx {E : PE} (hE : OkE E) : ∀ (f i : Nat) (out rs : List Rl), (∀ r ∈ out, ∀ n ∈ r.2.2, n.tx.size ≤ 65536) → rlG (exN E) E f i out = .inl rs → ∀ r ∈ rs, ∀ n ∈ r.2.2, n.tx.size ≤ 65536 := by
  intro f
  induction f with
  | zero => intro i out rs h0 h; rw [rlG] at h; cases h; exact h0
  | succ f ih =>
    intro i out rs h0 h
    rw [rlG] at h
    by_cases hi : i < E.l.length
    · rw [if_pos hi] at h
      by_cases hr : ruB E i = true
      · rw [if_pos hr] at h
        cases he : exN E (i + 2) with
        | inr p => rw [he] at h; cases h
        | inl p =>
          rw [he] at h
          refine ih _ _ _ (fun r hr2 => ?_) h
          rcases List.mem_append.1 hr2 with q | q
          · exact h0 r q
          · rw [List.mem_singleton.1 q]; exact ex_tx hE he
      · rw [if_neg hr] at h; cases h
    · rw [if_neg hi] at h; cases h; exact h0
theorem rdN_tx {E : PE} (hE : OkE E) {rs : List Rl} (h : rdN E = .inl rs) : ∀ r ∈ rs, ∀ n ∈ r.2.2, n.tx.size ≤ 65536 := by
  unfold rdN at h
  split at h
  · exact rlG_tx hE _ _ _ _ (fun r hr => by cases hr) h
  · cases he : exN E 0 with
    | inr p => rw [he] at h; cases h
    | inl p =>
      rw [he] at h
      dsimp only at h
      split at h
      · cases h
      · cases h
        intro r hr
        rw [List.mem_singleton.1 hr]
        exact ex_tx hE he
end Go.Proofs.YtkihfkcmcdiajaaGreatDoor.N

namespace Go.Proofs.YtkihfkcmcdiajaaGreatDoor.N
open Go.RowKit
set_option maxRecDepth 100000 in
set_option maxHeartbeats 8000000 in
theorem catchP_panic (p : Nat) (x y a c : Int) (older : List PanicEntry) (w : World) (hx : FX w p x y) :
    CallsD Tryz.prog 20 #[.pointer (some ⟨p, 0, none⟩)] (.panicking ({ v := .iface 27 (.agg #[.int .i64 a, .int .i64 c]), recovered := false } :: older)) w fun e u' w' =>
      e = .returned (.tuple #[]) ∧ u' = .panicking ({ v := .iface 27 (.agg #[.int .i64 a, .int .i64 c]), recovered := true } :: older) ∧ FX w' p a c ∧ Fr w w' p (.slice none 0 0) (.slice none 0 0) ∧ Below p w w' := by
  have HR : Hid (∀ W, Calls Tryz.prog 21 #[.iface 27 (.agg #[.int .i64 a, .int .i64 c])] W fun e W' => e = .returned (.agg #[.int .i64 a, .int .i64 c]) ∧ Below W.heap.size W W') := fun W => reason_any a c W
  have HX := (show Hid (FX w p x y) from hx)
  refine callsD_of_wpS Tryz.func20 rfl fun c₀ cs hu => ?_
  apply wpS_seq
  apply wpS_region
  simp [wpOpsS, go_sem, recoverD, hu, Tryz.ntmps20, Exit.thenS]
  refine wpS_of_wp ?_
  have ht : (#[Value.pointer (some ⟨p, 0, none⟩)] ++ ((Array.replicate 6 undef).setIfInBounds 1 (.iface 27 (.agg #[.int .i64 a, .int .i64 c]))).setIfInBounds 0 (.iface 27 (.agg #[.int .i64 a, .int .i64 c])) : Array Value) = #[.pointer (some ⟨p, 0, none⟩), .iface 27 (.agg #[.int .i64 a, .int .i64 c]), .iface 27 (.agg #[.int .i64 a, .int .i64 c]), undef, undef, undef, undef] := rfl
  rw [ht]
  clear ht hu hx
  go_wp2_with fail
  refine (HR.out _).mono ?_
  rintro e w1 ⟨rfl, hb⟩
  have H1 := (show Hid (FX w1 p x y) from HX.out.below hb)
  have HB := (show Hid (Below w.heap.size w w1) from hb)
  have hlt := HX.out.lt
  clear hb HR HX
  have c0 := H1.out.c0
  have c1 := H1.out.c1
  have f0 := H1.out.f0
  have f1' := H1.out.f1
  go_wp2_with fail
  refine ⟨rfl, _, rfl, .tuple #[], (by simp [results, Tryz.results20]), rfl, rfl, stF_fx H1.out a c, (Fr.below p _ HB.out).trans ((Fr.set _ _ _ _ _).trans (Fr.set _ _ _ _ _)), stF_below (HB.out.mono (Nat.le_of_lt hlt)) (Nat.le_refl _) a c⟩
set_option maxRecDepth 100000 in
set_option maxHeartbeats 8000000 in
theorem catchP_idle (p : Nat) (w : World) :
    CallsD Tryz.prog 20 #[.pointer (some ⟨p, 0, none⟩)] .returning w fun e u' w' => e = .returned (.tuple #[]) ∧ u' = .returning ∧ w' = w := by
  refine callsD_of_wpS Tryz.func20 rfl fun c₀ cs hu => ?_
  apply wpS_seq
  apply wpS_region
  simp [wpOpsS, go_sem, recoverD, hu, Tryz.ntmps20, Exit.thenS]
  refine wpS_of_wp ?_
  have ht : (#[Value.pointer (some ⟨p, 0, none⟩)] ++ ((Array.replicate 6 undef).setIfInBounds 1 Value.nilIface).setIfInBounds 0 Value.nilIface : Array Value) = #[.pointer (some ⟨p, 0, none⟩), .nilIface, .nilIface, undef, undef, undef, undef] := rfl
  rw [ht]
  have HC := (show Hid (c₀ :: cs = { c₀ with mode := .returning } :: cs) from by show _ = _; rw [← hu])
  clear ht hu
  go_wp2_with fail
  exact ⟨rfl, _, HC.out, .tuple #[], (by simp [results, Tryz.results20]), rfl, rfl, rfl⟩
end Go.Proofs.YtkihfkcmcdiajaaGreatDoor.N

namespace Go.Proofs.YtkihfkcmcdiajaaGreatDoor.N
open Go.RowKit
theorem doorP {R : Ending → World → Prop} {act : Act} {W : World} {k : Nat} {p c x y : Int} (hd : act.defers = [{ target := .fn (.func 20) #[.pointer (some ⟨k + 1, 0, none⟩)], args := #[] }]) (h2 : act.tmps.getD 2 undef = .pointer (some ⟨k, 0, none⟩)) (h3 : act.tmps.getD 3 undef = .pointer (some ⟨k + 1, 0, none⟩)) (hg : GX W k (.slice none 0 0)) (hf : FX W (k + 1) x y)
    (hR : ∀ W', Below k W W' → R (.returned (.tuple #[.agg #[.slice none 0 0], .agg #[.int .i64 p, .int .i64 c]])) W') :
    bodyPostD Tryz.prog Tryz.f9 R (.panic [{ v := .iface 27 (.agg #[.int .i64 p, .int .i64 c]), recovered := false }]) act W := by
  show Leaves _ _ _ _ act.defers _ _
  rw [hd]
  refine leaves_cons (f := 20) (args := #[.pointer (some ⟨k + 1, 0, none⟩)]) (by simp) (by simp [go_sem]) ?_
  refine (catchP_panic (k + 1) x y p c [] W hf).mono ?_
  rintro e u' w' ⟨rfl, rfl, h4, h5, h6⟩
  have hg' : GX w' k (.slice none 0 0) := hg.same (h5.block k hg.lt (by omega) (by intro q; cases q))
  have c0 := hg'.cl
  have d0 := h4.c0
  have d1 := h4.c1
  simp only [Array.getD_eq_getD_getElem?] at h2 h3
  refine ⟨.tuple #[.agg #[.slice none 0 0], .agg #[.int .i64 p, .int .i64 c]], ?_, hR w' (h6.mono (Nat.le_succ k))⟩
  simp [results, Tryz.results9, go_sem, h2, h3, c0, d0, d1]
theorem doorR {R : Ending → World → Prop} {act : Act} {W : World} {k : Nat} {p c : Int} {v : Value} (hd : act.defers = [{ target := .fn (.func 20) #[.pointer (some ⟨k + 1, 0, none⟩)], args := #[] }]) (h2 : act.tmps.getD 2 undef = .pointer (some ⟨k, 0, none⟩)) (h3 : act.tmps.getD 3 undef = .pointer (some ⟨k + 1, 0, none⟩)) (hg : GX W k v) (hf : FX W (k + 1) p c)
    (hR : R (.returned (.tuple #[.agg #[v], .agg #[.int .i64 p, .int .i64 c]])) W) :
    bodyPostD Tryz.prog Tryz.f9 R .ret act W := by
  show Leaves _ _ _ _ act.defers _ _
  rw [hd]
  refine leaves_cons (f := 20) (args := #[.pointer (some ⟨k + 1, 0, none⟩)]) (by simp) (by simp [go_sem]) ?_
  refine (catchP_idle (k + 1) W).mono ?_
  rintro e u' w' ⟨rfl, rfl, rfl⟩
  have c0 := hg.cl
  have d0 := hf.c0
  have d1 := hf.c1
  simp only [Array.getD_eq_getD_getElem?] at h2 h3
  refine ⟨.tuple #[.agg #[v], .agg #[.int .i64 p, .int .i64 c]], ?_, hR⟩
  simp [results, Tryz.results9, go_sem, h2, h3, c0, d0, d1]
set_option maxRecDepth 100000 in
set_option maxHeartbeats 8000000 in
theorem parse_lex (s : ByteArray) (w : World) (hg : GW w) (q : Nat × Int) (hq : lexR (oneP s) s = .inr q) : Calls Tryz.prog 9 #[.string s] w fun e w' => e = .returned (.tuple #[.agg #[.slice none 0 0], .agg #[.int .i64 q.1, .int .i64 q.2]]) ∧ Below w.heap.size w w' := by
  have hmf : ∀ (fn : Fn) (first cap : Array Value) (w : World), (Instr.makeFunc fn first cap).run Tryz.prog w = .ok (.func fn first cap) w := fun _ _ _ _ => rfl
  have HB0 := (show Hid (Below w.heap.size w ((w.alloc (.cells #[.slice none 0 0] 24)).alloc fxZ) ∧ GX ((w.alloc (.cells #[.slice none 0 0] 24)).alloc fxZ) w.heap.size (.slice none 0 0) ∧ FX ((w.alloc (.cells #[.slice none 0 0] 24)).alloc fxZ) (w.heap.size + 1) 0 0) from ⟨((Below.refl _ _).alloc (Nat.le_refl _) _).alloc (by rw [World.size_alloc]; omega) _, (GX.mk (heap_alloc_new w _)).below (below_box _ _), ⟨by have h := heap_alloc_new (w.alloc (.cells #[.slice none 0 0] 24)) fxZ; rw [World.size_alloc] at h; exact h⟩⟩)
  have HN : Hid (∀ _ : Unit, Calls Tryz.prog 22 #[.string s] ((w.alloc (.cells #[.slice none 0 0] 24)).alloc fxZ) fun e w' => e = pnc q.1 q.2 ∧ Below ((w.alloc (.cells #[.slice none 0 0] 24)).alloc fxZ).heap.size ((w.alloc (.cells #[.slice none 0 0] 24)).alloc fxZ) w') := fun _ => newReader_no s _ (hg.later HB0.out.1) q hq (lex_bad hq).2
  clear hg hq
  go_enter_defers Tryz.func9, Tryz.ntmps9
  go_wp2_with fail
  generalize (w.alloc (.cells #[.slice none 0 0] 24)).alloc fxZ = w0 at *
  refine (HN.out ()).mono ?_
  rintro e w1 ⟨rfl, hb⟩
  have hsz := HB0.out.1.size
  exact doorP rfl rfl rfl (HB0.out.2.1.below hb) (HB0.out.2.2.below hb) fun W' hW' => ⟨rfl, (HB0.out.1.trans (hb.mono hsz)).trans hW'⟩
/-- The results laid into their boxes. -/
theorem fin_row {w w0 W : World} {k : Nat} {u gu : Value} {x y : Int} {ov : List (Rl × Value)} (hg : GX W k u) (hf : FX W (k + 1) x y) (ho : W.ownsRow w0.heap.size 41 2 gu ov.length (grc ov)) (hb : Bds w0 W ov) (hw : w.heap.size ≤ w0.heap.size) (hbl : Below w.heap.size w W) (hk : w.heap.size ≤ k) : GX (stF (W.setCell ⟨k, 0, none⟩ gu) (k + 1) 0 0) k gu ∧ FX (stF (W.setCell ⟨k, 0, none⟩ gu) (k + 1) 0 0) (k + 1) 0 0 ∧ (stF (W.setCell ⟨k, 0, none⟩ gu) (k + 1) 0 0).ownsRow w.heap.size 41 2 gu ov.length (grc ov) ∧ Bds w (stF (W.setCell ⟨k, 0, none⟩ gu) (k + 1) 0 0) ov ∧ Below w.heap.size w (stF (W.setCell ⟨k, 0, none⟩ gu) (k + 1) 0 0) := by
  have hf2 : FX (W.setCell ⟨k, 0, none⟩ gu) (k + 1) x y := ⟨(Below.heap_setCell _ _ _ _ (by show k + 1 ≠ k; omega)).trans hf.heap⟩
  have key : ∀ {B e s n : Nat} {v : Value} {xs : List Value}, W.ownsRow B e s v n xs → e ≠ 24 → e ≠ 27 → ∀ j, v.ownBlock = some j → (stF (W.setCell ⟨k, 0, none⟩ gu) (k + 1) 0 0).heap[j]? = W.heap[j]? := fun h h1 h2 j hj => (stF_other 0 0 (FX.ne2 hf h h2 hj)).trans (Below.heap_setCell _ _ _ _ (hg.ne h h1 hj))
  refine ⟨⟨(stF_other 0 0 (by omega)).trans (hg.set gu).heap⟩, stF_fx hf2 0 0, own_base (own_same ho (key ho (by decide) (by decide))) hw, (hb.same fun x hx => key (hb.e x hx) (by decide) (by decide)).base hw, stF_below (hbl.setCell (p := ⟨k, 0, none⟩) hk _) (by omega) 0 0⟩
theorem rl_len {E : PE} (hE : OkE E) : ∀ (f i : Nat) (out rs : List Rl), i ≤ E.l.length → out.length ≤ i → (∀ r ∈ out, r.2.2.length ≤ 2000000000000) → rlG (exN E) E f i out = .inl rs → rs.length ≤ E.l.length ∧ ∀ r ∈ rs, r.2.2.length ≤ 2000000000000 := by
  intro f
  induction f with
  | zero => intro i out rs hi h0 h1 h; rw [rlG] at h; cases h; exact ⟨by omega, h1⟩
  | succ f ih =>
    intro i out rs hi h0 h1 h
    rw [rlG] at h
    by_cases hlt : i < E.l.length
    · rw [if_pos hlt] at h
      by_cases hr : ruB E i = true
      · rw [if_pos hr] at h
        cases he : exN E (i + 2) with
        | inr p => rw [he] at h; cases h
        | inl p =>
          obtain ⟨a, ns⟩ := p
          rw [he] at h
          have h2 := ex_adv (ru_lt hr) he
          have h3 := (gN_len hE.rl (m := 0) (d := 0) (ru_lt hr) (by omega) he).2
          have h4 := hE.len
          refine ih _ _ _ h2.2 (by rw [List.length_append, List.length_singleton]; show out.length + 1 ≤ a; omega) (fun r hr2 => ?_) h
          rcases List.mem_append.1 hr2 with q | q
          · exact h1 r q
          · rw [List.mem_singleton.1 q]; show ns.length ≤ _; omega
      · rw [if_neg hr] at h; cases h
    · rw [if_neg hlt] at h; cases h; exact ⟨by omega, h1⟩
set_option maxRecDepth 100000 in
set_option maxHeartbeats 8000000 in
theorem parse_rules (s : ByteArray) (w : World) (hg : GW w) (l : List Tk) (hl : lexR (oneP s) s = .inl l) (hr : ruB (mkE l) 0 = true) : Calls Tryz.prog 9 #[.string s] w fun e w' => PsV w w' (fin (mkE l) s.size (rdN (mkE l))) e ∧ Below w.heap.size w w' := by
  have hE := okE_of hl
  have hz := hE.z
  have hk0 := kd_pos hl
  have hmf : ∀ (fn : Fn) (first cap : Array Value) (w : World), (Instr.makeFunc fn first cap).run Tryz.prog w = .ok (.func fn first cap) w := fun _ _ _ _ => rfl
  have HB0 := (show Hid (Below w.heap.size w ((w.alloc (.cells #[.slice none 0 0] 24)).alloc fxZ) ∧ GX ((w.alloc (.cells #[.slice none 0 0] 24)).alloc fxZ) w.heap.size (.slice none 0 0) ∧ FX ((w.alloc (.cells #[.slice none 0 0] 24)).alloc fxZ) (w.heap.size + 1) 0 0) from ⟨((Below.refl _ _).alloc (Nat.le_refl _) _).alloc (by rw [World.size_alloc]; omega) _, (GX.mk (heap_alloc_new w _)).below (below_box _ _), ⟨by have h := heap_alloc_new (w.alloc (.cells #[.slice none 0 0] 24)) fxZ; rw [World.size_alloc] at h; exact h⟩⟩)
  have hgw := hg.later HB0.out.1
  have HN : Hid (∀ _ : Unit, Calls Tryz.prog 22 #[.string s] ((w.alloc (.cells #[.slice none 0 0] 24)).alloc fxZ) fun e w' => ∃ b tv, e = .returned (.pointer (some ⟨b, 0, none⟩)) ∧ RS (mkE l) s.size ((w.alloc (.cells #[.slice none 0 0] 24)).alloc fxZ) w' b tv 0 0 (.slice none 0 0) []) := fun _ => newReader_ok s _ hgw l hl
  have HVB := (show Hid (R.VB ((w.alloc (.cells #[.slice none 0 0] 24)).alloc fxZ)) from hgw.v)
  have HTx := (show Hid (∀ rs, rdN (mkE l) = .inl rs → (∀ r ∈ rs, ∀ n ∈ r.2.2, n.tx.size ≤ 65536) ∧ rs.length ≤ 65536 ∧ ∀ r ∈ rs, r.2.2.length ≤ 2000000000000) from fun rs h => by
    have h1 := rdN_tx hE h
    unfold rdN at h
    rw [if_pos hr] at h
    have h2 := rl_len hE _ _ _ _ (Nat.zero_le _) (Nat.le_refl _) (fun r hr => by cases hr) h
    exact ⟨h1, Nat.le_trans h2.1 hE.len, h2.2⟩)
  have HE := (show Hid (OkE (mkE l) ∧ (∀ a, a < (mkE l).l.length → ¬ kdA (mkE l) a = 0) ∧ ruB (mkE l) 0 = true) from ⟨hE, hk0, hr⟩)
  clear hg hgw hl hE hk0 hr
  generalize mkE l = E at *
  go_enter_defers Tryz.func9, Tryz.ntmps9
  go_wp2_with fail
  generalize (w.alloc (.cells #[.slice none 0 0] 24)).alloc fxZ = w0 at *
  refine (HN.out ()).mono ?_
  rintro e w1 ⟨b, tv, rfl, h1⟩
  have H1 := (show Hid _ from h1)
  have HBg : Hid (∀ _ : Unit, Calls Tryz.prog 23 #[.pointer (some ⟨b, 0, none⟩)] w1 fun e W' => e = .returned (.bool true) ∧ Below w1.heap.size w1 W') := fun _ => by
    have := beginsRule_any h1 hz
    rw [HE.out.2.2] at this
    exact this
  clear h1 HN
  go_wp2_with fail
  refine (HBg.out ()).mono ?_
  rintro e w2 ⟨rfl, hb⟩
  have H2 := (show Hid _ from H1.out.later hb)
  have HRu : Hid (∀ _ : Unit, Calls Tryz.prog 25 #[.pointer (some ⟨b, 0, none⟩)] w2 fun e W' => RlV E s.size w0 (rdN E) e W') := fun _ => rules_any HE.out.1 HE.out.2.1 HVB.out H2.out HE.out.2.2
  have hsz := HB0.out.1.size
  clear hb HBg H1
  cases hrd : rdN E with
  | inr q =>
    rw [hrd] at HRu
    go_wp2_with fail
    refine (HRu.out ()).mono ?_
    rintro e w3 ⟨rfl, hb⟩
    have hg3 := HB0.out.2.1.below hb
    have hf3 := HB0.out.2.2.below hb
    exact doorP rfl rfl rfl hg3 hf3 fun W' hW' => ⟨by rw [hrd]; rfl, (HB0.out.1.trans (hb.mono hsz)).trans hW'⟩
  | inl rs =>
    obtain ⟨hx1, hx2, hx3⟩ := HTx.out rs hrd
    rw [hrd] at HRu
    go_wp2_with fail
    refine (HRu.out ()).mono ?_
    rintro e w3 ⟨u, ov, rfl, ho, hbd, hmap, hb3⟩
    have HGr : Hid (∀ _ : Unit, Calls Tryz.prog 24 #[u] w3 fun e W' => GrV w0 w3 ov (szR E s.size rs) e W') := fun _ => by
      rw [← hmap]
      refine grammarOf_all ho hbd ?_ ?_ ?_
      · intro x hx; exact hx1 x.1 (by rw [← hmap]; exact List.mem_map_of_mem hx)
      · intro x hx; exact hx3 x.1 (by rw [← hmap]; exact List.mem_map_of_mem hx)
      · have : ov.length = rs.length := by rw [← hmap, List.length_map]
        omega
    have HB3 := (show Hid (Below w0.heap.size w0 w3 ∧ Bds w0 w3 ov ∧ ov.map (·.1) = rs) from ⟨hb3, hbd, hmap⟩)
    clear ho hbd hmap hb3 HRu HTx H2 hx1 hx2 hx3
    cases hsr : szR E s.size rs with
    | some p =>
      rw [hsr] at HGr
      go_wp2_with fail
      refine (HGr.out ()).mono ?_
      rintro e w4 ⟨rfl, hb⟩
      have hb4 := HB3.out.1.trans (hb.mono HB3.out.1.size)
      exact doorP rfl rfl rfl (HB0.out.2.1.below hb4) (HB0.out.2.2.below hb4) fun W' hW' => ⟨by rw [hrd]; unfold fin; simp only [hsr]; rfl, (HB0.out.1.trans (hb4.mono hsz)).trans hW'⟩
    | none =>
      rw [hsr] at HGr
      go_wp2_with fail
      refine (HGr.out ()).mono ?_
      rintro e w4 ⟨gu, rfl, ho, hb⟩
      have hb4 := HB3.out.1.trans (hb.mono HB3.out.1.size)
      have hg4 := HB0.out.2.1.below hb4
      have hf4 := HB0.out.2.2.below hb4
      have HF := (show Hid _ from fin_row (w := w) (w0 := w0) hg4 hf4 (own_base ho HB3.out.1.size) (HB3.out.2.1.later hb) hsz (HB0.out.1.trans (hb4.mono hsz)) (Nat.le_refl _))
      obtain ⟨A4, n4, rfl⟩ := own_form ho
      have c0 := hg4.cl
      have f0 := hg4.fz
      have d0 := hf4.c0
      have d1 := hf4.c1
      have e0 := hf4.f0
      have e1 := hf4.f1
      clear ho hb hb4 hg4 hf4 HGr
      go_wp2_with fail
      exact doorR rfl rfl rfl HF.out.1 HF.out.2.1 ⟨by rw [hrd]; unfold fin; simp only [hsr]; exact ⟨_, ov, rfl, HF.out.2.2.1, HF.out.2.2.2.1, by rw [← HB3.out.2.2, List.map_map]; rfl⟩, HF.out.2.2.2.2⟩
end Go.Proofs.YtkihfkcmcdiajaaGreatDoor.N

namespace Go.Proofs.YtkihfkcmcdiajaaGreatDoor.N
open Go.RowKit
set_option maxRecDepth 100000 in
set_option maxHeartbeats 8000000 in
theorem parse_alone (s : ByteArray) (w : World) (hg : GW w) (l : List Tk) (hl : lexR (oneP s) s = .inl l) (hr : ruB (mkE l) 0 = false) : Calls Tryz.prog 9 #[.string s] w fun e w' => PsV w w' (fin (mkE l) s.size (alN (mkE l))) e ∧ Below w.heap.size w w' := by
  have hE := okE_of hl
  have hz := hE.z
  have hk0 := kd_pos hl
  have hmf : ∀ (fn : Fn) (first cap : Array Value) (w : World), (Instr.makeFunc fn first cap).run Tryz.prog w = .ok (.func fn first cap) w := fun _ _ _ _ => rfl
  have HB0 := (show Hid (Below w.heap.size w ((w.alloc (.cells #[.slice none 0 0] 24)).alloc fxZ) ∧ GX ((w.alloc (.cells #[.slice none 0 0] 24)).alloc fxZ) w.heap.size (.slice none 0 0) ∧ FX ((w.alloc (.cells #[.slice none 0 0] 24)).alloc fxZ) (w.heap.size + 1) 0 0) from ⟨((Below.refl _ _).alloc (Nat.le_refl _) _).alloc (by rw [World.size_alloc]; omega) _, (GX.mk (heap_alloc_new w _)).below (below_box _ _), ⟨by have h := heap_alloc_new (w.alloc (.cells #[.slice none 0 0] 24)) fxZ; rw [World.size_alloc] at h; exact h⟩⟩)
  have hgw := hg.later HB0.out.1
  have HN : Hid (∀ _ : Unit, Calls Tryz.prog 22 #[.string s] ((w.alloc (.cells #[.slice none 0 0] 24)).alloc fxZ) fun e w' => ∃ b tv, e = .returned (.pointer (some ⟨b, 0, none⟩)) ∧ RS (mkE l) s.size ((w.alloc (.cells #[.slice none 0 0] 24)).alloc fxZ) w' b tv 0 0 (.slice none 0 0) []) := fun _ => newReader_ok s _ hgw l hl
  have HVB := (show Hid (R.VB ((w.alloc (.cells #[.slice none 0 0] 24)).alloc fxZ)) from hgw.v)
  have HTx := (show Hid (∀ rs, alN (mkE l) = .inl rs → ∀ r ∈ rs, (∀ n ∈ r.2.2, n.tx.size ≤ 65536) ∧ r.2.2.length ≤ 2000000000000) from fun rs h => al_tx hE h)
  have HE := (show Hid (OkE (mkE l) ∧ (∀ a, a < (mkE l).l.length → ¬ kdA (mkE l) a = 0) ∧ ruB (mkE l) 0 = false) from ⟨hE, hk0, hr⟩)
  clear hg hgw hl hE hk0 hr
  generalize mkE l = E at *
  go_enter_defers Tryz.func9, Tryz.ntmps9
  go_wp2_with fail
  generalize (w.alloc (.cells #[.slice none 0 0] 24)).alloc fxZ = w0 at *
  refine (HN.out ()).mono ?_
  rintro e w1 ⟨b, tv, rfl, h1⟩
  have H1 := (show Hid _ from h1)
  have HBg : Hid (∀ _ : Unit, Calls Tryz.prog 23 #[.pointer (some ⟨b, 0, none⟩)] w1 fun e W' => e = .returned (.bool false) ∧ Below w1.heap.size w1 W') := fun _ => by
    have := beginsRule_any h1 hz
    rw [HE.out.2.2] at this
    exact this
  clear h1 HN
  go_wp2_with fail
  refine (HBg.out ()).mono ?_
  rintro e w2 ⟨rfl, hb⟩
  have H2 := (show Hid _ from H1.out.later hb)
  have HRu : Hid (∀ _ : Unit, Calls Tryz.prog 26 #[.pointer (some ⟨b, 0, none⟩)] w2 fun e W' => AlV E s.size w0 (alN E) e W') := fun _ => alone_any HE.out.1 HE.out.2.1 HVB.out H2.out
  have hsz := HB0.out.1.size
  clear hb HBg H1
  cases hrd : alN E with
  | inr q =>
    rw [hrd] at HRu
    go_wp2_with fail
    refine (HRu.out ()).mono ?_
    rintro e w3 ⟨rfl, hb⟩
    exact doorP rfl rfl rfl (HB0.out.2.1.below hb) (HB0.out.2.2.below hb) fun W' hW' => ⟨by rw [hrd]; rfl, (HB0.out.1.trans (hb.mono hsz)).trans hW'⟩
  | inl rs =>
    have hx1 := HTx.out rs hrd
    rw [hrd] at HRu
    go_wp2_with fail
    refine (HRu.out ()).mono ?_
    rintro e w3 ⟨A, c, ns, hrs, rfl, ho, hb3⟩
    have hs3 := hb3.size
    have HGr : Hid (∀ _ : Unit, Calls Tryz.prog 24 #[.slice (some ⟨w3.heap.size, 0, none⟩) 1 1] (w3.alloc (.cells #[.int .i64 (plA E s.size 0), .string ⟨#[]⟩, .slice A ns.length c] 62)) fun e W' => GrV w0 (w3.alloc (.cells #[.int .i64 (plA E s.size 0), .string ⟨#[]⟩, .slice A ns.length c] 62)) [((0, ⟨#[]⟩, ns), .slice A ns.length c)] (szR E s.size rs) e W') := fun _ => by
      rw [hrs]
      refine grammarOf_all (ov := [((0, ⟨#[]⟩, ns), .slice A ns.length c)]) (own_pl1 hs3 ns _) ⟨fun x hx => by rw [List.mem_singleton.1 hx]; exact ho.alloc _, List.pairwise_singleton _ _⟩ ?_ ?_ (by simp)
      · intro x hx; rw [List.mem_singleton.1 hx]; exact (hx1 (0, ⟨#[]⟩, ns) (by rw [hrs]; exact List.mem_singleton.2 rfl)).1
      · intro x hx; rw [List.mem_singleton.1 hx]; exact (hx1 (0, ⟨#[]⟩, ns) (by rw [hrs]; exact List.mem_singleton.2 rfl)).2
    have HB3 := (show Hid (Below w0.heap.size w0 (w3.alloc (.cells #[.int .i64 (plA E s.size 0), .string ⟨#[]⟩, .slice A ns.length c] 62)) ∧ Bds w0 (w3.alloc (.cells #[.int .i64 (plA E s.size 0), .string ⟨#[]⟩, .slice A ns.length c] 62)) [((0, ⟨#[]⟩, ns), .slice A ns.length c)] ∧ rs = [(0, ⟨#[]⟩, ns)]) from ⟨hb3.alloc hs3 _, ⟨fun x hx => by rw [List.mem_singleton.1 hx]; exact ho.alloc _, List.pairwise_singleton _ _⟩, hrs⟩)
    clear ho hrs hb3 HRu HTx H2 hx1
    generalize plA E s.size 0 = p0 at *
    cases hsr : szR E s.size rs with
    | some p =>
      rw [hsr] at HGr
      go_wp2_with fail
      refine (HGr.out ()).mono ?_
      rintro e w4 ⟨rfl, hb⟩
      have hb4 := HB3.out.1.trans (hb.mono HB3.out.1.size)
      exact doorP rfl rfl rfl (HB0.out.2.1.below hb4) (HB0.out.2.2.below hb4) fun W' hW' => ⟨by rw [hrd]; unfold fin; simp only [hsr]; rfl, (HB0.out.1.trans (hb4.mono hsz)).trans hW'⟩
    | none =>
      rw [hsr] at HGr
      go_wp2_with fail
      refine (HGr.out ()).mono ?_
      rintro e w4 ⟨gu, rfl, ho, hb⟩
      have hb4 := HB3.out.1.trans (hb.mono HB3.out.1.size)
      have hg4 := HB0.out.2.1.below hb4
      have hf4 := HB0.out.2.2.below hb4
      have HF := (show Hid _ from fin_row (w := w) (w0 := w0) hg4 hf4 (own_base ho HB3.out.1.size) (HB3.out.2.1.later hb) hsz (HB0.out.1.trans (hb4.mono hsz)) (Nat.le_refl _))
      obtain ⟨A4, n4, rfl⟩ := own_form ho
      have c0 := hg4.cl
      have f0 := hg4.fz
      have d0 := hf4.c0
      have d1 := hf4.c1
      have e0 := hf4.f0
      have e1 := hf4.f1
      clear ho hb hb4 hg4 hf4 HGr
      go_wp2_with fail
      exact doorR rfl rfl rfl HF.out.1 HF.out.2.1 ⟨by rw [hrd]; unfold fin; simp only [hsr]; exact ⟨_, [((0, ⟨#[]⟩, ns), .slice A ns.length c)], rfl, HF.out.2.2.1, HF.out.2.2.2.1, by rw [HB3.out.2.2]; rfl⟩, HF.out.2.2.2.2⟩
/-- Parse, at any text. -/
theorem parse_any (s : ByteArray) (w : World) (hg : GW w) : Calls Tryz.prog 9 #[.string s] w fun e w' => PsV w w' (psR s) e ∧ Below w.heap.size w w' := by
  unfold psR
  cases hl : lexR (oneP s) s with
  | inr q => exact parse_lex s w hg q hl
  | inl l =>
    dsimp only
    cases hr : ruB (mkE l) 0 with
    | true => exact parse_rules s w hg l hl hr
    | false => rw [rdN_al (by rw [hr]; decide)]; exact parse_alone s w hg l hl hr
end Go.Proofs.YtkihfkcmcdiajaaGreatDoor.N
