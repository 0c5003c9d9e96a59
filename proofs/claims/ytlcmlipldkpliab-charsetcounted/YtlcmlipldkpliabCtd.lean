/- DERIVED. The law CharsetCounted, walked. -/
import Derived.Test.YtlcmlipldkpliabAlg
import Derived.Deep.DeepCutAuto
namespace Go.Proofs.Ytlcmlipldkpliab
open Go.RowKit

theorem cnt_not (x : BitVec 256) : cnt x + cnt (~~~ x) = 256 := by
  have : ∀ k, k ≤ 256 → cntTo x.getLsbD k + cntTo (~~~ x).getLsbD k = k := fun k => by
    induction k with
    | zero => intro _; rfl
    | succ k ih =>
      intro h
      have := ih (by omega)
      rw [cntTo_succ, cntTo_succ, BitVec.getLsbD_not, decide_eq_true (by omega : k < 256), Bool.true_and]
      cases x.getLsbD k <;> simp <;> omega
  exact this 256 (Nat.le_refl _)
theorem cnt_both (x y : BitVec 256) : cnt (x ||| y) + cnt (x &&& y) = cnt x + cnt y := by
  have : ∀ k, cntTo (x ||| y).getLsbD k + cntTo (x &&& y).getLsbD k = cntTo x.getLsbD k + cntTo y.getLsbD k := fun k => by
    induction k with
    | zero => rfl
    | succ k ih =>
      rw [cntTo_succ, cntTo_succ, cntTo_succ, cntTo_succ, BitVec.getLsbD_or, BitVec.getLsbD_and]
      cases x.getLsbD k <;> cases y.getLsbD k <;> simp <;> omega
  exact this 256
theorem b_within (x y : BitVec 256) : ((x &&& y == x) == (x &&& ~~~ y == 0#256)) = true := by
  rw [beq_iff_eq, Bool.eq_iff_iff, beq_iff_eq, beq_iff_eq]
  constructor
  · intro h
    apply BitVec.eq_of_getLsbD_eq; intro i hi
    have h2 := congrArg (fun z => BitVec.getLsbD z i) h
    simp only [BitVec.getLsbD_and, BitVec.getLsbD_not, hi, decide_true, Bool.true_and] at h2 ⊢
    revert h2; cases x.getLsbD i <;> cases y.getLsbD i <;> simp
  · intro h
    apply BitVec.eq_of_getLsbD_eq; intro i hi
    have h2 := congrArg (fun z => BitVec.getLsbD z i) h
    simp only [BitVec.getLsbD_and, BitVec.getLsbD_not, hi, decide_true, Bool.true_and] at h2 ⊢
    revert h2; cases x.getLsbD i <;> cases y.getLsbD i <;> simp
theorem b_within1 (x y : BitVec 256) : (x &&& y &&& x == x &&& y) = true := by
  rw [beq_iff_eq]; apply BitVec.eq_of_getLsbD_eq; intro i _; simp only [BitVec.getLsbD_and]; cases x.getLsbD i <;> cases y.getLsbD i <;> simp

/-- The worlds of a law of two sets. -/
structure At2 (w W : World) (x y : BitVec 256) : Prop where
  x : Holds W w.heap.size x
  y : Holds W (w.heap.size + 1) y
  b : Below w.heap.size w W
theorem At2.step {w W W' : World} {x y : BitVec 256} (h : At2 w W x y) (hb : Below W.heap.size W W') : At2 w W' x y :=
  ⟨h.x.below hb h.x.lt, h.y.below hb h.y.lt, h.b.trans (hb.mono h.b.size)⟩
theorem At2.drew {w W : World} {x y : BitVec 256} (h : At2 w W x y) : At2 w W.drew x y := ⟨h.x.drew, h.y.drew, h.b.drew⟩
theorem At2.start (w : World) (x y : BitVec 256) : At2 w ((w.alloc (c4 x)).alloc (c4 y)) x y := by
  have h := Holds.new (w.alloc (c4 x)) y
  rw [size1] at h
  exact ⟨(Holds.new w x).alloc _, h, below2 w (c4 x) (c4 y)⟩

theorem At2.alloc {w W : World} {x y : BitVec 256} (h : At2 w W x y) (o : Obj) : At2 w (W.alloc o) x y := h.step (below1 W o)
theorem nz1 {w1 w2 : World} (hb : Below (w1.alloc z4).heap.size (w1.alloc z4) w2) : Hid (Holds w2 w1.heap.size 0#256) := (Holds.zero w1).below hb (by simp)
theorem nz2a {w1 w2 : World} (hb : Below ((w1.alloc z4).alloc z4).heap.size ((w1.alloc z4).alloc z4) w2) : Hid (Holds w2 w1.heap.size 0#256) := ((Holds.zero w1).alloc _).below hb (by simp; omega)
theorem nz2b {w1 w2 : World} (hb : Below ((w1.alloc z4).alloc z4).heap.size ((w1.alloc z4).alloc z4) w2) : Hid (Holds w2 (w1.heap.size + 1) 0#256) := (Holds.zero' w1 _).below hb (by simp)
theorem nd1 {w1 w2 : World} (hb : Below (w1.drew.alloc z4).heap.size (w1.drew.alloc z4) w2) : Hid (Holds w2 w1.heap.size 0#256) := nz1 (w1 := w1.drew) hb
theorem nd2a {w1 w2 : World} (hb : Below ((w1.drew.alloc z4).alloc z4).heap.size ((w1.drew.alloc z4).alloc z4) w2) : Hid (Holds w2 w1.heap.size 0#256) := nz2a (w1 := w1.drew) hb
theorem nd2b {w1 w2 : World} (hb : Below ((w1.drew.alloc z4).alloc z4).heap.size ((w1.drew.alloc z4).alloc z4) w2) : Hid (Holds w2 (w1.heap.size + 1) 0#256) := nz2b (w1 := w1.drew) hb
theorem ncar {W w3 : World} {b : Nat} {z : BitVec 256} (h : Hid (Holds W b z)) (hb : Below W.heap.size W w3) : Hid (Holds w3 b z) := h.out.below hb h.out.lt
theorem ncara {W w3 : World} {o : Obj} {b : Nat} {z : BitVec 256} (h : Hid (Holds W b z)) (hb : Below (W.alloc o).heap.size (W.alloc o) w3) : Hid (Holds w3 b z) := (h.out.alloc o).below hb (h.out.alloc o).lt
theorem a2s0 {w W W' : World} {x y : BitVec 256} (h : Hid (At2 w W x y)) (hb : Below W.heap.size W W') : Hid (At2 w W' x y) := h.out.step hb
theorem a2s1 {w W W' : World} {x y : BitVec 256} {o : Obj} (h : Hid (At2 w W x y)) (hb : Below (W.alloc o).heap.size (W.alloc o) W') : Hid (At2 w W' x y) := (h.out.alloc o).step hb
theorem a2s2 {w W W' : World} {x y : BitVec 256} {o p : Obj} (h : Hid (At2 w W x y)) (hb : Below ((W.alloc o).alloc p).heap.size ((W.alloc o).alloc p) W') : Hid (At2 w W' x y) := ((h.out.alloc o).alloc p).step hb
theorem putAlloc {W : World} {c : Nat} {z0 z1 z2 z3 : Value} {o : Obj} {b i : Nat} (hl : b < W.heap.size) (hn : b ≠ c) :
    (((((W.setCell ⟨c, 0, none⟩ z0).setCell ⟨c, 1, none⟩ z1).setCell ⟨c, 2, none⟩ z2).setCell ⟨c, 3, none⟩ z3).alloc o).cell? ⟨b, i, none⟩ = W.cell? ⟨b, i, none⟩ := by
  rw [World.cell?_alloc_lt _ _ _ (by simp only [set_size]; exact hl)]
  simp [go_sem]
theorem putOnly {W : World} {c : Nat} {z0 z1 z2 z3 : Value} {b i : Nat} (hn : b ≠ c) :
    ((((W.setCell ⟨c, 0, none⟩ z0).setCell ⟨c, 1, none⟩ z1).setCell ⟨c, 2, none⟩ z2).setCell ⟨c, 3, none⟩ z3).cell? ⟨b, i, none⟩ = W.cell? ⟨b, i, none⟩ := by
  simp [go_sem]
theorem drewCell {W : World} {b i : Nat} : W.drew.cell? ⟨b, i, none⟩ = W.cell? ⟨b, i, none⟩ := rfl
theorem alloc1 {W : World} {o : Obj} {b i : Nat} (hl : b < W.heap.size) : (W.alloc o).cell? ⟨b, i, none⟩ = W.cell? ⟨b, i, none⟩ := World.cell?_alloc_lt _ _ _ hl
theorem alloc2 {W : World} {o p : Obj} {b i : Nat} (hl : b < W.heap.size) : ((W.alloc o).alloc p).cell? ⟨b, i, none⟩ = W.cell? ⟨b, i, none⟩ := by
  rw [alloc1 (by rw [alloc_size]; omega), alloc1 hl]
theorem alloc1d {W : World} {o : Obj} {b i : Nat} (hl : b < W.heap.size) : (W.drew.alloc o).cell? ⟨b, i, none⟩ = W.cell? ⟨b, i, none⟩ := alloc1 (W := W.drew) hl
theorem alloc2d {W : World} {o p : Obj} {b i : Nat} (hl : b < W.heap.size) : ((W.drew.alloc o).alloc p).cell? ⟨b, i, none⟩ = W.cell? ⟨b, i, none⟩ := alloc2 (W := W.drew) hl
/-- Behind the two calls: the boxes of the union and of what is shared. -/
structure CutB (w W : World) (x y : BitVec 256) (b c : Nat) : Prop where
  a : At2 w W x y
  u : Holds W b (x ||| y)
  m : Holds W c (x &&& y)
theorem CutB.step {w W W' : World} {x y : BitVec 256} {b c : Nat} (h : CutB w W x y b c) (hb : Below W.heap.size W W') : CutB w W' x y b c := ⟨h.a.step hb, h.u.below hb h.u.lt, h.m.below hb h.m.lt⟩
theorem CutB.drew {w W : World} {x y : BitVec 256} {b c : Nat} (h : CutB w W x y b c) : CutB w W.drew x y b c := h.step (Below.refl _ _).drew
def CutR (w : World) (x y : BitVec 256) (s t : Value) (W : World) : Prop := ∃ b c : Nat, s = .pointer (some ⟨b, 0, none⟩) ∧ t = .pointer (some ⟨c, 0, none⟩) ∧ Hid (CutB w W x y b c)
theorem hold2 (W : World) (o : Obj) (z : BitVec 256) : Holds ((W.alloc o).alloc (c4 z)) (W.heap.size + 1) z := by
  have h := Holds.new (W.alloc o) z
  rw [size1] at h
  exact h
theorem At2.put {w W : World} {x y : BitVec 256} (h : At2 w W x y) {b : Nat} (hb : w.heap.size + 1 < b) (z : BitVec 256) : At2 w (put4 W b z) x y :=
  ⟨h.x.put_other (by omega) z, h.y.put_other (by omega) z, put4_below' h.b (by omega) z⟩
theorem put_size (W : World) (b : Nat) (z : BitVec 256) : (put4 W b z).heap.size = W.heap.size := by simp only [set_size]
theorem cr1 {w W : World} {x y : BitVec 256} (h : Hid (At2 w W x y)) : CutR w x y (.pointer (some ⟨W.heap.size, 0, none⟩)) (.pointer (some ⟨W.heap.size + 1, 0, none⟩)) ((W.alloc (c4 (x ||| y))).alloc (c4 (x &&& y))) :=
  ⟨_, _, rfl, rfl, (h.out.alloc _).alloc _, (Holds.new W _).alloc _, hold2 W _ _⟩
theorem cr2 {w W : World} {x y : BitVec 256} (h : Hid (At2 w W x y)) : CutR w x y (.pointer (some ⟨W.heap.size + 1, 0, none⟩)) (.pointer (some ⟨W.heap.size, 0, none⟩)) ((W.alloc (c4 (x &&& y))).alloc (c4 (x ||| y))) :=
  ⟨_, _, rfl, rfl, (h.out.alloc _).alloc _, hold2 W _ _, (Holds.new W _).alloc _⟩
theorem cr3 {w W : World} {x y z : BitVec 256} {b : Nat} (h : Hid (At2 w W x y)) (hh : Hid (Holds W b z)) (hb : w.heap.size + 1 < b) : CutR w x y (.pointer (some ⟨b, 0, none⟩)) (.pointer (some ⟨W.heap.size, 0, none⟩)) ((put4 W b (x ||| y)).alloc (c4 (x &&& y))) := by
  have h3 := Holds.new (put4 W b (x ||| y)) (x &&& y)
  rw [put_size] at h3
  exact ⟨_, _, rfl, rfl, (h.out.put hb _).alloc _, (hh.out.put _).alloc _, h3⟩
theorem cr4 {w W : World} {x y z : BitVec 256} {b : Nat} (h : Hid (At2 w W x y)) (hh : Hid (Holds W b z)) (hb : w.heap.size + 1 < b) : CutR w x y (.pointer (some ⟨W.heap.size, 0, none⟩)) (.pointer (some ⟨b, 0, none⟩)) ((put4 W b (x &&& y)).alloc (c4 (x ||| y))) := by
  have h3 := Holds.new (put4 W b (x &&& y)) (x ||| y)
  rw [put_size] at h3
  exact ⟨_, _, rfl, rfl, (h.out.put hb _).alloc _, h3, (hh.out.put _).alloc _⟩
theorem cr5 {w W : World} {x y z z' : BitVec 256} {b c : Nat} (h : Hid (At2 w W x y)) (hh : Hid (Holds W b z)) (hh' : Hid (Holds W c z')) (hb : w.heap.size + 1 < b) (hc : w.heap.size + 1 < c) (hn : b ≠ c) :
    CutR w x y (.pointer (some ⟨b, 0, none⟩)) (.pointer (some ⟨c, 0, none⟩)) (put4 (put4 W b (x ||| y)) c (x &&& y)) :=
  ⟨_, _, rfl, rfl, (h.out.put hb _).put hc _, (hh.out.put _).put_other hn _, (hh'.out.put_other (Ne.symm hn) _).put _⟩
theorem a2d {w W : World} {x y : BitVec 256} (h : Hid (At2 w W x y)) : Hid (At2 w W.drew x y) := h.out.drew

set_option maxRecDepth 100000 in
set_option maxHeartbeats 8000000 in
theorem counted_any (x y : BitVec 256) (w : World) :
    Calls Try.prog 4 #[sv x, sv y] w fun e w' => e = .returned (.bool true) ∧ Below w.heap.size w w' := by
  have HA := (show Hid _ from At2.start w x y)
  have heq := eq24
  go_enter Try.func4, Try.ntmps4
  go_wp2_with fail
  refine (works_any _).mono ?_
  rintro e w1 ⟨rfl, hb1⟩
  replace HA := (show Hid _ from HA.out.step hb1)
  clear hb1
  obtain ⟨l0, c0, c1, c2, c3, f0, f1, f2, f3⟩ := HA.out.x
  obtain ⟨l1, d0, d1, d2, d3, g0, g1, g2, g3⟩ := HA.out.y
  have hne_w1 := Nat.ne_of_lt HA.out.x.lt
  have hne1_w1 := Nat.ne_of_lt HA.out.y.lt
  have hne2_w1 := Nat.ne_of_lt (Nat.lt_succ_of_lt HA.out.x.lt)
  have hne3_w1 := Nat.ne_of_lt (Nat.lt_succ_of_lt HA.out.y.lt)
  have hlt_w1 := HA.out.y.lt
  have hlt2_w1 := Nat.lt_succ_of_lt HA.out.y.lt
  go_wp2_with fail
  go_cut [5, 6] (fun s t W => CutR w x y s t W)
  case first =>
   go_region_held3 (fun w' => w'.cell? ⟨w.heap.size, 0, none⟩ = some (.int .u64 (wd x 0)) ∧ w'.cell? ⟨w.heap.size, 1, none⟩ = some (.int .u64 (wd x 1)) ∧ w'.cell? ⟨w.heap.size, 2, none⟩ = some (.int .u64 (wd x 2)) ∧ w'.cell? ⟨w.heap.size, 3, none⟩ = some (.int .u64 (wd x 3)) ∧ w'.cell? ⟨w.heap.size + 1, 0, none⟩ = some (.int .u64 (wd y 0)) ∧ w'.cell? ⟨w.heap.size + 1, 1, none⟩ = some (.int .u64 (wd y 1)) ∧ w'.cell? ⟨w.heap.size + 1, 2, none⟩ = some (.int .u64 (wd y 2)) ∧ w'.cell? ⟨w.heap.size + 1, 3, none⟩ = some (.int .u64 (wd y 3))) (first | ((try dsimp only); (repeat' apply And.intro) <;> (first | (with_reducible assumption) | (rw [drewCell]; with_reducible assumption) | (rw [alloc1d] <;> with_reducible assumption) | (rw [alloc2d] <;> with_reducible assumption) | (rw [alloc1] <;> with_reducible assumption) | (rw [alloc2] <;> with_reducible assumption) | (rw [putOnly] <;> with_reducible assumption) | (rw [putAlloc] <;> with_reducible assumption) | (rw [putOnly, putOnly] <;> with_reducible assumption))) | go_keep) (first | (go_at_call 7; refine (union_any x y _).mono ?_; rintro e w2 ⟨rfl, hb⟩; (first | replace HA := a2s0 (a2d HA) hb | (replace HA := a2s1 (a2d HA) hb; have HN1 := nd1 hb; obtain ⟨_, n0, n1, n2, n3, m0, m1, m2, m3⟩ := HN1.out) | (replace HA := a2s2 (a2d HA) hb; have HN1 := nd2a hb; obtain ⟨_, n0, n1, n2, n3, m0, m1, m2, m3⟩ := HN1.out; have HN2 := nd2b hb; obtain ⟨_, o0, o1, o2, o3, i0, i1, i2, i3⟩ := HN2.out)); have hz := hb.size; clear hb; clear c0 c1 c2 c3 f0 f1 f2 f3 d0 d1 d2 d3 g0 g1 g2 g3; obtain ⟨l0, c0, c1, c2, c3, f0, f1, f2, f3⟩ := HA.out.x; obtain ⟨l1, d0, d1, d2, d3, g0, g1, g2, g3⟩ := HA.out.y; have hne_w2 := Nat.ne_of_lt HA.out.x.lt; have hne1_w2 := Nat.ne_of_lt HA.out.y.lt; have hne2_w2 := Nat.ne_of_lt (Nat.lt_succ_of_lt HA.out.x.lt); have hlt_w2 := HA.out.y.lt; have hlt2_w2 := Nat.lt_succ_of_lt HA.out.y.lt; have hne3_w2 := Nat.ne_of_lt (Nat.lt_succ_of_lt HA.out.y.lt)) | (go_at_call 8; refine (meet_any x y _).mono ?_; rintro e w3 ⟨rfl, hb⟩; (first | (replace HA := a2s0 HA hb; (try (have HM1 := ncar HN1 hb; clear HN1 n0 n1 n2 n3 m0 m1 m2 m3; obtain ⟨_, n0, n1, n2, n3, m0, m1, m2, m3⟩ := HM1.out)); (try (have HM2 := ncar HN2 hb; clear HN2 o0 o1 o2 o3 i0 i1 i2 i3; obtain ⟨_, o0, o1, o2, o3, i0, i1, i2, i3⟩ := HM2.out))) | (replace HA := a2s1 HA hb; have HK1 := nz1 hb; obtain ⟨_, p0, p1, p2, p3, q0, q1, q2, q3⟩ := HK1.out; (try (have HM1 := ncara HN1 hb; have hlt12 := Nat.ne_of_lt HN1.out.lt; clear HN1 n0 n1 n2 n3 m0 m1 m2 m3; obtain ⟨_, n0, n1, n2, n3, m0, m1, m2, m3⟩ := HM1.out))) | (replace HA := a2s2 HA hb; have HK1 := nz2a hb; obtain ⟨_, p0, p1, p2, p3, q0, q1, q2, q3⟩ := HK1.out; have HK2 := nz2b hb; obtain ⟨_, r0, r1, r2, r3, s0, s1, s2, s3⟩ := HK2.out)); have hz := hb.size; clear hb; clear c0 c1 c2 c3 f0 f1 f2 f3 d0 d1 d2 d3 g0 g1 g2 g3; obtain ⟨l0, c0, c1, c2, c3, f0, f1, f2, f3⟩ := HA.out.x; obtain ⟨l1, d0, d1, d2, d3, g0, g1, g2, g3⟩ := HA.out.y; have hne_w3 := Nat.ne_of_lt HA.out.x.lt; have hne1_w3 := Nat.ne_of_lt HA.out.y.lt; have hne2_w3 := Nat.ne_of_lt (Nat.lt_succ_of_lt HA.out.x.lt); have hne3_w3 := Nat.ne_of_lt (Nat.lt_succ_of_lt HA.out.y.lt)))
   all_goals (go_wp2_with fail; go_meet; first | (with_reducible exact cr1 HA) | (with_reducible exact cr2 HA) | (with_reducible exact cr3 HA HM1 hlt_w1) | (with_reducible exact cr3 HA HK1 hlt_w2) | (with_reducible exact cr4 HA HM1 hlt_w1) | (with_reducible exact cr4 HA HK1 hlt_w2) | (with_reducible exact cr5 HA HM1 HM2 hlt_w1 hlt2_w1 (Nat.ne_of_lt (Nat.lt_succ_self _))) | (with_reducible exact cr5 HA HM2 HM1 hlt2_w1 hlt_w1 (Ne.symm (Nat.ne_of_lt (Nat.lt_succ_self _)))) | (with_reducible exact cr5 HA HK1 HK2 hlt_w2 hlt2_w2 (Nat.ne_of_lt (Nat.lt_succ_self _))) | (with_reducible exact cr5 HA HK2 HK1 hlt2_w2 hlt_w2 (Ne.symm (Nat.ne_of_lt (Nat.lt_succ_self _)))) | (with_reducible exact cr5 HA HM1 HK1 hlt_w1 hlt_w2 hlt12) | (with_reducible exact cr5 HA HK1 HM1 hlt_w2 hlt_w1 (Ne.symm hlt12)))
  case rest =>
   obtain ⟨b, c, rfl, rfl, HC⟩ := hcut
   clear HA c0 c1 c2 c3 f0 f1 f2 f3 d0 d1 d2 d3 g0 g1 g2 g3 l0 l1 hne_w1 hne1_w1 hne2_w1 hne3_w1 hlt_w1 hlt2_w1
   have n1 := cnt_le x
   have n2 := cnt_le y
   have n3 := cnt_le (x ||| y)
   have n4 := cnt_le (x &&& y)
   have n5 := cnt_le (~~~ x)
   have q1 : IntKind.i64.wrap (((cnt (x ||| y) : Nat) : Int) + (cnt (x &&& y) : Nat)) = ((cnt (x ||| y) : Nat) : Int) + (cnt (x &&& y) : Nat) := by rw [IntKind.wrap_i64]; omega
   have q2 : IntKind.i64.wrap (((cnt x : Nat) : Int) + (cnt y : Nat)) = ((cnt x : Nat) : Int) + (cnt y : Nat) := by rw [IntKind.wrap_i64]; omega
   have q3 : IntKind.i64.wrap (((cnt x : Nat) : Int) + (cnt (~~~ x) : Nat)) = ((cnt x : Nat) : Int) + (cnt (~~~ x) : Nat) := by rw [IntKind.wrap_i64]; omega
   have s1 : (((cnt (x ||| y) : Nat) : Int) + (cnt (x &&& y) : Nat) != (cnt x : Nat) + (cnt y : Nat)) = false := by have := cnt_both x y; simp; omega
   have s2 : (((cnt x : Nat) : Int) + (cnt (~~~ x) : Nat) != 256) = false := by have := cnt_not x; simp; omega
   obtain ⟨_, c0, c1, c2, c3, _, _, _, _⟩ := HC.out.a.x
   obtain ⟨_, d0, d1, d2, d3, _, _, _, _⟩ := HC.out.a.y
   obtain ⟨_, e0, e1, e2, e3, _, _, _, _⟩ := HC.out.u
   obtain ⟨_, m0, m1, m2, m3, _, _, _, _⟩ := HC.out.m
   go_wp2_with fail
   go_region_held3 (fun w' => w'.cell? ⟨w.heap.size, 0, none⟩ = some (.int .u64 (wd x 0)) ∧ w'.cell? ⟨w.heap.size, 1, none⟩ = some (.int .u64 (wd x 1)) ∧ w'.cell? ⟨w.heap.size, 2, none⟩ = some (.int .u64 (wd x 2)) ∧ w'.cell? ⟨w.heap.size, 3, none⟩ = some (.int .u64 (wd x 3)) ∧ w'.cell? ⟨w.heap.size + 1, 0, none⟩ = some (.int .u64 (wd y 0)) ∧ w'.cell? ⟨w.heap.size + 1, 1, none⟩ = some (.int .u64 (wd y 1)) ∧ w'.cell? ⟨w.heap.size + 1, 2, none⟩ = some (.int .u64 (wd y 2)) ∧ w'.cell? ⟨w.heap.size + 1, 3, none⟩ = some (.int .u64 (wd y 3)) ∧ w'.cell? ⟨b, 0, none⟩ = some (.int .u64 (wd (x ||| y) 0)) ∧ w'.cell? ⟨b, 1, none⟩ = some (.int .u64 (wd (x ||| y) 1)) ∧ w'.cell? ⟨b, 2, none⟩ = some (.int .u64 (wd (x ||| y) 2)) ∧ w'.cell? ⟨b, 3, none⟩ = some (.int .u64 (wd (x ||| y) 3)) ∧ w'.cell? ⟨c, 0, none⟩ = some (.int .u64 (wd (x &&& y) 0)) ∧ w'.cell? ⟨c, 1, none⟩ = some (.int .u64 (wd (x &&& y) 1)) ∧ w'.cell? ⟨c, 2, none⟩ = some (.int .u64 (wd (x &&& y) 2)) ∧ w'.cell? ⟨c, 3, none⟩ = some (.int .u64 (wd (x &&& y) 3))) (first | exact ⟨HC.out.a.x.c0, HC.out.a.x.c1, HC.out.a.x.c2, HC.out.a.x.c3, HC.out.a.y.c0, HC.out.a.y.c1, HC.out.a.y.c2, HC.out.a.y.c3, HC.out.u.c0, HC.out.u.c1, HC.out.u.c2, HC.out.u.c3, HC.out.m.c0, HC.out.m.c1, HC.out.m.c2, HC.out.m.c3⟩ | go_keep) (first | (go_at_call 13; refine (count_any _ _).mono ?_; rintro e w1 ⟨rfl, hb⟩; have hA2 := (show CutB w w1 x y b c from (by first | exact HC.out.step hb | exact HC.out.drew.step hb)); replace HC := (show Hid _ from hA2); clear hA2 hb) | (go_at_call 9; refine (not_any _ _).mono ?_; rintro e w1 ⟨rfl, hb⟩; have hA2 := (show CutB w w1 x y b c from (by first | exact HC.out.step hb | exact HC.out.drew.step hb)); replace HC := (show Hid _ from hA2); clear hA2 hb))
   clear c0 c1 c2 c3 d0 d1 d2 d3 e0 e1 e2 e3 m0 m1 m2 m3 s1 s2 q1 q2 q3 n1 n2 n3 n4 n5
   obtain ⟨_, c0, c1, c2, c3, _, _, _, _⟩ := HC.out.a.x
   obtain ⟨_, d0, d1, d2, d3, _, _, _, _⟩ := HC.out.a.y
   obtain ⟨_, e0, e1, e2, e3, _, _, _, _⟩ := HC.out.u
   obtain ⟨_, m0, m1, m2, m3, _, _, _, _⟩ := HC.out.m
   have p1 := b_within x y
   have p2 := b_within1 x y
   have p3 := b_absorb x y
   go_wp2_with fail
   go_region_held3 (fun w' => w'.cell? ⟨w.heap.size, 0, none⟩ = some (.int .u64 (wd x 0)) ∧ w'.cell? ⟨w.heap.size, 1, none⟩ = some (.int .u64 (wd x 1)) ∧ w'.cell? ⟨w.heap.size, 2, none⟩ = some (.int .u64 (wd x 2)) ∧ w'.cell? ⟨w.heap.size, 3, none⟩ = some (.int .u64 (wd x 3)) ∧ w'.cell? ⟨w.heap.size + 1, 0, none⟩ = some (.int .u64 (wd y 0)) ∧ w'.cell? ⟨w.heap.size + 1, 1, none⟩ = some (.int .u64 (wd y 1)) ∧ w'.cell? ⟨w.heap.size + 1, 2, none⟩ = some (.int .u64 (wd y 2)) ∧ w'.cell? ⟨w.heap.size + 1, 3, none⟩ = some (.int .u64 (wd y 3)) ∧ w'.cell? ⟨b, 0, none⟩ = some (.int .u64 (wd (x ||| y) 0)) ∧ w'.cell? ⟨b, 1, none⟩ = some (.int .u64 (wd (x ||| y) 1)) ∧ w'.cell? ⟨b, 2, none⟩ = some (.int .u64 (wd (x ||| y) 2)) ∧ w'.cell? ⟨b, 3, none⟩ = some (.int .u64 (wd (x ||| y) 3)) ∧ w'.cell? ⟨c, 0, none⟩ = some (.int .u64 (wd (x &&& y) 0)) ∧ w'.cell? ⟨c, 1, none⟩ = some (.int .u64 (wd (x &&& y) 1)) ∧ w'.cell? ⟨c, 2, none⟩ = some (.int .u64 (wd (x &&& y) 2)) ∧ w'.cell? ⟨c, 3, none⟩ = some (.int .u64 (wd (x &&& y) 3))) (first | exact ⟨HC.out.a.x.c0, HC.out.a.x.c1, HC.out.a.x.c2, HC.out.a.x.c3, HC.out.a.y.c0, HC.out.a.y.c1, HC.out.a.y.c2, HC.out.a.y.c3, HC.out.u.c0, HC.out.u.c1, HC.out.u.c2, HC.out.u.c3, HC.out.m.c0, HC.out.m.c1, HC.out.m.c2, HC.out.m.c3⟩ | go_keep) (first | (go_at_call 14; refine (within_any _ _ _).mono ?_; rintro e w1 ⟨rfl, hb⟩; have hA2 := (show CutB w w1 x y b c from (by first | exact HC.out.step hb | exact HC.out.drew.step hb)); replace HC := (show Hid _ from hA2); clear hA2 hb) | (go_at_call 11; refine (empty_any _ _).mono ?_; rintro e w1 ⟨rfl, hb⟩; have hA2 := (show CutB w w1 x y b c from (by first | exact HC.out.step hb | exact HC.out.drew.step hb)); replace HC := (show Hid _ from hA2); clear hA2 hb) | (go_at_call 10; refine (less_any _ _ _).mono ?_; rintro e w1 ⟨rfl, hb⟩; have hA2 := (show CutB w w1 x y b c from (by first | exact HC.out.step hb | exact HC.out.drew.step hb)); replace HC := (show Hid _ from hA2); clear hA2 hb) | (go_at_call 15; refine (apart_any _ _ _).mono ?_; rintro e w1 ⟨rfl, hb⟩; have hA2 := (show CutB w w1 x y b c from (by first | exact HC.out.step hb | exact HC.out.drew.step hb)); replace HC := (show Hid _ from hA2); clear hA2 hb))
   go_wp2_with fail
   go_ret
   exact ⟨rfl, HC.out.a.b⟩
end Go.Proofs.Ytlcmlipldkpliab
