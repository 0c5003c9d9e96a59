/- DERIVED. Plain mathematics and walks, laid together (3). -/
import Derived.BigQuiet
import Derived.Deep.RegionHeld3
import Derived.Deep.AppendLies
import Derived.Maps.Range
import Derived.OwnWalk
import Derived.Shelf.Abstract
import Derived.Laws.AppendOwnNone
import Derived.WalkKit
import Derived.Test.YtnpifgcgjgddoaaGreatDoorPp02
namespace Go.Proofs.YtnpifgcgjgddoaaGreatDoor.T
open Go.RowKit
theorem below_drewN {B : Nat} {a w : World} (h : Below B a w) (n : Nat) : Below B a (w.drewN n) := by
  induction n with
  | zero => exact h
  | succ n ih => exact ih.drew
theorem max_int (a b : Nat) : (if a < b then (b : Int) else (a : Int)) = ((max a b : Nat) : Int) := by split <;> omega
theorem max_int1 (a b : Nat) : (if (a : Int) < (b : Int) + 1 then (b : Int) + 1 else (a : Int)) = ((max a (b + 1) : Nat) : Int) := by split <;> omega
theorem max_i (a b : Nat) : max (a : Int) (b : Int) = ((max a b : Nat) : Int) := by omega
theorem max_i1 (a b : Nat) : max (a : Int) ((b : Int) + 1) = ((max a (b + 1) : Nat) : Int) := by omega
/-- A pattern's cells. -/
def NdL (W : World) (g o : Nat) (L : List Nd) : Prop := ∀ (j : Nat) n, L[j]? = some n → NB W g (o + j * 7) n
def RdN (W : World) (A : Option Addr) (L : List Nd) : Prop := L ≠ [] → ∃ g o, A = some ⟨g, o, none⟩ ∧ g < W.heap.size ∧ NdL W g o L
theorem NdL.same {W W' : World} {g o : Nat} {L : List Nd} (h : NdL W g o L) (hb : W'.heap[g]? = W.heap[g]?) : NdL W' g o L := fun j n hj => (h j n hj).same hb
theorem RdN.below {W W' : World} {A : Option Addr} {L : List Nd} {B : Nat} (h : RdN W A L) (hb : Below B W W') (hB : W.heap.size ≤ B) : RdN W' A L := fun hl => by
  obtain ⟨g, o, e, lt, c⟩ := h hl
  exact ⟨g, o, e, Nat.lt_of_lt_of_le lt hb.size, c.same (hb.block g (by omega))⟩

/-- A part in a box of its own. -/
structure PB (W : World) (b : Nat) (f l h : Int) : Prop where
  heap : W.heap[b]? = some (.cells #[.int .i64 f, .int .i64 l, .int .i64 h] 87 (0, 0))
theorem PB.lt {W : World} {b : Nat} {f l h : Int} (x : PB W b f l h) : b < W.heap.size := (Array.getElem?_eq_some_iff.1 x.heap).1
theorem PB.c0 {W : World} {b : Nat} {f l h : Int} (x : PB W b f l h) : W.cell? ⟨b, 0, none⟩ = some (.int .i64 f) := by rw [cell_of_row W b 0 _ 87 (0, 0) x.heap]; rfl
theorem PB.c1 {W : World} {b : Nat} {f l h : Int} (x : PB W b f l h) : W.cell? ⟨b, 1, none⟩ = some (.int .i64 l) := by rw [cell_of_row W b 1 _ 87 (0, 0) x.heap]; rfl
theorem PB.c2 {W : World} {b : Nat} {f l h : Int} (x : PB W b f l h) : W.cell? ⟨b, 2, none⟩ = some (.int .i64 h) := by rw [cell_of_row W b 2 _ 87 (0, 0) x.heap]; rfl
theorem PB.fz {W : World} {b : Nat} {f l h : Int} (x : PB W b f l h) (j : Nat) : W.frozen? ⟨b, j, none⟩ = false := frozen_of_row W b j _ 87 x.heap
theorem PB.same {W W' : World} {b : Nat} {f l h : Int} (x : PB W b f l h) (hb : W'.heap[b]? = W.heap[b]?) : PB W' b f l h := ⟨hb.trans x.heap⟩
theorem PB.new (W : World) (f l h : Int) : PB (W.alloc (.cells #[.int .i64 f, .int .i64 l, .int .i64 h] 87)) W.heap.size f l h := ⟨heap_alloc_new W _⟩
theorem PB.alloc {W : World} {b : Nat} {f l h : Int} (x : PB W b f l h) (o : Obj) : PB (W.alloc o) b f l h := x.same ((below_box W o).block b x.lt)
theorem PB.set0 {W : World} {b : Nat} {f l h : Int} (x : PB W b f l h) (v : Int) : PB (W.setCell ⟨b, 0, none⟩ (.int .i64 v)) b v l h := ⟨by rw [heap_setCell_same W b 0 _ 87 _ x.heap]; rfl⟩
theorem PB.set1 {W : World} {b : Nat} {f l h : Int} (x : PB W b f l h) (v : Int) : PB (W.setCell ⟨b, 1, none⟩ (.int .i64 v)) b f v h := ⟨by rw [heap_setCell_same W b 1 _ 87 _ x.heap]; rfl⟩
theorem PB.set2 {W : World} {b : Nat} {f l h : Int} (x : PB W b f l h) (v : Int) : PB (W.setCell ⟨b, 2, none⟩ (.int .i64 v)) b f l v := ⟨by rw [heap_setCell_same W b 2 _ 87 _ x.heap]; rfl⟩
theorem PB.other {W : World} {b : Nat} {f l h : Int} (x : PB W b f l h) (a : Addr) (v : Value) (ne : b ≠ a.block) : PB (W.setCell a v) b f l h := x.same (heap_setCell_other W a b v ne)

/-- Parts one behind the other. -/
def ptV (p : Pt) : List Value := [.int .i64 p.1, .int .i64 p.2.1, .int .i64 p.2.2]
def ptc (l : List Pt) : List Value := l.flatMap ptV
theorem ptc_len (l : List Pt) : (ptc l).length = l.length * 3 := by
  induction l with
  | nil => rfl
  | cons a l ih => show (ptV a ++ ptc l).length = _; rw [List.length_append, ih, List.length_cons]; show 3 + _ = _; omega
theorem ptc_append (a b : List Pt) : ptc (a ++ b) = ptc a ++ ptc b := List.flatMap_append
structure P3 (W : World) (g o : Nat) (p : Pt) : Prop where
  c0 : W.cell? ⟨g, o, none⟩ = some (.int .i64 p.1)
  c1 : W.cell? ⟨g, o + 1, none⟩ = some (.int .i64 p.2.1)
  c2 : W.cell? ⟨g, o + 2, none⟩ = some (.int .i64 p.2.2)
theorem P3.same {W W' : World} {g o : Nat} {p : Pt} (h : P3 W g o p) (hb : W'.heap[g]? = W.heap[g]?) : P3 W' g o p := by
  have key : ∀ j, W'.cell? ⟨g, j, none⟩ = W.cell? ⟨g, j, none⟩ := fun j => World.cell?_of_block (a := ⟨g, j, none⟩) hb
  exact ⟨(key _).trans h.c0, (key _).trans h.c1, (key _).trans h.c2⟩
def PtL (W : World) (g o : Nat) (l : List Pt) : Prop := ∀ (j : Nat) p, l[j]? = some p → P3 W g (o + j * 3) p
def RdP (W : World) (A : Option Addr) (l : List Pt) : Prop := l ≠ [] → ∃ g o, A = some ⟨g, o, none⟩ ∧ g < W.heap.size ∧ PtL W g o l
theorem PtL.same {W W' : World} {g o : Nat} {l : List Pt} (h : PtL W g o l) (hb : W'.heap[g]? = W.heap[g]?) : PtL W' g o l := fun j n hj => (h j n hj).same hb
theorem RdP.below {W W' : World} {A : Option Addr} {l : List Pt} {B : Nat} (h : RdP W A l) (hb : Below B W W') (hB : W.heap.size ≤ B) : RdP W' A l := fun hl => by
  obtain ⟨g, o, e, lt, c⟩ := h hl
  exact ⟨g, o, e, Nat.lt_of_lt_of_le lt hb.size, c.same (hb.block g (by omega))⟩

/-- The part as it grows. -/
def hgt (L : List Nd) (op : Int) (m i : Nat) (x : Pt) : Nat := if i = 0 ∧ m = 2 ∧ opAt L x.2.1 = op then x.2.2 else x.2.2 + 1
def pw (L : List Nd) (k : Nat) (op : Int) (xs : List Pt) : Nat → Pt
  | 0 => (k, k, 1)
  | i + 1 => match xs[i]? with
    | none => pw L k op xs i
    | some x => ((if i = 0 then x.1 else (pw L k op xs i).1), k, max (pw L k op xs i).2.2 (hgt L op xs.length i x))
theorem pw_last (L : List Nd) (k : Nat) (op : Int) (xs : List Pt) (i : Nat) : (pw L k op xs i).2.1 = k := by
  induction i with
  | zero => rfl
  | succ i ih =>
    rw [pw]; split
    · exact ih
    · rfl
theorem pw_succ {L : List Nd} {k : Nat} {op : Int} {xs : List Pt} {i : Nat} {x : Pt} (h : xs[i]? = some x) : pw L k op xs (i + 1) = ((if i = 0 then x.1 else (pw L k op xs i).1), k, max (pw L k op xs i).2.2 (hgt L op xs.length i x)) := by
  rw [pw, h]
theorem pw_mk (L : List Nd) (k : Nat) (op : Int) (st : List Pt) (h : arN op ≤ st.length) : pw L k op (st.take (arN op)).reverse (arN op) = mk L k op st := by
  have h2 := arN_le op
  unfold mk
  by_cases a0 : arN op = 0
  · rw [if_pos a0, a0]; rfl
  rw [if_neg a0]
  by_cases a1 : arN op = 1
  · rw [if_pos a1]
    rw [a1] at h ⊢
    cases st with
    | nil => simp at h
    | cons x r => rw [pw_succ (x := x) (by simp)]; simp [pw, hgt]
  · rw [if_neg a1]
    have e2 : arN op = 2 := by omega
    rw [e2] at h ⊢
    cases st with
    | nil => simp at h
    | cons y r => cases r with
      | nil => simp at h
      | cons x r =>
        rw [pw_succ (x := y) (by simp), pw_succ (x := x) (by simp)]
        simp [pw, hgt]

structure AtA (w wr : World) (p : Pt) : Prop where
  b6 : PB wr w.heap.size 0 0 0
  b7 : PB wr (w.heap.size + 1) p.1 p.2.1 p.2.2
  b : Below w.heap.size w wr

structure AtR (w w2 : World) (bx : Nat) (P x : Pt) (gp op : Nat) (L : List Nd) : Prop where
  b6 : PB w2 w.heap.size 0 0 0
  b7 : PB w2 (w.heap.size + 1) P.1 P.2.1 P.2.2
  bb : PB w2 bx x.1 x.2.1 x.2.2
  b : Below w.heap.size w w2
  p : NdL w2 gp op L
  lp : gp < w.heap.size
theorem AtR.below {w w2 w3 : World} {bx : Nat} {P x : Pt} {gp op : Nat} {L : List Nd} (h : AtR w w2 bx P x gp op L) (hb : Below w2.heap.size w2 w3) : AtR w w3 bx P x gp op L :=
  ⟨h.b6.same (hb.block _ h.b6.lt), h.b7.same (hb.block _ h.b7.lt), h.bb.same (hb.block _ h.bb.lt), h.b.trans (hb.mono h.b.size), h.p.same (hb.block _ (Nat.lt_of_lt_of_le h.lp h.b.size)), h.lp⟩
theorem AtA.box {w wr : World} {P : Pt} (h : AtA w wr P) {gp op : Nat} {L : List Nd} (hp : NdL w gp op L) (lp : gp < w.heap.size) (x : Pt) : AtR w (wr.alloc (.cells #[.int .i64 x.1, .int .i64 x.2.1, .int .i64 x.2.2] 87)) wr.heap.size P x gp op L :=
  ⟨h.b6.alloc _, h.b7.alloc _, PB.new _ _ _ _, h.b.alloc h.b.size _, (hp.same (h.b.block _ lp)).same ((below_box wr _).block _ (Nat.lt_of_lt_of_le lp h.b.size)), lp⟩
theorem AtA.set0 {w wr : World} {P : Pt} (h : AtA w wr P) (v : Nat) : AtA w (wr.setCell ⟨w.heap.size + 1, 0, none⟩ (.int .i64 v)) (v, P.2.1, P.2.2) :=
  ⟨h.b6.other _ _ (by simp), h.b7.set0 _, h.b.setCell (by simp) _⟩
theorem AtR.set2 {w w2 : World} {bx : Nat} {P x : Pt} {gp op : Nat} {L : List Nd} (h : AtR w w2 bx P x gp op L) (v : Nat) : AtA w (w2.setCell ⟨w.heap.size + 1, 2, none⟩ (.int .i64 v)) (P.1, P.2.1, v) :=
  ⟨h.b6.other _ _ (by simp), h.b7.set2 _, h.b.setCell (by simp) _⟩

set_option maxRecDepth 100000 in
set_option maxHeartbeats 8000000 in
theorem above_any (L : List Nd) (Ap : Option Addr) (cp : Nat) (k : Nat) (n : Nd) (hn : L[k]? = some n) (hL : L.length ≤ 2048) (A : Option Addr) (c : Nat) (xs : List Pt) (hx : xs.length ≤ 2) (hxs : ∀ x ∈ xs, x.1 ≤ 2048 ∧ x.2.1 < L.length ∧ x.2.2 ≤ 100) (w : World) (hp : RdN w Ap L) (hr : RdP w A xs) :
    Calls Tryz.prog 69 #[.slice Ap L.length cp, .int .i64 k, .slice A xs.length c] w fun e w' => e = .returned (.agg #[.int .i64 (pw L k n.op xs xs.length).1, .int .i64 (pw L k n.op xs xs.length).2.1, .int .i64 (pw L k n.op xs xs.length).2.2]) ∧ Below w.heap.size w w' := by
  have hk : k < L.length := by
    by_cases q : k < L.length
    · exact q
    · rw [List.getElem?_eq_none (by omega)] at hn; cases hn
  obtain ⟨gp, op, rfl, lp, cpl⟩ := hp (by rintro rfl; simp at hk)
  have HP := (show Hid (NdL w gp op L) from cpl)
  have HR := (show Hid (RdP w A xs) from hr)
  have HX := (show Hid (∀ x ∈ xs, x.1 ≤ 2048 ∧ x.2.1 < L.length ∧ x.2.2 ≤ 100) from hxs)
  have HN := (show Hid (L[k]? = some n) from hn)
  have HG := (show Hid (∀ i, i < xs.length → ∃ x, xs[i]? = some x ∧ x ∈ xs ∧ xs ≠ []) from fun i hi => ⟨xs[i], List.getElem?_eq_getElem hi, List.getElem_mem hi, by rintro rfl; simp at hi⟩)
  have HB : Hid (∀ i, i ≤ xs.length → (pw L k n.op xs i).1 ≤ 2048 ∧ (pw L k n.op xs i).2.2 ≤ 101) := by
    show ∀ i, i ≤ xs.length → _
    intro i
    induction i with
    | zero => intro _; exact ⟨by show k ≤ 2048; omega, by show 1 ≤ 101; omega⟩
    | succ i ih =>
      intro hi
      obtain ⟨i1, i2⟩ := ih (by omega)
      have hxi : xs[i]? = some xs[i] := List.getElem?_eq_getElem (by omega)
      obtain ⟨q1, q2, q3⟩ := hxs xs[i] (List.getElem_mem (by omega))
      rw [pw_succ hxi]
      refine ⟨?_, ?_⟩
      · show (if i = 0 then xs[i].1 else _) ≤ 2048
        split <;> omega
      · show max _ (hgt L n.op xs.length i xs[i]) ≤ 101
        have : hgt L n.op xs.length i xs[i] ≤ 101 := by unfold hgt; split <;> omega
        omega
  have HS := (show Hid (∀ i x, xs[i]? = some x → pw L k n.op xs (i + 1) = ((if i = 0 then x.1 else (pw L k n.op xs i).1), k, max (pw L k n.op xs i).2.2 (hgt L n.op xs.length i x))) from fun i x h => pw_succ h)
  have HLst := (show Hid (∀ i, (pw L k n.op xs i).2.1 = k) from fun i => pw_last L k n.op xs i)
  have H0 := (show Hid (pw L k n.op xs 0 = (k, k, 1)) from rfl)
  have HA := (show Hid (AtA w ((w.alloc (.cells #[.int .i64 0, .int .i64 0, .int .i64 0] 87)).alloc (.cells #[.int .i64 k, .int .i64 k, .int .i64 1] 87)) (k, k, 1)) from by
    have h1 := PB.new w 0 0 0
    have h2 := PB.new (w.alloc (.cells #[.int .i64 0, .int .i64 0, .int .i64 0] 87)) k k 1
    refine ⟨h1.alloc _, ?_, (below_box w _).alloc (below_box w _).size _⟩
    have hsz : (w.alloc (.cells #[.int .i64 0, .int .i64 0, .int .i64 0] 87)).heap.size = w.heap.size + 1 := by simp
    rw [hsz] at h2
    exact h2)
  clear cpl hr hxs hn hp
  go_enter Tryz.func69, Tryz.ntmps69
  go_wp2_with fail
  generalize hm : xs.length = m at *
  go_loopw [16] (fun t wr => ∃ i : Nat, i ≤ m ∧ t = .int .i64 i ∧ Hid (AtA w wr (pw L k n.op xs i))) (fun t _ => m - (intOf t).toNat)
  case atStart => exact ⟨0, by omega, by go_num, HA⟩
  case round =>
    obtain ⟨i, hi, rfl, HW⟩ := hrel
    clear HA H0
    by_cases hlt : i < m
    · obtain ⟨x, hxi, hmem, hne⟩ := HG.out i hlt
      obtain ⟨g, o, rfl, lg, cl⟩ := HR.out hne
      obtain ⟨q1, q2, q3⟩ := HX.out x hmem
      obtain ⟨b6, b7, bw⟩ := HW.out
      obtain ⟨p1, p2⟩ := HB.out i hi
      have HSx := (show Hid _ from HS.out i x hxi)
      have hl2 := HLst.out i
      have hbd : x.2.2 + 1 ≤ 200 := by omega
      obtain ⟨d0, d1, d2⟩ := (cl.same (bw.block g lg)) i x hxi
      have hy : L[x.2.1]? = some L[x.2.1] := List.getElem?_eq_getElem q2
      have HO := (show Hid (L[x.2.1]? = some L[x.2.1] ∧ L[x.2.1].op = opAt L x.2.1) from ⟨hy, (op_of hy).symm⟩)
      have z0 : (0 : Int) ≤ (i : Int) := by omega
      have z1 : (i : Int) < (m : Int) := by omega
      have z2 : (0 : Int) ≤ (k : Int) := by omega
      have z3 : (k : Int) < (L.length : Int) := by omega
      have z4 : (0 : Int) ≤ (x.2.1 : Int) := by omega
      have z5 : (x.2.1 : Int) < (L.length : Int) := by omega
      have c0 := b7.c0
      have f0 := b7.fz 0
      have hsz := b7.lt
      clear HX HB HS HLst HG HR hy cl b6 b7 bw hne hmem
      generalize hP : pw L k n.op xs i = P at *
      clear hP
      obtain ⟨P1, P2, P3⟩ := P
      obtain ⟨x1, x2, x3⟩ := x
      simp only at q1 q2 q3 p1 p2 hl2 hbd d0 d1 d2 z4 z5 c0 HO HSx
      subst hl2
      by_cases hi0 : i = 0
      · have HA2 := (show Hid (AtR w ((wr.setCell ⟨w.heap.size + 1, 0, none⟩ (.int .i64 x1)).alloc (.cells #[.int .i64 x1, .int .i64 x2, .int .i64 x3] 87)) wr.heap.size (x1, P2, P3) (x1, x2, x3) gp op L) from by
          have h := (HW.out.set0 x1).box HP.out lp (x1, x2, x3)
          rw [World.size_setCell] at h
          exact h)
        have ti : ((i : Int) == 0) = true := beq_iff_eq.2 (by omega)
        have HY : Hid (pw L P2 n.op xs (i + 1) = (x1, P2, max P3 (if m = 2 ∧ opAt L x2 = n.op then x3 else x3 + 1))) := by
          show pw L P2 n.op xs (i + 1) = _
          rw [HSx.out, if_pos hi0]
          unfold hgt
          rw [hi0]
          simp only [true_and]
        clear hxi HSx
        by_cases hm2 : m = 2
        · have t1 : ((m : Int) == 2) = true := beq_iff_eq.2 (by omega)
          by_cases ho : opAt L x2 = n.op
          · have HZ : Hid (pw L P2 n.op xs (i + 1) = (x1, P2, max P3 x3)) := by
              show pw L P2 n.op xs (i + 1) = _
              rw [HY.out, if_pos ⟨hm2, ho⟩]
            have t2 : (opAt L x2 == n.op) = true := beq_iff_eq.2 ho
            clear hm2 ho hi0 HY
            go_wp2_with fail
            generalize (wr.setCell ⟨w.heap.size + 1, 0, none⟩ (.int .i64 x1)).alloc (.cells #[.int .i64 x1, .int .i64 x2, .int .i64 x3] 87) = w2 at *
            have e1 := (HA2.out.p x2 _ HO.out.1).c0
            have e2 := (HA2.out.p P2 n HN.out).c0
            rw [HO.out.2] at e1
            have k1 := HA2.out.bb.c1
            have k2 := HA2.out.bb.c2
            clear c0 f0 d0 d1 d2 HW HP HN HO
            generalize opAt L x2 = ox at *
            go_quiet (fail)
            have HA3 := (show Hid (AtR w (w2.drewN nq) wr.heap.size (x1, P2, P3) (x1, x2, x3) gp op L) from HA2.out.below (below_drewN (Below.refl _ _) _))
            generalize w2.drewN nq = w3 at *
            clear e1 e2 k1 k2 HA2
            have k2 := HA3.out.bb.c2
            have c2 := HA3.out.b7.c2
            have f2 := HA3.out.b7.fz 2
            simp only at k2 c2
            go_wp2_with fail
            go_roundw
            case rel =>
              have h := HA3.out.set2 (max P3 x3)
              refine ⟨i + 1, by omega, by go_num, ?_⟩
              rw [HZ.out]
              first | rw [max_int] | rw [max_i]
              exact h
            case measure => simp [intOf]; omega
          · have HZ : Hid (pw L P2 n.op xs (i + 1) = (x1, P2, max P3 (x3 + 1))) := by
              show pw L P2 n.op xs (i + 1) = _
              rw [HY.out, if_neg (fun q => ho q.2)]
            have t2 : (opAt L x2 == n.op) = false := beq_eq_false_iff_ne.2 ho
            clear hm2 ho hi0 HY
            go_wp2_with fail
            generalize (wr.setCell ⟨w.heap.size + 1, 0, none⟩ (.int .i64 x1)).alloc (.cells #[.int .i64 x1, .int .i64 x2, .int .i64 x3] 87) = w2 at *
            have e1 := (HA2.out.p x2 _ HO.out.1).c0
            have e2 := (HA2.out.p P2 n HN.out).c0
            rw [HO.out.2] at e1
            have k1 := HA2.out.bb.c1
            have k2 := HA2.out.bb.c2
            clear c0 f0 d0 d1 d2 HW HP HN HO
            generalize opAt L x2 = ox at *
            go_quiet (fail)
            have HA3 := (show Hid (AtR w (w2.drewN nq) wr.heap.size (x1, P2, P3) (x1, x2, x3) gp op L) from HA2.out.below (below_drewN (Below.refl _ _) _))
            generalize w2.drewN nq = w3 at *
            clear e1 e2 k1 k2 HA2
            have k2 := HA3.out.bb.c2
            have c2 := HA3.out.b7.c2
            have f2 := HA3.out.b7.fz 2
            simp only at k2 c2
            go_wp2_with fail
            go_roundw
            case rel =>
              have h := HA3.out.set2 (max P3 (x3 + 1))
              refine ⟨i + 1, by omega, by go_num, ?_⟩
              rw [HZ.out]
              first | rw [max_int1] | rw [max_i1]
              exact h
            case measure => simp [intOf]; omega
        · have t1 : ((m : Int) == 2) = false := beq_eq_false_iff_ne.2 (by omega)
          have HZ : Hid (pw L P2 n.op xs (i + 1) = (x1, P2, max P3 (x3 + 1))) := by
            show pw L P2 n.op xs (i + 1) = _
            rw [HY.out, if_neg (fun q => hm2 q.1)]
          clear hm2 hi0 HY
          go_wp2_with fail
          generalize (wr.setCell ⟨w.heap.size + 1, 0, none⟩ (.int .i64 x1)).alloc (.cells #[.int .i64 x1, .int .i64 x2, .int .i64 x3] 87) = w2 at *
          have e1 := (HA2.out.p x2 _ HO.out.1).c0
          have e2 := (HA2.out.p P2 n HN.out).c0
          rw [HO.out.2] at e1
          have k1 := HA2.out.bb.c1
          have k2 := HA2.out.bb.c2
          clear c0 f0 d0 d1 d2 HW HP HN HO
          generalize opAt L x2 = ox at *
          go_quiet (fail)
          have HA3 := (show Hid (AtR w (w2.drewN nq) wr.heap.size (x1, P2, P3) (x1, x2, x3) gp op L) from HA2.out.below (below_drewN (Below.refl _ _) _))
          generalize w2.drewN nq = w3 at *
          clear e1 e2 k1 k2 HA2
          have k2 := HA3.out.bb.c2
          have c2 := HA3.out.b7.c2
          have f2 := HA3.out.b7.fz 2
          simp only at k2 c2
          go_wp2_with fail
          go_roundw
          case rel =>
            have h := HA3.out.set2 (max P3 (x3 + 1))
            refine ⟨i + 1, by omega, by go_num, ?_⟩
            rw [HZ.out]
            first | rw [max_int1] | rw [max_i1]
            exact h
          case measure => simp [intOf]; omega
      · have HA3 := (show Hid (AtR w (wr.alloc (.cells #[.int .i64 x1, .int .i64 x2, .int .i64 x3] 87)) wr.heap.size (P1, P2, P3) (x1, x2, x3) gp op L) from HW.out.box HP.out lp (x1, x2, x3))
        have ti : ((i : Int) == 0) = false := beq_eq_false_iff_ne.2 (by omega)
        have HZ : Hid (pw L P2 n.op xs (i + 1) = (P1, P2, max P3 (x3 + 1))) := by
          show pw L P2 n.op xs (i + 1) = _
          rw [HSx.out, if_neg hi0]
          unfold hgt
          rw [if_neg (fun q => hi0 q.1)]
        have c2 := HW.out.b7.c2
        have f2 := HW.out.b7.fz 2
        simp only at c2
        clear hxi HSx hi0 HO HN HP
        go_wp2_with fail
        go_roundw
        case rel =>
          have h := HA3.out.set2 (max P3 (x3 + 1))
          refine ⟨i + 1, by omega, by go_num, ?_⟩
          rw [HZ.out]
          first | rw [max_int1] | rw [max_i1]
          have e : ((wr.setCell ⟨w.heap.size + 1, 2, none⟩ (.int .i64 ((max P3 (x3 + 1) : Nat) : Int))).alloc (.cells #[.int .i64 x1, .int .i64 x2, .int .i64 x3] 87)) = (wr.alloc (.cells #[.int .i64 x1, .int .i64 x2, .int .i64 x3] 87)).setCell ⟨w.heap.size + 1, 2, none⟩ (.int .i64 ((max P3 (x3 + 1) : Nat) : Int)) := by
            rw [World.setCell_alloc_past _ _ _ _ hsz]
          rw [e]
          exact h
        case measure => simp [intOf]; omega
    · obtain rfl : i = m := by omega
      have hlen := hm
      subst hlen
      have c0 := HW.out.b7.c0
      have c1 := HW.out.b7.c1
      have c2 := HW.out.b7.c2
      have d0 := HW.out.b6.c0
      have d1 := HW.out.b6.c1
      have d2 := HW.out.b6.c2
      have f0 := HW.out.b6.fz 0
      have f1 := HW.out.b6.fz 1
      have f2 := HW.out.b6.fz 2
      clear HX HB HS HLst HG HR HP HN
      have HV := (show Hid (PB (((wr.setCell ⟨w.heap.size, 0, none⟩ (.int .i64 (pw L k n.op xs xs.length).1)).setCell ⟨w.heap.size, 1, none⟩ (.int .i64 (pw L k n.op xs xs.length).2.1)).setCell ⟨w.heap.size, 2, none⟩ (.int .i64 (pw L k n.op xs xs.length).2.2)) w.heap.size _ _ _) from ((HW.out.b6.set0 _).set1 _).set2 _)
      have HU := (show Hid (Below w.heap.size w (((wr.setCell ⟨w.heap.size, 0, none⟩ (.int .i64 (pw L k n.op xs xs.length).1)).setCell ⟨w.heap.size, 1, none⟩ (.int .i64 (pw L k n.op xs xs.length).2.1)).setCell ⟨w.heap.size, 2, none⟩ (.int .i64 (pw L k n.op xs xs.length).2.2))) from ((HW.out.b.setCell (Nat.le_refl _) _).setCell (Nat.le_refl _) _).setCell (Nat.le_refl _) _)
      clear HW
      generalize hP : pw L k n.op xs xs.length = P at *
      have HP := (show Hid _ from hP)
      clear hP
      go_wp2_with fail
      generalize ((wr.setCell ⟨w.heap.size, 0, none⟩ (.int .i64 P.1)).setCell ⟨w.heap.size, 1, none⟩ (.int .i64 P.2.1)).setCell ⟨w.heap.size, 2, none⟩ (.int .i64 P.2.2) = w9 at *
      clear c0 c1 c2 d0 d1 d2 f0 f1 f2
      have c0 := HV.out.c0
      have c1 := HV.out.c1
      have c2 := HV.out.c2
      rw [HP.out]
      refine bodyPost_ret (v := .agg #[.int .i64 P.1, .int .i64 P.2.1, .int .i64 P.2.2]) (by simp [results, Tryz.results69, go_sem, c0, c1, c2]) rfl ⟨rfl, HU.out⟩
end Go.Proofs.YtnpifgcgjgddoaaGreatDoor.T

namespace Go.Proofs.YtnpifgcgjgddoaaGreatDoor.T
open Go.RowKit
theorem Below.grow {w w' : World} (hb : Below w.heap.size w w') (row : Option Nat) : w.grownBy w' row := ⟨hb.os, hb.tape, hb.output, hb.size, fun k hk _ => hb.block k hk⟩
theorem own_below {w w' : World} {base e size : Nat} {v : Value} {n : Nat} {xs : List Value} (h : w.ownsRow base e size v n xs) (hb : Below w.heap.size w w') : w'.ownsRow base e size v n xs := by
  refine h.kept (row := none) (Below.grow hb none) ?_
  cases h2 : v.ownBlock
  · exact .inl rfl
  · exact .inr (by simp)
theorem own_cut {w : World} {base e size g n cap : Nat} {xs : List Value} (h : w.ownsRow base e size (.slice (some ⟨g, 0, none⟩) n cap) n xs) {m : Nat} (hm : m ≤ n) : w.ownsRow base e size (.slice (some ⟨g, 0, none⟩) m cap) m (xs.take (m * size)) := by
  obtain ⟨h1, h2⟩ := h
  rcases h2 with ⟨h2, _⟩ | ⟨g', cap', cur, h3, h4, h5, h6, h7, h8, h9⟩
  · cases h2
  · cases h3
    have hmul : m * size ≤ n * size := Nat.mul_le_mul_right _ hm
    refine ⟨by rw [List.length_take]; omega, .inr ⟨g, cap, cur, rfl, h4, h5, by omega, h7, h8, ?_⟩⟩
    rw [← h9, List.take_take]
    congr 1
    omega

/-- All but some blocks stay. -/
structure Kp (X : Nat → Prop) (w w' : World) : Prop where
  os : w'.os = w.os
  tape : w'.tape = w.tape
  output : w'.output = w.output
  size : w.heap.size ≤ w'.heap.size
  block : ∀ b, b < w.heap.size → ¬ X b → w'.heap[b]? = w.heap[b]?
theorem own_kp {w w' : World} {X : Nat → Prop} {base e size : Nat} {v : Value} {n : Nat} {xs : List Value} (h : w.ownsRow base e size v n xs) (hk : Kp X w w') (hd : ∀ g, v.ownBlock = some g → ¬ X g) : w'.ownsRow base e size v n xs := by
  refine ⟨h.1, ?_⟩
  rcases h.2 with hn | ⟨g, cap, cur, rfl, hb, hgg, rest⟩
  · exact .inl hn
  · refine .inr ⟨g, cap, cur, rfl, hb, ?_, rest⟩
    rw [hk.block g (Array.getElem?_eq_some_iff.1 hgg).1 (hd g rfl)]
    exact hgg

theorem ptc_get (l : List Pt) (j : Nat) (p : Pt) (h : l[j]? = some p) : ∀ i, i < 3 → (ptc l)[j * 3 + i]? = (ptV p)[i]? := by
  induction l generalizing j with
  | nil => cases h
  | cons a l ih =>
    intro i hi
    have e : ptc (a :: l) = ptV a ++ ptc l := rfl
    rw [e]
    cases j with
    | zero =>
      cases h
      rw [Nat.zero_mul, Nat.zero_add, List.getElem?_append_left (by show i < 3; exact hi)]
    | succ j =>
      have h2 : l[j]? = some p := by simpa using h
      have e7 : (ptV a).length = 3 := rfl
      rw [List.getElem?_append_right (by rw [e7]; omega), e7, show (j + 1) * 3 + i - 3 = j * 3 + i from by omega]
      exact ih j h2 i hi
abbrev ptG (p : Pt) : Value := .agg #[.int .i64 p.1, .int .i64 p.2.1, .int .i64 p.2.2]
theorem info_parts {P : Program} {t : TypeId} {z : Option Value} {s b : Nat} (h : (P.info? t).map (fun i => (i.zero, i.size, i.bytes)) = some (z, s, b)) : ∃ i, P.info? t = some i ∧ i.zero = z ∧ i.size = s ∧ i.bytes = b := by
  cases hi : P.info? t with
  | none => rw [hi] at h; cases h
  | some i => rw [hi] at h; simp only [Option.map_some, Option.some.injEq, Prod.mk.injEq] at h; exact ⟨i, rfl, h.1, h.2.1, h.2.2⟩
theorem Tryz.info59 : (Tryz.prog.info? 87).map (fun i => (i.zero, i.size, i.bytes)) = some (some (.agg #[.int .i64 0, .int .i64 0, .int .i64 0]), 3, 24) := by kernel_rfl
theorem kp_below {X : Nat → Prop} {Bc : Nat} {w w4 wA : World} (h : Below Bc w w4) (hk : Kp X w4.drew wA) (hx : ∀ b, X b → Bc ≤ b) (hB : Bc ≤ w4.heap.size) : Below Bc w wA :=
  ⟨hk.os.trans h.drew.os, hk.tape.trans h.drew.tape, hk.output.trans h.drew.output, Nat.le_trans h.size hk.size, fun b hb => (hk.block b (Nat.lt_of_lt_of_le hb hB) (fun q => by have := hx b q; omega)).trans (h.block b hb)⟩
theorem own_drew {w : World} {base e size : Nat} {v : Value} {n : Nat} {xs : List Value} (h : w.ownsRow base e size v n xs) : w.drew.ownsRow base e size v n xs := own_below h ((Below.refl _ _).drew)
/-- What a function that is handed each node keeps to. -/
structure See (L : List Nd) (F : Nat) (caps : Array Value) (Bc B : Nat) (J : Nat → (Nat → Prop) → World → Prop) : Prop where
  kept : ∀ k X w w', J k X w → w.heap.size ≤ w'.heap.size → (∀ b, (b < B ∨ X b) → w'.heap[b]? = w.heap[b]?) → J k X w'
  far : ∀ k X w, J k X w → ∀ b, X b → Bc ≤ b ∧ b < w.heap.size
  call : ∀ k X w A c, J k X w → B ≤ w.heap.size → k < L.length → (∀ j, j ≤ k → er L j = 0) → RdP w A ((run L k).take (arN (opAt L k))).reverse → (∀ a, A = some a → ¬ X a.block) →
    Calls Tryz.prog F (#[ptG (pt L k), .slice A (arN (opAt L k)) c] ++ caps) w fun e w' => (∃ u, e = .returned u) ∧ ∃ X', J (k + 1) X' w' ∧ Kp X w w' ∧ ∀ b, X' b → X b ∨ w.heap.size ≤ b

structure AtT (L : List Nd) (J : Nat → (Nat → Prop) → World → Prop) (Bc : Nat) (w wr : World) (k : Nat) (X : Nat → Prop) (v : Value) : Prop where
  o : wr.ownsRow w.heap.size 87 3 v (run L k).length (ptc (run L k).reverse)
  j : J k X wr
  d : ∀ g, v.ownBlock = some g → ¬ X g
  b : Below Bc w wr
  e : ∀ j, j < k → er L j = 0
theorem AtT.below {L : List Nd} {F : Nat} {caps : Array Value} {J : Nat → (Nat → Prop) → World → Prop} {Bc : Nat} {w wr w2 : World} {k : Nat} {X : Nat → Prop} {v : Value} (h : AtT L J Bc w wr k X v) (hs : See L F caps Bc w.heap.size J) (hB : Bc ≤ w.heap.size) (hb : Below wr.heap.size wr w2) : AtT L J Bc w w2 k X v :=
  ⟨own_below h.o hb, hs.kept k X wr w2 h.j hb.size (fun b hx => hb.block b (by
    rcases hx with q | q
    · exact Nat.lt_of_lt_of_le q h.b.size
    · exact (hs.far _ _ _ h.j b q).2)), h.d, h.b.trans (hb.mono (Nat.le_trans hB h.b.size)), h.e⟩

set_option maxRecDepth 100000 in
set_option maxHeartbeats 16000000 in
theorem through_any (L : List Nd) (F : Nat) (caps : Array Value) (J : Nat → (Nat → Prop) → World → Prop) (Ap : Option Addr) (cp Bc : Nat) (hL : L.length ≤ 140737488355328) (hT : ∀ n ∈ L, n.tx.size ≤ 140737488355328) (w : World) (hB : Bc ≤ w.heap.size) (hp : RdN w Ap L) (hpb : L ≠ [] → ∀ a, Ap = some a → a.block < Bc) (he : ∀ args w, (callFunc F args).run Tryz.prog w = .ok (.enter F args) w) (hs : See L F caps Bc w.heap.size J) (X0 : Nat → Prop) (h0 : J 0 X0 w) :
    Calls Tryz.prog 45 #[.slice Ap L.length cp, .func (.func F) #[] caps] w fun e w' => e = .returned (.tuple #[.int .i64 (ck L).1, .int .i64 (ck L).2]) ∧ Below Bc w w' ∧ ∃ k X, J k X w' ∧ ((ck L).2 = 0 → k = L.length) := by
  by_cases hlong : 2048 < L.length
  · have HE := (show Hid (ck L = (0, 2)) from ck_long hlong)
    have z : (2048 : Int) < (L.length : Int) := by omega
    have HJ := (show Hid (J 0 X0 w) from h0)
    clear hT hp hpb hs h0 he
    go_enter Tryz.func45, Tryz.ntmps45
    go_wp2_with fail
    go_ret2
    exact ⟨by rw [HE.out]; rfl, Below.refl _ _, 0, X0, HJ.out, fun q => by rw [HE.out] at q; cases q⟩
  have z : ¬ (2048 : Int) < (L.length : Int) := by omega
  have HS := (show Hid (See L F caps Bc w.heap.size J) from hs)
  have HB := (show Hid (Bc ≤ w.heap.size) from hB)
  have HP := (show Hid (RdN w Ap L) from hp)
  have HPb := (show Hid (L ≠ [] → ∀ a, Ap = some a → a.block < Bc) from hpb)
  have HA := (show Hid (AtT L J Bc w w 0 X0 (.slice none 0 0)) from ⟨World.ownsRow_nil _ _ _ _, h0, fun g q => by simp [Value.ownBlock] at q, Below.refl _ _, fun j q => by omega⟩)
  have HG := (show Hid (∀ k, k < L.length → ∃ n, L[k]? = some n ∧ n.tx.size ≤ 140737488355328 ∧ L ≠ []) from fun k hk => ⟨_, List.getElem?_eq_getElem hk, hT _ (List.getElem_mem hk), by rintro rfl; simp at hk⟩)
  have HN := (show Hid (¬ 2048 < L.length) from hlong)
  clear hT hp hpb hs h0 hB hlong
  obtain ⟨i0, hinf, hz0, hz1, hz2⟩ := info_parts Tryz.info59
  go_enter Tryz.func45, Tryz.ntmps45
  go_wp2_with fail
  go_loopw [6, 17] (fun v t wr => ∃ k : Nat, ∃ X, k ≤ L.length ∧ t = .int .i64 k ∧ Hid (AtT L J Bc w wr k X v)) (fun _ t _ => L.length - (intOf t).toNat)
  case atStart => exact ⟨0, X0, by omega, by go_num, HA⟩
  case round =>
    obtain ⟨k, X, hk, rfl, HW⟩ := hrel
    clear HA
    by_cases hlt : k < L.length
    · obtain ⟨n, hn, htx, hne⟩ := HG.out k hlt
      obtain ⟨gp, op, rfl, lp, cl⟩ := HP.out hne
      have hgb := HPb.out hne _ rfl
      have HNn := (show Hid (L[k]? = some n) from hn)
      have HAl : Hid (∀ w, Calls Tryz.prog 67 #[ndG n] w fun e w' => e = .returned (.int .i64 (alE n)) ∧ Below w.heap.size w w') := fun w => alone_any n htx w
      have HAr : Hid (∀ w, Calls Tryz.prog 68 #[.int .i64 n.op] w fun e w' => e = .returned (.int .i64 (ar n.op)) ∧ w' = w) := fun w => arity_any n.op w
      obtain ⟨c0, c1, c2, c3, c4, c5, c6⟩ := (cl.same (HW.out.b.block gp hgb)) k n hn
      have z0 : (0 : Int) ≤ (k : Int) := by omega
      have z1 : (k : Int) < (L.length : Int) := by omega
      have HCl := (show Hid (NdL w gp op L) from cl)
      have HXlt := (show Hid (∀ b, X b → b < wr.heap.size) from fun b hb => (HS.out.far _ _ _ HW.out.j b hb).2)
      have hwr2 : wr.heap.size ≤ wr.heap.size := Nat.le_refl _
      clear hn hne cl HG
      go_wp2_with fail
      refine (HAl.out _).mono ?_
      rintro e w2 ⟨rfl, b2⟩
      clear HAl c0 c1 c2 c3 c4 c5 c6
      have HBox := (show Hid (NB w2 wr.heap.size 0 n) from (nb_new wr n).below b2)
      have HW2 := (show Hid (AtT L J Bc w w2 k X _) from HW.out.below HS.out HB.out ((below_box wr (ndO n)).trans (b2.mono (below_box _ _).size)))
      have hsz2 : wr.heap.size ≤ w2.heap.size := Nat.le_trans (below_box wr (ndO n)).size b2.size
      clear b2 HW hwr2
      have hJn := HN.out
      by_cases hal : alE n = 0
      · have ta : (alE n != 0) = false := by rw [hal]; rfl
        have hrn := arN_of hal
        have HQ : Hid (er L k = if (run L k).length < arN n.op then 42 else if 60 < (pt L k).2.2 then 4 else 0) := (by show er L k = _; rw [er_of HNn.out, if_neg (by rw [hal]; simp)])
        have hlen := run_len L k
        have har := ar_hi n.op
        obtain ⟨A, cA, hv, hAo⟩ : ∃ A c, u6 = .slice A (run L k).length c ∧ (A = none ∧ run L k = [] ∧ c = 0 ∨ ∃ g, A = some ⟨g, 0, none⟩ ∧ g < w2.heap.size ∧ (run L k).length ≤ c) := by
          rcases HW2.out.o.2 with ⟨q1, q2⟩ | ⟨g, cap, cur, q1, q2, q3, q4, _⟩
          · exact ⟨none, 0, by rw [q1, q2], .inl ⟨rfl, List.eq_nil_of_length_eq_zero q2, rfl⟩⟩
          · exact ⟨_, cap, q1, .inr ⟨g, rfl, (Array.getElem?_eq_some_iff.1 q3).1, q4⟩⟩
        subst hv
        have b0 := HBox.out.c0
        rw [← hrn] at HAr
        rw [← hrn] at har
        generalize hrl : (run L k).length = m at *
        have HRl := (show Hid ((run L k).length = m) from hrl)
        have HAo := (show Hid _ from hAo)
        clear hAo hal hrl hrn
        generalize alE n = ea at *
        by_cases hfew : m < arN n.op
        · have HE := (show Hid (ck L = (k, 42)) from (by
            show ck L = _
            have e : er L k = 42 := by rw [HQ.out, if_pos hfew]
            rw [ck_bad hJn hlt HW2.out.e (by rw [e]; decide), e]))
          have zf : decide ((m : Int) - (arN n.op : Int) < 0) = true := decide_eq_true (by omega)
          have HBb := (show Hid (Below Bc w w2) from HW2.out.b)
          have HJ := (show Hid (J k X w2) from HW2.out.j)
          clear HQ HW2 HNn HS HB HP HPb HN HRl HAo
          go_wp2_with fail
          refine (HAr.out _).mono ?_
          rintro e w2 ⟨rfl, rfl⟩
          clear HAr HBox
          generalize arN n.op = aa at *
          go_wp2_with fail
          go_ret2
          exact ⟨by rw [HE.out]; rfl, HBb.out, k, X, HJ.out, fun q => by rw [HE.out] at q; cases q⟩
        · obtain ⟨r, hr⟩ : ∃ r, r + arN n.op = m := ⟨m - arN n.op, by omega⟩
          have HM := (show Hid (er L k = if 60 < (pt L k).2.2 then 4 else 0) from (by show er L k = _; rw [HQ.out, if_neg hfew]))
          have hrd := run_bd hk HW2.out.e
          obtain ⟨xs, hxs⟩ : ∃ xs, ((run L k).take (arN n.op)).reverse = xs := ⟨_, rfl⟩
          have hxl : xs.length = arN n.op := by rw [← hxs, List.length_reverse, List.length_take, HRl.out]; omega
          have hxb : ∀ x ∈ xs, x.1 ≤ 2048 ∧ x.2.1 < L.length ∧ x.2.2 ≤ 100 := fun x hx => by
            rw [← hxs] at hx
            obtain ⟨q1, q2, q3, _⟩ := hrd x (List.mem_of_mem_take (List.mem_reverse.1 hx))
            exact ⟨by omega, by omega, by omega⟩
          have hpm : pw L k n.op xs xs.length = pt L k := by
            rw [hxl, ← hxs, pw_mk L k n.op (run L k) (by rw [HRl.out]; omega)]
            unfold pt
            rw [op_of HNn.out]
          obtain ⟨A2, hA2, hA2r, hA2b⟩ : ∃ A2, (if cA = r then A else Option.map (fun x => x.add (r * 3)) A) = A2 ∧ RdP w2 A2 xs ∧ ∀ a, A2 = some a → ¬ X a.block ∧ a.block < w2.heap.size := by
            refine ⟨_, rfl, ?_, ?_⟩
            · intro hx0
              have ha0 : 0 < arN n.op := by rw [← hxl]; exact List.length_pos_iff.2 hx0
              rcases HAo.out with ⟨q1, q2, q3⟩ | ⟨g, q1, q2, q3⟩
              · have := HRl.out; rw [q2] at this; simp at this; omega
              · have hc : ¬ cA = r := by omega
                rw [if_neg hc, q1]
                refine ⟨g, r * 3, by rw [Option.map_some, Addr.add_lit, Nat.zero_add], q2, ?_⟩
                intro j p hj
                have hcl := HW2.out.o.cells (g := g) (by rw [q1]; rfl)
                have hj2 : (run L k).reverse[r + j]? = some p := by
                  have := rev_drop (run L k) (arN n.op) (by rw [HRl.out]; omega)
                  rw [hxs, HRl.out, show m - arN n.op = r from by omega] at this
                  rw [← this, List.getElem?_drop] at hj
                  exact hj
                have key : ∀ i u, i < 3 → (ptV p)[i]? = some u → w2.cell? ⟨g, (r + j) * 3 + i, none⟩ = some u := fun i u hi hu => by
                  have := hcl ((r + j) * 3 + i) u (by rw [ptc_get _ _ _ hj2 i hi]; exact hu)
                  rwa [Addr.add_lit, Nat.zero_add] at this
                have e3 : r * 3 + j * 3 = (r + j) * 3 := by omega
                rw [e3]
                exact ⟨key 0 _ (by omega) rfl, key 1 _ (by omega) rfl, key 2 _ (by omega) rfl⟩
            · intro a ha
              rcases HAo.out with ⟨q1, q2, q3⟩ | ⟨g, q1, q2, q3⟩
              · rw [q1] at ha; split at ha <;> cases ha
              · rw [q1] at ha
                have hX := HW2.out.d g (by rw [q1]; rfl)
                split at ha
                · cases ha; exact ⟨hX, q2⟩
                · rw [Option.map_some, Addr.add_lit] at ha; cases ha; exact ⟨hX, q2⟩
          have HAb : Hid (∀ W, Below w2.heap.size w2 W → Calls Tryz.prog 69 #[.slice (some ⟨gp, op, none⟩) L.length cp, .int .i64 k, .slice A2 (arN n.op) (cA - r)] W fun e w' => e = .returned (ptG (pt L k)) ∧ Below W.heap.size W w') := fun W hW => by
            have h := above_any L (some ⟨gp, op, none⟩) cp k n HNn.out (by omega) A2 (cA - r) xs (by rw [hxl]; exact arN_le _) hxb W (fun _ => ⟨gp, op, rfl, Nat.lt_of_lt_of_le lp (Nat.le_trans HW2.out.b.size hW.size), (HCl.out.same (HW2.out.b.block gp hgb)).same (hW.block gp (Nat.lt_of_lt_of_le lp HW2.out.b.size))⟩) (hA2r.below hW (Nat.le_refl _))
            rw [hxl] at h
            rw [hxl] at hpm
            rw [hpm] at h
            exact h
          have HR2 := (show Hid (RdP w2 A2 xs ∧ ∀ a, A2 = some a → ¬ X a.block ∧ a.block < w2.heap.size) from ⟨hA2r, hA2b⟩)
          have HX := (show Hid (((run L k).take (arN n.op)).reverse = xs) from hxs)
          clear hA2r hA2b hxs hxb hrd hpm HQ hfew hxl
          have hsub : (m : Int) - (arN n.op : Int) = (r : Int) := by omega
          have hmr : m - r = arN n.op := by omega
          have zr : (r : Int) ≤ (m : Int) := by omega
          go_wp2_with fail
          refine (HAr.out _).mono ?_
          rintro e w2 ⟨rfl, rfl⟩
          clear HAr
          have HOp := (show Hid (opAt L k = n.op) from op_of HNn.out)
          have HAx := (show Hid (arN n.op ≤ 2 ∧ r + arN n.op = m) from ⟨arN_le _, hr⟩)
          clear hr
          generalize haa : arN n.op = aa at *
          have HAa := (show Hid (arN n.op = aa) from haa)
          clear haa
          go_wp2_with fail
          refine (HAb.out _ (Below.refl _ _)).mono ?_
          rintro e w3 ⟨rfl, b3⟩
          have hsz3 : w2.heap.size ≤ w3.heap.size := b3.size
          clear HAb
          have HB3 := (show Hid (Below w2.heap.size w2 (w3.alloc (.cells #[.int .i64 (pt L k).1, .int .i64 (pt L k).2.1, .int .i64 (pt L k).2.2] 87))) from b3.alloc b3.size _)
          have HP3 := (show Hid (PB (w3.alloc (.cells #[.int .i64 (pt L k).1, .int .i64 (pt L k).2.1, .int .i64 (pt L k).2.2] 87)) w3.heap.size (pt L k).1 (pt L k).2.1 (pt L k).2.2) from PB.new _ _ _ _)
          by_cases hd : 60 < (pt L k).2.2
          · have HE := (show Hid (ck L = (k, 4)) from (by
              show ck L = _
              have e : er L k = 4 := by rw [HM.out, if_pos hd]
              rw [ck_bad hJn hlt HW2.out.e (by rw [e]; decide), e]))
            have zd : (60 : Int) < ((pt L k).2.2 : Int) := by omega
            have HBb := (show Hid (Below Bc w (w3.alloc (.cells #[.int .i64 (pt L k).1, .int .i64 (pt L k).2.1, .int .i64 (pt L k).2.2] 87))) from HW2.out.b.trans (HB3.out.mono (Nat.le_trans HB.out HW2.out.b.size)))
            have HJ := (show Hid (J k X (w3.alloc (.cells #[.int .i64 (pt L k).1, .int .i64 (pt L k).2.1, .int .i64 (pt L k).2.2] 87))) from (HW2.out.below HS.out HB.out HB3.out).j)
            clear HW2 HNn HS HB HP HPb HN HRl HAo HBox HB3 HP3 HM HR2 HX HOp HAx HAa b0 b3 HCl hA2 hmr hd
            generalize pt L k = P at *
            go_wp2_with fail
            go_ret2
            exact ⟨by rw [HE.out]; rfl, HBb.out, k, X, HJ.out, fun q => by rw [HE.out] at q; cases q⟩
          · have HE0 := (show Hid (er L k = 0) from (by show er L k = _; rw [HM.out, if_neg hd]))
            have zd : ¬ (60 : Int) < ((pt L k).2.2 : Int) := by omega
            have HW3 := (show Hid (AtT L J Bc w _ k X _) from HW2.out.below HS.out HB.out HB3.out)
            have HR3 := (show Hid (RdP (w3.alloc (.cells #[.int .i64 (pt L k).1, .int .i64 (pt L k).2.1, .int .i64 (pt L k).2.2] 87)) A2 xs) from HR2.out.1.below HB3.out (Nat.le_refl _))
            have HD3 := (show Hid (∀ a, A2 = some a → ¬ X a.block) from fun a ha => (HR2.out.2 a ha).1)
            clear HR2 HM HNn HP HPb HCl b3 HW2
            have HPt := (show Hid (run L (k + 1) = pt L k :: (run L k).drop aa) from by show run L (k + 1) = _; rw [run_succ, HOp.out, HAa.out])
            have HCall : Hid (∀ W, Below (w3.alloc (.cells #[.int .i64 (pt L k).1, .int .i64 (pt L k).2.1, .int .i64 (pt L k).2.2] 87)).heap.size (w3.alloc (.cells #[.int .i64 (pt L k).1, .int .i64 (pt L k).2.1, .int .i64 (pt L k).2.2] 87)) W →
                Calls Tryz.prog F (#[ptG (pt L k), .slice A2 aa (cA - r)] ++ caps) W fun e w' => (∃ u, e = .returned u) ∧ ∃ X', J (k + 1) X' w' ∧ Kp X W w' ∧ ∀ b, X' b → X b ∨ W.heap.size ≤ b) := fun W hW => by
              have hat := HW3.out.below HS.out HB.out hW
              have h := HS.out.call k X W A2 (cA - r) hat.j hat.b.size hlt (fun j hj => by
                by_cases q : j < k
                · exact hat.e j q
                · obtain rfl : j = k := by omega
                  exact HE0.out) (by rw [HOp.out, HAa.out, HX.out]; exact HR3.out.below hW (Nat.le_refl _)) HD3.out
              rw [HOp.out, HAa.out] at h
              exact h
            have k0 := HP3.out.c0
            have k1 := HP3.out.c1
            have k2 := HP3.out.c2
            generalize hw4 : w3.alloc (.cells #[.int .i64 (pt L k).1, .int .i64 (pt L k).2.1, .int .i64 (pt L k).2.2] 87) = w4 at *
            clear HB3
            have HKb := (show Hid (∀ W, Kp X w4.drew W → PB W w3.heap.size (pt L k).1 (pt L k).2.1 (pt L k).2.2) from fun W hW => HP3.out.same (hW.block _ HP3.out.lt (fun q => by have := HXlt.out _ q; omega)))
            go_wp2_with fail
            go_region_held3 (fun W => W.cell? ⟨w3.heap.size, 0, none⟩ = some (.int .i64 (pt L k).1) ∧ W.cell? ⟨w3.heap.size, 1, none⟩ = some (.int .i64 (pt L k).2.1) ∧ W.cell? ⟨w3.heap.size, 2, none⟩ = some (.int .i64 (pt L k).2.2))
              (first | go_keep | exact ⟨(HKb.out _ hkp).c0, (HKb.out _ hkp).c1, (HKb.out _ hkp).c2⟩)
              ((with_reducible refine (HCall.out _ ((Below.refl _ _).drew)).mono ?_; rintro e wA ⟨⟨u, rfl⟩, X', hj, hkp, hx⟩))
            rename_i hHeld
            have HOw := (show Hid (wA.ownsRow w.heap.size 87 3 (.slice A m cA) m (ptc (run L k).reverse)) from own_kp (own_drew (by have ho := HW3.out.o; rw [HRl.out] at ho; exact ho)) hkp HW3.out.d)
            have HXx := (show Hid (∀ g, (Value.slice A m cA).ownBlock = some g → w.heap.size ≤ g ∧ g < wA.heap.size ∧ ¬ X' g) from fun g hg => by
              obtain ⟨q1, q2⟩ := HOw.out.lt g hg
              refine ⟨q1, q2, fun q => ?_⟩
              rcases hx g q with q | q
              · exact HW3.out.d g hg q
              · have := (HW3.out.o.lt g hg).2
                have e : w4.drew.heap.size = w4.heap.size := rfl
                omega)
            have HBA := (show Hid (Below Bc w wA) from kp_below HW3.out.b hkp (fun b q => (HS.out.far _ _ _ HW3.out.j b q).1) (Nat.le_trans HB.out HW3.out.b.size))
            have HPA := (show Hid (PB wA w3.heap.size (pt L k).1 (pt L k).2.1 (pt L k).2.2) from HKb.out _ hkp)
            have HJA := (show Hid (J (k + 1) X' wA) from hj)
            have HEe := (show Hid (∀ j, j < k + 1 → er L j = 0) from fun j hj => by
                by_cases q : j < k
                · exact HW3.out.e j q
                · obtain rfl : j = k := by omega
                  exact HE0.out)
            have HOc : Hid (wA.ownsRow w.heap.size 87 3 (.slice A r cA) r (ptc ((run L k).drop aa).reverse)) := by
              show wA.ownsRow _ _ _ _ _ _
              have hre := rev_take (run L k) aa (by rw [HRl.out]; omega)
              rw [HRl.out, show m - aa = r from by omega] at hre
              have hpt : (ptc (run L k).reverse).take (r * 3) = ptc ((run L k).drop aa).reverse := by
                rw [← hre]
                have e := ptc_append ((run L k).reverse.take r) ((run L k).reverse.drop r)
                rw [List.take_append_drop] at e
                rw [e, List.take_append_of_le_length (by rw [ptc_len, List.length_take, List.length_reverse, HRl.out]; omega)]
                exact List.take_of_length_le (by rw [ptc_len, List.length_take, List.length_reverse, HRl.out]; omega)
              rcases HAo.out with ⟨q1, q2, q3⟩ | ⟨g, q1, q2, q3⟩
              · have hm0 : m = 0 := by have := HRl.out; rw [q2] at this; simpa using this.symm
                have hr0 : r = 0 := by omega
                rw [q1, q2, q3, hr0]
                exact ⟨by simp [ptc], .inl ⟨rfl, rfl⟩⟩
              · have ho := HOw.out
                rw [q1] at ho ⊢
                have := own_cut ho (m := r) (by omega)
                rw [hpt] at this
                exact this
            clear hHeld hkp hx hj HKb HCall HW3 HOw HR3 HD3 HP3 HE0 HX hA2 hmr k0 k1 k2 hw4 HBox b0
            have zc : (r : Int) ≤ (cA : Int) := by
              rcases HAo.out with ⟨q1, q2, q3⟩ | ⟨g, q1, q2, q3⟩
              · have := HRl.out; rw [q2] at this; have hm0 : m = 0 := by simpa using this.symm
                omega
              · omega
            have hra : (if cA = 0 then A else Option.map (fun x => x.add 0) A) = A := by
              rcases HAo.out with ⟨q1, q2, q3⟩ | ⟨g, q1, q2, q3⟩
              · rw [q1]; split <;> rfl
              · rw [q1]; split
                · rfl
                · rw [Option.map_some, Addr.add_lit]
            have hrm : r ≤ 2048 := by omega
            have hO := HOc.out
            have hbs := HBA.out.size
            have k0 := HPA.out.c0
            have k1 := HPA.out.c1
            have k2 := HPA.out.c2
            have HK := (show Hid (∀ W, (wA.alloc (.cells #[.int .i64 (pt L k).1, .int .i64 (pt L k).2.1, .int .i64 (pt L k).2.2] 87)).drew.grownBy W (Value.slice A r cA).ownBlock → W.cell? ⟨w3.heap.size, 0, none⟩ = some (.int .i64 (pt L k).1) ∧ W.cell? ⟨w3.heap.size, 1, none⟩ = some (.int .i64 (pt L k).2.1) ∧ W.cell? ⟨w3.heap.size, 2, none⟩ = some (.int .i64 (pt L k).2.2)) from fun W hW => by
              have hne : some w3.heap.size ≠ (Value.slice A r cA).ownBlock := by
                rcases HAo.out with ⟨q1, q2, q3⟩ | ⟨g, q1, q2, q3⟩
                · rw [q1]; simp [Value.ownBlock]
                · rw [q1]; intro e
                  have e2 : w3.heap.size = g := Option.some.inj e
                  omega
              have hp := (HPA.out.alloc (.cells #[.int .i64 (pt L k).1, .int .i64 (pt L k).2.1, .int .i64 (pt L k).2.2] 87))
              have hp2 : PB W w3.heap.size (pt L k).1 (pt L k).2.1 (pt L k).2.2 := hp.same ((hW.block _ hp.lt hne))
              exact ⟨hp2.c0, hp2.c1, hp2.c2⟩)
            go_wp2_with fail
            go_region_held3 (fun W => W.cell? ⟨w3.heap.size, 0, none⟩ = some (.int .i64 (pt L k).1) ∧ W.cell? ⟨w3.heap.size, 1, none⟩ = some (.int .i64 (pt L k).2.1) ∧ W.cell? ⟨w3.heap.size, 2, none⟩ = some (.int .i64 (pt L k).2.2)) (first | go_keep | exact HK.out _ hgrow) ((refine step_append_lies _ (by rfl) _ _ _ (by rfl) w.heap.size 87 i0 _ 3 24 Tryz.underlying88 hinf hz0 hz1 hz2 rfl (by omega) _ _ (ptc ((run L k).drop aa).reverse) (by rfl) ((hO.alloc _).drew) ⟨wA.heap.size, 0, none⟩ 1 1 [.int .i64 (pt L k).1, .int .i64 (pt L k).2.1, .int .i64 (pt L k).2.2] (by rfl) (by rfl) (World.news_of_block (cs := #[.int .i64 (pt L k).1, .int .i64 (pt L k).2.1, .int .i64 (pt L k).2.2]) (t := 87) (fr := (0, 0)) (heap_alloc_new wA _)) (by simp [Value.oneCell']) (by omega) (by unfold maxLen; omega) (by omega) (by simp; omega) (wA.heap.size + 1) (by simp) ?_; intro g cap w5 hown1 hgrow hat hltg))
            all_goals
              have hob : (Value.slice A r cA).ownBlock = (Value.slice A m cA).ownBlock := by cases A <;> rfl
              rw [hob] at hgrow hat
              have hfar := HS.out.far _ _ _ HJA.out
              have HW5 := (show Hid (AtT L J Bc w w5 (k + 1) X' (.slice (some ⟨g, 0, none⟩) (r + 1) cap)) from (by
                have hrn : (run L (k + 1)).length = r + 1 := by rw [HPt.out, List.length_cons, List.length_drop, HRl.out]; omega
                have hg0 : ∀ j, (Value.slice A m cA).ownBlock = some j → w.heap.size ≤ j := fun j e => (HXx.out j e).1
                refine ⟨?_, ?_, ?_, ?_, HEe.out⟩
                · rw [hrn, HPt.out, List.reverse_cons, ptc_append]
                  exact hown1
                · refine HS.out.kept (k + 1) X' wA w5 HJA.out (Nat.le_trans (by simp) hgrow.size) (fun b hb => ?_)
                  have hlt : b < wA.heap.size := by
                    rcases hb with hb | hb
                    · omega
                    · exact (hfar b hb).2
                  have h1 := hgrow.block b (by show b < (wA.alloc (.cells #[.int .i64 (pt L k).1, .int .i64 (pt L k).2.1, .int .i64 (pt L k).2.2] 87)).heap.size; rw [World.size_alloc]; omega) (by
                    intro e
                    have h3 := HXx.out b e.symm
                    rcases hb with hb | hb
                    · omega
                    · exact h3.2.2 hb)
                  exact h1.trans ((below_box wA _).block b hlt)
                · intro j e q
                  have e2 : g = j := Option.some.inj e
                  subst e2
                  rcases hat with hat | hat
                  · exact (HXx.out g hat).2.2 q
                  · have := (hfar g q).2; omega
                · exact ((HBA.out.alloc (Nat.le_trans HB.out hbs) (.cells #[.int .i64 (pt L k).1, .int .i64 (pt L k).2.1, .int .i64 (pt L k).2.2] 87)).drew).grown hgrow (Nat.le_trans HB.out (Nat.le_trans hbs (below_box wA (.cells #[.int .i64 (pt L k).1, .int .i64 (pt L k).2.1, .int .i64 (pt L k).2.2] 87)).size)) (fun j e => Nat.le_trans HB.out (hg0 j e))))
              rename_i hHeld
              clear hHeld hown1 hgrow hat hltg hO HK hfar hob k0 k1 k2 HPA HJA HXx HOc HBA HEe hra zc HAo
              go_wp2_with fail
              go_roundw
              case rel => exact ⟨k + 1, X', by omega, by go_num, HW5⟩
              case measure => simp [intOf]; omega
      · have HE := (show Hid (ck L = (k, alE n)) from (by
          show ck L = _
          have e : er L k = alE n := by rw [er_of HNn.out, if_pos hal]
          rw [ck_bad hJn hlt HW2.out.e (by rw [e]; exact hal), e]))
        have ta : (alE n != 0) = true := by rw [bne, beq_eq_false_iff_ne.2 hal]; rfl
        have HBb := (show Hid (Below Bc w w2) from HW2.out.b)
        have HJ := (show Hid (J k X w2) from HW2.out.j)
        clear HW2 HNn HS HB HP HPb HN HBox HAr
        have HH := (show Hid (¬ alE n = 0) from hal)
        clear hal
        generalize alE n = ea at *
        go_wp2_with fail
        go_ret2
        exact ⟨by rw [HE.out]; rfl, HBb.out, k, X, HJ.out, fun q => by rw [HE.out] at q; exact absurd q HH.out⟩
    · obtain rfl : k = L.length := by omega
      have HE := (show Hid (ck L = if (run L L.length).length = 1 then (0, 0) else (L.length, 42)) from ck_end HN.out HW.out.e)
      obtain ⟨A, cA, hv⟩ : ∃ A c, u6 = .slice A (run L L.length).length c := by
        rcases HW.out.o.2 with ⟨q1, q2⟩ | ⟨g, cap, cur, q1, q2, q3, q4, _⟩
        · exact ⟨none, 0, by rw [q1, q2]⟩
        · exact ⟨_, cap, q1⟩
      subst hv
      have HJ := (show Hid (J L.length X wr) from HW.out.j)
      have HBw := (show Hid (Below Bc w wr) from HW.out.b)
      clear HW HS HB HP HPb HG HN
      generalize (run L L.length).length = m at *
      by_cases h1 : m = 1
      · have t1 : ((m : Int) != 1) = false := by rw [bne, beq_iff_eq.2 (by omega)]; rfl
        have HE2 := (show Hid (ck L = (0, 0)) from by show ck L = _; rw [HE.out, if_pos h1])
        clear h1 HE
        go_wp2_with fail
        go_ret2
        exact ⟨by rw [HE2.out]; rfl, HBw.out, L.length, X, HJ.out, fun _ => rfl⟩
      · have t1 : ((m : Int) != 1) = true := by rw [bne, beq_eq_false_iff_ne.2 (by omega)]; rfl
        have HE2 := (show Hid (ck L = (L.length, 42)) from by show ck L = _; rw [HE.out, if_neg h1])
        clear h1 HE
        go_wp2_with fail
        go_ret2
        exact ⟨by rw [HE2.out]; rfl, HBw.out, L.length, X, HJ.out, fun _ => rfl⟩
end Go.Proofs.YtnpifgcgjgddoaaGreatDoor.T

namespace Go.Proofs.YtnpifgcgjgddoaaGreatDoor.T
open Go.RowKit
def decNd (a b:Nd):Decidable (a = b):=if h:a.op = b.op ∧ a.nn = b.nn ∧ a.tx.data = b.tx.data ∧ a.s0 = b.s0 ∧ a.s1 = b.s1 ∧ a.s2 = b.s2 ∧ a.s3 = b.s3 then isTrue (by
  obtain ⟨h1,h2,h3,h4,h5,h6,h7⟩ := h
  obtain ⟨a1,a2,⟨a3⟩,a4,a5,a6,a7⟩ := a
  obtain ⟨b1,b2,⟨b3⟩,b4,b5,b6,b7⟩ := b
  dsimp only at h1 h2 h3 h4 h5 h6 h7
  subst h1 h2 h3 h4 h5 h6 h7
  rfl) else isFalse (fun e => h (by rw [e];exact ⟨rfl,rfl,rfl,rfl,rfl,rfl,rfl⟩))
def decPt (L M:List Nd):Decidable (L = M):=@instDecidableEqList Nd decNd L M
def patB (L M:List Nd):Bool:=@decide (L = M) (decPt L M)
theorem patB_t {L M : List Nd} (hl : L.length = M.length) (h : ∀ j : Nat, j < L.length → L[j]? = M[j]?) : patB L M = true := by
  unfold patB
  refine @decide_eq_true _ (decPt _ _) (List.ext_getElem? fun j => ?_)
  by_cases q : j < L.length
  · exact h j q
  · rw [List.getElem?_eq_none (by omega), List.getElem?_eq_none (by omega)]
theorem patB_f {L M : List Nd} (j : Nat) (h : L[j]? ≠ M[j]?) : patB L M = false := by
  unfold patB
  exact @decide_eq_false _ (decPt _ _) (fun e => h (by rw [e]))
theorem patB_ne {L M : List Nd} (h : ¬ L.length = M.length) : patB L M = false := by
  unfold patB
  exact @decide_eq_false _ (decPt _ _) (fun e => h (by rw [e]))
theorem patB_refl (L : List Nd) : patB L L = true := by
  unfold patB
  exact @decide_eq_true _ (decPt _ _) rfl

set_option maxRecDepth 100000 in
set_option maxHeartbeats 8000000 in
theorem samePattern_any (A1 A2 : Option Addr) (c1 c2 : Nat) (L M : List Nd) (hl : L.length ≤ 140737488355328) (hm : M.length ≤ 140737488355328) (w : World) (h1 : RdN w A1 L) (h2 : RdN w A2 M) :
    Calls Tryz.prog 20 #[.slice A1 L.length c1, .slice A2 M.length c2] w fun e w' => e = .returned (.bool (patB L M)) ∧ Below w.heap.size w w' := by
  by_cases hne : L.length = M.length
  · have t0 : ((L.length : Int) != (M.length : Int)) = false := by rw [bne, beq_iff_eq.2 (by omega)]; rfl
    have HT := (show Hid ((∀ j : Nat, j < L.length → L[j]? = M[j]?) → patB L M = true) from fun h => patB_t hne h)
    have HF := (show Hid (∀ j : Nat, L[j]? ≠ M[j]? → patB L M = false) from fun j h => patB_f j h)
    have H1 := (show Hid _ from h1)
    have H2 := (show Hid _ from h2)
    have HG := (show Hid (∀ k, k < L.length → ∃ m n, L[k]? = some m ∧ M[k]? = some n ∧ L ≠ [] ∧ M ≠ []) from fun k hk => ⟨_, _, List.getElem?_eq_getElem hk, List.getElem?_eq_getElem (by omega), by rintro rfl; simp at hk, by rintro rfl; rw [hne] at hk; simp at hk⟩)
    have hle : (L.length : Int) = (M.length : Int) := by omega
    clear h1 h2 hne
    go_enter Tryz.func20, Tryz.ntmps20
    go_wp2_with fail
    go_loopw [5] (fun t wr => ∃ k : Nat, k ≤ L.length ∧ t = .int .i64 k ∧ Hid (∀ j : Nat, j < k → L[j]? = M[j]?) ∧ Hid (Below w.heap.size w wr)) (fun t _ => L.length - (intOf t).toNat)
    case atStart => exact ⟨0, by omega, by go_num, fun j q => by omega, Below.refl _ _⟩
    case round =>
      obtain ⟨k, hk, rfl, HI, HW⟩ := hrel
      by_cases hlt : k < L.length
      · obtain ⟨m, n, hm1, hn1, nl, nm⟩ := HG.out k hlt
        obtain ⟨g1, o1, rfl, l1, q1⟩ := H1.out nl
        obtain ⟨g2, o2, rfl, l2, q2⟩ := H2.out nm
        obtain ⟨a0, a1, a2, a3, a4, a5, a6⟩ := (q1.same (HW.out.block g1 l1)) k m hm1
        obtain ⟨d0, d1, d2, d3, d4, d5, d6⟩ := (q2.same (HW.out.block g2 l2)) k n hn1
        have z0 : (0 : Int) ≤ (k : Int) := by omega
        have z1 : (k : Int) < (L.length : Int) := by omega
        have z2 : (k : Int) < (M.length : Int) := by omega
        have HN := (show Hid (L[k]? = some m ∧ M[k]? = some n) from ⟨hm1, hn1⟩)
        clear HG H1 H2 q1 q2 nl nm hm1 hn1 hle
        have hneq := node_neq m n
        cases he : ndE m n with
        | true =>
          rw [he] at hneq
          have HI2 := (show Hid (∀ j : Nat, j < k + 1 → L[j]? = M[j]?) from fun j hj => by
            by_cases q : j < k
            · exact HI.out j q
            · obtain rfl : j = k := by omega
              rw [HN.out.1, HN.out.2, ndE_eq he])
          clear HT HF HI he HN
          go_wp2_with fail
          go_quiet (fail)
          have HW2 := (show Hid (Below w.heap.size w (wr.drewN nq)) from HW.out.trans (below_drewN (Below.refl _ _) _))
          generalize wr.drewN nq = w2 at *
          clear hneq a0 a1 a2 a3 a4 a5 a6 d0 d1 d2 d3 d4 d5 d6 HW
          go_wp2_with fail
          go_roundw
          case rel => exact ⟨k + 1, by omega, by go_num, HI2, HW2⟩
          case measure => simp [intOf]; omega
        | false =>
          rw [he] at hneq
          have HE := (show Hid (patB L M = false) from HF.out k (by
            rw [HN.out.1, HN.out.2]
            intro e
            have e2 : m = n := Option.some.inj e
            rw [ndE_iff.2 e2] at he
            cases he))
          clear HT HF HI he HN
          go_wp2_with fail
          go_quiet (fail)
          have HW2 := (show Hid (Below w.heap.size w (wr.drewN nq)) from HW.out.trans (below_drewN (Below.refl _ _) _))
          generalize wr.drewN nq = w2 at *
          clear hneq a0 a1 a2 a3 a4 a5 a6 d0 d1 d2 d3 d4 d5 d6 HW
          go_wp2_with fail
          go_ret
          exact ⟨by rw [HE.out]; rfl, HW2.out⟩
      · obtain rfl : k = L.length := by omega
        have HE := (show Hid (patB L M = true) from HT.out HI.out)
        clear HG H1 H2 HT HF HI
        go_wp2_with fail
        go_ret
        exact ⟨by rw [HE.out]; rfl, HW.out⟩
  · have t0 : ((L.length : Int) != (M.length : Int)) = true := by rw [bne, beq_eq_false_iff_ne.2 (by omega)]; rfl
    have HE := (show Hid (patB L M = false) from patB_ne hne)
    clear h1 h2 hne
    go_enter Tryz.func20, Tryz.ntmps20
    go_wp2_with fail
    go_ret
    exact ⟨by rw [HE.out]; rfl, Below.refl _ _⟩

theorem enters37 (args : Array Value) (w : World) : (callFunc 46 args).run Tryz.prog w = .ok (.enter 46 args) w := enters_of Tryz.func46 (by kernel_rfl) rfl args w
set_option maxRecDepth 100000 in
set_option maxHeartbeats 1000000 in
theorem check1_any (p : Pt) (v : Value) (w : World) : Calls Tryz.prog 46 #[ptG p, v] w fun e w' => (∃ u, e = .returned u) ∧ Below w.heap.size w w' := by
  have HB := (show Hid (Below w.heap.size w (w.alloc (.cells #[.int .i64 p.1, .int .i64 p.2.1, .int .i64 p.2.2] 87))) from below_box _ _)
  go_enter Tryz.func46, Tryz.ntmps46
  go_wp2_with fail
  go_end0
  exact ⟨⟨_, rfl⟩, HB.out⟩
theorem see37 (L : List Nd) (Bc B : Nat) : See L 46 #[] Bc B (fun _ X _ => ∀ b, ¬ X b) :=
  ⟨fun _ _ _ _ h _ _ => h, fun _ _ _ h b q => absurd q (h b), fun k X w A c h _ _ _ _ _ => (check1_any (pt L k) (.slice A (arN (opAt L k)) c) w).mono fun _e _w' ⟨he, hb⟩ => ⟨he, X, h, ⟨hb.os, hb.tape, hb.output, hb.size, fun b hlt _ => hb.block b hlt⟩, fun _b q => .inl q⟩⟩

set_option maxRecDepth 100000 in
set_option maxHeartbeats 1000000 in
theorem check_any (L : List Nd) (Ap : Option Addr) (cp : Nat) (hL : L.length ≤ 140737488355328) (hT : ∀ n ∈ L, n.tx.size ≤ 140737488355328) (w : World) (hp : RdN w Ap L) :
    Calls Tryz.prog 25 #[.slice Ap L.length cp] w fun e w' => e = .returned (.tuple #[.int .i64 (ck L).1, .int .i64 (ck L).2]) ∧ Below w.heap.size w w' := by
  have H : Hid (∀ _ : Unit, Calls Tryz.prog 45 #[.slice Ap L.length cp, .func (.func 46) #[] #[]] w fun e w' => e = .returned (.tuple #[.int .i64 (ck L).1, .int .i64 (ck L).2]) ∧ Below w.heap.size w w' ∧ ∃ (k : Nat) (X : Nat → Prop), (∀ b, ¬ X b) ∧ ((ck L).2 = 0 → k = L.length)) := (fun _ => through_any L 46 #[] (fun _ X _ => ∀ b, ¬ X b) Ap cp w.heap.size hL hT w (Nat.le_refl _) hp (fun hne a ha => by
    obtain ⟨g, o, e, lt, _⟩ := hp hne
    rw [e] at ha
    cases ha
    exact lt) enters37 (see37 L _ _) (fun _ => False) (fun _ q => q))
  clear hp hT hL
  go_enter Tryz.func25, Tryz.ntmps25
  go_wp2_with fail
  refine (H.out ()).mono ?_
  rintro e w2 ⟨rfl, b2, _⟩
  clear H
  have HB := (show Hid _ from b2)
  clear b2
  go_wp2_with fail
  go_ret2
  exact ⟨rfl, HB.out⟩
end Go.Proofs.YtnpifgcgjgddoaaGreatDoor.T

namespace Go.Proofs.YtnpifgcgjgddoaaGreatDoor.T
open Go.RowKit
def zN (op : Int) : Nd := ⟨op, 0, ⟨#[]⟩, 0, 0, 0, 0⟩
end Go.Proofs.YtnpifgcgjgddoaaGreatDoor.T

namespace Go.Proofs.YtnpifgcgjgddoaaGreatDoor.T
open Go.RowKit
theorem Tryz.info43 : (Tryz.prog.info? 51).map (fun i => (i.zero, i.size, i.bytes)) = some (some (.agg #[.int .i64 0, .int .i64 0, .string ⟨#[]⟩, .int .u64 0, .int .u64 0, .int .u64 0, .int .u64 0]), 7, 64) := by kernel_rfl
abbrev zA : Value := .agg #[.int .i64 0, .int .i64 0, .string ⟨#[]⟩, .int .u64 0, .int .u64 0, .int .u64 0, .int .u64 0]
theorem own_empty (w : World) : (w.alloc (.cells #[] 51)).ownsRow w.heap.size 51 7 (.slice (some ⟨w.heap.size, 0, none⟩) 0 0) 0 [] :=
  ⟨rfl, .inr ⟨w.heap.size, 0, #[], rfl, Nat.le_refl _, heap_alloc_new w _, Nat.le_refl _, Nat.zero_le _, rfl, rfl⟩⟩
theorem own_cap {W : World} {B e size n : Nat} {g cap : Nat} {xs : List Value} (h : W.ownsRow B e size (.slice (some ⟨g, 0, none⟩) n cap) n xs) : n ≤ cap := by
  rcases h.2 with ⟨q, _⟩ | ⟨g2, c2, cur, q, _, _, h3, _⟩
  · cases q
  · cases q; exact h3
theorem ndc_get (L : List Nd) (j : Nat) (n : Nd) (h : L[j]? = some n) : ∀ i, i < 7 → (ndc L)[j * 7 + i]? = (ndV n)[i]? := by
  induction L generalizing j with
  | nil => cases h
  | cons a L ih =>
    intro i hi
    have e : ndc (a :: L) = ndV a ++ ndc L := rfl
    rw [e]
    cases j with
    | zero =>
      cases h
      rw [Nat.zero_mul, Nat.zero_add, List.getElem?_append_left (by show i < 7; exact hi)]
    | succ j =>
      have h2 : L[j]? = some n := by simpa using h
      have e7 : (ndV a).length = 7 := rfl
      rw [List.getElem?_append_right (by rw [e7]; omega), e7, show (j + 1) * 7 + i - 7 = j * 7 + i from by omega]
      exact ih j h2 i hi
theorem nd_one (n : Nd) : ∀ u ∈ ndV n, u.oneCell' = true := fun u hu => by
  simp only [ndV, List.mem_cons, List.not_mem_nil, or_false] at hu
  rcases hu with rfl | rfl | rfl | rfl | rfl | rfl | rfl <;> rfl
theorem ndc_cell (L : List Nd) : ∀ u ∈ ndc L, u.oneCell' = true := fun u hu => by
  obtain ⟨n, _, hn⟩ := List.mem_flatMap.1 hu
  exact nd_one n u hn
theorem own_ndl {W : World} {B g n cap : Nat} {L : List Nd} {xs : List Value} (h : W.ownsRow B 51 7 (.slice (some ⟨g, 0, none⟩) n cap) n (ndc L ++ xs)) : NdL W g 0 L := fun j nd hj => by
  have hc := h.cells (g := g) rfl
  have hjl : j < L.length := by
    by_cases q : j < L.length
    · exact q
    · rw [List.getElem?_eq_none (by omega)] at hj; cases hj
  have key : ∀ i u, i < 7 → (ndV nd)[i]? = some u → W.cell? ⟨g, 0 + j * 7 + i, none⟩ = some u := fun i u hi hu => by
    have := hc (j * 7 + i) u (by rw [List.getElem?_append_left (by rw [ndc_len]; omega), ndc_get L j nd hj i hi]; exact hu)
    rw [Addr.add_lit] at this
    rw [Nat.add_assoc]
    exact this
  exact ⟨key 0 _ (by omega) rfl, key 1 _ (by omega) rfl, key 2 _ (by omega) rfl, key 3 _ (by omega) rfl, key 4 _ (by omega) rfl, key 5 _ (by omega) rfl, key 6 _ (by omega) rfl⟩
/-- What comes in. -/
def InP (W : World) (A : Option Addr) (c : Nat) (L : List Nd) : Prop := RdN W A L ∧ (A = none → c = 0 ∧ L = [])
theorem in_cells {W : World} {ad : Addr} {L : List Nd} (h : RdN W (some ad) L) : ∀ (j : Nat) u, (ndc L)[j]? = some u → W.cell? (ad.add j) = some u := fun j u hj => by
  have hlt : j < L.length * 7 := by
    by_cases q : j < L.length * 7
    · exact q
    · rw [List.getElem?_eq_none (by rw [ndc_len]; omega)] at hj; cases hj
  obtain ⟨g, o, e, _, hc⟩ := h (by rintro rfl; simp at hlt)
  cases e
  have hd : j = j / 7 * 7 + j % 7 := by omega
  obtain ⟨nd, hn⟩ : ∃ nd, L[j / 7]? = some nd := ⟨_, List.getElem?_eq_getElem (by omega)⟩
  rw [hd, ndc_get L _ _ hn _ (by omega)] at hj
  obtain ⟨c0, c1, c2, c3, c4, c5, c6⟩ := hc _ _ hn
  rw [Addr.add_lit]
  generalize j / 7 = a at *
  have h7 : j % 7 < 7 := by omega
  generalize j % 7 = b at *
  subst hd
  rw [← Nat.add_assoc]
  match b, h7, hj with
  | 0, _, hj => cases hj; exact c0
  | 1, _, hj => cases hj; exact c1
  | 2, _, hj => cases hj; exact c2
  | 3, _, hj => cases hj; exact c3
  | 4, _, hj => cases hj; exact c4
  | 5, _, hj => cases hj; exact c5
  | 6, _, hj => cases hj; exact c6

/-- What was lent. -/
def Lent (w w' : World) (L : List Nd) (e : Ending) : Prop := ∃ g cap, e = .returned (.slice (some ⟨g, 0, none⟩) L.length cap) ∧ w'.ownsRow w.heap.size 51 7 (.slice (some ⟨g, 0, none⟩) (L.length + 1) cap) (L.length + 1) (ndc L ++ ndV (zN (-77)))
set_option maxRecDepth 100000 in
set_option maxHeartbeats 4000000 in
theorem lend_some (ad : Addr) (c : Nat) (L : List Nd) (w : World) (hl : L.length * 64 ≤ 140737488351232) (hc : ∀ (j : Nat) u, (ndc L)[j]? = some u → w.cell? (ad.add j) = some u) :
    Calls Tryz.prog 8 #[.slice (some ad) L.length c] w fun e w' => Lent w w' L e ∧ Below w.heap.size w w' := by
  obtain ⟨i0, hinf, hz0, hz1, hz2⟩ := info_parts Tryz.info43
  have hO := own_empty w
  have HB := (show Hid (Below w.heap.size w (w.alloc (.cells #[] 51))) from below_box _ _)
  have HC := (show Hid (∀ (j : Nat) u, (ndc L)[j]? = some u → (w.alloc (.cells #[] 51)).cell? (ad.add j) = some u) from fun j u hj => by
    have h1 := hc j u hj
    have h2 := World.block_lt_of_cell? w _ h1
    exact ((below_box w (.cells #[] 51)).cell (p := ad.add j) h2).trans h1)
  have HI := (show Hid ((ndc L).length = L.length * 7 ∧ ∀ u ∈ ndc L, u.oneCell' = true) from ⟨ndc_len L, ndc_cell L⟩)
  clear hc
  go_enter Tryz.func8, Tryz.ntmps8
  go_wp2_with (at_builtin; refine wpList_append_own _ rfl _ _ 23 rfl w.heap.size 51 i0 zA 7 64 Tryz.underlying23 hinf hz0 hz1 hz2 rfl (by decide) _ _ _ rfl hO ad L.length c (ndc L) rfl HI.out.1 HC.out HI.out.2 ?c3 ?c4 ?c5 ?_)
  case c3 => unfold maxLen; omega
  case c4 => omega
  case c5 => simp
  intro v1 w1 hown hgrow _
  have HB1 := (show Hid (Below w.heap.size w w1) from HB.out.grown hgrow (by simp) (fun k e => (hO.lt k e).1))
  have hsz := HB1.out.size
  clear hgrow hO HB
  go_wp2_with (at_builtin; refine wpList_append_lies _ rfl _ _ 23 rfl w.heap.size 51 i0 zA 7 64 Tryz.underlying23 hinf hz0 hz1 hz2 rfl (by decide) _ _ _ rfl (hown.alloc _) ⟨w1.heap.size, 0, none⟩ 1 1 (ndV (zN (-77))) rfl rfl ?c1 (nd_one _) (by decide) ?c3 ?c4 ?c5 (w1.heap.size + 1) (by simp) ?_)
  case c1 => exact World.news_of_block (cs := #[.int .i64 (-77), .int .i64 0, .string ⟨#[]⟩, .int .u64 0, .int .u64 0, .int .u64 0, .int .u64 0]) (t := 51) (fr := (0, 0)) (heap_alloc_new w1 _)
  case c3 => unfold maxLen; omega
  case c4 => omega
  case c5 => simp; omega
  intro g cap w2 hown2 hgrow2 hat hlt
  have HB2 := (show Hid (Below w.heap.size w w2) from (HB1.out.alloc hsz _).grown hgrow2 (by simp; omega) (fun k e => (hown.lt k e).1))
  have HO2 := (show Hid (w2.ownsRow w.heap.size 51 7 (.slice (some ⟨g, 0, none⟩) (L.length + 1) cap) (L.length + 1) (ndc L ++ ndV (zN (-77)))) from hown2)
  have hcap := own_cap hown2
  have z0 : (0 : Int) ≤ (L.length : Int) := by omega
  have z1 : (L.length : Int) ≤ (cap : Int) := by omega
  clear hown hown2 hgrow2 HB1 hat hlt HC HI
  go_wp2_with fail
  go_ret
  exact ⟨⟨g, cap, rfl, HO2.out⟩, HB2.out⟩

set_option maxRecDepth 100000 in
set_option maxHeartbeats 4000000 in
theorem lend_nil (w : World) : Calls Tryz.prog 8 #[.slice none 0 0] w fun e w' => Lent w w' [] e ∧ Below w.heap.size w w' := by
  obtain ⟨i0, hinf, hz0, hz1, hz2⟩ := info_parts Tryz.info43
  have hO := own_empty w
  have HB := (show Hid (Below w.heap.size w (w.alloc (.cells #[] 51))) from below_box _ _)
  go_enter Tryz.func8, Tryz.ntmps8
  go_wp2_with (at_builtin; first | refine wpList_append_own_none rfl _ _ 23 rfl w.heap.size 51 i0 7 Tryz.underlying23 hinf _ _ _ rfl hO rfl ?_ | refine wpList_append_lies _ rfl _ _ 23 rfl w.heap.size 51 i0 zA 7 64 Tryz.underlying23 hinf hz0 hz1 hz2 rfl (by decide) _ _ _ rfl (hO.alloc _) ⟨w.heap.size + 1, 0, none⟩ 1 1 (ndV (zN (-77))) rfl rfl ?c1 (nd_one _) (by decide) ?c3 ?c4 ?c5 (w.heap.size + 1 + 1) (by simp) ?_)
  case c1 =>
    have h := heap_alloc_new (w.alloc (.cells #[] 51)) (.cells #[.int .i64 (-77), .int .i64 0, .string ⟨#[]⟩, .int .u64 0, .int .u64 0, .int .u64 0, .int .u64 0] 51)
    rw [World.size_alloc] at h
    exact World.news_of_block (cs := #[.int .i64 (-77), .int .i64 0, .string ⟨#[]⟩, .int .u64 0, .int .u64 0, .int .u64 0, .int .u64 0]) (t := 51) (fr := (0, 0)) h
  case c3 => unfold maxLen; omega
  case c4 => omega
  case c5 => simp; omega
  intro g cap w2 hown2 hgrow2 hat hlt
  have HB2 := (show Hid (Below w.heap.size w w2) from (HB.out.alloc (by simp) _).grown hgrow2 (by simp; omega) (fun k e => (hO.lt k e).1))
  have HO2 := (show Hid (w2.ownsRow w.heap.size 51 7 (.slice (some ⟨g, 0, none⟩) (0 + 1) cap) (0 + 1) (ndc [] ++ ndV (zN (-77)))) from hown2)
  have z1 : (0 : Int) ≤ (cap : Int) := by omega
  clear hown2 hgrow2 HB hat hlt hO
  go_wp2_with fail
  go_ret
  exact ⟨⟨g, cap, rfl, HO2.out⟩, HB2.out⟩
theorem lend_any (A : Option Addr) (c : Nat) (L : List Nd) (w : World) (hl : L.length * 64 ≤ 140737488351232) (h : InP w A c L) : Calls Tryz.prog 8 #[.slice A L.length c] w fun e w' => Lent w w' L e ∧ Below w.heap.size w w' := by
  cases A with
  | none =>
    obtain ⟨rfl, rfl⟩ := h.2 rfl
    exact lend_nil w
  | some ad => exact lend_some ad c L w hl (in_cells h.1)
/-- A row that was lent, and is as it was. -/
def LentR (W : World) (B g cap : Nat) (L : List Nd) : Prop := W.ownsRow B 51 7 (.slice (some ⟨g, 0, none⟩) (L.length + 1) cap) (L.length + 1) (ndc L ++ ndV (zN (-77)))
theorem LentR.below {W W' : World} {B g cap : Nat} {L : List Nd} (h : LentR W B g cap L) (hb : Below W.heap.size W W') : LentR W' B g cap L := own_below h hb
theorem LentR.rd {W : World} {B g cap : Nat} {L : List Nd} (h : LentR W B g cap L) : RdN W (some ⟨g, 0, none⟩) L := fun _ => ⟨g, 0, rfl, (h.lt g rfl).2, own_ndl h⟩
theorem LentR.last {W : World} {B g cap : Nat} {L : List Nd} (h : LentR W B g cap L) : NB W g (L.length * 7) (zN (-77)) := by
  have hc := h.cells (g := g) rfl
  have key : ∀ i u, i < 7 → (ndV (zN (-77)))[i]? = some u → W.cell? ⟨g, L.length * 7 + i, none⟩ = some u := fun i u hi hu => by
    have := hc (L.length * 7 + i) u (by rw [List.getElem?_append_right (by rw [ndc_len]; omega), ndc_len, show L.length * 7 + i - L.length * 7 = i from by omega]; exact hu)
    rw [Addr.add_lit, Nat.zero_add] at this
    exact this
  exact ⟨key 0 _ (by omega) rfl, key 1 _ (by omega) rfl, key 2 _ (by omega) rfl, key 3 _ (by omega) rfl, key 4 _ (by omega) rfl, key 5 _ (by omega) rfl, key 6 _ (by omega) rfl⟩

set_option maxRecDepth 100000 in
set_option maxHeartbeats 4000000 in
theorem kept_any (A : Option Addr) (c g cap B : Nat) (L : List Nd) (hl : L.length * 64 ≤ 140737488351232) (w : World) (h : RdN w A L) (ho : LentR w B g cap L) :
    Calls Tryz.prog 13 #[.slice (some ⟨g, 0, none⟩) L.length cap, .slice A L.length c] w fun e w' => e = .returned (.bool true) ∧ Below w.heap.size w w' := by
  have HS : Hid (∀ _ : Unit, Calls Tryz.prog 20 #[.slice (some ⟨g, 0, none⟩) L.length cap, .slice A L.length c] w fun e w' => e = .returned (.bool true) ∧ Below w.heap.size w w') := fun _ => by
    have hh := samePattern_any (some ⟨g, 0, none⟩) A cap c L L (by omega) (by omega) w ho.rd h
    rw [patB_refl] at hh
    exact hh
  have hcap := own_cap ho
  have HO := (show Hid (∀ w', Below w.heap.size w w' → NB w' g (L.length * 7) (zN (-77))) from fun w' hb => (ho.below hb).last)
  clear ho h
  have z0 : (0 : Int) ≤ (L.length : Int) := by omega
  have z1 : (L.length : Int) + 1 ≤ (cap : Int) := by omega
  have z2 : (L.length : Int) < (L.length : Int) + 1 := by omega
  have hq := node_eql (zN (-77)) (zN (-77))
  rw [ndE_refl] at hq
  generalize L.length = n at *
  go_enter Tryz.func13, Tryz.ntmps13
  go_wp2_with fail
  refine (HS.out ()).mono ?_
  rintro e w1 ⟨rfl, hb⟩
  obtain ⟨c0, c1, c2, c3, c4, c5, c6⟩ := HO.out w1 hb
  have HB := (show Hid _ from hb)
  clear hb HS HO
  unfold zN at c0 c1 c2 c3 c4 c5 c6 hq
  dsimp only at c0 c1 c2 c3 c4 c5 c6
  go_wp2_with fail
  go_ret
  exact ⟨rfl, HB.out⟩
end Go.Proofs.YtnpifgcgjgddoaaGreatDoor.T

namespace Go.Proofs.YtnpifgcgjgddoaaGreatDoor.Q
open Go.RowKit
/-- What a reading answers: a value, or a place and an error's number. -/
abbrev Rd (α : Type) := Sum α (Int × Int)

/-- The byte of a text at a place, or -1. -/
def chr (s : ByteArray) (i : Nat) : Int := if h : i < s.size then (s[i].toNat : Int) else -1
theorem chr_in {s : ByteArray} {i : Nat} (h : i < s.size) : chr s i = (s[i].toNat : Int) := by unfold chr; rw [dif_pos h]
theorem chr_out {s : ByteArray} {i : Nat} (h : ¬ i < s.size) : chr s i = -1 := by unfold chr; rw [dif_neg h]
theorem chr_le (s : ByteArray) (i : Nat) : -1 ≤ chr s i ∧ chr s i ≤ 255 := by
  unfold chr
  split
  · have := s[i].toNat_lt; omega
  · omega
theorem chr_lt {s : ByteArray} {i : Nat} (h : 0 ≤ chr s i) : i < s.size := by
  by_cases hi : i < s.size
  · exact hi
  · rw [chr_out hi] at h; omega
/-- What a digit is worth, or -1. -/
def hexV (c : Int) : Int := if 48 ≤ c ∧ c ≤ 57 then c - 48 else if 97 ≤ c ∧ c ≤ 102 then c - 87 else -1
theorem hexV_bd (c : Int) : -1 ≤ hexV c ∧ hexV c ≤ 15 := by unfold hexV; split <;> (try split) <;> omega
theorem hexV_lo {c : Int} (h : 0 ≤ hexV c) : 0 ≤ c := by
  unfold hexV at h; split at h
  · omega
  · split at h <;> omega
/-- A byte told by its number, behind a backslash. -/
def rdHex (s : ByteArray) (i : Nat) : Option (Int × Nat) :=
  if 0 ≤ hexV (chr s (i + 2)) ∧ 0 ≤ hexV (chr s (i + 3)) then some (16 * hexV (chr s (i + 2)) + hexV (chr s (i + 3)), i + 4) else none
def rdEsc (s : ByteArray) (i : Nat) : Option (Int × Nat) :=
  if chr s (i + 1) = 110 then some (10, i + 2) else if chr s (i + 1) = 114 then some (13, i + 2) else if chr s (i + 1) = 116 then some (9, i + 2) else
  if chr s (i + 1) = 92 ∨ chr s (i + 1) = 39 ∨ chr s (i + 1) = 34 then some (chr s (i + 1), i + 2) else
  if chr s (i + 1) = 120 then rdHex s i else none
/-- One byte of a literal, or an error's number. -/
def rdByte (s : ByteArray) (i : Nat) : Rd (Int × Nat) :=
  if chr s i = 92 then (match rdEsc s i with | none => .inr (i, 21) | some p => .inl p) else
  if chr s i < 32 ∨ chr s i = 127 then .inr (i, 22) else .inl (chr s i, i + 1)
/-- What stands behind a literal's first mark, its second one too. -/
def rdBody (s : ByteArray) (m : Int) : Nat → Nat → List Int → Rd (List Int × Nat)
  | 0, i, _ => .inr (i, 22)
  | f + 1, i, l => if chr s i = m then .inl (l, i + 1) else if s.size ≤ i then .inr (s.size, 22) else
    match rdByte s i with
    | .inr (a, c) => .inr (a, c)
    | .inl (b, n) => rdBody s m f n (l ++ [b])
/-- A literal that begins at a place. -/
def rdCut (s : ByteArray) (i : Int) : Rd (List Int × Nat) :=
  if 65536 < s.size then .inr (0, 2) else
  if i < 0 ∨ (s.size : Int) < i then .inr (0, 1) else
  if chr s i.toNat = 39 ∨ chr s i.toNat = 34 then rdBody s (chr s i.toNat) (s.size + 1) (i.toNat + 1) [] else .inr (i, 20)
theorem rdHex_bd {s : ByteArray} {i : Nat} {b : Int} {n : Nat} (h : rdHex s i = some (b, n)) : 0 ≤ b ∧ b ≤ 255 ∧ i < n ∧ n ≤ s.size := by
  unfold rdHex at h
  split at h
  · next q =>
    cases h
    have h1 := hexV_bd (chr s (i + 2)); have h2 := hexV_bd (chr s (i + 3))
    have h3 := chr_lt (hexV_lo q.2)
    exact ⟨by omega, by omega, by omega, by omega⟩
  · cases h
theorem rdEsc_bd {s : ByteArray} {i : Nat} {b : Int} {n : Nat} (h : rdEsc s i = some (b, n)) : 0 ≤ b ∧ b ≤ 255 ∧ i < n ∧ n ≤ s.size := by
  unfold rdEsc at h
  have hb := chr_le s (i + 1)
  split at h
  · next q => cases h; have := chr_lt (s := s) (i := i + 1) (by omega); omega
  · split at h
    · next q => cases h; have := chr_lt (s := s) (i := i + 1) (by omega); omega
    · split at h
      · next q => cases h; have := chr_lt (s := s) (i := i + 1) (by omega); omega
      · split at h
        · next q => cases h; have := chr_lt (s := s) (i := i + 1) (by omega); omega
        · split at h
          · exact rdHex_bd h
          · cases h
theorem rdByte_bd {s : ByteArray} {i : Nat} {b : Int} {n : Nat} (h : rdByte s i = .inl (b, n)) : 0 ≤ b ∧ b ≤ 255 ∧ i < n ∧ n ≤ s.size := by
  unfold rdByte at h
  split at h
  · split at h
    · cases h
    · next p hp => cases h; exact rdEsc_bd hp
  · split at h
    · cases h
    · next q => cases h; have := chr_le s i; have := chr_lt (s := s) (i := i) (by omega); omega
theorem rdBody_end {s : ByteArray} {m : Int} {f i : Nat} {l : List Int} (h : chr s i = m) : rdBody s m (f + 1) i l = .inl (l, i + 1) := by
  unfold rdBody; rw [if_pos h]
theorem rdBody_step {s : ByteArray} {m : Int} {f i : Nat} {l : List Int} {b : Int} {n : Nat} (h : chr s i ≠ m) (hi : i < s.size) (hb : rdByte s i = .inl (b, n)) : rdBody s m (f + 1) i l = rdBody s m f n (l ++ [b]) := by
  rw [rdBody, if_neg h, if_neg (by omega), hb]
/-- A list of numbers as a text. -/
def asText (l : List Int) : ByteArray := l.foldl (fun r n => r.push (UInt8.ofNat n.toNat)) ByteArray.empty
theorem asText_data (l : List Int) : (asText l).data.toList = l.map (fun n => UInt8.ofNat n.toNat) := by
  have key : ∀ (l : List Int) (s : ByteArray), (l.foldl (fun r n => r.push (UInt8.ofNat n.toNat)) s).data.toList = s.data.toList ++ l.map (fun n => UInt8.ofNat n.toNat) := by
    intro l
    induction l with
    | nil => intro s; simp
    | cons b l ih => intro s; rw [List.foldl_cons, ih]; simp [ByteArray.push]
  have := key l ByteArray.empty
  simpa [asText] using this
end Go.Proofs.YtnpifgcgjgddoaaGreatDoor.Q
