/- DERIVED. Plain mathematics and walks, laid together (10). -/
import Derived.Deep.LoopGhost
import Derived.Test.YtppggnmlbcdegabGreatRo09
namespace Go.Proofs.YtppggnmlbcdegabGreat.N
open Go.RowKit Go.Maps
open Go.Proofs.YtppggnmlbcdegabGreat.T

open U (nI own_get own_slice wpList_app1 below_grown TT Out info_split)
theorem lkR_zero {gs : GL} {r : Int} (h : lkR gs r = 0) : RtG gs ∧ 0 ≤ r ∧ r < (gs.length : Int) := by
  unfold lkR at h
  by_cases h1 : (ckG gs).2 ≠ 0
  · rw [if_pos h1] at h; exact absurd h h1
  · rw [if_neg h1] at h
    by_cases h2 : r < 0 ∨ (gs.length : Int) ≤ r
    · rw [if_pos h2] at h; cases h
    · exact ⟨ckG_ok.1 (Classical.not_not.1 h1), by omega, by omega⟩
/-- What netWith answers. -/
def NwV (w w' : World) (gs : GL) (k : Int) (e : Ending) : Prop := ∃ v, e = .returned (.tuple #[v, .int .i64 k]) ∧ (k ≠ 0 → v = .slice none 0 0) ∧ (k = 0 → ∃ xs, TT w' w.heap.size 36 3 v (ntM gs) xs)
set_option maxRecDepth 100000 in
set_option maxHeartbeats 4000000 in
theorem netWith_any (gs : GL) (A : Option Addr) (c : Nat) (r : Int) (w : World) (hp : GI w A gs) :
    Calls Tryz.prog 30 #[.agg #[.slice A gs.length c], .int .i64 r] w fun e w' => NwV w w' gs (lkR gs r) e ∧ Below w.heap.size w w' := by
  obtain ⟨w1, hw1⟩ : ∃ w1, w1 = (w.alloc (.cells #[.slice A gs.length c] 24)) := ⟨_, rfl⟩
  have HB1 : Hid (Below w.heap.size w w1) := by show Below _ _ _; rw [hw1]; exact below_box _ _
  have HG1 : Hid (GX w1 w.heap.size (.slice A gs.length c)) := by show GX _ _ _; rw [hw1]; exact GX.mk (heap_alloc_new w _)
  have HN := (show Hid (∀ _ : Unit, Calls Tryz.prog 21 #[.agg #[.slice A gs.length c], .int .i64 r] w1 fun e w' => (∃ mv, e = .returned (.tuple #[mv, .int .i64 (lkR gs r)]) ∧ (lkR gs r = 0 → ∃ B, w1.heap.size ≤ B ∧ mv = .map (some B) ∧ NmM w' B gs)) ∧ Below w1.heap.size w1 w') from fun _ => numbW_any gs A c r w1 (hp.later HB1.out))
  have HP := (show Hid (GI w A gs) from hp)
  clear hp
  go_enter Tryz.func30, Tryz.ntmps30
  go_wp2_with fail
  rw [← hw1]
  refine (HN.out ()).mono ?_
  rintro e w3 ⟨⟨mv, rfl, hm⟩, b3⟩
  have HB := (show Hid (Below w.heap.size w w3) from HB1.out.trans (b3.mono HB1.out.size))
  have q1 := (HG1.out.below b3).cl
  clear HN b3 hw1 HB1 HG1
  by_cases hz : lkR gs r = 0
  · obtain ⟨B, _, rfl, hM⟩ := hm hz
    have tz : (lkR gs r != 0) = false := by rw [hz]; rfl
    have HC := (show Hid (∀ _ : Unit, Calls Tryz.prog 50 #[.map (some B), .agg #[.slice A gs.length c]] w3 fun e w' => (∃ v xs, e = .returned v ∧ TT w' w3.heap.size 36 3 v (ntM gs) xs) ∧ Below w3.heap.size w3 w') from fun _ => netBy_any (lkR_zero hz).1 A c B w3 (HP.out.later HB.out) hM)
    have HZ := (show Hid (lkR gs r = 0) from hz)
    clear hM hm hz HP
    generalize hcd : lkR gs r = cd at *
    have HCD := (show Hid (lkR gs r = cd) from hcd)
    clear hcd
    go_wp2_with fail
    refine (HC.out ()).mono ?_
    rintro e w4 ⟨⟨v, xs, rfl, hT⟩, b4⟩
    have HB4 := (show Hid (Below w.heap.size w w4) from HB.out.trans (b4.mono HB.out.size))
    have HT := (show Hid (TT w4 w.heap.size 36 3 v (ntM gs) xs) from hT.base HB.out.size)
    clear HC b4 hT HB
    go_wp2_with fail
    refine bodyPost_ret (v := .tuple #[v, .int .i64 0]) (by simp [results, Tryz.results30, go_sem]) rfl ⟨⟨v, by rw [HCD.out, HZ.out], fun q => absurd (HCD.out.trans HZ.out) q, fun _ => ⟨xs, HT.out⟩⟩, HB4.out⟩
  · have tz : (lkR gs r != 0) = true := by rw [bne, beq_eq_false_iff_ne.2 hz]; rfl
    have HZ := (show Hid (lkR gs r ≠ 0) from hz)
    clear hm hz HP
    generalize hcd : lkR gs r = cd at *
    have HCD := (show Hid (lkR gs r = cd) from hcd)
    clear hcd
    go_wp2_with fail
    refine bodyPost_ret (v := .tuple #[.slice none 0 0, .int .i64 cd]) (by simp [results, Tryz.results30, go_sem]) rfl ⟨⟨_, by rw [HCD.out], fun _ => rfl, fun q => absurd (HCD.out.symm.trans q) HZ.out⟩, HB.out⟩
set_option maxRecDepth 100000 in
set_option maxHeartbeats 4000000 in
theorem netOf_any (gs : GL) (A : Option Addr) (c : Nat) (w : World) (hp : GI w A gs) :
    Calls Tryz.prog 27 #[.agg #[.slice A gs.length c]] w fun e w' => NwV w w' gs (ckG gs).2 e ∧ Below w.heap.size w w' := by
  obtain ⟨w1, hw1⟩ : ∃ w1, w1 = (w.alloc (.cells #[.slice A gs.length c] 24)) := ⟨_, rfl⟩
  have HB1 : Hid (Below w.heap.size w w1) := by show Below _ _ _; rw [hw1]; exact below_box _ _
  have HG1 : Hid (GX w1 w.heap.size (.slice A gs.length c)) := by show GX _ _ _; rw [hw1]; exact GX.mk (heap_alloc_new w _)
  have HN := (show Hid (∀ _ : Unit, Calls Tryz.prog 46 #[.agg #[.slice A gs.length c]] w1 fun e w' => NuV w1 w' gs e ∧ Below w1.heap.size w1 w') from fun _ => numb_any gs A c hp.l hp.t w1 (hp.d.later HB1.out))
  have HP := (show Hid (GI w A gs) from hp)
  clear hp
  go_enter Tryz.func27, Tryz.ntmps27
  go_wp2_with fail
  rw [← hw1]
  refine (HN.out ()).mono ?_
  rintro e w3 ⟨hv, b3⟩
  obtain ⟨mv, rfl, hm⟩ := hv.form
  obtain ⟨w4, hw4⟩ : ∃ w4, w4 = w3.alloc (.cells #[.int .i64 ((ckG gs).1.1 : Int), .int .i64 ((ckG gs).1.2 : Int)] 61) := ⟨_, rfl⟩
  have HE4 := (show Hid (w3.alloc (.cells #[.int .i64 ((ckG gs).1.1 : Int), .int .i64 ((ckG gs).1.2 : Int)] 61) = w4) from hw4.symm)
  have HB := (show Hid (Below w.heap.size w w4) from by show Below _ _ _; rw [hw4]; exact (HB1.out.trans (b3.mono HB1.out.size)).alloc (HB1.out.trans (b3.mono HB1.out.size)).size _)
  have q1 : w4.cell? ⟨w.heap.size, 0, none⟩ = some (.slice A gs.length c) := by rw [hw4]; exact ((HG1.out.below b3).below (below_box _ _)).cl
  clear HN b3 hw1 HB1 HG1 hv
  by_cases hz : (ckG gs).2 = 0
  · obtain ⟨B, _, rfl, hM⟩ := hm hz
    have tz : ((ckG gs).2 != 0) = false := by rw [hz]; rfl
    have HC := (show Hid (∀ _ : Unit, Calls Tryz.prog 50 #[.map (some B), .agg #[.slice A gs.length c]] w4 fun e w' => (∃ v xs, e = .returned v ∧ TT w' w4.heap.size 36 3 v (ntM gs) xs) ∧ Below w4.heap.size w4 w') from fun _ => netBy_any (ckG_ok.1 hz) A c B w4 (HP.out.later HB.out) (by rw [hw4]; exact hM.later (below_box _ _)))
    have HZ := (show Hid ((ckG gs).2 = 0) from hz)
    clear hM hm hz HP hw4
    generalize hcd : (ckG gs).2 = cd at *
    have HCD := (show Hid ((ckG gs).2 = cd) from hcd)
    clear hcd
    go_wp2_with (rw [HE4.out])
    refine (HC.out ()).mono ?_
    rintro e w5 ⟨⟨v, xs, rfl, hT⟩, b5⟩
    have HB4 := (show Hid (Below w.heap.size w w5) from HB.out.trans (b5.mono HB.out.size))
    have HT := (show Hid (TT w5 w.heap.size 36 3 v (ntM gs) xs) from hT.base HB.out.size)
    clear HC b5 hT HB
    go_wp2_with fail
    refine bodyPost_ret (v := .tuple #[v, .int .i64 0]) (by simp [results, Tryz.results27, go_sem]) rfl ⟨⟨v, by rw [HCD.out, HZ.out], fun q => absurd (HCD.out.trans HZ.out) q, fun _ => ⟨xs, HT.out⟩⟩, HB4.out⟩
  · have tz : ((ckG gs).2 != 0) = true := by rw [bne, beq_eq_false_iff_ne.2 hz]; rfl
    have HZ := (show Hid ((ckG gs).2 ≠ 0) from hz)
    clear hm hz HP hw4
    generalize hcd : (ckG gs).2 = cd at *
    have HCD := (show Hid ((ckG gs).2 = cd) from hcd)
    clear hcd
    go_wp2_with (rw [HE4.out])
    refine bodyPost_ret (v := .tuple #[.slice none 0 0, .int .i64 cd]) (by simp [results, Tryz.results27, go_sem]) rfl ⟨⟨_, by rw [HCD.out], fun _ => rfl, fun q => absurd (HCD.out.symm.trans q) HZ.out⟩, HB.out⟩
/-- What Calls answers. -/
def clR (gs : GL) (r : Int) : List Nat := if lkR gs r = 0 then cL gs r.toNat else []
set_option maxRecDepth 100000 in
set_option maxHeartbeats 4000000 in
theorem callsP_any (gs : GL) (A : Option Addr) (c : Nat) (r : Int) (w : World) (hp : GI w A gs) :
    Calls Tryz.prog 40 #[.agg #[.slice A gs.length c], .int .i64 r] w fun e w' => (∃ v, e = .returned (.tuple #[v, .int .i64 (lkR gs r)]) ∧ w'.ownsRow w.heap.size 3 1 v (clR gs r).length ((clR gs r).map nI)) ∧ Below w.heap.size w w' := by
  obtain ⟨w1, hw1⟩ : ∃ w1, w1 = (w.alloc (.cells #[.slice A gs.length c] 24)) := ⟨_, rfl⟩
  have HB1 : Hid (Below w.heap.size w w1) := by show Below _ _ _; rw [hw1]; exact below_box _ _
  have HN := (show Hid (∀ _ : Unit, Calls Tryz.prog 30 #[.agg #[.slice A gs.length c], .int .i64 r] w1 fun e w' => NwV w1 w' gs (lkR gs r) e ∧ Below w1.heap.size w1 w') from fun _ => netWith_any gs A c r w1 (hp.later HB1.out))
  clear hp
  go_enter Tryz.func40, Tryz.ntmps40
  go_wp2_with fail
  rw [← hw1]
  refine (HN.out ()).mono ?_
  rintro e w3 ⟨⟨v, rfl, h1, h2⟩, b3⟩
  have HB := (show Hid (Below w.heap.size w w3) from HB1.out.trans (b3.mono HB1.out.size))
  by_cases hz : lkR gs r = 0
  · obtain ⟨xs, hT⟩ := h2 hz
    have tz : (lkR gs r != 0) = false := by rw [hz]; rfl
    obtain ⟨_, r0, r1⟩ := lkR_zero hz
    obtain ⟨i, rfl⟩ : ∃ i : Nat, r = (i : Int) := ⟨r.toNat, by omega⟩
    have hi : i < gs.length := by omega
    have HR := (show Hid (clR gs i = cL gs i) from by show clR gs i = _; unfold clR; rw [if_pos hz]; rfl)
    obtain ⟨x, row, hx, hrow, hox⟩ := hT.at' (i := i) (by rw [ntM_len]; exact hi)
    rw [ntM_get hi] at hrow
    cases hrow
    have hlx : xs.length = gs.length := hT.len.trans (ntM_len gs)
    obtain ⟨g0, cp, rfl, _, _, x0, _⟩ := own_get hT.o hx
    rw [hlx]
    have HO := (show Hid (w3.ownsRow w.heap.size 3 1 x (clR gs i).length ((clR gs i).map nI)) from by
      show World.ownsRow _ _ _ _ _ _ _
      rw [HR.out]
      have h := U.own_base hox HB1.out.size
      rw [List.length_map] at h
      exact h)
    have HZ := (show Hid (lkR gs i = 0) from hz)
    clear h1 h2 HN b3 hw1 HB1 hT hz hx hox hlx HR
    generalize hcd : lkR gs i = cd at *
    have HCD := (show Hid (lkR gs i = cd) from hcd)
    clear hcd
    go_wp2_with fail
    refine bodyPost_ret (v := .tuple #[x, .int .i64 0]) (by simp [results, Tryz.results40, go_sem]) rfl ⟨⟨x, by rw [HCD.out, HZ.out], HO.out⟩, HB.out⟩
  · obtain rfl := h1 hz
    have tz : (lkR gs r != 0) = true := by rw [bne, beq_eq_false_iff_ne.2 hz]; rfl
    have HR := (show Hid (clR gs r = []) from by show clR gs r = _; unfold clR; rw [if_neg hz])
    clear h1 h2 HN b3 hw1 HB1 hz
    generalize hcd : lkR gs r = cd at *
    have HCD := (show Hid (lkR gs r = cd) from hcd)
    clear hcd
    go_wp2_with fail
    refine bodyPost_ret (v := .tuple #[.slice none 0 0, .int .i64 cd]) (by simp [results, Tryz.results40, go_sem]) rfl ⟨⟨_, by rw [HCD.out], by rw [HR.out]; exact World.ownsRow_nil _ _ _ _⟩, HB.out⟩
end Go.Proofs.YtppggnmlbcdegabGreat.N

namespace Go.Proofs.YtppggnmlbcdegabGreat.N
open Go.RowKit Go.Maps
open Go.Proofs.YtppggnmlbcdegabGreat.T
/-- While the copy is renamed: the copy, the answer's box, the copy's box. -/
structure RdS (w wr : World) (v : Value) (k : Nat) (ov : List Rg) : Prop where
  o : OG wr w.heap.size v ov
  b : Below w.heap.size w wr
  y : GX wr (w.heap.size + 1) (.slice none 0 0)
  z : GX wr k v
theorem RdS.name {w wr : World} {k g n cap j : Nat} {ov : List Rg} {x : Rg} (h : RdS w wr (.slice (some ⟨g, 0, none⟩) n cap) k ov) (hn : n = ov.length) (hx : ov[j]? = some x) (s : ByteArray) : RdS w (wr.setCell ⟨g, j * 2, none⟩ (.string s)) (.slice (some ⟨g, 0, none⟩) n cap) k (ov.set j ((s, x.1.2), x.2)) := by
  have hot : ∀ q, q ≠ g → (wr.setCell ⟨g, j * 2, none⟩ (.string s)).heap[q]? = wr.heap[q]? := fun q hq => Below.heap_setCell _ _ _ _ hq
  exact ⟨h.o.name hn hx s, h.b.setCell (p := ⟨g, j * 2, none⟩) (h.o.o.lt g rfl).1 _, h.y.same (hot _ (fun e => h.y.ne h.o.o (by decide) rfl e.symm)), h.z.same (hot _ (fun e => h.z.ne h.o.o (by decide) rfl e.symm))⟩
theorem RdS.text {w wr : World} {v : Value} {k i j g2 l2 c2 : Nat} {ov : List Rg} {x : Rg} {nd : Nd} (h : RdS w wr v k ov) (hx : ov[i]? = some x) (h2 : x.2 = .slice (some ⟨g2, 0, none⟩) l2 c2) (hl : l2 = x.1.2.length) (hj : x.1.2[j]? = some nd) (s : ByteArray) : RdS w (wr.setCell ⟨g2, j * 7 + 2, none⟩ (.string s)) v k (ov.set i ((x.1.1, x.1.2.set j { nd with tx := s }), x.2)) := by
  have hot : ∀ q, q ≠ g2 → (wr.setCell ⟨g2, j * 7 + 2, none⟩ (.string s)).heap[q]? = wr.heap[q]? := fun q hq => Below.heap_setCell _ _ _ _ hq
  have ho := h.o.e x (List.mem_of_getElem? hx)
  have hb : x.2.ownBlock = some g2 := by rw [h2]; rfl
  exact ⟨h.o.text hx h2 hl hj s, h.b.setCell (p := ⟨g2, j * 7 + 2, none⟩) (ho.lt g2 hb).1 _, h.y.same (hot _ (fun e => h.y.ne ho (by decide) hb e.symm)), h.z.same (hot _ (fun e => h.z.ne ho (by decide) hb e.symm))⟩
theorem RdS.row {w wr : World} {k g n cap i : Nat} {ov : List Rg} {x : Rg} (h : RdS w wr (.slice (some ⟨g, 0, none⟩) n cap) k ov) (hx : ov[i]? = some x) (h0 : 0 < x.1.2.length) : ∃ g2 c2, x.2 = .slice (some ⟨g2, 0, none⟩) x.1.2.length c2 ∧ wr.cell? ⟨g, i * 2 + 1, none⟩ = some (.slice (some ⟨g2, 0, none⟩) x.1.2.length c2) := by
  have ho := h.o.e x (List.mem_of_getElem? hx)
  obtain ⟨g2, c2, e2, _⟩ := ho.form h0
  exact ⟨g2, c2, e2, by rw [(h.o.cell hx).2, e2]⟩
theorem RdS.nd {w wr : World} {v : Value} {k g2 c2 l2 i j : Nat} {ov : List Rg} {x : Rg} {nd : Nd} (h : RdS w wr v k ov) (hx : ov[i]? = some x) (h2 : x.2 = .slice (some ⟨g2, 0, none⟩) l2 c2) (hl : l2 = x.1.2.length) (hj : x.1.2[j]? = some nd) : wr.cell? ⟨g2, j * 7, none⟩ = some (.int .i64 nd.op) ∧ wr.cell? ⟨g2, j * 7 + 2, none⟩ = some (.string nd.tx) ∧ wr.frozen? ⟨g2, j * 7 + 2, none⟩ = false := by
  subst hl
  have ho := h.o.e x (List.mem_of_getElem? hx)
  rw [h2] at ho
  have hb := own_ndl (xs := []) (by rw [List.append_nil]; exact ho) j nd hj
  have q0 := hb.c0
  have q2 := hb.c2
  rw [Nat.zero_add] at q0 q2
  exact ⟨q0, q2, ho.frozenAt _⟩
theorem rk_ov {ov : List Rg} {gs : GL} {r i k : Nat} {a b : ByteArray} {g : ByteArray × List Nd} (hm : ov.map (·.1) = rkG gs r a b i k) (hg : gs[i]? = some g) : ∃ x, ov[i]? = some x ∧ x.1 = (if i = r then b else g.1, mxB (reN a b) g.2 k) := by
  have h := rk_at (r := r) (a := a) (b := b) (k := k) hg
  rw [← hm, List.getElem?_map] at h
  cases hx : ov[i]? with
  | none => rw [hx] at h; cases h
  | some x => rw [hx] at h; exact ⟨x, rfl, by simpa using h⟩
theorem mx_at {f : Nd → Nd} {L : List Nd} {k : Nat} {n : Nd} (h : L[k]? = some n) : (mxB f L k)[k]? = some n := by rw [mx_get, h, Option.map_some, if_neg (Nat.lt_irrefl k)]
theorem rnE_zero {gs : GL} {r : Int} {s : ByteArray} (h : rnE gs r s = 0) : lkR gs r = 0 ∧ nmB s = true ∧ (fdN gs s = -1 ∨ fdN gs s = r) := by
  unfold rnE at h
  by_cases h1 : lkR gs r ≠ 0
  · rw [if_pos h1] at h; exact absurd h h1
  · rw [if_neg h1] at h
    have h1 : lkR gs r = 0 := Classical.byContradiction h1
    by_cases h2 : nmB s = false
    · rw [if_pos h2] at h; exact absurd h (by decide)
    · rw [if_neg h2] at h
      by_cases h3 : fdN gs s ≥ 0 ∧ fdN gs s ≠ r
      · rw [if_pos h3] at h; exact absurd h (by decide)
      · refine ⟨h1, by simpa using h2, ?_⟩
        cases hf : fdG gs s with
        | none => exact .inl (fdN_none hf)
        | some i =>
          rw [fdN_some hf] at h3 ⊢
          exact .inr (Classical.byContradiction fun q => h3 ⟨by omega, q⟩)
theorem rt_sizes {gs : GL} (h : RtG gs) : ∀ g ∈ gs, g.2 ≠ [] ∧ g.2.length ≤ 2048 := fun g hg => by
  have h1 := (rt_of (h.ck g hg)).len
  have h2 := (rt_of (h.ck g hg)).one
  refine ⟨fun q => ?_, by omega⟩
  rw [q] at h2
  simp [run] at h2
end Go.Proofs.YtppggnmlbcdegabGreat.N

namespace Go.Proofs.YtppggnmlbcdegabGreat.N
open Go.RowKit Go.Maps
open Go.Proofs.YtppggnmlbcdegabGreat.T
/-- A call of three slots, as one step of a region that draws its order. -/
theorem step_call3 {F : Nat} (hen : ∀ args w, (callFunc F args).run Tryz.prog w = .ok (.enter F args) w) {ops : Array Oper} {o : Oper} {a : Act} {w : World} {K : Act → World → Prop} {Q : Exit → Act → World → Prop} {E : Prop} (hgd : o.guard = none) (x y z : Nat) (T U V : TypeId) (ho : o.op = .call { callee := .value (.func F), args := #[.tmp x, .tmp y, .tmp z], argTypes := #[T, U, V] }) (u v t : Value) (hx : a.eval (.tmp x) = u) (hy : a.eval (.tmp y) = v) (hz : a.eval (.tmp z) = t)
    (hc : Calls Tryz.prog F #[u, v, t] w fun e w' => ∃ r, e = .returned r ∧ K (a.put o.dst r) w') :
    if Region.wanted o (yielded ops a.tmps) = true then Oper.wp Tryz.prog o a w K Q else E := by
  have hw : Region.wanted o (yielded ops a.tmps) = true := by simp [Region.wanted, hgd]
  rw [if_pos hw]
  have he : (execOp a.eval o).run Tryz.prog w = .ok (.enter F #[u, v, t]) w := by
    have hx2 : a.tmps[x]?.getD undef = u := by simpa [Act.eval] using hx
    have hy2 : a.tmps[y]?.getD undef = v := by simpa [Act.eval] using hy
    have hz2 : a.tmps[z]?.getD undef = t := by simpa [Act.eval] using hz
    unfold execOp
    simp [ho, go_sem, invoke, hen]
    exact ⟨hx2, hy2, hz2⟩
  unfold Oper.wp
  rw [he, Oper.upon_enter]
  refine hc.mono ?_
  rintro e w' ⟨r, rfl, hk⟩
  exact hk
theorem enters52 (args : Array Value) (w : World) : (callFunc 23 args).run Tryz.prog w = .ok (.enter 23 args) w := enters_of Tryz.func23 (by kernel_rfl) rfl args w
theorem OG.base {W : World} {B B2 : Nat} {v : Value} {ov : List Rg} (h : OG W B v ov) (hb : B2 ≤ B) : OG W B2 v ov := ⟨T.own_base h.o hb, fun x hx => T.own_base (h.e x hx) hb, h.ap⟩
set_option maxRecDepth 100000 in
set_option maxHeartbeats 16000000 in
theorem renameP_yes (gs : GL) (A : Option Addr) (c : Nat) (r : Nat) (s : ByteArray) (hs : s.size ≤ 140737488355328) (w : World) (hp : GI w A gs) (h0 : rnE gs (r : Int) s = 0) :
    Calls Tryz.prog 6 #[.agg #[.slice A gs.length c], .int .i64 (r : Int), .string s] w fun e w' => RnA w w' e gs (r : Int) s ∧ Below w.heap.size w w' := by
  obtain ⟨hlk, hnm, hfd⟩ := rnE_zero h0
  obtain ⟨hR, _, hr1⟩ := lkR_zero hlk
  have hr : r < gs.length := by omega
  obtain ⟨g0, hg0⟩ : ∃ g0, gs[r]? = some g0 := ⟨_, List.getElem?_eq_getElem hr⟩
  have HEn := (show Hid (rnG gs (r : Int) s = gs.map (rnR g0.1 s)) from by show rnG gs (r : Int) s = _; rw [rnR_reG hR.dn hg0 rfl]; unfold rnG; rw [if_pos h0, Int.toNat_natCast, hg0]; rfl)
  have HE0 := (show Hid (rnE gs (r : Int) s = 0) from h0)
  have HA := (show Hid (RnS w ((w.alloc (.cells #[.slice A gs.length c] 24)).alloc (.cells #[.slice none 0 0] 24)) (.slice A gs.length c)) from RnS.mk2 _ _)
  have HNb := (show Hid (∀ W, Below w.heap.size w W → Calls Tryz.prog 21 #[.agg #[.slice A gs.length c], .int .i64 (r : Int)] W fun e w' => (∃ B, e = .returned (.tuple #[.map (some B), .int .i64 0]) ∧ NmM w' B gs) ∧ Below W.heap.size W w') from fun W hW => by
    refine (numbW_any gs A c (r : Int) W (hp.later hW)).mono ?_
    rintro e w' ⟨⟨mv, rfl, hm⟩, hb⟩
    obtain ⟨B, _, rfl, hM⟩ := hm hlk
    exact ⟨⟨B, by rw [hlk], hM⟩, hb⟩)
  have HNm := (show Hid (∀ W, Calls Tryz.prog 22 #[.string s] W fun e w' => e = .returned (.bool true) ∧ Below W.heap.size W w') from fun W => by rw [← hnm]; exact nameP_any s hs W)
  have H52 := (show Hid (∀ W, Below w.heap.size w W → Calls Tryz.prog 23 #[.agg #[.slice A gs.length c], .string g0.1, .string s] W fun e w' => (∃ v ov, e = .returned (.agg #[v]) ∧ ov.map (·.1) = gs.map (rnR g0.1 s) ∧ OG w' W.heap.size v ov) ∧ Below W.heap.size W w') from fun W hW => renamed_any gs A c g0.1 s (by omega) W (hp.later hW) hR.n2 (rt_sizes hR))
  obtain ⟨b, o, A2, c2, rfl, lb, e0, _, _⟩ := hp.d r g0 hg0
  have HB0 := (show Hid (∀ W, Below w.heap.size w W → W.cell? ⟨b, o + r * 2, none⟩ = some (.string g0.1)) from fun W hW => (hW.cell (p := ⟨b, o + r * 2, none⟩) lb).trans e0)
  have z0 : (0 : Int) ≤ (r : Int) := by omega
  have z1 : (r : Int) < (gs.length : Int) := by omega
  have q1 := HA.out.x.cl
  have HFd := (show Hid (fdG gs s = none ∨ fdG gs s = some r) from by
    cases hf : fdG gs s with
    | none => exact .inl rfl
    | some i =>
      rw [fdN_some hf] at hfd
      refine .inr ?_
      rcases hfd with q | q
      · omega
      · rw [show i = r by omega])
  have HSz := (show Hid (s.size ≤ 140737488355328) from hs)
  obtain ⟨nm0, hnm0⟩ : ∃ nm0, nm0 = g0.1 := ⟨_, rfl⟩
  rw [← hnm0] at HEn HB0 H52
  clear hp h0 hlk hnm hr1 hR e0 lb hg0 hs hfd hr hnm0
  go_enter Tryz.func6, Tryz.ntmps6
  go_wp2_with fail
  generalize (w.alloc (.cells #[.slice (some ⟨b, o, none⟩) gs.length c] 24)).alloc (.cells #[.slice none 0 0] 24) = w1 at *
  go_wp2_with fail
  refine (HNb.out _ HA.out.b).mono ?_
  rintro e w2 ⟨⟨B, rfl, hM⟩, b2⟩
  have HA2 := (show Hid (RnS w w2 (.slice (some ⟨b, o, none⟩) gs.length c)) from HA.out.later b2)
  have HM := (show Hid (NmM w2 B gs) from hM)
  clear HA q1 HNb b2 hM
  go_wp2_with fail
  refine (HNm.out _).mono ?_
  rintro e w3 ⟨rfl, b3⟩
  have HA3 := (show Hid (RnS w w3 (.slice (some ⟨b, o, none⟩) gs.length c)) from HA2.out.later b3)
  have HM3 := (show Hid (NmM w3 B gs) from HM.out.same (b3.block B HM.out.lt))
  clear HA2 HM b3 HNm
  have hD : Below w3.heap.size w3 w3.drew := (Below.refl _ _).drew
  have HAd := (show Hid (RnS w w3.drew (.slice (some ⟨b, o, none⟩) gs.length c)) from HA3.out.later hD)
  have q4 := HAd.out.x.cl
  have q5 := HB0.out _ HAd.out.b
  have HCall := (show Hid (∀ _ : Unit, Calls Tryz.prog 23 #[.agg #[.slice (some ⟨b, o, none⟩) gs.length c], .string nm0, .string s] w3.drew fun e w' => (∃ Av nv cv ov, e = .returned (.agg #[.slice Av nv cv]) ∧ ov.map (·.1) = gs.map (rnR nm0 s) ∧ OG w' w.heap.size (.slice Av nv cv) ov) ∧ RnS w w' (.slice (some ⟨b, o, none⟩) gs.length c)) from fun _ => by
    refine (H52.out _ HAd.out.b).mono ?_
    rintro e w' ⟨⟨v, ov, rfl, h1, h2⟩, hb⟩
    obtain ⟨Av, cv, rfl⟩ := own_sl h2.o
    exact ⟨⟨Av, _, cv, ov, rfl, h1, h2.base HAd.out.b.size⟩, HAd.out.later hb⟩)
  clear H52 HB0 HA3 hD
  obtain ⟨c0, hrun, hc0⟩ := HM3.out.look s HSz.out
  rcases HFd.out with hf | hf
  · rw [hf, Option.isSome_none] at hrun
    clear HM3 hf hc0 HFd
    go_wp2_with fail
    go_region_law (refine step_call3 enters52 rfl _ _ _ _ _ _ (by rfl) (.agg #[.slice (some ⟨b, o, none⟩) gs.length c]) (.string nm0) (.string s) (by rfl) (by rfl) (by rfl) ?_; with_reducible refine (HCall.out ()).mono ?_; rintro e w4 ⟨⟨Av, nv, cv, ov, rfl, h1, h2⟩, h3⟩; refine ⟨_, rfl, ?_⟩; have hyf := h3.y.fz; have hyc := h3.y.cl)
    all_goals
      go_wp2_with fail
      refine ret_gx2 (x := .int .i64 0) rfl rfl rfl rfl (h3.y.set _) ?_
      have key : ∀ (j : Nat), j ≠ w.heap.size + 1 → (w4.setCell ⟨w.heap.size + 1, 0, none⟩ (.slice Av nv cv)).heap[j]? = w4.heap[j]? := fun j hj => Below.heap_setCell _ _ _ _ hj
      exact ⟨⟨_, ov, by rw [HE0.out], by rw [h1, HEn.out], h2.same fun j hj => key j (h2.ne h3.y hj)⟩, h3.b.setCell (p := ⟨w.heap.size + 1, 0, none⟩) (by show w.heap.size ≤ w.heap.size + 1; omega) _⟩
  · have hc1 := hc0 r hf
    subst hc1
    rw [hf, Option.isSome_some] at hrun
    have ti : ((r : Int) != (r : Int)) = false := by simp
    clear HM3 hf hc0 HFd
    go_wp2_with fail
    go_region_law (refine step_call3 enters52 rfl _ _ _ _ _ _ (by rfl) (.agg #[.slice (some ⟨b, o, none⟩) gs.length c]) (.string nm0) (.string s) (by rfl) (by rfl) (by rfl) ?_; with_reducible refine (HCall.out ()).mono ?_; rintro e w4 ⟨⟨Av, nv, cv, ov, rfl, h1, h2⟩, h3⟩; refine ⟨_, rfl, ?_⟩; have hyf := h3.y.fz; have hyc := h3.y.cl)
    all_goals
      go_wp2_with fail
      refine ret_gx2 (x := .int .i64 0) rfl rfl rfl rfl (h3.y.set _) ?_
      have key : ∀ (j : Nat), j ≠ w.heap.size + 1 → (w4.setCell ⟨w.heap.size + 1, 0, none⟩ (.slice Av nv cv)).heap[j]? = w4.heap[j]? := fun j hj => Below.heap_setCell _ _ _ _ hj
      exact ⟨⟨_, ov, by rw [HE0.out], by rw [h1, HEn.out], h2.same fun j hj => key j (h2.ne h3.y hj)⟩, h3.b.setCell (p := ⟨w.heap.size + 1, 0, none⟩) (by show w.heap.size ≤ w.heap.size + 1; omega) _⟩
end Go.Proofs.YtppggnmlbcdegabGreat.N

namespace Go.Proofs.YtppggnmlbcdegabGreat.N
open Go.RowKit Go.Maps
open Go.Proofs.YtppggnmlbcdegabGreat.T
set_option maxRecDepth 100000 in
set_option maxHeartbeats 32000000 in
theorem renameD_yes (gs : GL) (A : Option Addr) (c : Nat) (r : Nat) (s : ByteArray) (hs : s.size ≤ 140737488355328) (w : World) (hp : GI w A gs) (h0 : rnE gs (r : Int) s = 0) :
    Calls Tryz.prog 5 #[.agg #[.slice A gs.length c], .int .i64 (r : Int), .string s] w fun e w' => RnA w w' e gs (r : Int) s ∧ Below w.heap.size w w' := by
  obtain ⟨hlk, hnm, hfd⟩ := rnE_zero h0
  obtain ⟨hR, _, hr1⟩ := lkR_zero hlk
  have hr : r < gs.length := by omega
  obtain ⟨g0, hg0⟩ : ∃ g0, gs[r]? = some g0 := ⟨_, List.getElem?_eq_getElem hr⟩
  have HEn := (show Hid (rnG gs (r : Int) s = reG gs r g0.1 s) from by show rnG gs (r : Int) s = _; unfold rnG; rw [if_pos h0, Int.toNat_natCast, hg0]; rfl)
  have HE0 := (show Hid (rnE gs (r : Int) s = 0) from h0)
  have HA := (show Hid (RnS w ((w.alloc (.cells #[.slice A gs.length c] 24)).alloc (.cells #[.slice none 0 0] 24)) (.slice A gs.length c)) from RnS.mk2 _ _)
  have HLk := (show Hid (∀ W, Below w.heap.size w W → Calls Tryz.prog 17 #[.agg #[.slice A gs.length c], .int .i64 (r : Int)] W fun e w' => e = .returned (.int .i64 0) ∧ Below W.heap.size W w') from fun W hW => by rw [← hlk]; exact lookD_any gs A c (r : Int) W (hp.later hW))
  have HNm := (show Hid (∀ W, Calls Tryz.prog 18 #[.string s] W fun e w' => e = .returned (.bool true) ∧ w' = W) from fun W => by rw [← hnm]; exact nameR_any s hs W)
  have HFd := (show Hid (∀ W, Below w.heap.size w W → Calls Tryz.prog 19 #[.agg #[.slice A gs.length c], .string s] W fun e w' => e = .returned (.int .i64 (fdN gs s)) ∧ Below W.heap.size W w') from fun W hW => find_any gs A c s W (hp.later hW))
  have HCp := (show Hid (∀ W, Below w.heap.size w W → Calls Tryz.prog 20 #[.agg #[.slice A gs.length c]] W fun e w' => (∃ v ov, e = .returned (.agg #[v]) ∧ ov.map (·.1) = gs ∧ OG w' W.heap.size v ov) ∧ Below W.heap.size W w') from fun W hW => copyG_any gs A c W (hp.later hW).d hR.n2 (rt_sizes hR))
  obtain ⟨b, o, A2, c2, rfl, lb, e0, _, _⟩ := hp.d r g0 hg0
  have HB0 := (show Hid (∀ W, Below w.heap.size w W → W.cell? ⟨b, o + r * 2, none⟩ = some (.string g0.1)) from fun W hW => (hW.cell (p := ⟨b, o + r * 2, none⟩) lb).trans e0)
  have HG := (show Hid (∀ k, k < gs.length → ∃ g, gs[k]? = some g ∧ 0 < g.2.length ∧ g.2.length ≤ 2048) from fun k hk => ⟨_, List.getElem?_eq_getElem hk, List.length_pos_iff.2 (rt_sizes hR _ (List.getElem_mem hk)).1, (rt_sizes hR _ (List.getElem_mem hk)).2⟩)
  have HG0 := (show Hid (gs[r]? = some g0) from hg0)
  have hn2 := hR.n2
  have z0 : (0 : Int) ≤ (r : Int) := by omega
  have z1 : (r : Int) < (gs.length : Int) := by omega
  have q1 := HA.out.x.cl
  obtain ⟨nm0, hnm0⟩ : ∃ nm0, nm0 = g0.1 := ⟨_, rfl⟩
  rw [← hnm0] at HEn HB0
  clear hp h0 hlk hnm hr1 hR e0 lb hg0 hs hnm0
  generalize fdN gs s = kk at *
  go_enter Tryz.func5, Tryz.ntmps5
  go_wp2_with fail
  generalize (w.alloc (.cells #[.slice (some ⟨b, o, none⟩) gs.length c] 24)).alloc (.cells #[.slice none 0 0] 24) = w1 at *
  go_wp2_with fail
  refine (HLk.out _ HA.out.b).mono ?_
  rintro e w2 ⟨rfl, b2⟩
  have HA2 := (show Hid (RnS w w2 (.slice (some ⟨b, o, none⟩) gs.length c)) from HA.out.later b2)
  clear HA q1 HLk b2
  go_wp2_with fail
  refine (HNm.out _).mono ?_
  rintro e w3 ⟨rfl, rfl⟩
  have q2 := HA2.out.x.cl
  clear HNm
  go_wp2_with fail
  refine (HFd.out _ HA2.out.b).mono ?_
  rintro e w4 ⟨rfl, b4⟩
  have HA4 := (show Hid (RnS w w4 (.slice (some ⟨b, o, none⟩) gs.length c)) from HA2.out.later b4)
  have q4 := HA4.out.x.cl
  have q5 := HB0.out _ HA4.out.b
  clear HA2 b4 HFd q2 HB0
  rcases hfd with rfl | rfl
  all_goals
    go_wp2_with fail
    refine (HCp.out _ HA4.out.b).mono ?_
    rintro e w5 ⟨⟨v, ov0, rfl, hm0, hO0⟩, b5⟩
    have hol : ov0.length = gs.length := by rw [← hm0, List.length_map]
    obtain ⟨g, cap, e5, _⟩ := hO0.o.form (by omega)
    rw [hol] at e5
    subst e5
    obtain ⟨x0, hx0⟩ : ∃ x0, ov0[r]? = some x0 := ⟨_, List.getElem?_eq_getElem (by omega)⟩
    have h9 : x0.1 = g0 := by
      have := HG0.out
      rw [← hm0, List.getElem?_map, hx0] at this
      simpa using this
    have HS := (show Hid (RdS w (w5.alloc (.cells #[.slice (some ⟨g, 0, none⟩) gs.length cap] 24)) (.slice (some ⟨g, 0, none⟩) gs.length cap) w5.heap.size ov0) from by
      have ha := HA4.out.later b5
      have ob : OG w5 w.heap.size (.slice (some ⟨g, 0, none⟩) gs.length cap) ov0 := ⟨T.own_base hO0.o HA4.out.b.size, fun x hx => T.own_base (hO0.e x hx) HA4.out.b.size, hO0.ap⟩
      exact ⟨ob.later (below_box _ _), ha.b.alloc ha.b.size _, ha.y.below (below_box _ _), GX.mk (heap_alloc_new w5 _)⟩)
    have HS1 := (show Hid (RdS w ((w5.alloc (.cells #[.slice (some ⟨g, 0, none⟩) gs.length cap] 24)).setCell ⟨g, r * 2, none⟩ (.string s)) (.slice (some ⟨g, 0, none⟩) gs.length cap) w5.heap.size (ov0.set r ((s, x0.1.2), x0.2))) from HS.out.name hol.symm hx0 s)
    have HM1 := (show Hid ((ov0.set r ((s, x0.1.2), x0.2)).map (·.1) = rkG gs r nm0 s 0 0) from by
      show List.map _ _ = _
      rw [List.map_set, hm0, h9]
      exact rk_start HG0.out)
    obtain ⟨w6, hw6⟩ : ∃ w6, w6 = w5.alloc (.cells #[.slice (some ⟨g, 0, none⟩) gs.length cap] 24) := ⟨_, rfl⟩
    have HE6 := (show Hid (w5.alloc (.cells #[.slice (some ⟨g, 0, none⟩) gs.length cap] 24) = w6) from hw6.symm)
    rw [← hw6] at HS HS1
    have f0 := (HS.out.o.cell hx0).1
    have f1 := (show World.ownsRow _ w.heap.size 44 2 (.slice (some ⟨g, 0, none⟩) gs.length cap) gs.length (rgc ov0) from by have h := HS.out.o.o; rw [hol] at h; exact h).frozenAt (r * 2)
    have f2 := HS.out.z.cl
    clear hm0 hO0 b5 HA4 HCp hol hx0 h9 q4 HG0 hw6
    go_wp2_with (rw [HE6.out])
    clear HE6 q5
    generalize w6.setCell ⟨g, r * 2, none⟩ (.string s) = w7 at *
    generalize w5.heap.size = kb at *
    clear f0 f1 f2 HS
    generalize ov0.set r ((s, x0.1.2), x0.2) = ov1 at *
    go_loopw [12] (fun t wr => ∃ (i : Nat) (ov : List Rg), i ≤ gs.length ∧ t = .int .i64 (i : Int) ∧ Hid (ov.map (·.1) = rkG gs r nm0 s i 0) ∧ Hid (RdS w wr (.slice (some ⟨g, 0, none⟩) gs.length cap) kb ov)) (fun t _ => gs.length - (intOf t).toNat)
    case atStart => exact ⟨0, ov1, Nat.zero_le _, by go_num, HM1, HS1⟩
    case round =>
      obtain ⟨i, ov, hi, rfl, HM, HW⟩ := hrel
      clear HS1 HM1
      have f2 := HW.out.z.cl
      by_cases hlt : i < gs.length
      · obtain ⟨gi, hgi, hgp, hgl⟩ := HG.out i hlt
        have y0 : (0 : Int) ≤ (i : Int) := by omega
        have y1 : (i : Int) < (gs.length : Int) := by omega
        have HGi := (show Hid (gs[i]? = some gi) from hgi)
        have HGp := (show Hid (0 < gi.2.length) from hgp)
        obtain ⟨LL, hLL⟩ : ∃ LL, LL = gi.2.length := ⟨_, rfl⟩
        have HLL := (show Hid (LL = gi.2.length) from hLL)
        have hl3 : LL ≤ 2048 := by omega
        clear hgi hgp hgl hLL
        go_wp2_with fail
        go_loopw [13] (fun t wr => ∃ (k : Nat) (ov : List Rg), k ≤ LL ∧ t = .int .i64 (k : Int) ∧ Hid (ov.map (·.1) = rkG gs r nm0 s i k) ∧ Hid (RdS w wr (.slice (some ⟨g, 0, none⟩) gs.length cap) kb ov)) (fun t _ => LL - (intOf t).toNat)
        case atStart => exact ⟨0, ov, Nat.zero_le _, by go_num, HM, HW⟩
        case round =>
          obtain ⟨k, ov2, hk, rfl, HM2, HW2⟩ := hrel
          clear HM HW f2
          have f2 := HW2.out.z.cl
          obtain ⟨x, hx, hx1⟩ := rk_ov HM2.out HGi.out
          have hxl : x.1.2.length = LL := by rw [hx1, HLL.out]; exact mx_len
          obtain ⟨g2, c2, hx2, f3⟩ := HW2.out.row hx (by rw [hxl, HLL.out]; exact HGp.out)
          rw [hxl] at f3 hx2
          by_cases hkl : k < LL
          · obtain ⟨nd, hnd⟩ : ∃ nd, gi.2[k]? = some nd := ⟨_, List.getElem?_eq_getElem (by rw [← HLL.out]; exact hkl)⟩
            have hxn : x.1.2[k]? = some nd := by rw [hx1]; exact mx_at hnd
            obtain ⟨f4, f5, f6⟩ := HW2.out.nd hx hx2 hxl.symm hxn
            have u0 : (0 : Int) ≤ (k : Int) := by omega
            have u1 : (k : Int) < (LL : Int) := by omega
            have HNx := (show Hid (¬ (nd.op = 6 ∧ nd.tx = nm0) → rkG gs r nm0 s i (k + 1) = rkG gs r nm0 s i k) from fun q => rk_same HGi.out hnd (by unfold reN; rw [if_neg q]))
            have HNy := (show Hid ((nd.op = 6 ∧ nd.tx = nm0) → (ov2.set i ((x.1.1, x.1.2.set k { nd with tx := s }), x.2)).map (·.1) = rkG gs r nm0 s i (k + 1)) from fun q => by
              rw [List.map_set, HM2.out, rk_set HGi.out hnd, hx1]
              unfold reN
              rw [if_pos q])
            have HNz := (show Hid (RdS w (wr.setCell ⟨g2, k * 7 + 2, none⟩ (.string s)) (.slice (some ⟨g, 0, none⟩) gs.length cap) kb (ov2.set i ((x.1.1, x.1.2.set k { nd with tx := s }), x.2))) from HW2.out.text hx hx2 hxl.symm hxn s)
            clear hx hx1 hxl hx2 hxn hnd
            by_cases h6 : nd.op = 6
            · have t6 : (nd.op == 6) = true := by rw [h6]; rfl
              by_cases ht : nd.tx = nm0
              · have te := te_of ht
                have HNq := (show Hid _ from HNy.out ⟨h6, ht⟩)
                clear h6 ht HNx HNy
                go_wp2_with fail
                go_roundw
                case rel => exact ⟨k + 1, _, by omega, by go_num, HNq, HNz⟩
                case measure => simp [intOf]; omega
              · have te := te_no ht
                have HNq := (show Hid (ov2.map (·.1) = rkG gs r nm0 s i (k + 1)) from HM2.out.trans (HNx.out (fun q => ht q.2)).symm)
                clear h6 ht HNx HNy HNz
                go_wp2_with fail
                go_roundw
                case rel => exact ⟨k + 1, _, by omega, by go_num, HNq, HW2⟩
                case measure => simp [intOf]; omega
            · have t6 : (nd.op == 6) = false := by rw [beq_eq_false_iff_ne]; exact h6
              have HNq := (show Hid (ov2.map (·.1) = rkG gs r nm0 s i (k + 1)) from HM2.out.trans (HNx.out (fun q => h6 q.1)).symm)
              clear h6 HNx HNy HNz
              go_wp2_with fail
              go_roundw
              case rel => exact ⟨k + 1, _, by omega, by go_num, HNq, HW2⟩
              case measure => simp [intOf]; omega
          · have HNq := (show Hid (ov2.map (·.1) = rkG gs r nm0 s (i + 1) 0) from by
              have e : k = gi.2.length := by have := HLL.out; omega
              have h := HM2.out
              rw [e, rk_next HGi.out] at h
              exact h)
            clear hx hx1 hxl hx2
            obtain rfl : k = LL := by omega
            go_wp2_with fail
            go_roundw
            case rel => exact ⟨i + 1, _, by omega, by go_num, HNq, HW2⟩
            case measure => simp [intOf]; omega
      · obtain rfl : i = gs.length := by omega
        have HMm := (show Hid (ov.map (·.1) = reG gs r nm0 s) from by rw [← rk_end]; exact HM.out)
        have hyf := HW.out.y.fz
        have hyc := HW.out.y.cl
        clear HG HM
        go_wp2_with fail
        refine ret_gx2 (x := .int .i64 0) rfl rfl rfl rfl (HW.out.y.set _) ?_
        have h5 := HW.out
        have key : ∀ (j : Nat), j ≠ w.heap.size + 1 → (wr.setCell ⟨w.heap.size + 1, 0, none⟩ (.slice (some ⟨g, 0, none⟩) gs.length cap)).heap[j]? = wr.heap[j]? := fun j hj => Below.heap_setCell _ _ _ _ hj
        exact ⟨⟨_, ov, by rw [HE0.out], by rw [HMm.out, HEn.out], h5.o.same fun j hj => key j (h5.o.ne h5.y hj)⟩, h5.b.setCell (p := ⟨w.heap.size + 1, 0, none⟩) (by show w.heap.size ≤ w.heap.size + 1; omega) _⟩
end Go.Proofs.YtppggnmlbcdegabGreat.N

namespace Go.Proofs.YtppggnmlbcdegabGreat.N
open Go.RowKit
open Go.Proofs.YtppggnmlbcdegabGreat.T (below_box)
set_option maxRecDepth 100000 in
set_option maxHeartbeats 4000000 in
theorem keptq (A : Option Addr) (c g cap B : Nat) (L : List Nd) (hl : L.length * 64 ≤ 140737488351232) (w : World) (h : T.RdN w A L) (ho : T.LentR w B g cap L) :
    Calls Tryz.prog 43 #[.slice (some ⟨g, 0, none⟩) L.length cap, .slice A L.length c] w fun e w' => e = .returned (.bool true) ∧ ∃ m, w' = w.drewN m := by
  have HS : Hid (∀ _ : Unit, Calls Tryz.prog 24 #[.slice (some ⟨g, 0, none⟩) L.length cap, .slice A L.length c] w fun e w' => e = .returned (.bool true) ∧ ∃ m, w' = w.drewN m) := fun _ => sameq (some ⟨g, 0, none⟩) A cap c L (by omega) w ho.rd h
  have hcap := T.own_cap ho
  have HO := (show Hid (∀ w', Below w.heap.size w w' → T.NB w' g (L.length * 7) (T.zN (-77))) from fun w' hb => (ho.below hb).last)
  clear ho h
  have z0 : (0 : Int) ≤ (L.length : Int) := by omega
  have z1 : (L.length : Int) + 1 ≤ (cap : Int) := by omega
  have z2 : (L.length : Int) < (L.length : Int) + 1 := by omega
  have hq := T.node_eql (T.zN (-77)) (T.zN (-77))
  rw [T.ndE_refl] at hq
  generalize L.length = n at *
  go_enter Tryz.func43, Tryz.ntmps43
  go_wp2_with fail
  refine (HS.out ()).mono ?_
  rintro e w1 ⟨rfl, hb⟩
  obtain ⟨c0, c1, c2, c3, c4, c5, c6⟩ := HO.out w1 (by obtain ⟨m, rfl⟩ := hb; exact T.below_drewN (Below.refl _ _) _)
  have HB := (show Hid _ from hb)
  clear hb HS HO
  unfold T.zN at c0 c1 c2 c3 c4 c5 c6 hq
  dsimp only at c0 c1 c2 c3 c4 c5 c6
  go_wp2_with fail
  go_ret
  exact ⟨rfl, HB.out⟩
/-- While a grammar that was lent is held against what it was. -/
structure AtK (w0 w wr : World) (u1 u2 : Value) (A : Option Addr) (gs : List (ByteArray × List Nd)) (g cap : Nat) (ov : List Le) : Prop where
  b : Below w.heap.size w wr
  x1 : GX wr w.heap.size u1
  x2 : GX wr (w.heap.size + 1) u2
  l : LgB w0 wr g cap ov
  d : GrD wr A gs
theorem AtK.later {w0 w wr W' : World} {u1 u2 : Value} {A : Option Addr} {gs : List (ByteArray × List Nd)} {g cap : Nat} {ov : List Le} (h : AtK w0 w wr u1 u2 A gs g cap ov) (hb : Below wr.heap.size wr W') : AtK w0 w W' u1 u2 A gs g cap ov :=
  ⟨h.b.trans (hb.mono h.b.size), h.x1.below hb, h.x2.below hb, h.l.later hb, h.d.later hb⟩
set_option maxRecDepth 100000 in
set_option maxHeartbeats 8000000 in
theorem keptG_any {gs : List (ByteArray × List Nd)} {ov : List Le} (hm : ov.map (·.1) = gs) (hl : ∀ g ∈ gs, g.2.length * 64 ≤ 140737488351232) (hn : gs.length * 40 ≤ 140737488351232) {w0 w : World} {A : Option Addr} {c g cap : Nat} (h1 : LgB w0 w g cap ov) (h2 : GrD w A gs) :
    Calls Tryz.prog 15 #[.agg #[.slice (some ⟨g, 0, none⟩) gs.length cap], .agg #[.slice A gs.length c]] w fun e w' => e = .returned (.bool true) ∧ Below w.heap.size w w' := by
  have hov : ov.length = gs.length := by rw [← hm, List.length_map]
  have HA := (show Hid (AtK w0 w ((w.alloc (.cells #[.slice (some ⟨g, 0, none⟩) gs.length cap] 24)).alloc (.cells #[.slice A gs.length c] 24)) (.slice (some ⟨g, 0, none⟩) gs.length cap) (.slice A gs.length c) A gs g cap ov) from
    ⟨((Below.refl _ _).alloc (Nat.le_refl _) _).alloc (by rw [World.size_alloc]; omega) _, (GX.mk (heap_alloc_new w _)).below (below_box _ _), ⟨by have h := heap_alloc_new (w.alloc (.cells #[.slice (some ⟨g, 0, none⟩) gs.length cap] 24)) (.cells #[.slice A gs.length c] 24); rw [World.size_alloc] at h; exact h⟩, (h1.later (below_box _ _)).later (below_box _ _), (h2.later (below_box _ _)).later (below_box _ _)⟩)
  have hcap : gs.length + 1 ≤ cap := by rw [← hov]; exact T.own_cap h1.o
  have HG := (show Hid (∀ k, k < gs.length → ∃ x, ov[k]? = some x ∧ gs[k]? = some x.1 ∧ x ∈ ov ∧ x.1.2.length * 64 ≤ 140737488351232) from fun k hk => by
    obtain ⟨x, e⟩ : ∃ x, ov[k]? = some x := ⟨_, List.getElem?_eq_getElem (by omega)⟩
    have e2 : gs[k]? = some x.1 := by rw [← hm, List.getElem?_map, e]; rfl
    exact ⟨x, e, e2, List.mem_of_getElem? e, hl _ (List.mem_of_getElem? e2)⟩)
  have q1 := HA.out.x1.cl
  have q2 := HA.out.x2.cl
  have q3 := HA.out.l.last
  rw [hov] at q3
  have z0 : (0 : Int) ≤ (gs.length : Int) := by omega
  have z1 : (gs.length : Int) + 1 ≤ (cap : Int) := by omega
  have z2 : (gs.length : Int) < (gs.length : Int) + 1 := by omega
  clear hl hm h1 h2 hov hcap
  generalize gs.length = n at *
  go_enter Tryz.func15, Tryz.ntmps15
  go_wp2_with fail
  generalize (w.alloc (.cells #[.slice (some ⟨g, 0, none⟩) n cap] 24)).alloc (.cells #[.slice A n c] 24) = w1 at *
  go_wp2_with fail
  clear q1 q2 q3
  go_loopw [6] (fun t wr => ∃ k : Nat, k ≤ n ∧ t = .int .i64 k ∧ Hid (AtK w0 w wr (.slice (some ⟨g, 0, none⟩) n cap) (.slice A n c) A gs g cap ov)) (fun t _ => n - (intOf t).toNat)
  case atStart => exact ⟨0, by omega, by go_num, HA⟩
  case round =>
    obtain ⟨k, hk, rfl, HW⟩ := hrel
    clear HA
    have q1 := HW.out.x1.cl
    have q2 := HW.out.x2.cl
    by_cases hlt : k < n
    · obtain ⟨x, hx, hgx, hxm, hxl⟩ := HG.out k hlt
      obtain ⟨y0, y1⟩ := HW.out.l.cell hx
      obtain ⟨b2, o2, B2, d2, hA2, l2, x0, x1, r2⟩ := HW.out.d k _ hgx
      subst hA2
      have HS : Hid (∀ n, Calls Tryz.prog 43 #[.slice (some ⟨x.2.1, 0, none⟩) x.1.2.length x.2.2, .slice B2 x.1.2.length d2] (wr.drewN n) fun e w' => e = .returned (.bool true) ∧ ∃ m, w' = (wr.drewN n).drewN m) := fun n => keptq B2 d2 x.2.1 x.2.2 w0.heap.size x.1.2 hxl _ (r2.below (T.below_drewN (Below.refl _ _) _) (Nat.le_refl _)) ((HW.out.l.e x hxm).below (T.below_drewN (Below.refl _ _) _))
      have u0 : (0 : Int) ≤ (k : Int) := by omega
      have u1 : (k : Int) < (n : Int) := by omega
      clear HG r2 hx hgx hxm hxl z0 z1 z2
      generalize x.1.2.length = gl at *
      generalize x.1.1 = nm at *
      generalize x.2.1 = xb at *
      generalize x.2.2 = xc at *
      go_wp2_with fail
      go_quiet ((go_at_call 43; exact Calls.quiet_of (HS.out _)))
      have HW2 := (show Hid (AtK w0 w (wr.drewN nq) (.slice (some ⟨g, 0, none⟩) n cap) (.slice (some ⟨b2, o2, none⟩) n c) (some ⟨b2, o2, none⟩) gs g cap ov) from HW.out.later (T.below_drewN (Below.refl _ _) _))
      generalize wr.drewN nq = w2 at *
      clear HW q1 q2 y0 y1 x0 x1
      go_wp2_with fail
      go_roundw
      case rel => exact ⟨k + 1, by omega, by go_num, HW2⟩
      case measure => simp [intOf]; omega
    · obtain rfl : k = n := by omega
      clear HG
      go_wp2_with fail
      go_ret
      exact ⟨rfl, HW.out.b⟩
end Go.Proofs.YtppggnmlbcdegabGreat.N

namespace Go.Proofs.YtppggnmlbcdegabGreat.N
open Go.RowKit Go.Maps
open Go.Proofs.YtppggnmlbcdegabGreat.T
theorem nmB_s : nmB ⟨#[115]⟩ = true := by kernel_rfl
theorem ckG_one : ckG [((⟨#[115]⟩ : ByteArray), [zN 3])] = ((0, 0), 0) := by
  have h1 : c1G [((⟨#[115]⟩ : ByteArray), [zN 3])] 0 0 [((⟨#[115]⟩ : ByteArray), [zN 3])] = ((0, 0), 0) := by
    rw [c1G, if_neg (fun q => q (.inl nmB_s)), if_neg, if_neg (by rw [ck_any1]; decide), if_neg (by show ¬ 2048 < 0 + 1; decide), c1G]
    unfold tw
    have : fdG [((⟨#[115]⟩ : ByteArray), [zN 3])] ⟨#[115]⟩ = some 0 := by rw [fdG, if_pos rfl]
    rw [this]
    decide
  rw [ckG_un (by decide) (by decide) h1, unG_cons]
  have : unN [((⟨#[115]⟩ : ByteArray), [zN 3])] 0 [zN 3] = none := by
    rw [unN_cons, if_neg (by rintro ⟨q, _⟩; exact absurd q (show ¬ (3 : Int) = 6 by decide))]
    rfl
  rw [this]
  rfl
theorem ckG_nil : ckG [] = ((0, 0), 3) := rfl
theorem gi_one (w : World) : GI ((w.alloc (ndO (zN 3))).alloc (.cells #[.string ⟨#[115]⟩, .slice (some ⟨w.heap.size, 0, none⟩) 1 1] 44)) (some ⟨w.heap.size + 1, 0, none⟩) [((⟨#[115]⟩ : ByteArray), [zN 3])] := by
  have hr : RB ((w.alloc (ndO (zN 3))).alloc (.cells #[.string ⟨#[115]⟩, .slice (some ⟨w.heap.size, 0, none⟩) 1 1] 44)) (w.heap.size + 1) ⟨#[115]⟩ (.slice (some ⟨w.heap.size, 0, none⟩) 1 1) := ⟨by
    have h := heap_alloc_new (w.alloc (ndO (zN 3))) (.cells #[.string ⟨#[115]⟩, .slice (some ⟨w.heap.size, 0, none⟩) 1 1] 44)
    rw [World.size_alloc] at h
    exact h⟩
  refine ⟨fun k g hg => ?_, by show 1 ≤ _; omega, fun g hg => ?_⟩
  · cases k with
    | succ k => simp at hg
    | zero =>
      cases hg
      exact ⟨w.heap.size + 1, 0, some ⟨w.heap.size, 0, none⟩, 1, rfl, hr.lt, hr.c0, hr.c1, (rd_one w (zN 3)).below (below_box _ _) (Nat.le_refl _)⟩
  · rw [List.mem_singleton] at hg
    subst hg
    exact ⟨by show 1 ≤ _; omega, one_len _, one_tx 3⟩
theorem gi_nil (w : World) : GI w none [] := ⟨fun k g hg => by simp at hg, by show 0 ≤ _; omega, fun g hg => by cases hg⟩
set_option maxRecDepth 100000 in
set_option maxHeartbeats 4000000 in
theorem lives_any (w : World) : Calls Tryz.prog 8 #[] w fun e w' => e = .returned (.bool true) ∧ Below w.heap.size w w' := by
  obtain ⟨w2, hw2⟩ : ∃ w2, w2 = (w.alloc (ndO (zN 3))).alloc (.cells #[.string ⟨#[115]⟩, .slice (some ⟨w.heap.size, 0, none⟩) 1 1] 44) := ⟨_, rfl⟩
  have HB2 : Hid (Below w.heap.size w w2) := by show Below _ _ _; rw [hw2]; exact (below_box w _).alloc (below_box w _).size _
  have H1 : Hid (∀ _ : Unit, Calls Tryz.prog 25 #[.agg #[.slice (some ⟨w.heap.size + 1, 0, none⟩) 1 1]] w2 fun e w' => e = .returned (.tuple #[.agg #[.int .i64 0, .int .i64 0], .int .i64 0]) ∧ Below w2.heap.size w2 w') := fun _ => by
    have h := checkP_any [((⟨#[115]⟩ : ByteArray), [zN 3])] (some ⟨w.heap.size + 1, 0, none⟩) 1 w2 (by rw [hw2]; exact gi_one w)
    rw [ckG_one] at h
    exact h
  have H2 : Hid (∀ W : World, Calls Tryz.prog 25 #[.agg #[.slice none 0 0]] W fun e w' => e = .returned (.tuple #[.agg #[.int .i64 0, .int .i64 0], .int .i64 3]) ∧ Below W.heap.size W w') := fun W => by
    have h := checkP_any [] none 0 W (gi_nil W)
    rw [ckG_nil] at h
    exact h
  have H3 : Hid (∀ W : World, Calls Tryz.prog 22 #[.string ⟨#[115]⟩] W fun e w' => e = .returned (.bool true) ∧ Below W.heap.size W w') := fun W => by
    have h := nameP_any ⟨#[115]⟩ (by show 1 ≤ _; omega) W
    rw [nmB_s] at h
    exact h
  go_enter Tryz.func8, Tryz.ntmps8
  go_wp2_with fail
  have e2 : (w.alloc (ndO (zN 3))).alloc (.cells #[.string ⟨#[115]⟩, .slice (some ⟨w.heap.size, 0, none⟩) 1 1] 44) = w2 := hw2.symm
  unfold zN ndO at e2
  rw [e2]
  clear e2 hw2
  refine (H1.out ()).mono ?_
  rintro e w3 ⟨rfl, b3⟩
  have HB3 := (show Hid (Below w.heap.size w w3) from HB2.out.trans (b3.mono HB2.out.size))
  clear b3 HB2 H1
  have HB4 := (show Hid (Below w.heap.size w (w3.alloc (.cells #[.int .i64 0, .int .i64 0] 61))) from HB3.out.alloc HB3.out.size _)
  clear HB3
  go_wp2_with fail
  refine (H2.out _).mono ?_
  rintro e w5 ⟨rfl, b5⟩
  have HB5 := (show Hid (Below w.heap.size w w5) from HB4.out.trans (b5.mono HB4.out.size))
  clear b5 HB4 H2
  have HB6 := (show Hid (Below w.heap.size w (w5.alloc (.cells #[.int .i64 0, .int .i64 0] 61))) from HB5.out.alloc HB5.out.size _)
  clear HB5
  go_wp2_with fail
  refine (H3.out _).mono ?_
  rintro e w7 ⟨rfl, b7⟩
  have HB7 := (show Hid (Below w.heap.size w w7) from HB6.out.trans (b7.mono HB6.out.size))
  clear b7 HB6 H3
  go_wp2_with fail
  go_ret
  exact ⟨rfl, HB7.out⟩
end Go.Proofs.YtppggnmlbcdegabGreat.N

namespace Go.Proofs.YtppggnmlbcdegabGreat.N
open Go.RowKit Go.Maps
open Go.Proofs.YtppggnmlbcdegabGreat.T
/-- While a grammar is lent: its box, the lent one's, and what was lent. -/
structure LyS (w0 wr : World) (wb k : Nat) (u1 u2 : Value) (g cap : Nat) (ov : List Le) : Prop where
  l : LgB w0 wr g cap ov
  x1 : GX wr wb u1
  x2 : GX wr k u2
theorem LyS.later {w0 wr W' : World} {wb k : Nat} {u1 u2 : Value} {g cap : Nat} {ov : List Le} (h : LyS w0 wr wb k u1 u2 g cap ov) (hb : Below wr.heap.size wr W') : LyS w0 W' wb k u1 u2 g cap ov := ⟨h.l.later hb, h.x1.below hb, h.x2.below hb⟩
end Go.Proofs.YtppggnmlbcdegabGreat.N

namespace Go.Proofs.YtppggnmlbcdegabGreat.N
open Go.RowKit Go.Maps
open Go.Proofs.YtppggnmlbcdegabGreat.T
set_option maxRecDepth 100000 in
set_option maxHeartbeats 8000000 in
/-- The program's Rename where it refuses. -/
theorem renameP_no (gs : GL) (A : Option Addr) (c : Nat) (r : Int) (s : ByteArray) (hs : s.size ≤ 140737488355328) (w : World) (hp : GI w A gs) (hn : ¬ rnE gs r s = 0) :
    Calls Tryz.prog 6 #[.agg #[.slice A gs.length c], .int .i64 r, .string s] w fun e w' => RnA w w' e gs r s ∧ Below w.heap.size w w' := by
  have HA := (show Hid (RnS w ((w.alloc (.cells #[.slice A gs.length c] 24)).alloc (.cells #[.slice none 0 0] 24)) (.slice A gs.length c)) from RnS.mk2 _ _)
  have HP := (show Hid (GI w A gs) from hp)
  have HNb := (show Hid (∀ W, Below w.heap.size w W → Calls Tryz.prog 21 #[.agg #[.slice A gs.length c], .int .i64 r] W fun e w' => (∃ mv, e = .returned (.tuple #[mv, .int .i64 (lkR gs r)]) ∧ (lkR gs r = 0 → ∃ B, W.heap.size ≤ B ∧ mv = .map (some B) ∧ NmM w' B gs)) ∧ Below W.heap.size W w') from fun W hW => numbW_any gs A c r W (HP.out.later hW))
  have HNm := (show Hid (∀ W, Calls Tryz.prog 22 #[.string s] W fun e w' => e = .returned (.bool (nmB s)) ∧ Below W.heap.size W w') from fun W => nameP_any s hs W)
  have q1 := HA.out.x.cl
  clear hp HP
  go_enter Tryz.func6, Tryz.ntmps6
  go_wp2_with fail
  generalize (w.alloc (.cells #[.slice A gs.length c] 24)).alloc (.cells #[.slice none 0 0] 24) = w1 at *
  go_wp2_with fail
  refine (HNb.out _ HA.out.b).mono ?_
  rintro e w2 ⟨⟨mv, rfl, hm⟩, b2⟩
  have HA2 := (show Hid (RnS w w2 (.slice A gs.length c)) from HA.out.later b2)
  clear HA q1 HNb b2
  by_cases hz : lkR gs r = 0
  · obtain ⟨B, hB, rfl, hM⟩ := hm hz
    have HM := (show Hid (NmM w2 B gs) from hM)
    have tz : (lkR gs r != 0) = false := by rw [hz]; rfl
    have HZ := (show Hid (lkR gs r = 0) from hz)
    clear hm hM hz hB
    have HZ2 := HZ
    rw [HZ.out] at tz ⊢
    clear HZ2
    go_wp2_with fail
    refine (HNm.out _).mono ?_
    rintro e w3 ⟨rfl, b3⟩
    have HA3 := (show Hid (RnS w w3 (.slice A gs.length c)) from HA2.out.later b3)
    have HM3 := (show Hid (NmM w3 B gs) from HM.out.same (b3.block B HM.out.lt))
    clear HA2 HM b3 HNm tz
    cases hb : nmB s with
    | false =>
      have HE := (show Hid _ from rnE_name HZ.out hb)
      have hyf := HA3.out.y.fz
      have hyc := HA3.out.y.cl
      clear HM3 HZ hn
      go_wp2_with fail
      refine ret_gx2 rfl rfl rfl rfl (HA3.out.y.set _) ?_
      exact ⟨RnA.none HE.out, HA3.out.b.setCell (p := ⟨w.heap.size + 1, 0, none⟩) (by show w.heap.size ≤ w.heap.size + 1; omega) _⟩
    | true =>
      obtain ⟨i, hf, hir⟩ : ∃ i : Nat, fdG gs s = some i ∧ (i : Int) ≠ r := by
        refine Classical.byContradiction fun q => hn ?_
        unfold rnE
        rw [if_neg (fun z => z HZ.out), if_neg (by rw [hb]; exact Bool.noConfusion), if_neg]
        rintro ⟨z1, z2⟩
        cases hf : fdG gs s with
        | none => rw [fdN_none hf] at z1; omega
        | some i => rw [fdN_some hf] at z2; exact q ⟨i, hf, z2⟩
      have HE := (show Hid _ from rnE_twice HZ.out hb (by rw [fdN_some hf]; omega) (by rw [fdN_some hf]; exact hir))
      obtain ⟨c0, hrun, hc0⟩ := HM3.out.look s hs
      obtain rfl := hc0 i hf
      rw [hf, Option.isSome_some] at hrun
      have ti : ((i : Int) != r) = true := by rw [bne, beq_eq_false_iff_ne.2 hir]; rfl
      have hyf := HA3.out.y.fz
      have hyc := HA3.out.y.cl
      clear HM3 HZ hn hf hc0 hir
      go_wp2_with fail
      refine ret_gx2 rfl rfl rfl rfl (HA3.out.y.set _) ?_
      exact ⟨RnA.none HE.out, HA3.out.b.setCell (p := ⟨w.heap.size + 1, 0, none⟩) (by show w.heap.size ≤ w.heap.size + 1; omega) _⟩
  · have tz : (lkR gs r != 0) = true := by rw [bne, beq_eq_false_iff_ne.2 hz]; rfl
    have HE := (show Hid _ from rnE_bad (s := s) hz)
    have hyf := HA2.out.y.fz
    have hyc := HA2.out.y.cl
    clear hm hz HNm
    generalize lkR gs r = cd at *
    go_wp2_with fail
    refine ret_gx2 rfl rfl rfl rfl (HA2.out.y.set _) ?_
    exact ⟨RnA.none HE.out, HA2.out.b.setCell (p := ⟨w.heap.size + 1, 0, none⟩) (by show w.heap.size ≤ w.heap.size + 1; omega) _⟩
end Go.Proofs.YtppggnmlbcdegabGreat.N

namespace Go.Proofs.YtppggnmlbcdegabGreat.N
open Go.RowKit Go.Maps
open Go.Proofs.YtppggnmlbcdegabGreat.T
theorem renameP_any (gs : GL) (A : Option Addr) (c : Nat) (r : Int) (s : ByteArray) (hs : s.size ≤ 140737488355328) (w : World) (hp : GI w A gs) :
    Calls Tryz.prog 6 #[.agg #[.slice A gs.length c], .int .i64 r, .string s] w fun e w' => RnA w w' e gs r s ∧ Below w.heap.size w w' := by
  by_cases h : rnE gs r s = 0
  · obtain ⟨n, rfl⟩ : ∃ n : Nat, r = (n : Int) := ⟨r.toNat, by have := (lkR_zero (rnE_zero h).1).2.1; omega⟩
    exact renameP_yes gs A c n s hs w hp h
  · exact renameP_no gs A c r s hs w hp h
theorem renameD_any (gs : GL) (A : Option Addr) (c : Nat) (r : Int) (s : ByteArray) (hs : s.size ≤ 140737488355328) (w : World) (hp : GI w A gs) :
    Calls Tryz.prog 5 #[.agg #[.slice A gs.length c], .int .i64 r, .string s] w fun e w' => RnA w w' e gs r s ∧ Below w.heap.size w w' := by
  by_cases h : rnE gs r s = 0
  · obtain ⟨n, rfl⟩ : ∃ n : Nat, r = (n : Int) := ⟨r.toNat, by have := (lkR_zero (rnE_zero h).1).2.1; omega⟩
    exact renameD_yes gs A c n s hs w hp h
  · exact renameD_no gs A c r s hs w hp h
theorem rnG_sizes {gs : GL} {r : Int} {s : ByteArray} (h : GmL gs) : GmL (rnG gs r s) := by
  unfold rnG
  split
  · refine ⟨by rw [reG_len]; exact h.1, fun g hg => ?_⟩
    obtain ⟨k, hk⟩ := List.getElem?_of_mem hg
    rw [reG_get] at hk
    cases hq : gs[k]? with
    | none => rw [hq] at hk; cases hk
    | some x =>
      rw [hq] at hk
      cases hk
      show (List.map _ _).length ≤ _
      rw [List.length_map]
      exact h.2 x (List.mem_of_getElem? hq)
  · exact ⟨Nat.zero_le _, (fun g hg => by cases hg)⟩
end Go.Proofs.YtppggnmlbcdegabGreat.N

namespace Go.Proofs.YtppggnmlbcdegabGreat.N
open Go.RowKit Go.Maps
open Go.Proofs.YtppggnmlbcdegabGreat.T

open U (nI own_get own_slice wpList_app1 below_grown TT Out info_split)
theorem Tryz.info4 : (Tryz.prog.info? 4).map (fun i => (i.zero, i.size, i.bytes)) = some (some (.bool false), 1, 1) := by kernel_rfl
theorem own_take {W : World} {B e g n cap k : Nat} {xs : List Value} (h : W.ownsRow B e 1 (.slice (some ⟨g, 0, none⟩) n cap) n xs) (hk : k ≤ n) : W.ownsRow B e 1 (.slice (some ⟨g, 0, none⟩) k cap) k (xs.take k) := by
  have hl := h.1
  rcases h.2 with ⟨q, _⟩ | ⟨g', cap', cur, q, hb, hg, h1, h2, h3, h4⟩
  · cases q
  · cases q
    refine ⟨by rw [List.length_take]; omega, .inr ⟨g, cap, cur, rfl, hb, hg, by omega, h2, h3, ?_⟩⟩
    rw [← h4, List.take_take]
    congr 1
    omega
/-- While it is found out what a rule comes to. -/
structure CmS (w wr : World) (gs : GL) (r gb : Nat) (l : List Bool) (ah : List Nat) (x : Option Nat) (u : Value) : Prop where
  b : Below w.heap.size w wr
  m : wr.ownsRow w.heap.size 4 1 (.slice (some ⟨gb, 0, none⟩) gs.length gs.length) gs.length (l.map Value.bool)
  a : wr.ownsRow w.heap.size 3 1 u ah.length (ah.map nI)
  i : WlI gs.length (cG gs) r l ah x
theorem CmS.store {w wr : World} {gs : GL} {r gb : Nat} {l : List Bool} {ah : List Nat} {x : Option Nat} {u : Value} (h : CmS w wr gs r gb l ah x u) (j : Nat) : Below w.heap.size w (wr.setCell ⟨gb, j, none⟩ (.bool true)) ∧ (wr.setCell ⟨gb, j, none⟩ (.bool true)).ownsRow w.heap.size 4 1 (.slice (some ⟨gb, 0, none⟩) gs.length gs.length) gs.length ((l.set j true).map Value.bool) ∧ (wr.setCell ⟨gb, j, none⟩ (.bool true)).ownsRow w.heap.size 3 1 u ah.length (ah.map nI) := by
  obtain ⟨st1, st2⟩ := h.m.stored j (.bool true)
  refine ⟨below_grown h.b st2 (fun k e => by cases e; exact (h.m.lt gb rfl).1), ?_, U.own_kept h.a st2 (fun k e => by cases e; exact own_apart h.m h.a (by decide) rfl)⟩
  rw [List.map_set]
  exact st1
theorem CmS.mark {w wr w5 : World} {gs : GL} {r gb y j : Nat} {l : List Bool} {ah : List Nat} {u u' : Value} (h : CmS w wr gs r gb l ah (some y) u) (hy : y < gs.length ∧ (y = r ∨ l[y]? = some true)) (hc : cG gs y j = true) (hj : j < gs.length)
    (ho : w5.ownsRow w.heap.size 3 1 u' (ah.length + 1) (ah.map nI ++ [nI j])) (hg : (wr.setCell ⟨gb, j, none⟩ (.bool true)).grownBy w5 u.ownBlock) : CmS w w5 gs r gb (l.set j true) (ah ++ [j]) (some y) u' := by
  obtain ⟨s1, s2, s3⟩ := h.store j
  refine ⟨below_grown s1 hg (fun k e => (s3.lt k e).1), U.own_kept s2 hg (fun k e => own_apart s3 s2 (by decide) e), ?_, h.i.mark hy hc hj⟩
  rw [List.length_append, List.map_append]
  exact ho
theorem CmS.pop {w wr : World} {gs : GL} {r gb g cap k y : Nat} {l : List Bool} {ah : List Nat} (h : CmS w wr gs r gb l (ah ++ [y]) none (.slice (some ⟨g, 0, none⟩) (k + 1) cap)) (hk : ah.length = k) : CmS w wr gs r gb l ah (some y) (.slice (some ⟨g, 0, none⟩) k cap) ∧ y < gs.length ∧ (y = r ∨ l[y]? = some true) := by
  obtain ⟨i1, i2⟩ := h.i.pop
  refine ⟨⟨h.b, h.m, ?_, i1⟩, i2⟩
  have h1 := h.a
  rw [List.length_append, hk] at h1
  have h2 := own_take h1 (k := k) (by omega)
  rw [List.map_append, List.take_left' (by rw [List.length_map, hk])] at h2
  rw [hk]
  exact h2
theorem CmS.start {w w1 : World} {gs : GL} {r : Nat} (hr : r < gs.length) (ho : w1.ownsRow w.heap.size 4 1 (.slice (some ⟨w.heap.size, 0, none⟩) gs.length gs.length) gs.length (List.replicate gs.length (.bool false))) (hg : w.grownBy w1 none) :
    CmS w (w1.alloc (.cells #[.int .i64 (r : Int)] 3)) gs r w.heap.size (List.replicate gs.length false) [r] none (.slice (some ⟨w1.heap.size, 0, none⟩) 1 1) := by
  have hb : Below w.heap.size w w1 := below_grown (Below.refl _ _) hg (fun k e => by cases e)
  refine ⟨hb.alloc hb.size _, ?_, ?_, WlI.start hr⟩
  · rw [List.map_replicate]; exact ho.alloc _
  · exact World.ownsRow_lit w1 #[.int .i64 (r : Int)] 1 hb.size (by unfold maxLen; omega) rfl
/-- What comesTo answers. -/
def CmV (w w' : World) (gs : GL) (r : Nat) (e : Ending) : Prop := ∃ (u : Value) (l : List Bool), e = .returned u ∧ l.length = gs.length ∧ (∀ j, l[j]? = some true ↔ Rc gs.length (cG gs) r j) ∧ w'.ownsRow w.heap.size 4 1 u gs.length (l.map Value.bool) ∧ u.ownBlock = some w.heap.size
set_option maxRecDepth 100000 in
set_option maxHeartbeats 16000000 in
theorem comesTo_any {gs : GL} (hR : RtG gs) {N r : Nat} {v : Value} {xs : List Value} (hr : r < gs.length) (w : World) (hT : TT w N 36 3 v (ntM gs) xs) :
    Calls Tryz.prog 31 #[v, .int .i64 (r : Int)] w fun e w' => CmV w w' gs r e ∧ Below w.heap.size w w' := by
  have hn := hR.n2
  have hlx : xs.length = gs.length := hT.len.trans (ntM_len gs)
  obtain ⟨i0, hinf, hz0, hz1, hz2⟩ := info_split Tryz.info4
  obtain ⟨w1, hmk, ho1, hg1⟩ := run_make_full (P := Tryz.prog) w w.heap.size 73 4 i0 (.bool false) 1 Tryz.underlying73 hinf hz0 hz1 .i64 .i64 gs.length (by rw [hz2]; omega) (by unfold maxLen; omega) (Nat.le_refl _)
  have ho1' : w1.ownsRow w.heap.size 4 1 (.slice (some ⟨w.heap.size, 0, none⟩) gs.length gs.length) gs.length (List.replicate gs.length (.bool false)) := by
    have e : (madeCells (Value.cells (.bool false)) (gs.length * 1)).toList = List.replicate gs.length (Value.bool false) := by rw [Nat.mul_one]; exact toList_madeCells_one _ _
    rw [e] at ho1
    exact ho1
  have HS := (show Hid (CmS w (w1.alloc (.cells #[.int .i64 (r : Int)] 3)) gs r w.heap.size (List.replicate gs.length false) [r] none (.slice (some ⟨w1.heap.size, 0, none⟩) 1 1)) from CmS.start hr ho1' hg1)
  have HW0 := (show Hid (wlM (List.replicate gs.length false) [r] = 2 * gs.length + 1) from by show wlM _ _ = _; unfold wlM; rw [List.count_replicate_self]; rfl)
  have HT := (show Hid (TT w N 36 3 v (ntM gs) xs) from hT)
  have HR := (show Hid (RtG gs) from hR)
  obtain ⟨Av, cv, hv⟩ := own_slice hT.o
  rw [hlx] at hv
  subst hv
  have HNe := (show Hid (∀ (y : Nat) (wr : World), y < gs.length → Below w.heap.size w wr → ∃ g0 Ac cc, Av = some ⟨g0, 0, none⟩ ∧ wr.cell? ⟨g0, y, none⟩ = some (.slice Ac (cL gs y).length cc) ∧ ∀ (j z : Nat), (cL gs y)[j]? = some z → ∃ gc, Ac = some ⟨gc, 0, none⟩ ∧ gc < w.heap.size ∧ w.cell? ⟨gc, j, none⟩ = some (.int .i64 (z : Int))) from fun y wr hy hb => by
    obtain ⟨x, row, hx, hrow, hox⟩ := hT.at' (i := y) (by rw [ntM_len]; exact hy)
    rw [ntM_get hy] at hrow
    cases hrow
    rw [List.length_map] at hox
    obtain ⟨Ac, cc, rfl⟩ := own_slice hox
    obtain ⟨g0, cp, e, _, lt0, x0, _⟩ := own_get hT.o hx
    have e1 : Av = some ⟨g0, 0, none⟩ := by injection e
    clear e
    subst e1
    refine ⟨g0, Ac, cc, rfl, (hb.cell (p := ⟨g0, y, none⟩) lt0).trans x0, fun j z hz => ?_⟩
    obtain ⟨gc, cp2, e2, _, lt2, x2, _⟩ := own_get hox (j := j) (x := nI z) (by rw [List.getElem?_map, hz]; rfl)
    injection e2 with e3 _ _
    exact ⟨gc, e3, lt2, x2⟩)
  clear hT hR ho1 ho1' hg1 hinf hz0 hz1 hz2 i0 hlx HT
  go_enter Tryz.func31, Tryz.ntmps31
  go_wp2_with fail
  clear hmk
  generalize hwa : w1.alloc (.cells #[.int .i64 (r : Int)] 3) = wa at *
  generalize hka : w1.heap.size = ka at *
  clear hwa hka
  have HGb := (show Hid (w.heap.size = w.heap.size) from rfl)
  go_loopg [6] (2 * gs.length + 1) (fun gk u wr => ∃ (m : Nat) (ah : List Nat) (l : List Bool) (A2 : Option Addr) (c2 : Nat), u = .slice A2 m c2 ∧ m ≤ 401 ∧ Hid (ah.length = m ∧ wlM l ah = gk ∧ gk ≤ 401) ∧ Hid (CmS w wr gs r w.heap.size l ah none (.slice A2 m c2)))
  case atStart => exact ⟨1, [r], List.replicate gs.length false, some ⟨ka, 0, none⟩, 1, rfl, by omega, ⟨rfl, HW0.out, by omega⟩, HS⟩
  case round =>
    obtain ⟨m, ah, l, A2, c2, rfl, hm, HL, HW⟩ := hrel
    clear HS HW0
    cases m with
    | zero =>
      have hah : ah = [] := List.eq_nil_of_length_eq_zero HL.out.1
      subst hah
      have HD := (show Hid (∀ j, l[j]? = some true ↔ Rc gs.length (cG gs) r j) from fun j => HW.out.i.done j)
      have HLn := (show Hid (l.length = gs.length) from HW.out.i.ln)
      have HO := (show Hid (wr.ownsRow w.heap.size 4 1 (.slice (some ⟨w.heap.size, 0, none⟩) gs.length gs.length) gs.length (l.map Value.bool)) from HW.out.m)
      have HB := (show Hid (Below w.heap.size w wr) from HW.out.b)
      clear HW HL HNe HR
      go_wp2_with fail
      go_ret
      exact ⟨⟨_, l, rfl, HLn.out, HD.out, HO.out, rfl⟩, HB.out⟩
    | succ k =>
      obtain ⟨ah', y, rfl⟩ : ∃ ah' y, ah = ah' ++ [y] := by
        have hne : ah ≠ [] := fun q => by have := HL.out.1; rw [q] at this; cases this
        exact ⟨ah.dropLast, ah.getLast hne, (List.dropLast_concat_getLast hne).symm⟩
      have hak : ah'.length = k := by have := HL.out.1; rw [List.length_append] at this; simpa using this
      have HAk := (show Hid (ah'.length = k) from hak)
      obtain ⟨ga, ca, ea, _, _⟩ := HW.out.a.form (by rw [List.length_append, hak]; simp)
      obtain ⟨rfl, rfl⟩ : A2 = some ⟨ga, 0, none⟩ ∧ c2 = ca := by injection ea with ea1 ea0 ea2; exact ⟨ea1, ea2⟩
      clear ea
      obtain ⟨gx, cx, ex, _, _, xa, _⟩ := own_get HW.out.a (j := k) (x := nI y) (by rw [List.getElem?_map, List.getElem?_append_right (by omega), hak, Nat.sub_self]; rfl)
      have exg : ga = gx := by injection ex with ex1; injection ex1 with ex1; injection ex1
      clear ex
      subst exg
      have hc2 : k ≤ c2 := by
        rcases HW.out.a.2 with ⟨q, _⟩ | ⟨g', cap', cur, q, _, _, q1, _⟩
        · cases q
        · have e2 : c2 = cap' := by injection q
          rw [List.length_append, hak] at q1
          simp at q1
          omega
      have xa' : wr.cell? ⟨ga, k, none⟩ = some (.int .i64 (y : Int)) := xa
      obtain ⟨P1, P2, P3⟩ := HW.out.pop hak
      have HP1 := (show Hid (CmS w wr gs r w.heap.size l ah' (some y) (.slice (some ⟨ga, 0, none⟩) k c2)) from P1)
      have HP2 := (show Hid (y < gs.length ∧ (y = r ∨ l[y]? = some true)) from ⟨P2, P3⟩)
      have HM1 := (show Hid (wlM l ah' + 1 = gk ∧ gk ≤ 401) from ⟨by have h := HL.out.2.1; unfold wlM at h ⊢; rw [List.length_append] at h; simp at h; omega, HL.out.2.2⟩)
      obtain ⟨g0, Ac, cc, rfl, x0, hcs⟩ := HNe.out y wr P2 HW.out.b
      have HCs := (show Hid (∀ (j z : Nat), (cL gs y)[j]? = some z → ∃ gc, Ac = some ⟨gc, 0, none⟩ ∧ gc < w.heap.size ∧ w.cell? ⟨gc, j, none⟩ = some (.int .i64 (z : Int))) from hcs)
      have z0 : (0 : Int) ≤ (k : Int) := by omega
      have z1 : (0 : Int) ≤ (y : Int) := by omega
      have z2 : (y : Int) < (gs.length : Int) := by omega
      have hcl := cL_len gs y
      clear HW HL xa P1 P2 P3 hak hcs HNe
      go_wp2_with fail
      clear xa' x0
      go_loopw [6, 34] (fun u t wr => ∃ (j m : Nat) (ah : List Nat) (l : List Bool) (A2 : Option Addr) (c2 : Nat), j ≤ (cL gs y).length ∧ t = .int .i64 (j : Int) ∧ u = .slice A2 m c2 ∧ m ≤ 401 ∧ Hid (ah.length = m ∧ wlM l ah + 1 ≤ gk ∧ gk ≤ 401 ∧ (y = r ∨ l[y]? = some true)) ∧ Hid (∀ i z, i < j → (cL gs y)[i]? = some z → l[z]? = some true) ∧ Hid (CmS w wr gs r w.heap.size l ah (some y) (.slice A2 m c2))) (fun _ t _ => (cL gs y).length - (intOf t).toNat)
      case atStart => exact ⟨0, k, ah', l, some ⟨ga, 0, none⟩, c2, by omega, by go_num, rfl, by omega, ⟨HAk.out, by have := HM1.out.1; omega, HM1.out.2, HP2.out.2⟩, (fun i z hi => by omega), HP1⟩
      case round =>
        obtain ⟨j, m, ah, l, A2, c2, hj, rfl, rfl, hm, HL, HMk, HW⟩ := hrel
        have HP2y := (show Hid (y < gs.length) from HP2.out.1)
        clear HP1 HM1 HAk HP2
        by_cases hlt : j < (cL gs y).length
        · obtain ⟨z, hz⟩ : ∃ z, (cL gs y)[j]? = some z := ⟨_, List.getElem?_eq_getElem hlt⟩
          obtain ⟨gc, rfl, ltc, xc⟩ := HCs.out j z hz
          have xc' := (HW.out.b.cell (p := ⟨gc, j, none⟩) ltc).trans xc
          have hzm := cL_mem.1 (List.mem_of_getElem? hz)
          have hll := HW.out.i.ln
          obtain ⟨bz, hbz⟩ : ∃ bz, l[z]? = some bz := ⟨_, List.getElem?_eq_getElem (by omega)⟩
          obtain ⟨gm, cm, em, _, _, xm, fm⟩ := own_get HW.out.m (j := z) (x := .bool bz) (by rw [List.getElem?_map, hbz]; rfl)
          have emg : w.heap.size = gm := by injection em with e1; injection e1 with e1; injection e1
          clear em
          subst emg
          have y0 : (0 : Int) ≤ (j : Int) := by omega
          have y1 : (j : Int) < ((cL gs y).length : Int) := by omega
          have y2 : (0 : Int) ≤ (z : Int) := by omega
          have y3 : (z : Int) < (gs.length : Int) := by omega
          cases bz with
          | true =>
            have HMk2 := (show Hid (∀ i q, i < j + 1 → (cL gs y)[i]? = some q → l[q]? = some true) from fun i q hi hq => by
              by_cases e : i = j
              · subst e; rw [hz] at hq; cases hq; exact hbz
              · exact HMk.out i q (by omega) hq)
            clear HMk hz hzm hll hbz xc ltc HR fm
            go_wp2_with fail
            go_roundw
            case rel => exact ⟨j + 1, m, ah, l, A2, c2, by omega, by go_num, rfl, hm, HL, HMk2, HW⟩
            case measure => simp [intOf]; omega
          | false =>
            have HMk2 := (show Hid (∀ i q, i < j + 1 → (cL gs y)[i]? = some q → (l.set z true)[q]? = some true) from fun i q hi hq => get_set.2 (by
              by_cases e : i = j
              · subst e; rw [hz] at hq; cases hq; exact .inl ⟨rfl, by omega⟩
              · exact .inr (HMk.out i q (by omega) hq)))
            have hwl := wlM_mark (ah := ah) hbz
            have hm2 : m + 1 ≤ 401 := by
              have h1 := HL.out.2.1
              have h2 := HL.out.2.2.1
              have h3 := HL.out.1
              unfold wlM at hwl h1
              rw [List.length_append] at hwl
              simp at hwl
              omega
            have HL2 := (show Hid ((ah ++ [z]).length = m + 1 ∧ wlM (l.set z true) (ah ++ [z]) + 1 ≤ gk ∧ gk ≤ 401 ∧ (y = r ∨ (l.set z true)[y]? = some true)) from ⟨by rw [List.length_append, HL.out.1]; rfl, by have := HL.out.2.1; omega, HL.out.2.2.1, HL.out.2.2.2.imp id fun q => get_set.2 (.inr q)⟩)
            have HSt := (show Hid ((wr.setCell ⟨w.heap.size, z, none⟩ (.bool true)).ownsRow w.heap.size 3 1 (.slice A2 m c2) m (ah.map nI)) from by have h := (HW.out.store z).2.2; rw [HL.out.1] at h; exact h)
            have HSb := (show Hid (w.heap.size ≤ (wr.setCell ⟨w.heap.size, z, none⟩ (.bool true)).heap.size) from (HW.out.store z).1.size)
            have HSz := (show Hid ((wr.setCell ⟨w.heap.size, z, none⟩ (.bool true)).heap.size = wr.heap.size) from by show _ = _; simp)
            have HPu := (show Hid (∀ (u' : Value) (w5 : World), w5.ownsRow w.heap.size 3 1 u' (m + 1) (ah.map nI ++ [nI z]) → (wr.setCell ⟨w.heap.size, z, none⟩ (.bool true)).grownBy w5 (Value.slice A2 m c2).ownBlock → CmS w w5 gs r w.heap.size (l.set z true) (ah ++ [z]) (some y) u') from fun u' w5 h1 h2 => HW.out.mark ⟨HP2y.out, HL.out.2.2.2⟩ hzm.2 hzm.1 (by rw [HL.out.1]; exact h1) h2)
            clear HMk hz hzm hll hbz xc ltc HR HW HL hwl
            go_wp2_with (at_builtin; refine U.wpList_app1H wr.heap.size HSz.out rfl _ _ 36 rfl (.int .i64 0) 8 Tryz.underlying36 Tryz.info3 rfl w.heap.size m _ (ah.map nI) rfl rfl HSt.out rfl (by omega) (by decide) HSb.out ?_; intro g3 cap3 w5 ho5 hg5 hat5 hl5; have HW5 := (show Hid (CmS w w5 gs r w.heap.size (l.set z true) (ah ++ [z]) (some y) (.slice (some ⟨g3, 0, none⟩) (m + 1) cap3)) from HPu.out _ _ ho5 hg5); clear ho5 hg5 hat5 hl5 HPu HSt HSb HSz xm fm xc')
            go_roundw
            case rel => exact ⟨j + 1, m + 1, ah ++ [z], l.set z true, some ⟨g3, 0, none⟩, cap3, by omega, by go_num, rfl, hm2, HL2, HMk2, HW5⟩
            case measure => simp [intOf]; omega
        · obtain rfl : j = (cL gs y).length := by omega
          have HW2 := (show Hid (CmS w wr gs r w.heap.size l ah none (.slice A2 m c2)) from ⟨HW.out.b, HW.out.m, HW.out.a, HW.out.i.shut fun q hq => by
            have hlt2 : q < gs.length := by
              unfold cG at hq
              cases hg : gs[y]? with
              | none => rw [hg] at hq; cases hq
              | some g =>
                rw [hg] at hq
                simp only [List.any_eq_true, Bool.and_eq_true, decide_eq_true_eq] at hq
                obtain ⟨nd, _, _, h3⟩ := hq
                exact fdG_lt h3
            obtain ⟨i, hi, e⟩ := List.mem_iff_getElem.1 (cL_mem.2 ⟨hlt2, hq⟩)
            exact HMk.out i q hi (by rw [List.getElem?_eq_getElem hi, e])⟩)
          have HL2 := (show Hid (ah.length = m ∧ wlM l ah ≤ 401) from ⟨HL.out.1, by have := HL.out.2.1; have := HL.out.2.2.1; omega⟩)
          have HL3 := (show Hid (wlM l ah < gk) from by have := HL.out.2.1; show wlM l ah < gk; omega)
          clear HW HMk HL HCs HR HP2y
          go_wp2_with fail
          go_roundg (wlM l ah)
          case measure => exact HL3.out
          case rel => exact ⟨m, ah, l, A2, c2, rfl, hm, ⟨HL2.out.1, rfl, HL2.out.2⟩, HW2⟩
end Go.Proofs.YtppggnmlbcdegabGreat.N
