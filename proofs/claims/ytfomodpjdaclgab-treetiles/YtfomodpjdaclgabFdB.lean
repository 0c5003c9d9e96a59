/- DERIVED. Walks: find, Begin, Parts, Height. -/
import Derived.Test.YtfomodpjdaclgabFdA
namespace Go.Proofs.Ytfomodpjdaclgab
open Go.RowKit

theorem own_base {w : World} {a b e size : Nat} {v : Value} {n : Nat} {xs : List Value} (h : w.ownsRow b e size v n xs) (hab : a ≤ b) : w.ownsRow a e size v n xs := by
  obtain ⟨h1, h2⟩ := h
  refine ⟨h1, ?_⟩
  rcases h2 with h2 | ⟨g, cap, cur, h3, h4, h5⟩
  · exact .inl h2
  · exact .inr ⟨g, cap, cur, h3, Nat.le_trans hab h4, h5⟩
theorem JF.xin {L : List Nd} {at' : Int} {b3 b7 b8 Bc B k : Nat} {X : Nat → Prop} {w : World} (h : JF L at' b3 b7 b8 Bc B k X w) : ∀ b, X b → b = b7 ∨ b = b8 ∨ B ≤ b := fun b hb => by
  obtain ⟨v, hs, hx, h1, h2⟩ := h.s
  rcases (hx b).1 hb with q | q | q
  · exact .inl q
  · exact .inr (.inl q)
  · by_cases r : ∃ j : Nat, at' = j ∧ j < k
    · obtain ⟨j, q1, q2⟩ := r
      exact .inr (.inr ((h1 j q1 q2).lt b q).1)
    · rw [h2 (fun j q1 q2 => r ⟨j, q1, q2⟩)] at q
      simp [Value.ownBlock] at q
def JD (L : List Nd) (at' : Int) (b3 b4 b7 b8 Bc B k : Nat) (X : Nat → Prop) (w : World) : Prop := JF L at' b3 b7 b8 Bc B k X w ∧ PB w b4 0 0 0 ∧ b4 < B ∧ b4 ≠ b7 ∧ b4 ≠ b8
theorem see54d (L : List Nd) (at' : Int) (b3 b4 b7 b8 Bc B : Nat) : See L 36 #[.pointer (some ⟨b3, 0, none⟩), .pointer (some ⟨b7, 0, none⟩), .pointer (some ⟨b8, 0, none⟩)] Bc B (JD L at' b3 b4 b7 b8 Bc B) := by
  have hs := see54 L at' b3 b7 b8 Bc B
  refine ⟨fun k X w w' h hz hb => ⟨hs.kept k X w w' h.1 hz hb, h.2.1.same (hb b4 (.inl h.2.2.1)), h.2.2⟩, fun k X w h => hs.far k X w h.1, fun k X w A c h hB hk he hr hA => ?_⟩
  refine (hs.call k X w A c h.1 hB hk he hr hA).mono fun e w' ⟨hu, X', hj, hk, hx⟩ => ⟨hu, X', ⟨hj, h.2.1.same (hk.block b4 h.2.1.lt (fun q => ?_)), h.2.2⟩, hk, hx⟩
  obtain ⟨_, _, n1, n2, n3⟩ := h
  rcases JF.xin (by assumption) b4 q with q | q | q
  · exact n2 q
  · exact n3 q
  · omega
def fdE (L : List Nd) (at' : Int) : Int := if (ck L).2 ≠ 0 then (ck L).2 else if at' < 0 ∨ (L.length : Int) ≤ at' then 1 else 0
def bgE (L : List Nd) (at' : Int) : Int := if fdE L at' = 0 then ((pt L at'.toNat).1 : Int) else 0
def htE (L : List Nd) : Int := if (ck L).2 = 0 then ((pt L (L.length - 1)).2.2 : Int) else 0
/-- What find answers. -/
def FdV (w w' : World) (L : List Nd) (at' : Int) (e : Ending) : Prop :=
  (fdE L at' ≠ 0 ∧ e = .returned (.tuple #[.agg #[.int .i64 0, .int .i64 0, .int .i64 0], .slice none 0 0, .int .i64 (fdE L at')])) ∨
  (fdE L at' = 0 ∧ Rt L ∧ ∃ j : Nat, at' = j ∧ j < L.length ∧ ∃ v, e = .returned (.tuple #[ptG (pt L j), v, .int .i64 0]) ∧ w'.ownsRow w.heap.size 3 1 v (arN (opAt L j)) (lastc ((run L j).take (arN (opAt L j))).reverse))

set_option maxRecDepth 100000 in
set_option maxHeartbeats 8000000 in
theorem find_any (L : List Nd) (Ap : Option Addr) (cp : Nat) (at' : Int) (hL : L.length ≤ 140737488355328) (hT : ∀ n ∈ L, n.tx.size ≤ 140737488355328) (w : World) (hp : RdN w Ap L) :
    Calls Try.prog 23 #[.slice Ap L.length cp, .int .i64 at'] w fun e w' => FdV w w' L at' e ∧ Below w.heap.size w w' := by
  obtain ⟨W4, hW4⟩ : ∃ W4, W4 = (((w.alloc (.cells #[.int .i64 at'] 3)).alloc (.cells #[.int .i64 0, .int .i64 0, .int .i64 0] 52)).alloc (.cells #[.int .i64 0, .int .i64 0, .int .i64 0] 52)).alloc (.cells #[.slice none 0 0] 24) := ⟨_, rfl⟩
  have hB1 := below_box w (.cells #[.int .i64 at'] 3)
  have hB4 : Below w.heap.size w W4 := by
    rw [hW4]
    exact ((hB1.alloc hB1.size _).alloc (by simp; omega) _).alloc (by simp; omega) _
  have hs4 : W4.heap.size = w.heap.size + 4 := by rw [hW4]; simp
  have hJ : JD L at' w.heap.size (w.heap.size + 1) (w.heap.size + 2) (w.heap.size + 3) w.heap.size W4.heap.size 0 (fun b => b = w.heap.size + 2 ∨ b = w.heap.size + 3) W4 := by
    have n1 : ∀ j : Nat, at' = j → ¬ j < 0 := fun j _ => by omega
    have e0 : W4.heap[w.heap.size]? = some (.cells #[.int .i64 at'] 3 (0, 0)) := by
      rw [hW4, (below_box _ _).block _ (by simp; omega), (below_box _ _).block _ (by simp; omega), (below_box _ _).block _ (by simp)]
      exact heap_alloc_new w _
    have e1 : W4.heap[w.heap.size + 1]? = some (.cells #[.int .i64 0, .int .i64 0, .int .i64 0] 52 (0, 0)) := by
      rw [hW4, (below_box _ _).block _ (by simp), (below_box _ _).block _ (by simp)]
      have h := heap_alloc_new (w.alloc (.cells #[.int .i64 at'] 3)) (.cells #[.int .i64 0, .int .i64 0, .int .i64 0] 52)
      rw [World.size_alloc] at h
      exact h
    have e2 : W4.heap[w.heap.size + 2]? = some (.cells #[.int .i64 0, .int .i64 0, .int .i64 0] 52 (0, 0)) := by
      rw [hW4, (below_box _ _).block _ (by simp)]
      have h := heap_alloc_new ((w.alloc (.cells #[.int .i64 at'] 3)).alloc (.cells #[.int .i64 0, .int .i64 0, .int .i64 0] 52)) (.cells #[.int .i64 0, .int .i64 0, .int .i64 0] 52)
      rw [World.size_alloc, World.size_alloc] at h
      exact h
    have e3 : W4.heap[w.heap.size + 3]? = some (.cells #[.slice none 0 0] 24 (0, 0)) := by
      rw [hW4]
      have h := heap_alloc_new (((w.alloc (.cells #[.int .i64 at'] 3)).alloc (.cells #[.int .i64 0, .int .i64 0, .int .i64 0] 52)).alloc (.cells #[.int .i64 0, .int .i64 0, .int .i64 0] 52)) (.cells #[.slice none 0 0] 24)
      rw [World.size_alloc, World.size_alloc, World.size_alloc] at h
      exact h
    refine ⟨⟨by omega, ?_, fun j q1 q2 => absurd q2 (n1 j q1), fun _ => ⟨e2⟩, .slice none 0 0, ⟨e3⟩, fun b => ?_, fun j q1 q2 => absurd q2 (n1 j q1), fun _ => rfl⟩, ⟨e1⟩, by omega, by omega, by omega⟩
    · rw [cell_of_row W4 _ 0 _ 3 (0, 0) e0]; rfl
    · simp [Value.ownBlock]
  have HT : Hid (∀ _ : Unit, Calls Try.prog 25 #[.slice Ap L.length cp, .func (.func 36) #[] #[.pointer (some ⟨w.heap.size, 0, none⟩), .pointer (some ⟨w.heap.size + 2, 0, none⟩), .pointer (some ⟨w.heap.size + 3, 0, none⟩)]] W4 fun e w' => e = .returned (.tuple #[.int .i64 (ck L).1, .int .i64 (ck L).2]) ∧ Below w.heap.size W4 w' ∧ ∃ k X, JD L at' w.heap.size (w.heap.size + 1) (w.heap.size + 2) (w.heap.size + 3) w.heap.size W4.heap.size k X w' ∧ ((ck L).2 = 0 → k = L.length)) := fun _ =>
    through_any L 36 _ _ Ap cp w.heap.size hL hT W4 (by omega) (hp.below hB4 (Nat.le_refl _)) (fun hne a ha => by
      obtain ⟨g, o, e, lt, _⟩ := hp hne
      rw [e] at ha
      cases ha
      exact lt) enters54 (see54d L at' _ _ _ _ _ _) _ hJ
  have HB4 := (show Hid (Below w.heap.size w W4) from hB4)
  have HRt := (show Hid ((ck L).2 = 0 → Rt L) from fun q => rt_of q)
  clear hJ hp hT hB4 hB1
  go_enter Try.func23, Try.ntmps23
  go_wp2_with fail
  rw [← hW4]
  refine (HT.out ()).mono ?_
  rintro e w5 ⟨rfl, b5, k, X, hj, hk⟩
  have HB5 := (show Hid (Below w.heap.size w w5) from HB4.out.trans b5)
  have HJ := (show Hid (JD L at' w.heap.size (w.heap.size + 1) (w.heap.size + 2) (w.heap.size + 3) w.heap.size W4.heap.size k X w5) from hj)
  have HK := (show Hid ((ck L).2 = 0 → k = L.length) from hk)
  clear HT b5 hj hk HB4
  have c0 := HJ.out.2.1.c0
  have c1 := HJ.out.2.1.c1
  have c2 := HJ.out.2.1.c2
  have f0 := HJ.out.2.1.fz 0
  have f1 := HJ.out.2.1.fz 1
  have f2 := HJ.out.2.1.fz 2
  have a0 := HJ.out.1.a
  by_cases hc : (ck L).2 = 0
  · have HRt2 := (show Hid (Rt L) from HRt.out hc)
    have hkl := HK.out hc
    have t1 : ((ck L).2 == 0) = true := beq_iff_eq.2 hc
    by_cases hn : at' < 0
    · have HE := (show Hid (fdE L at' = 1) from by show fdE L at' = _; unfold fdE; rw [if_neg (fun q => q hc), if_pos (.inl hn)])
      have HNe := (show Hid ((1 : Int) ≠ 0) from (by show (1 : Int) ≠ 0; decide))
      clear hc HRt HRt2 HK hkl
      generalize (ck L).2 = ce at *
      generalize (ck L).1 = cc at *
      have HV := (show Hid (PB (((w5.setCell ⟨w.heap.size + 1, 0, none⟩ (.int .i64 0)).setCell ⟨w.heap.size + 1, 1, none⟩ (.int .i64 0)).setCell ⟨w.heap.size + 1, 2, none⟩ (.int .i64 0)) (w.heap.size + 1) 0 0 0) from ((HJ.out.2.1.set0 0).set1 0).set2 0)
      have HU := (show Hid (Below w.heap.size w (((w5.setCell ⟨w.heap.size + 1, 0, none⟩ (.int .i64 0)).setCell ⟨w.heap.size + 1, 1, none⟩ (.int .i64 0)).setCell ⟨w.heap.size + 1, 2, none⟩ (.int .i64 0))) from ((HB5.out.setCell (by simp) _).setCell (by simp) _).setCell (by simp) _)
      go_wp2_with fail
      generalize (((w5.setCell ⟨w.heap.size + 1, 0, none⟩ (.int .i64 0)).setCell ⟨w.heap.size + 1, 1, none⟩ (.int .i64 0)).setCell ⟨w.heap.size + 1, 2, none⟩ (.int .i64 0)) = w9 at *
      clear c0 c1 c2 f0 f1 f2 a0
      have c0 := HV.out.c0
      have c1 := HV.out.c1
      have c2 := HV.out.c2
      refine bodyPost_ret (v := .tuple #[.agg #[.int .i64 0, .int .i64 0, .int .i64 0], .slice none 0 0, .int .i64 1]) (by simp [results, Try.results23, go_sem, c0, c1, c2]) rfl ⟨.inl ⟨by rw [HE.out]; exact HNe.out, by rw [HE.out]⟩, HU.out⟩
    by_cases hg : (L.length : Int) ≤ at'
    · have HE := (show Hid (fdE L at' = 1) from by show fdE L at' = _; unfold fdE; rw [if_neg (fun q => q hc), if_pos (.inr hg)])
      have HNe := (show Hid ((1 : Int) ≠ 0) from (by show (1 : Int) ≠ 0; decide))
      clear hc HRt HRt2 HK hkl
      generalize (ck L).2 = ce at *
      generalize (ck L).1 = cc at *
      have HV := (show Hid (PB (((w5.setCell ⟨w.heap.size + 1, 0, none⟩ (.int .i64 0)).setCell ⟨w.heap.size + 1, 1, none⟩ (.int .i64 0)).setCell ⟨w.heap.size + 1, 2, none⟩ (.int .i64 0)) (w.heap.size + 1) 0 0 0) from ((HJ.out.2.1.set0 0).set1 0).set2 0)
      have HU := (show Hid (Below w.heap.size w (((w5.setCell ⟨w.heap.size + 1, 0, none⟩ (.int .i64 0)).setCell ⟨w.heap.size + 1, 1, none⟩ (.int .i64 0)).setCell ⟨w.heap.size + 1, 2, none⟩ (.int .i64 0))) from ((HB5.out.setCell (by simp) _).setCell (by simp) _).setCell (by simp) _)
      go_wp2_with fail
      generalize (((w5.setCell ⟨w.heap.size + 1, 0, none⟩ (.int .i64 0)).setCell ⟨w.heap.size + 1, 1, none⟩ (.int .i64 0)).setCell ⟨w.heap.size + 1, 2, none⟩ (.int .i64 0)) = w9 at *
      clear c0 c1 c2 f0 f1 f2 a0
      have c0 := HV.out.c0
      have c1 := HV.out.c1
      have c2 := HV.out.c2
      refine bodyPost_ret (v := .tuple #[.agg #[.int .i64 0, .int .i64 0, .int .i64 0], .slice none 0 0, .int .i64 1]) (by simp [results, Try.results23, go_sem, c0, c1, c2]) rfl ⟨.inl ⟨by rw [HE.out]; exact HNe.out, by rw [HE.out]⟩, HU.out⟩
    have HE := (show Hid (fdE L at' = 0) from by show fdE L at' = _; unfold fdE; rw [if_neg (fun q => q hc), if_neg (by omega)])
    obtain ⟨j, hj⟩ : ∃ j : Nat, at' = j := ⟨at'.toNat, by omega⟩
    subst hkl
    have hb7 := HJ.out.1.f j hj (by omega)
    obtain ⟨v, hs, hx, ho, _⟩ := HJ.out.1.s
    have HO := (show Hid (w5.ownsRow W4.heap.size 3 1 v (arN (opAt L j)) (lastc ((run L j).take (arN (opAt L j))).reverse)) from ho j hj (by omega))
    have t2 : ((ck L).2 != 0) = false := by rw [bne, t1]; rfl
    have k0 := hb7.c0
    have k1 := hb7.c1
    have k2 := hb7.c2
    have s0 := hs.c0
    have HAt := (show Hid (at' = j ∧ j < L.length) from ⟨hj, by omega⟩)
    have HV := (show Hid (PB (((w5.setCell ⟨w.heap.size + 1, 0, none⟩ (.int .i64 (pt L j).1)).setCell ⟨w.heap.size + 1, 1, none⟩ (.int .i64 (pt L j).2.1)).setCell ⟨w.heap.size + 1, 2, none⟩ (.int .i64 (pt L j).2.2)) (w.heap.size + 1) (pt L j).1 (pt L j).2.1 (pt L j).2.2) from ((HJ.out.2.1.set0 _).set1 _).set2 _)
    have HU := (show Hid (Below w.heap.size w (((w5.setCell ⟨w.heap.size + 1, 0, none⟩ (.int .i64 (pt L j).1)).setCell ⟨w.heap.size + 1, 1, none⟩ (.int .i64 (pt L j).2.1)).setCell ⟨w.heap.size + 1, 2, none⟩ (.int .i64 (pt L j).2.2))) from ((HB5.out.setCell (by simp) _).setCell (by simp) _).setCell (by simp) _)
    have HO2 := (show Hid ((((w5.setCell ⟨w.heap.size + 1, 0, none⟩ (.int .i64 (pt L j).1)).setCell ⟨w.heap.size + 1, 1, none⟩ (.int .i64 (pt L j).2.1)).setCell ⟨w.heap.size + 1, 2, none⟩ (.int .i64 (pt L j).2.2)).ownsRow w.heap.size 3 1 v (arN (opAt L j)) (lastc ((run L j).take (arN (opAt L j))).reverse)) from own_base (ownsRow_setCell_below (ownsRow_setCell_below (ownsRow_setCell_below HO.out (a := ⟨w.heap.size + 1, 0, none⟩) (by show w.heap.size + 1 < W4.heap.size; omega) _) (a := ⟨w.heap.size + 1, 1, none⟩) (by show w.heap.size + 1 < W4.heap.size; omega) _) (a := ⟨w.heap.size + 1, 2, none⟩) (by show w.heap.size + 1 < W4.heap.size; omega) _) (by omega))
    clear hc HRt HK ho hs hx hb7 HO hj
    generalize (ck L).2 = ce at *
    generalize (ck L).1 = cc at *
    go_wp2_with fail
    go_region
    go_wp2_with fail
    generalize (((w5.setCell ⟨w.heap.size + 1, 0, none⟩ (.int .i64 (pt L j).1)).setCell ⟨w.heap.size + 1, 1, none⟩ (.int .i64 (pt L j).2.1)).setCell ⟨w.heap.size + 1, 2, none⟩ (.int .i64 (pt L j).2.2)) = w9 at *
    clear c0 c1 c2 f0 f1 f2 a0 k0 k1 k2 s0
    have HVd := (HV.out.same (W' := w9.drew) rfl)
    have c0 := HVd.c0
    have c1 := HVd.c1
    have c2 := HVd.c2
    refine bodyPost_ret (v := .tuple #[ptG (pt L j), v, .int .i64 0]) (by simp [results, Try.results23, go_sem, c0, c1, c2]) rfl ⟨.inr ⟨HE.out, HRt2.out, j, HAt.out.1, HAt.out.2, v, rfl, own_drew HO2.out⟩, HU.out.drew⟩
  · have HE := (show Hid (fdE L at' = (ck L).2) from by show fdE L at' = _; unfold fdE; rw [if_pos hc])
    have HNe := (show Hid ((ck L).2 ≠ 0) from hc)
    have t1 : ((ck L).2 == 0) = false := beq_eq_false_iff_ne.2 hc
    have t2 : ((ck L).2 != 0) = true := by rw [bne, t1]; rfl
    clear hc
    generalize (ck L).2 = ce at *
    generalize (ck L).1 = cc at *
    have HV := (show Hid (PB (((w5.setCell ⟨w.heap.size + 1, 0, none⟩ (.int .i64 0)).setCell ⟨w.heap.size + 1, 1, none⟩ (.int .i64 0)).setCell ⟨w.heap.size + 1, 2, none⟩ (.int .i64 0)) (w.heap.size + 1) 0 0 0) from ((HJ.out.2.1.set0 0).set1 0).set2 0)
    have HU := (show Hid (Below w.heap.size w (((w5.setCell ⟨w.heap.size + 1, 0, none⟩ (.int .i64 0)).setCell ⟨w.heap.size + 1, 1, none⟩ (.int .i64 0)).setCell ⟨w.heap.size + 1, 2, none⟩ (.int .i64 0))) from ((HB5.out.setCell (by simp) _).setCell (by simp) _).setCell (by simp) _)
    go_wp2_with fail
    generalize (((w5.setCell ⟨w.heap.size + 1, 0, none⟩ (.int .i64 0)).setCell ⟨w.heap.size + 1, 1, none⟩ (.int .i64 0)).setCell ⟨w.heap.size + 1, 2, none⟩ (.int .i64 0)) = w9 at *
    clear c0 c1 c2 f0 f1 f2 a0
    have c0 := HV.out.c0
    have c1 := HV.out.c1
    have c2 := HV.out.c2
    refine bodyPost_ret (v := .tuple #[.agg #[.int .i64 0, .int .i64 0, .int .i64 0], .slice none 0 0, .int .i64 ce]) (by simp [results, Try.results23, go_sem, c0, c1, c2]) rfl ⟨.inl ⟨by rw [HE.out]; exact HNe.out, by rw [HE.out]⟩, HU.out⟩

set_option maxRecDepth 100000 in
set_option maxHeartbeats 4000000 in
theorem begin_any (L : List Nd) (Ap : Option Addr) (cp : Nat) (at' : Int) (hL : L.length ≤ 140737488355328) (hT : ∀ n ∈ L, n.tx.size ≤ 140737488355328) (w : World) (hp : RdN w Ap L) :
    Calls Try.prog 7 #[.slice Ap L.length cp, .int .i64 at'] w fun e w' => e = .returned (.tuple #[.int .i64 (bgE L at'), .int .i64 (fdE L at')]) ∧ Below w.heap.size w w' := by
  have HF : Hid (∀ _ : Unit, Calls Try.prog 23 #[.slice Ap L.length cp, .int .i64 at'] w fun e w' => FdV w w' L at' e ∧ Below w.heap.size w w') := fun _ => find_any L Ap cp at' hL hT w hp
  clear hp hT
  go_enter Try.func7, Try.ntmps7
  go_wp2_with fail
  refine (HF.out ()).mono ?_
  rintro e w2 ⟨hv, b2⟩
  have HB := (show Hid (Below w.heap.size w w2) from b2)
  clear HF b2
  rcases hv with ⟨h0, rfl⟩ | ⟨h0, _, j, hj, hjl, v, rfl, _⟩
  · have HI := (show Hid ((bgE L at') = 0) from by show bgE L at' = 0; unfold bgE; rw [if_neg h0])
    clear h0
    go_wp2_with fail
    go_ret2
    refine ⟨by rw [HI.out]; rfl, HB.out.alloc HB.out.size _⟩
  · have HI := (show Hid ((bgE L at') = ((pt L j).1 : Int) ∧ fdE L at' = 0) from ⟨by unfold bgE; rw [if_pos h0, hj]; rfl, h0⟩)
    clear h0 hj
    go_wp2_with fail
    go_ret2
    refine ⟨by rw [HI.out.1, HI.out.2]; rfl, HB.out.alloc HB.out.size _⟩
set_option maxRecDepth 100000 in
set_option maxHeartbeats 4000000 in
theorem height_any (L : List Nd) (Ap : Option Addr) (cp : Nat) (hL : L.length ≤ 140737488355328) (hT : ∀ n ∈ L, n.tx.size ≤ 140737488355328) (w : World) (hp : RdN w Ap L) :
    Calls Try.prog 9 #[.slice Ap L.length cp] w fun e w' => e = .returned (.tuple #[.int .i64 (htE L), .int .i64 (ck L).2]) ∧ Below w.heap.size w w' := by
  have HF : Hid (∀ _ : Unit, Calls Try.prog 23 #[.slice Ap L.length cp, .int .i64 ((L.length : Int) - 1)] w fun e w' => FdV w w' L ((L.length : Int) - 1) e ∧ Below w.heap.size w w') := fun _ => find_any L Ap cp _ hL hT w hp
  have HE : Hid (fdE L ((L.length : Int) - 1) = (ck L).2) := by
    show fdE L _ = _
    unfold fdE
    by_cases hc : (ck L).2 = 0
    · have hr := rt_of hc
      have h1 := hr.one
      have : L.length ≠ 0 := fun q => by
        rw [q] at h1
        simp [run] at h1
      rw [if_neg (fun q => q hc), if_neg (by omega), hc]
    · rw [if_pos hc]
  clear hp hT
  go_enter Try.func9, Try.ntmps9
  go_wp2_with fail
  refine (HF.out ()).mono ?_
  rintro e w2 ⟨hv, b2⟩
  have HB := (show Hid (Below w.heap.size w w2) from b2)
  clear HF b2
  rcases hv with ⟨h0, rfl⟩ | ⟨h0, _, j, hj, hjl, v, rfl, _⟩
  · rw [HE.out] at h0 ⊢
    have HI := (show Hid ((htE L) = 0) from by show htE L = 0; unfold htE; rw [if_neg h0])
    clear h0
    go_wp2_with fail
    go_ret2
    refine ⟨by rw [HI.out]; rfl, HB.out.alloc HB.out.size _⟩
  · rw [HE.out] at h0
    have HI := (show Hid ((htE L) = ((pt L j).2.2 : Int) ∧ (ck L).2 = 0) from ⟨by unfold htE; rw [if_pos h0, show L.length - 1 = j from by omega], h0⟩)
    clear h0 hj
    go_wp2_with fail
    go_ret2
    refine ⟨by rw [HI.out.1, HI.out.2]; rfl, HB.out.alloc HB.out.size _⟩
/-- A list of numbers that is an answer. -/
def PsV (w w' : World) (L : List Nd) (at' : Int) (e : Ending) : Prop := ∃ v, e = .returned (.tuple #[v, .int .i64 (fdE L at')]) ∧ ((fdE L at' ≠ 0 ∧ v = .slice none 0 0) ∨ (fdE L at' = 0 ∧ w'.ownsRow w.heap.size 3 1 v (arN (opAt L at'.toNat)) (lastc ((run L at'.toNat).take (arN (opAt L at'.toNat))).reverse)))
set_option maxRecDepth 100000 in
set_option maxHeartbeats 4000000 in
theorem parts_any (L : List Nd) (Ap : Option Addr) (cp : Nat) (at' : Int) (hL : L.length ≤ 140737488355328) (hT : ∀ n ∈ L, n.tx.size ≤ 140737488355328) (w : World) (hp : RdN w Ap L) :
    Calls Try.prog 6 #[.slice Ap L.length cp, .int .i64 at'] w fun e w' => PsV w w' L at' e ∧ Below w.heap.size w w' := by
  have HF : Hid (∀ _ : Unit, Calls Try.prog 23 #[.slice Ap L.length cp, .int .i64 at'] w fun e w' => FdV w w' L at' e ∧ Below w.heap.size w w') := fun _ => find_any L Ap cp at' hL hT w hp
  clear hp hT
  go_enter Try.func6, Try.ntmps6
  go_wp2_with fail
  refine (HF.out ()).mono ?_
  rintro e w2 ⟨hv, b2⟩
  have HB := (show Hid (Below w.heap.size w w2) from b2)
  clear HF b2
  rcases hv with ⟨h0, rfl⟩ | ⟨h0, _, j, hj, hjl, v, rfl, ho⟩
  · have HI := (show Hid (fdE L at' ≠ 0) from h0)
    clear h0
    go_wp2_with fail
    go_ret2
    exact ⟨⟨_, rfl, .inl ⟨HI.out, rfl⟩⟩, HB.out.alloc HB.out.size _⟩
  · have HI := (show Hid (fdE L at' = 0 ∧ (w2.alloc (.cells #[.int .i64 (pt L j).1, .int .i64 (pt L j).2.1, .int .i64 (pt L j).2.2] 52)).ownsRow w.heap.size 3 1 v (arN (opAt L at'.toNat)) (lastc ((run L at'.toNat).take (arN (opAt L at'.toNat))).reverse)) from ⟨h0, by rw [hj]; exact ho.alloc _⟩)
    clear h0 hj ho
    go_wp2_with fail
    go_ret2
    exact ⟨⟨v, by rw [HI.out.1]; rfl, .inr HI.out⟩, HB.out.alloc HB.out.size _⟩
end Go.Proofs.Ytfomodpjdaclgab
