/- DERIVED. Plain mathematics and walks, laid together (11). -/
import Derived.Test.YtbipjdgholdhcabGreatFs10
namespace Go.Proofs.YtbipjdgholdhcabGreat.N
open Go.RowKit Go.Maps
open Go.Proofs.YtbipjdgholdhcabGreat.T

open U (own_get)
/-- What is known in the end. -/
def KnF (gs : GL) (now : List Em) : Prop := ∃ (R : Mx) (bd : Nat → Bool) (m : Nat), IsR gs.length (cG gs) R ∧ (∀ i, bd i = !(R i i)) ∧ now = pgE gs kdR bd m ∧ pgE gs kdR bd (m + 1) = pgE gs kdR bd m
theorem gk_R {gs : GL} (hR : RtG gs) : GK gs kdR := ⟨hR, fun g hg => kds_R (rt_of (hR.ck g hg))⟩
theorem bd_R {gs : GL} {l : List Bool} (hz : (ckG gs).2 = 0) (h : AgR gs l) : ∃ R, IsR gs.length (cG gs) R ∧ ∀ i, bdA l i = !(R i i) := by
  classical
  obtain ⟨h1, h2⟩ := h.1 hz
  refine ⟨fun i j => decide (i < gs.length ∧ Rc gs.length (cG gs) i j), ?_, fun i => ?_⟩
  · exact ⟨fun i j => cG_lt, fun i j hi hj => ⟨fun q => (of_decide_eq_true q).2, fun q => decide_eq_true ⟨hi, q⟩⟩⟩
  · unfold bdA
    have h3 := h2 i
    show _ = !decide (i < gs.length ∧ Rc gs.length (cG gs) i i)
    by_cases q : i < gs.length ∧ Rc gs.length (cG gs) i i
    · rw [h3.2 q, decide_eq_true q]; rfl
    · rw [decide_eq_false q]
      cases e : l[i]? with
      | none => rfl
      | some b =>
        cases b with
        | false => rfl
        | true => exact absurd (h3.1 e) q
structure KoS (w wr : World) (u : Value) (kb mb gA : Nat) (gs : GL) (ag : List Bool) (Ar : Option Addr) (cr : Nat) (now : List Em) : Prop where
  b : Below w.heap.size w wr
  g : GX wr w.heap.size u
  r : KX wr (w.heap.size + 1) (.map none) (.slice none 0 0)
  k : KX wr kb (.map (some mb)) (.slice Ar gs.length cr)
  m : NmM wr mb gs
  a : RdB wr gA ag
  l : now.length = gs.length
  o : wr.ownsRow (w.heap.size + 2) 110 4 (.slice Ar gs.length cr) gs.length (emc now)
  e1 : w.heap.size + 2 ≤ mb
  e2 : mb < kb
  e3 : gA < kb
theorem KoS.later {w wr w2 : World} {u : Value} {kb mb gA : Nat} {gs : GL} {ag : List Bool} {Ar : Option Addr} {cr : Nat} {now : List Em} (h : KoS w wr u kb mb gA gs ag Ar cr now) (hb : Below wr.heap.size wr w2) : KoS w w2 u kb mb gA gs ag Ar cr now :=
  ⟨h.b.trans (hb.mono h.b.size), h.g.below hb, h.r.below hb, h.k.below hb, h.m.later hb, h.a.later hb, h.l, T.own_below h.o hb, h.e1, h.e2, h.e3⟩
theorem own_rd {W : World} {B n cr : Nat} {Ar : Option Addr} {l : List Em} (h : W.ownsRow B 110 4 (.slice Ar n cr) n (emc l)) (hl : l.length = n) : RdE W Ar l := by
  subst hl
  obtain ⟨A, c, e, h2⟩ := own_re h
  injection e with e1 _ _
  rw [e1]; exact h2
theorem own_fm {W : World} {B n : Nat} {v : Value} {xs : List Value} (h : W.ownsRow B 110 4 v n xs) : ∃ A c, v = .slice A n c := by
  rcases h.2 with ⟨rfl, rfl⟩ | ⟨g, cap, cur, rfl, _⟩
  · exact ⟨_, _, rfl⟩
  · exact ⟨_, _, rfl⟩
theorem KoS.kn {w wr : World} {u : Value} {kb mb gA : Nat} {gs : GL} {ag : List Bool} {Ar : Option Addr} {cr : Nat} {now : List Em} (h : KoS w wr u kb mb gA gs ag Ar cr now) : KnI wr gs mb Ar now := ⟨h.m, own_rd h.o h.l, h.l⟩
/-- The next ones take the place. -/
theorem KoS.next {w wr w2 : World} {u : Value} {kb mb gA : Nat} {gs : GL} {ag : List Bool} {Ar An : Option Addr} {cr cn : Nat} {now nx : List Em} (h : KoS w wr u kb mb gA gs ag Ar cr now) (hb : Below wr.heap.size wr w2) (ho : w2.ownsRow (wr.heap.size + 2) 110 4 (.slice An gs.length cn) gs.length (emc nx)) (hl : nx.length = gs.length) : KoS w (w2.setCell ⟨kb, 1, none⟩ (.slice An gs.length cn)) u kb mb gA gs ag An cn nx := by
  have h2 := h.later hb
  have e1 := h.e1
  have e2 := h.e2
  have e3 := h.e3
  have hkb := h.k.lt
  have hsz := h.b.size
  have key : ∀ j, j ≠ kb → (w2.setCell ⟨kb, 1, none⟩ (.slice An gs.length cn)).heap[j]? = w2.heap[j]? := fun j hj => heap_setCell_other _ _ _ _ hj
  refine ⟨h2.b.setCell (p := ⟨kb, 1, none⟩) (by show w.heap.size ≤ kb; omega) _, h2.g.same (key _ (by omega)), h2.r.same (key _ (by omega)), h2.k.set1 _, h2.m.same (key _ (by omega)), fun j b hj => ?_, hl, T.own_base (own_same ho fun q hq => key q (by have := (ho.lt q hq).1; omega)) (by omega), e1, e2, e3⟩
  rw [World.cell?_of_block (a := ⟨gA, j, none⟩) (key gA (by omega))]
  exact h2.a j b hj
/-- What is told. -/
theorem KoS.told {w wr : World} {u : Value} {kb mb gA : Nat} {gs : GL} {ag : List Bool} {Ar : Option Addr} {cr : Nat} {now : List Em} (h : KoS w wr u kb mb gA gs ag Ar cr now) (W : World) (hW : W = (wr.setCell ⟨w.heap.size + 1, 0, none⟩ (.map (some mb))).setCell ⟨w.heap.size + 1, 1, none⟩ (.slice Ar gs.length cr)) : KX W (w.heap.size + 1) (.map (some mb)) (.slice Ar gs.length cr) ∧ w.heap.size ≤ mb ∧ NmM W mb gs ∧ W.ownsRow w.heap.size 110 4 (.slice Ar gs.length cr) gs.length (emc now) ∧ Below w.heap.size w W := by
  have e1 := h.e1
  have key : ∀ j, j ≠ w.heap.size + 1 → W.heap[j]? = wr.heap[j]? := fun j hj => by rw [hW]; exact (heap_setCell_other _ _ _ _ hj).trans (heap_setCell_other _ _ _ _ hj)
  refine ⟨by rw [hW]; exact (h.r.set0 _).set1 _, by omega, h.m.same (key _ (by omega)), T.own_base (own_same h.o fun q hq => key q (by have := (h.o.lt q hq).1; omega)) (by omega), ?_⟩
  rw [hW]
  exact (h.b.setCell (p := ⟨w.heap.size + 1, 0, none⟩) (by show w.heap.size ≤ w.heap.size + 1; omega) _).setCell (p := ⟨w.heap.size + 1, 1, none⟩) (by show w.heap.size ≤ w.heap.size + 1; omega) _
theorem below_dn {w : World} (m : Nat) : Below w.heap.size w (w.drewN m) := below_drewN (Below.refl _ _) _
set_option maxRecDepth 100000 in
set_option maxHeartbeats 16000000 in
/-- What is known of all rules. -/
theorem knownOf_any (gs : GL) (A : Option Addr) (c : Nat) (w : World) (hp : GI w A gs) :
    Calls Tryz.prog 56 #[.agg #[.slice A gs.length c]] w fun e w' => (∃ m v, e = .returned (.tuple #[.agg #[m, v], .int .i64 (ckG gs).2]) ∧ ((ckG gs).2 ≠ 0 → m = .map none ∧ v = .slice none 0 0) ∧ ((ckG gs).2 = 0 → ∃ mb Ar cr now, m = .map (some mb) ∧ v = .slice Ar gs.length cr ∧ w.heap.size ≤ mb ∧ NmM w' mb gs ∧ KnF gs now ∧ now.length = gs.length ∧ OkN gs now ∧ w'.ownsRow w.heap.size 110 4 (.slice Ar gs.length cr) gs.length (emc now))) ∧ Below w.heap.size w w' := by
  obtain ⟨w1, hw1⟩ : ∃ w1, w1 = (w.alloc (.cells #[.slice A gs.length c] 24)).alloc (.cells #[.map none, .slice none 0 0] 105) := ⟨_, rfl⟩
  have HE1 := (show Hid ((w.alloc (.cells #[.slice A gs.length c] 24)).alloc (.cells #[.map none, .slice none 0 0] 105) = w1) from hw1.symm)
  have HS1 := (show Hid (Below w.heap.size w w1 ∧ GX w1 w.heap.size (.slice A gs.length c) ∧ KX w1 (w.heap.size + 1) (.map none) (.slice none 0 0) ∧ w1.heap.size = w.heap.size + 2) from by
    have s1 := World.size_alloc w (.cells #[.slice A gs.length c] 24)
    refine ⟨by rw [hw1]; exact ((Below.refl _ _).alloc (Nat.le_refl _) _).alloc (by omega) _, by rw [hw1]; exact (GX.mk (heap_alloc_new w _)).below (below_box _ _), ?_, by rw [hw1, World.size_alloc, s1]⟩
    have h := KX.new (w.alloc (.cells #[.slice A gs.length c] 24)) (.map none) (.slice none 0 0)
    rw [s1, ← hw1] at h; exact h)
  have HN := (show Hid (Calls Tryz.prog 70 #[.agg #[.slice A gs.length c]] w1 fun e w' => (∃ v l, e = .returned (.tuple #[v, .int .i64 (ckG gs).2]) ∧ AgR gs l ∧ w'.ownsRow w1.heap.size 4 1 v l.length (l.map Value.bool)) ∧ Below w1.heap.size w1 w') from againP_any gs A c w1 (hp.later HS1.out.1))
  have HP := (show Hid (GI w A gs) from hp)
  have q1 := HS1.out.2.1.cl
  clear hw1 hp
  go_enter Tryz.func56, Tryz.ntmps56
  go_wp2_with (rw [HE1.out])
  refine HN.out.mono ?_
  rintro e w2 ⟨⟨v, l, rfl, hag, hov⟩, b2⟩
  have HS2 := (show Hid (Below w.heap.size w w2 ∧ GX w2 w.heap.size (.slice A gs.length c) ∧ KX w2 (w.heap.size + 1) (.map none) (.slice none 0 0) ∧ w.heap.size + 2 ≤ w2.heap.size) from ⟨HS1.out.1.trans (b2.mono HS1.out.1.size), HS1.out.2.1.below b2, HS1.out.2.2.1.below b2, by have := b2.size; have := HS1.out.2.2.2; omega⟩)
  have q2 := HS2.out.2.1.cl
  clear HN HE1 q1 b2
  by_cases hz : (ckG gs).2 = 0
  · have hR := ckG_ok.1 hz
    have hn1 := hR.n1
    have hn200 := hR.n2
    obtain ⟨hl, hag2⟩ := hag.1 hz
    obtain ⟨R, hIs, hbd⟩ := bd_R hz hag
    obtain ⟨gA, ca, rfl, gl1, gl2, gx1, gx2⟩ := own_get hov (j := 0) (x := .bool l[0]) (by rw [List.getElem?_map, List.getElem?_eq_getElem (by omega)]; rfl)
    have hrb : RdB w2 gA l := fun j b hj => by
      obtain ⟨g', c', e, _, _, x, _⟩ := own_get hov (j := j) (x := .bool b) (by rw [List.getElem?_map, hj]; rfl)
      injection e with e1 _ _
      obtain ⟨rfl, _⟩ := Addr.mk.inj (Option.some.inj e1)
      exact x
    clear gx1 gx2
    rw [hl]
    have HBg := (show Hid (Calls Tryz.prog 71 #[.agg #[.slice A gs.length c], .slice (some ⟨gA, 0, none⟩) gs.length ca] w2 fun e w' => (∃ mb v, e = .returned (.agg #[.map (some mb), v]) ∧ w2.heap.size ≤ mb ∧ NmM w' mb gs ∧ w'.ownsRow w2.heap.size 110 4 v gs.length (emc (pgS gs (bdA l)))) ∧ Below w2.heap.size w2 w') from begun_any hR hl gA A c ca w2 (HP.out.later HS2.out.1) hrb)
    have HRB := (show Hid (RdB w2 gA l ∧ gA < w2.heap.size) from ⟨hrb, gl2⟩)
    have HR := (show Hid (RtG gs ∧ l.length = gs.length ∧ IsR gs.length (cG gs) R ∧ (∀ i, bdA l i = !(R i i)) ∧ (ckG gs).2 = 0) from ⟨hR, hl, hIs, hbd, hz⟩)
    have tz : ((ckG gs).2 != 0) = false := by rw [hz]; rfl
    clear hag hag2 hIs hbd hrb hov gl1 gl2 hR hl hz
    generalize hcd : (ckG gs).2 = cd at *
    have HCD := (show Hid ((ckG gs).2 = cd) from hcd)
    clear hcd
    go_wp2_with fail
    refine HBg.out.mono ?_
    rintro e w3 ⟨⟨mb, v2, rfl, hmb, hm3, ho3⟩, b3⟩
    obtain ⟨A3, c3, rfl⟩ := own_fm ho3
    obtain ⟨kb, hkb⟩ : ∃ kb, kb = w3.heap.size := ⟨_, rfl⟩
    have HKb := (show Hid (w3.heap.size = kb) from hkb.symm)
    obtain ⟨w4, hw4⟩ : ∃ w4, w4 = w3.alloc (.cells #[.map (some mb), .slice A3 gs.length c3] 105) := ⟨_, rfl⟩
    have HE4 := (show Hid (w3.alloc (.cells #[.map (some mb), .slice A3 gs.length c3] 105) = w4) from hw4.symm)
    have HS := (show Hid (KoS w w4 (.slice A gs.length c) kb mb gA gs l A3 c3 (pgE gs kdR (bdA l) 0)) from by
      have hb4 : Below w3.heap.size w3 w4 := by rw [hw4]; exact below_box _ _
      have hb24 : Below w2.heap.size w2 w4 := b3.trans (hb4.mono b3.size)
      have s2 := HS2.out.2.2.2
      have hk4 : KX w4 kb (.map (some mb)) (.slice A3 gs.length c3) := by rw [hw4, hkb]; exact KX.new w3 _ _
      refine ⟨HS2.out.1.trans (hb24.mono HS2.out.1.size), HS2.out.2.1.below hb24, HS2.out.2.2.1.below hb24, hk4, hm3.later hb4, HRB.out.1.later hb24, pgS_len _ _, T.own_base (T.own_below ho3 hb4) s2, by omega, by rw [hkb]; exact hm3.lt, by rw [hkb]; exact Nat.lt_of_lt_of_le HRB.out.2 b3.size⟩)
    clear hw4 hkb hmb hm3 ho3 b3 HBg HRB HS2 HS1 q2
    go_wp2_with (rw [HE4.out, HKb.out])
    clear HE4 HKb
    go_loopg [7] (pgM gs kdR (bdA l) 0) (fun gk u wr => ∃ (m : Nat) (Ar : Option Addr) (cr : Nat), Hid (pgM gs kdR (bdA l) m = gk) ∧ Hid (KoS w wr (.slice A gs.length c) kb mb gA gs l Ar cr (pgE gs kdR (bdA l) m)))
    case atStart => exact ⟨0, A3, c3, rfl, HS⟩
    case round =>
      obtain ⟨m, Ar, cr, HM, HW⟩ := hrel
      clear HS
      have HRd := (show Hid (Calls Tryz.prog 72 #[.agg #[.map (some mb), .slice Ar gs.length cr], .agg #[.slice A gs.length c], .slice (some ⟨gA, 0, none⟩) gs.length ca] wr fun e w' => (∃ v, e = .returned v ∧ w'.ownsRow (wr.heap.size + 2) 110 4 v gs.length (emc (pgE gs kdR (bdA l) (m + 1)))) ∧ Below wr.heap.size wr w') from by
        have t := round_any HR.out.1 (pgE_ok (gk_R HR.out.1) (bdA l) m) HR.out.2.1 mb gA Ar A cr c ca wr HW.out.kn (HP.out.later HW.out.b) HW.out.a
        rw [HW.out.l] at t
        exact t)
      have k0 := HW.out.k.c0
      have k1 := HW.out.k.c1
      have q0 := HW.out.g.cl
      go_wp2_with fail
      refine HRd.out.mono ?_
      rintro e w5 ⟨⟨v5, rfl, ho5⟩, b5⟩
      obtain ⟨An, cn, rfl⟩ := own_fm ho5
      have HW5 := (show Hid (KoS w w5 (.slice A gs.length c) kb mb gA gs l Ar cr (pgE gs kdR (bdA l) m)) from HW.out.later b5)
      have HL5 := (show Hid ((pgE gs kdR (bdA l) (m + 1)).length = gs.length) from rdE_len)
      have HO5 := (show Hid (w5.ownsRow (wr.heap.size + 2) 110 4 (.slice An gs.length cn) gs.length (emc (pgE gs kdR (bdA l) (m + 1)))) from ho5)
      have HB5 := (show Hid (Below wr.heap.size wr w5) from b5)
      have HQ := (show Hid (Calls Tryz.prog 73 #[.slice An gs.length cn, .slice Ar gs.length cr] w5 fun e w' => (∃ b, e = .returned (.bool b) ∧ (b = true ↔ pgE gs kdR (bdA l) (m + 1) = pgE gs kdR (bdA l) m)) ∧ ∃ j, w' = w5.drewN j) from by
        have t := equalE_any (pgE gs kdR (bdA l) (m + 1)) (pgE gs kdR (bdA l) m) An Ar cn cr (by rw [HL5.out]; omega) (by rw [HL5.out]; exact HW5.out.l) w5 (own_rd ho5 HL5.out) (own_rd HW5.out.o HW5.out.l)
        rw [HL5.out, HW5.out.l] at t
        exact t)
      have k5 := HW5.out.k.c1
      clear HRd ho5 b5 k0 k1 q0
      go_wp2_with fail
      refine HQ.out.mono ?_
      rintro e w6 ⟨⟨bb, rfl, hbb⟩, j6, hw6⟩
      have b6 : Below w5.heap.size w5 w6 := by rw [hw6]; exact below_dn _
      have HW6 := (show Hid (KoS w w6 (.slice A gs.length c) kb mb gA gs l Ar cr (pgE gs kdR (bdA l) m)) from HW5.out.later b6)
      have HNx := (show Hid (KoS w (w6.setCell ⟨kb, 1, none⟩ (.slice An gs.length cn)) (.slice A gs.length c) kb mb gA gs l An cn (pgE gs kdR (bdA l) (m + 1))) from HW.out.next (HB5.out.trans (b6.mono HB5.out.size)) (T.own_below HO5.out b6) HL5.out)
      clear hw6 b6 HQ k5 HO5 HB5 HW5
      cases bb with
      | true =>
        have HFx := (show Hid (KnF gs (pgE gs kdR (bdA l) m)) from ⟨R, bdA l, m, HR.out.2.2.1, HR.out.2.2.2.1, rfl, hbb.1 rfl⟩)
        have HLn := (show Hid ((pgE gs kdR (bdA l) m).length = gs.length) from HW6.out.l)
        have HOk := (show Hid (OkN gs (pgE gs kdR (bdA l) m)) from pgE_ok (gk_R HR.out.1) (bdA l) m)
        have HT := (show Hid _ from HW6.out.told)
        have k0 := HW6.out.k.c0
        have k1 := HW6.out.k.c1
        have r0 := HW6.out.r.c0
        have r1 := HW6.out.r.c1
        have f0 := HW6.out.r.fz 0
        have f1 := HW6.out.r.fz 1
        clear hbb HW6 HNx HW HM HL5
        go_wp2_with fail
        have HZ := (show Hid _ from HT.out _ rfl)
        refine ret_kx2 (s := 2) (t := 3) (k := w.heap.size + 1) (x := .int .i64 0) (by rfl) (by rfl) (by rfl) (by rfl) HZ.out.1 ?_
        refine ⟨⟨_, _, by rw [HCD.out, HR.out.2.2.2.2], fun q => absurd (HCD.out.trans HR.out.2.2.2.2) q, fun _ => ⟨mb, Ar, cr, _, rfl, rfl, HZ.out.2.1, HZ.out.2.2.1, HFx.out, HLn.out, HOk.out, HZ.out.2.2.2.1⟩⟩, HZ.out.2.2.2.2⟩
      | false =>
        have HLs := (show Hid (pgM gs kdR (bdA l) (m + 1) < pgM gs kdR (bdA l) m) from pgM_less (gk_R HR.out.1) HR.out.2.2.1 HR.out.2.2.2.1 (fun e => by have := hbb.2 e; cases this))
        have f1 := HW6.out.k.fz 1
        have k1 := HW6.out.k.c1
        clear hbb HW6 HW HL5
        go_wp2_with fail
        go_roundg (pgM gs kdR (bdA l) (m + 1))
        case measure => have := HM.out; have := HLs.out; omega
        case rel => exact ⟨m + 1, An, cn, rfl, HNx⟩
  · have tz : ((ckG gs).2 != 0) = true := by rw [bne, beq_eq_false_iff_ne.2 hz]; rfl
    have HZ := (show Hid ((ckG gs).2 ≠ 0) from hz)
    have r0 := HS2.out.2.2.1.c0
    have r1 := HS2.out.2.2.1.c1
    have f0 := HS2.out.2.2.1.fz 0
    have f1 := HS2.out.2.2.1.fz 1
    have HT := (show Hid (∀ W, W = (w2.setCell ⟨w.heap.size + 1, 0, none⟩ (.map none)).setCell ⟨w.heap.size + 1, 1, none⟩ (.slice none 0 0) → KX W (w.heap.size + 1) (.map none) (.slice none 0 0) ∧ Below w.heap.size w W) from fun W hW => by
      rw [hW]
      exact ⟨(HS2.out.2.2.1.set0 _).set1 _, (HS2.out.1.setCell (p := ⟨w.heap.size + 1, 0, none⟩) (by show w.heap.size ≤ w.heap.size + 1; omega) _).setCell (p := ⟨w.heap.size + 1, 1, none⟩) (by show w.heap.size ≤ w.heap.size + 1; omega) _⟩)
    clear hag hov hz HS1 HS2 HP q2
    generalize hcd : (ckG gs).2 = cd at *
    have HCD := (show Hid ((ckG gs).2 = cd) from hcd)
    clear hcd
    go_wp2_with fail
    have HQ := (show Hid _ from HT.out _ rfl)
    refine ret_kx2 (s := 2) (t := 3) (k := w.heap.size + 1) (x := .int .i64 cd) (by rfl) (by rfl) (by rfl) (by rfl) HQ.out.1 ?_
    exact ⟨⟨_, _, by rw [HCD.out], fun _ => ⟨rfl, rfl⟩, fun q => absurd (HCD.out.symm.trans q) HZ.out⟩, HQ.out.2⟩
end Go.Proofs.YtbipjdgholdhcabGreat.N

namespace Go.Proofs.YtbipjdgholdhcabGreat.N
open Go.RowKit Go.Maps
open Go.Proofs.YtbipjdgholdhcabGreat.T
/-- May the part that ends with a node match nothing, as chapter 10 has it: by its parts and by the rules. -/
def nuD (n : Nd) (x y : Bool) (r : ByteArray → Bool) : Bool :=
  if n.op = 1 ∨ n.op = 9 ∨ n.op = 11 ∨ n.op = 12 ∨ n.op = 13 ∨ n.op = 16 ∨ n.op = 17 then true
  else if n.op = 2 ∨ n.op = 3 ∨ n.op = 4 ∨ n.op = 5 then false
  else if n.op = 6 then r n.tx
  else if n.op = 7 then x && y
  else if n.op = 8 then x || y
  else if n.op = 14 ∨ n.op = 15 then decide (n.nn = 0) || x
  else x
theorem emN_nu (n : Nd) (x y : Em) (r : ByteArray → Em) : (emN n x y r).nu = nuD n x.nu y.nu fun s => (r s).nu := by
  unfold emN nuD
  by_cases c1 : n.op = 1 ∨ n.op = 17 ∨ ((n.op = 14 ∨ n.op = 16) ∧ n.nn = 0)
  · rw [if_pos c1]
    by_cases h : n.op = 14
    · have h0 : n.nn = 0 := by omega
      rw [if_neg (by omega), if_neg (by omega), if_neg (by omega), if_neg (by omega), if_neg (by omega), if_pos (by omega), h0]
      rfl
    · rw [if_pos (by omega)]
  rw [if_neg c1]
  by_cases c2 : n.op = 9 ∨ (n.op = 15 ∧ n.nn = 0)
  · rw [if_pos c2]
    by_cases h : n.op = 9
    · rw [if_pos (by omega)]
    · have h0 : n.nn = 0 := by omega
      rw [if_neg (by omega), if_neg (by omega), if_neg (by omega), if_neg (by omega), if_neg (by omega), if_pos (by omega), h0]
      rfl
  rw [if_neg c2]
  by_cases c3 : n.op = 2
  · rw [if_pos c3, if_neg (by omega), if_pos (by omega)]
  rw [if_neg c3]
  by_cases c4 : n.op = 3 ∨ n.op = 5
  · rw [if_pos c4, if_neg (by omega), if_pos (by omega)]
  rw [if_neg c4]
  by_cases c5 : n.op = 4
  · rw [if_pos c5, if_neg (by omega), if_pos (by omega)]
  rw [if_neg c5]
  by_cases c6 : n.op = 6
  · rw [if_pos c6, if_neg (by omega), if_neg (by omega), if_pos c6]
  rw [if_neg c6]
  by_cases c7 : n.op = 7
  · rw [if_pos c7, if_neg (by omega), if_neg (by omega), if_neg c6, if_pos c7]
  rw [if_neg c7]
  by_cases c8 : n.op = 8
  · rw [if_pos c8, if_neg (by omega), if_neg (by omega), if_neg c6, if_neg c7, if_pos c8]
  rw [if_neg c8]
  by_cases c10 : n.op = 10
  · rw [if_pos c10, if_neg (by omega), if_neg (by omega), if_neg c6, if_neg c7, if_neg c8, if_neg (by omega)]
  rw [if_neg c10]
  by_cases c11 : n.op = 11
  · rw [if_pos c11, if_pos (by omega)]
  rw [if_neg c11]
  by_cases c12 : n.op = 12
  · rw [if_pos c12, if_pos (by omega)]
  rw [if_neg c12]
  by_cases c13 : n.op = 13
  · rw [if_pos c13, if_pos (by omega)]
  rw [if_neg c13]
  by_cases c14 : n.op = 14
  · have h0 : ¬ n.nn = 0 := by omega
    rw [if_pos c14, if_neg (by omega), if_neg (by omega), if_neg c6, if_neg c7, if_neg c8, if_pos (by omega), decide_eq_false h0]
    rfl
  rw [if_neg c14]
  by_cases c15 : n.op = 15
  · have h0 : ¬ n.nn = 0 := by omega
    rw [if_pos c15, if_neg (by omega), if_neg (by omega), if_neg c6, if_neg c7, if_neg c8, if_pos (by omega), decide_eq_false h0]
    rfl
  rw [if_neg c15]
  by_cases c16 : n.op = 16
  · rw [if_pos c16, if_pos (by omega)]
  rw [if_neg c16, if_neg (by omega), if_neg (by omega), if_neg c6, if_neg c7, if_neg c8, if_neg (by omega)]
/-- Of each of the first nodes. -/
def nuL (kd : Nat → List Nat) (r : ByteArray → Bool) (L : List Nd) : Nat → List Bool
  | 0 => []
  | k + 1 => match L[k]? with
    | none => nuL kd r L k
    | some n => nuL kd r L k ++ [nuD n (((nuL kd r L k)[((kd k)[0]?).getD k]?).getD false) (((nuL kd r L k)[((kd k)[1]?).getD k]?).getD false) r]
theorem nuL_succ {kd : Nat → List Nat} {r : ByteArray → Bool} {L : List Nd} {k : Nat} {n : Nd} (h : L[k]? = some n) : nuL kd r L (k + 1) = nuL kd r L k ++ [nuD n (((nuL kd r L k)[((kd k)[0]?).getD k]?).getD false) (((nuL kd r L k)[((kd k)[1]?).getD k]?).getD false) r] := by rw [nuL, h]
theorem nuL_len {kd : Nat → List Nat} {r : ByteArray → Bool} {L : List Nd} : ∀ k, k ≤ L.length → (nuL kd r L k).length = k := by
  intro k
  induction k with
  | zero => intro _; rfl
  | succ k ih =>
    intro h
    rw [nuL_succ (List.getElem?_eq_getElem (by omega)), List.length_append, ih (by omega)]
    rfl
/-- What chapter 9 knows says what chapter 10 does. -/
theorem emL_nu {kd : Nat → List Nat} {r : ByteArray → Em} {L : List Nd} : ∀ k, k ≤ L.length → (emL kd r L k).map Em.nu = nuL kd (fun s => (r s).nu) L k := by
  intro k
  induction k with
  | zero => intro _; rfl
  | succ k ih =>
    intro h
    have hn : L[k]? = some L[k] := List.getElem?_eq_getElem (by omega)
    have hi := ih (by omega)
    have hl := nuL_len (kd := kd) (r := fun s => (r s).nu) (L := L) k (by omega)
    have key : ∀ i, (kE (emL kd r L k) (kd k) i).nu = (((nuL kd (fun s => (r s).nu) L k)[((kd k)[i]?).getD k]?).getD false) := fun i => by
      unfold kE
      cases e : (kd k)[i]? with
      | none =>
        rw [Option.getD_none, List.getElem?_eq_none (by omega)]
        rfl
      | some j =>
        rw [Option.getD_some, ← hi, List.getElem?_map]
        show (((emL kd r L k)[j]?).getD e0).nu = _
        cases (emL kd r L k)[j]? <;> rfl
    rw [emL_succ hn, nuL_succ hn, List.map_append, hi, List.map_singleton, emN_nu, key 0, key 1]
/-- By which rules it is known of, of a name. -/
def lkB (gs : GL) (out : List Bool) (s : ByteArray) : Bool := match fdG gs s with
  | none => false
  | some k => (out[k]?).getD false
end Go.Proofs.YtbipjdgholdhcabGreat.N

namespace Go.Proofs.YtbipjdgholdhcabGreat.N
open Go.RowKit Go.Maps
open Go.Proofs.YtbipjdgholdhcabGreat.T
/-- The rules with which the part begins that ends with a node: by its parts. -/
def hbN (n : Nd) (x y : Nat → Bool) (nx : Bool) (c : ByteArray → Option Nat) : Nat → Bool :=
  if n.op = 6 then fun q => decide (c n.tx = some q)
  else if n.op = 7 then (if nx then fun q => x q || y q else x)
  else if n.op = 8 then fun q => x q || y q
  else if (n.op = 14 ∨ n.op = 16) ∧ n.nn = 0 then fun _ => false
  else if n.op ≤ 6 ∨ n.op = 17 then fun _ => false
  else x
def nil1 : Nat → Bool := fun _ => false
/-- Of each of the first nodes. may: which parts may match nothing. -/
def hbL (kd : Nat → List Nat) (may : Nat → Bool) (c : ByteArray → Option Nat) (L : List Nd) : Nat → List (Nat → Bool)
  | 0 => []
  | k + 1 => match L[k]? with
    | none => hbL kd may c L k
    | some n => hbL kd may c L k ++ [hbN n (((hbL kd may c L k)[((kd k)[0]?).getD k]?).getD nil1) (((hbL kd may c L k)[((kd k)[1]?).getD k]?).getD nil1) (may (((kd k)[0]?).getD k)) c]
theorem hbL_succ {kd : Nat → List Nat} {may : Nat → Bool} {c : ByteArray → Option Nat} {L : List Nd} {k : Nat} {n : Nd} (h : L[k]? = some n) : hbL kd may c L (k + 1) = hbL kd may c L k ++ [hbN n (((hbL kd may c L k)[((kd k)[0]?).getD k]?).getD nil1) (((hbL kd may c L k)[((kd k)[1]?).getD k]?).getD nil1) (may (((kd k)[0]?).getD k)) c] := by rw [hbL, h]
theorem hbL_len {kd : Nat → List Nat} {may : Nat → Bool} {c : ByteArray → Option Nat} {L : List Nd} : ∀ k, k ≤ L.length → (hbL kd may c L k).length = k := by
  intro k
  induction k with
  | zero => intro _; rfl
  | succ k ih =>
    intro h
    rw [hbL_succ (List.getElem?_eq_getElem (by omega)), List.length_append, ih (by omega)]
    rfl
theorem hbL_pre {kd : Nat → List Nat} {may : Nat → Bool} {c : ByteArray → Option Nat} {L : List Nd} : ∀ (m k : Nat), k + m ≤ L.length → ∀ (j : Nat), j < k → (hbL kd may c L (k + m))[j]? = (hbL kd may c L k)[j]? := by
  intro m
  induction m with
  | zero => intro k _ j _; rfl
  | succ m ih =>
    intro k hk j hj
    have hn : L[k + m]? = some L[k + m] := List.getElem?_eq_getElem (by omega)
    rw [show k + (m + 1) = (k + m) + 1 from by omega, hbL_succ hn, List.getElem?_append_left (by rw [hbL_len _ (by omega)]; omega)]
    exact ih k (by omega) j hj
/-- With which rules the part begins that ends with node k. -/
def hbA (kd : Nat → List Nat) (may : Nat → Bool) (c : ByteArray → Option Nat) (L : List Nd) (k : Nat) : Nat → Bool := ((hbL kd may c L L.length)[k]?).getD nil1
theorem hbA_at {kd : Nat → List Nat} {may : Nat → Bool} {c : ByteArray → Option Nat} {L : List Nd} {k j : Nat} (hk : k ≤ L.length) (hj : j < k) : ((hbL kd may c L k)[j]?).getD nil1 = hbA kd may c L j := by
  have e := hbL_pre (kd := kd) (may := may) (c := c) (L := L) (L.length - k) k (by omega) j hj
  rw [show k + (L.length - k) = L.length from by omega] at e
  unfold hbA
  rw [e]
theorem hbA_step {kd : Nat → List Nat} {may : Nat → Bool} {c : ByteArray → Option Nat} {L : List Nd} (hk : Kds kd L) {k : Nat} {n : Nd} (hn : L[k]? = some n) (ha : ∀ i, i < arN n.op → (kd k)[i]? = some (((kd k)[i]?).getD k)) : hbA kd may c L k = hbN n (if 0 < arN n.op then hbA kd may c L (((kd k)[0]?).getD k) else nil1) (if 1 < arN n.op then hbA kd may c L (((kd k)[1]?).getD k) else nil1) (may (((kd k)[0]?).getD k)) c := by
  have hlt := (List.getElem?_eq_some_iff.1 hn).1
  have hl := hbL_len (kd := kd) (may := may) (c := c) (L := L) k (by omega)
  have e := hbA_at (kd := kd) (may := may) (c := c) (L := L) (k := k + 1) (j := k) (by omega) (Nat.lt_succ_self k)
  rw [← e, hbL_succ hn, List.getElem?_append_right (by omega), hl, Nat.sub_self]
  have key : ∀ (i : Nat), ((hbL kd may c L k)[((kd k)[i]?).getD k]?).getD nil1 = if i < arN n.op then hbA kd may c L (((kd k)[i]?).getD k) else nil1 := fun i => by
    by_cases q : i < arN n.op
    · rw [if_pos q]
      exact hbA_at (by omega) (hk.lt k _ hlt (List.mem_of_getElem? (ha i q)))
    · rw [if_neg q, show (kd k)[i]? = none from List.getElem?_eq_none (by rw [hk.n k n hn]; omega), Option.getD_none, List.getElem?_eq_none (by omega)]
      rfl
  rw [key 0, key 1]
  rfl
/-- A part that begins where the whole begins. -/
def stB (kd : Nat → List Nat) (may : Nat → Bool) (L : List Nd) (k i : Nat) : Bool := match L[k]? with
  | none => false
  | some n => !(decide ((n.op = 14 ∨ n.op = 16) ∧ n.nn = 0)) && (decide ((kd k)[0]? = some i) || (decide ((kd k)[1]? = some i) && (decide (n.op ≠ 7) || may (((kd k)[0]?).getD k))))
def clB (c : ByteArray → Option Nat) (L : List Nd) (i q : Nat) : Bool := match L[i]? with
  | none => false
  | some n => decide (n.op = 6) && decide (c n.tx = some q)
/-- It is the whole, or it begins where that begins. -/
def Wn (n : Nat) (s : Mx) (k i : Nat) : Prop := i = k ∨ Rc n s k i
theorem rc_first {n : Nat} {s : Mx} (hs : ∀ i j, s i j = true → i < n ∧ j < n) {k i : Nat} (h : Rc n s k i) : ∃ j, s k j = true ∧ Wn n s j i := by
  refine Rc.least (d := fun k i => ∃ j, s k j = true ∧ Wn n s j i) (fun i j h => ⟨j, h, .inl rfl⟩) (fun i k j hk h1 h2 => ?_) h
  obtain ⟨a, ha, hw⟩ := h1
  obtain ⟨b, hb, hv⟩ := h2
  have hkj : Rc n s k j := by
    rcases hv with e | e
    · rw [e]; exact Rc.of hb
    · exact Rc.trans (hs k b hb).2 (Rc.of hb) e
  refine ⟨a, ha, ?_⟩
  rcases hw with e | e
  · rw [← e]; exact .inr hkj
  · exact .inr (Rc.trans hk e hkj)
theorem stB_lt {kd : Nat → List Nat} {may : Nat → Bool} {L : List Nd} (hk : Kds kd L) {k i : Nat} (h : stB kd may L k i = true) : i < k ∧ k < L.length := by
  unfold stB at h
  cases e : L[k]? with
  | none => rw [e] at h; cases h
  | some n =>
    rw [e] at h
    have hlt := (List.getElem?_eq_some_iff.1 e).1
    simp only [Bool.and_eq_true, Bool.or_eq_true, decide_eq_true_eq] at h
    rcases h.2 with q | q
    · exact ⟨hk.lt k i hlt (List.mem_of_getElem? q), hlt⟩
    · exact ⟨hk.lt k i hlt (List.mem_of_getElem? q.1), hlt⟩
theorem hb_iff {kd : Nat → List Nat} {may : Nat → Bool} {c : ByteArray → Option Nat} {L : List Nd} (hk : Kds kd L) (ha : ∀ n ∈ L, alE n = 0) : ∀ (m k : Nat), k < m → k < L.length → ∀ q, hbA kd may c L k q = true ↔ ∃ i, Wn L.length (stB kd may L) k i ∧ clB c L i q = true := by
  intro m
  induction m with
  | zero => intro k h; omega
  | succ m ih =>
    intro k hkm hkl q
    have hn : L[k]? = some L[k] := List.getElem?_eq_getElem hkl
    have hal := ha _ (List.getElem_mem hkl)
    obtain ⟨hop, _⟩ := al_facts hal
    have hs : ∀ i j, stB kd may L i j = true → i < L.length ∧ j < L.length := fun i j h => by
      have := stB_lt hk h
      omega
    have hkn := hk.n k _ hn
    have hki : ∀ i, i < arN L[k].op → (kd k)[i]? = some (((kd k)[i]?).getD k) := fun i hi => by
      rw [List.getElem?_eq_getElem (by omega)]
      rfl
    have hkid : ∀ i, i < arN L[k].op → ((kd k)[i]?).getD k < k := fun i hi => hk.lt k _ hkl (List.mem_of_getElem? (hki i hi))
    rw [hbA_step hk hn hki]
    -- what a step is
    have hst : ∀ i, stB kd may L k i = true ↔ ¬ ((L[k].op = 14 ∨ L[k].op = 16) ∧ L[k].nn = 0) ∧ ((kd k)[0]? = some i ∨ ((kd k)[1]? = some i ∧ (L[k].op ≠ 7 ∨ may (((kd k)[0]?).getD k) = true))) := fun i => by
      unfold stB
      rw [hn]
      simp only [Bool.and_eq_true, Bool.or_eq_true, decide_eq_true_eq, Bool.not_eq_true', decide_eq_false_iff_not]
    have hcl : ∀ q, clB c L k q = true ↔ L[k].op = 6 ∧ c L[k].tx = some q := fun q => by
      unfold clB
      rw [hn]
      simp only [Bool.and_eq_true, decide_eq_true_eq]
    -- the other side: by the first step
    have hex : (∃ i, Wn L.length (stB kd may L) k i ∧ clB c L i q = true) ↔ clB c L k q = true ∨ ∃ j, stB kd may L k j = true ∧ hbA kd may c L j q = true := by
      constructor
      · rintro ⟨i, hw, hc⟩
        rcases hw with e | e
        · rw [e] at hc; exact .inl hc
        · obtain ⟨j, hj, hw⟩ := rc_first hs e
          have := stB_lt hk hj
          exact .inr ⟨j, hj, (ih j (by omega) (by omega) q).2 ⟨i, hw, hc⟩⟩
      · rintro (h | ⟨j, hj, hq⟩)
        · exact ⟨k, .inl rfl, h⟩
        · have hl := stB_lt hk hj
          obtain ⟨i, hw, hc⟩ := (ih j (by omega) (by omega) q).1 hq
          refine ⟨i, .inr ?_, hc⟩
          rcases hw with e | e
          · rw [e]; exact Rc.of hj
          · exact Rc.trans (k := j) (by omega) (Rc.of hj) e
    rw [hex, hcl]
    generalize hX : (if 0 < arN L[k].op then hbA kd may c L (((kd k)[0]?).getD k) else nil1) = X
    generalize hY : (if 1 < arN L[k].op then hbA kd may c L (((kd k)[1]?).getD k) else nil1) = Y
    unfold hbN
    by_cases c6 : L[k].op = 6
    · have a0 := arN_0 hop (by omega)
      have hno : ∀ j, ¬ stB kd may L k j = true := fun j h => by
        rcases ((hst j).1 h).2 with e | e
        · have := (List.getElem?_eq_some_iff.1 e).1; omega
        · have := (List.getElem?_eq_some_iff.1 e.1).1; omega
      rw [if_pos c6]
      constructor
      · intro h
        exact .inl ⟨c6, of_decide_eq_true h⟩
      · rintro (h | ⟨j, hj, _⟩)
        · exact decide_eq_true h.2
        · exact absurd hj (hno j)
    rw [if_neg c6]
    have hno6 : ¬ (L[k].op = 6 ∧ c L[k].tx = some q) := fun h => c6 h.1
    by_cases c7 : L[k].op = 7
    · have a2 := arN_2 (n := L[k]) (.inl c7)
      rw [if_pos (by omega)] at hX hY
      subst hX hY
      rw [if_pos c7]
      cases hm : may (((kd k)[0]?).getD k) with
      | true =>
        rw [if_pos rfl, Bool.or_eq_true]
        constructor
        · rintro (h | h)
          · exact .inr ⟨_, (hst _).2 ⟨by omega, .inl (hki 0 (by omega))⟩, h⟩
          · exact .inr ⟨_, (hst _).2 ⟨by omega, .inr ⟨hki 1 (by omega), .inr hm⟩⟩, h⟩
        · rintro (h | ⟨j, hj, h⟩)
          · exact absurd h hno6
          · rcases ((hst j).1 hj).2 with e | e
            · rw [e]; exact .inl h
            · rw [e.1]; exact .inr h
      | false =>
        rw [if_neg Bool.noConfusion]
        constructor
        · intro h
          exact .inr ⟨_, (hst _).2 ⟨by omega, .inl (hki 0 (by omega))⟩, h⟩
        · rintro (h | ⟨j, hj, h⟩)
          · exact absurd h hno6
          · rcases ((hst j).1 hj).2 with e | e
            · rw [e]; exact h
            · rcases e.2 with w | w
              · exact absurd c7 w
              · rw [hm] at w; cases w
    rw [if_neg c7]
    by_cases c8 : L[k].op = 8
    · have a2 := arN_2 (n := L[k]) (.inr c8)
      rw [if_pos (by omega)] at hX hY
      subst hX hY
      rw [if_pos c8, Bool.or_eq_true]
      constructor
      · rintro (h | h)
        · exact .inr ⟨_, (hst _).2 ⟨by omega, .inl (hki 0 (by omega))⟩, h⟩
        · exact .inr ⟨_, (hst _).2 ⟨by omega, .inr ⟨hki 1 (by omega), .inl c7⟩⟩, h⟩
      · rintro (h | ⟨j, hj, h⟩)
        · exact absurd h hno6
        · rcases ((hst j).1 hj).2 with e | e
          · rw [e]; exact .inl h
          · rw [e.1]; exact .inr h
    rw [if_neg c8]
    by_cases cz : (L[k].op = 14 ∨ L[k].op = 16) ∧ L[k].nn = 0
    · rw [if_pos cz]
      constructor
      · intro h; cases h
      · rintro (h | ⟨j, hj, h⟩)
        · exact absurd h hno6
        · exact absurd cz ((hst j).1 hj).1
    rw [if_neg cz]
    by_cases c17 : L[k].op ≤ 6 ∨ L[k].op = 17
    · have a0 := arN_0 hop c17
      rw [if_pos c17]
      constructor
      · intro h; cases h
      · rintro (h | ⟨j, hj, h⟩)
        · exact absurd h hno6
        · rcases ((hst j).1 hj).2 with e | e
          · have := (List.getElem?_eq_some_iff.1 e).1; omega
          · have := (List.getElem?_eq_some_iff.1 e.1).1; omega
    have a1 := arN_1 hop c17 (by omega)
    rw [if_pos (by omega)] at hX
    subst hX
    rw [if_neg c17]
    constructor
    · intro h
      exact .inr ⟨_, (hst _).2 ⟨cz, .inl (hki 0 (by omega))⟩, h⟩
    · rintro (h | ⟨j, hj, h⟩)
      · exact absurd h hno6
      · rcases ((hst j).1 hj).2 with e | e
        · rw [e]; exact h
        · have := (List.getElem?_eq_some_iff.1 e.1).1; omega
end Go.Proofs.YtbipjdgholdhcabGreat.N

namespace Go.Proofs.YtbipjdgholdhcabGreat.N
open Go.RowKit Go.Maps
open Go.Proofs.YtbipjdgholdhcabGreat.T
/-- Of each node of a pattern: may its part match nothing? -/
def nuA (kd : Nat → List Nat) (r : ByteArray → Bool) (L : List Nd) (k : Nat) : Bool := ((nuL kd r L L.length)[k]?).getD false
end Go.Proofs.YtbipjdgholdhcabGreat.N

namespace Go.Proofs.YtbipjdgholdhcabGreat.N
open Go.RowKit Go.Maps
open Go.Proofs.YtbipjdgholdhcabGreat.T
/-- What Rules answers. -/
def RuR (gs : GL) (now : List Em) : Prop := ((ckG gs).2 = 0 → KnF gs now ∧ now.length = gs.length ∧ OkN gs now) ∧ ((ckG gs).2 ≠ 0 → now = [])
set_option maxRecDepth 100000 in
set_option maxHeartbeats 8000000 in
theorem rulesP_any (gs : GL) (A : Option Addr) (c : Nat) (w : World) (hp : GI w A gs) :
    Calls Tryz.prog 39 #[.agg #[.slice A gs.length c]] w fun e w' => (∃ v now, e = .returned (.tuple #[v, .int .i64 (ckG gs).2]) ∧ RuR gs now ∧ w'.ownsRow w.heap.size 110 4 v now.length (emc now)) ∧ Below w.heap.size w w' := by
  obtain ⟨w1, hw1⟩ : ∃ w1, w1 = w.alloc (.cells #[.slice A gs.length c] 24) := ⟨_, rfl⟩
  have HE1 := (show Hid (w.alloc (.cells #[.slice A gs.length c] 24) = w1) from hw1.symm)
  have HB1 := (show Hid (Below w.heap.size w w1) from by rw [hw1]; exact below_box _ _)
  have HG1 := (show Hid (GX w1 w.heap.size (.slice A gs.length c)) from by rw [hw1]; exact GX.mk (heap_alloc_new w _))
  have q1 := HG1.out.cl
  have HN := hid_of (knownOf_any gs A c w1 (hp.later HB1.out))
  clear hw1 hp HG1
  go_enter Tryz.func39, Tryz.ntmps39
  go_wp2_with (rw [HE1.out])
  refine Calls.mono HN.out ?_
  rintro e w2 ⟨⟨m, v, rfl, h1, h2⟩, b2⟩
  have HB2 := (show Hid (Below w.heap.size w w2) from HB1.out.trans (b2.mono HB1.out.size))
  have hs1 := HB1.out.size
  clear HN HE1 q1 b2
  by_cases hz : (ckG gs).2 = 0
  · obtain ⟨mb, Ar, cr, now, rfl, rfl, _, _, hF, hl, hok, ho⟩ := h2 hz
    have tz : ((ckG gs).2 != 0) = false := by rw [hz]; rfl
    have HO := (show Hid (w2.ownsRow w.heap.size 110 4 (.slice Ar gs.length cr) gs.length (emc now)) from T.own_base ho hs1)
    have HR := (show Hid (RuR gs now ∧ now.length = gs.length ∧ (ckG gs).2 = 0) from ⟨⟨fun _ => ⟨hF, hl, hok⟩, fun q => absurd hz q⟩, hl, hz⟩)
    clear h1 h2 ho hF hl hok hz hs1
    obtain ⟨w3, hw3⟩ : ∃ w3, w3 = w2.alloc (.cells #[.map (some mb), .slice Ar gs.length cr] 105) := ⟨_, rfl⟩
    have HE3 := (show Hid (w2.alloc (.cells #[.map (some mb), .slice Ar gs.length cr] 105) = w3) from hw3.symm)
    have k1 : w3.cell? ⟨w2.heap.size, 1, none⟩ = some (.slice Ar gs.length cr) := by rw [hw3]; exact (KX.new w2 _ _).c1
    have HB3 := (show Hid (Below w2.heap.size w2 w3) from by rw [hw3]; exact below_box _ _)
    clear hw3
    generalize hcd : (ckG gs).2 = cd at tz
    have HCD := (show Hid ((ckG gs).2 = cd) from hcd)
    clear hcd
    go_wp2_with (rw [HE3.out])
    refine bodyPost_ret (v := .tuple #[.slice Ar gs.length cr, .int .i64 0]) (by simp [results, Tryz.results39, go_sem]) rfl ⟨⟨_, now, by rw [HR.out.2.2], HR.out.1, by rw [HR.out.2.1]; exact T.own_below HO.out HB3.out⟩, HB2.out.trans (HB3.out.mono HB2.out.size)⟩
  · obtain ⟨rfl, rfl⟩ := h1 hz
    have tz : ((ckG gs).2 != 0) = true := by rw [bne, beq_eq_false_iff_ne.2 hz]; rfl
    have HR := (show Hid (RuR gs [] ∧ (ckG gs).2 ≠ 0) from ⟨⟨fun q => absurd q hz, fun _ => rfl⟩, hz⟩)
    clear h1 h2 hz hs1
    have HB3 := (show Hid (Below w2.heap.size w2 (w2.alloc (.cells #[.map none, .slice none 0 0] 105))) from below_box _ _)
    generalize hcd : (ckG gs).2 = cd at tz
    have HCD := (show Hid ((ckG gs).2 = cd) from hcd)
    clear hcd
    go_wp2_with fail
    refine bodyPost_ret (v := .tuple #[.slice none 0 0, .int .i64 cd]) (by simp [results, Tryz.results39, go_sem]) rfl ⟨⟨_, [], by rw [HCD.out], HR.out.1, World.ownsRow_nil _ _ _ _⟩, HB2.out.trans (HB3.out.mono HB2.out.size)⟩
/-- A box of a list. -/
structure LX (W : World) (b : Nat) (v : Value) : Prop where
  heap : W.heap[b]? = some (.cells #[v] 64 (0, 0))
theorem LX.lt {W : World} {b : Nat} {v : Value} (x : LX W b v) : b < W.heap.size := (Array.getElem?_eq_some_iff.1 x.heap).1
theorem LX.c0 {W : World} {b : Nat} {v : Value} (x : LX W b v) : W.cell? ⟨b, 0, none⟩ = some v := by rw [cell_of_row W b 0 _ 64 (0, 0) x.heap]; rfl
theorem LX.fz {W : World} {b : Nat} {v : Value} (x : LX W b v) : W.frozen? ⟨b, 0, none⟩ = false := frozen_of_row W b 0 _ 64 x.heap
theorem LX.same {W W' : World} {b : Nat} {v : Value} (x : LX W b v) (hb : W'.heap[b]? = W.heap[b]?) : LX W' b v := ⟨hb.trans x.heap⟩
theorem LX.below {W W' : World} {b : Nat} {v : Value} (x : LX W b v) (hb : Below W.heap.size W W') : LX W' b v := x.same (hb.block b x.lt)
theorem LX.set {W : World} {b : Nat} {v : Value} (x : LX W b v) (u : Value) : LX (W.setCell ⟨b, 0, none⟩ u) b u := ⟨by rw [heap_setCell_same W b 0 _ 64 _ x.heap]; rfl⟩
set_option maxRecDepth 100000 in
set_option maxHeartbeats 16000000 in
/-- One node, and its part put behind the others. -/
theorem part1_any {gs : GL} {now : List Em} {L : List Nd} (hpt : PtR gs now L) {k : Nat} {n : Nd} (hn : L[k]? = some n) (B : Nat) (Ar A : Option Addr) (cr c kb lb Bb : Nat) (v : Value) (l : List Em) (w : World) (hk : KnI w gs B Ar now) (hkx : KX w kb (.map (some B)) (.slice Ar now.length cr)) (hlx : LX w lb v) (hll : l.length = k) (ho : w.ownsRow Bb 110 4 v k (emc l)) (hlb : lb < Bb) (hBb : Bb ≤ w.heap.size) (hp : RdE w A (emS (EE (lkE gs now) L) ((run L k).take (arN n.op)))) :
    Calls Tryz.prog 84 #[ndG n, .slice A (arN n.op) c, .pointer (some ⟨kb, 0, none⟩), .pointer (some ⟨lb, 0, none⟩)] w fun e w' => e = .returned (emG (EE (lkE gs now) L k)) ∧ ∃ v', LX w' lb v' ∧ w'.ownsRow Bb 110 4 v' (k + 1) (emc (l ++ [EE (lkE gs now) L k])) ∧ (∀ b, v'.ownBlock = some b → v.ownBlock = some b ∨ w.heap.size ≤ b) ∧ Kp (fun b => b = lb ∨ v.ownBlock = some b) w w' := by
  have hkl : k ≤ 2048 := by have h1 := (List.getElem?_eq_some_iff.1 hn).1; have h2 := hpt.rt.len; omega
  obtain ⟨A3, c3, rfl⟩ := own_fm ho
  obtain ⟨w1, hw1⟩ : ∃ w1, w1 = (w.alloc (.cells #[.int .i64 n.op, .int .i64 n.nn, .string n.tx, .int .u64 n.s0, .int .u64 n.s1, .int .u64 n.s2, .int .u64 n.s3] 57)).alloc (.cells #[.bool false, .bool false, .int .i64 0, .int .i64 0] 110) := ⟨_, rfl⟩
  have HE1 := (show Hid ((w.alloc (.cells #[.int .i64 n.op, .int .i64 n.nn, .string n.tx, .int .u64 n.s0, .int .u64 n.s1, .int .u64 n.s2, .int .u64 n.s3] 57)).alloc (.cells #[.bool false, .bool false, .int .i64 0, .int .i64 0] 110) = w1) from hw1.symm)
  have HS1 := (show Hid (Below w.heap.size w w1 ∧ NX w1 w.heap.size n ∧ EX w1 (w.heap.size + 1) e0) from by
    have s1 := World.size_alloc w (ndO n)
    refine ⟨by rw [hw1]; exact ((Below.refl _ _).alloc (Nat.le_refl _) _).alloc (by rw [World.size_alloc]; omega) _, by rw [hw1]; exact nx_below ⟨heap_alloc_new w _⟩ (below_box _ _), ?_⟩
    have h := EX.new (w.alloc (ndO n)) e0
    rw [s1] at h
    rw [hw1]; exact h)
  have hx1 := hkx.below HS1.out.1
  have k0 := hx1.c0
  have k1 := hx1.c1
  obtain ⟨d0, d1, d2, d3, d4, d5, d6⟩ := HS1.out.2.1.nb
  simp only [Nat.zero_add] at d0 d1 d2 d3 d4 d5 d6
  obtain ⟨⟨en, ec, el, em⟩, hE⟩ : ∃ e, e = EE (lkE gs now) L k := ⟨_, rfl⟩
  have HC := (show Hid (Calls Tryz.prog 85 #[.agg #[.map (some B), .slice Ar now.length cr], ndG n, .slice A (arN n.op) c] w1 fun e w' => e = .returned (.agg #[.bool en, .bool ec, .int .i64 el, .int .i64 em]) ∧ Below w1.heap.size w1 w') from by
    have t := hpt.node hn B Ar A cr c w1 (hk.later HS1.out.1) (hp.later HS1.out.1)
    rw [← hE] at t
    exact t)
  have HLx := (show Hid (LX w lb (.slice A3 k c3)) from hlx)
  have HO := (show Hid (w.ownsRow Bb 110 4 (.slice A3 k c3) k (emc l)) from ho)
  have HBb := (show Hid (lb < Bb ∧ Bb ≤ w.heap.size) from ⟨hlb, hBb⟩)
  have hlw := hlx.lt
  rw [← hE]
  have HEE := (show Hid (⟨en, ec, el, em⟩ = EE (lkE gs now) L k) from hE)
  clear hw1 hpt hk hkx hlx ho hp hE hx1 hlb hBb hn
  go_enter Tryz.func84, Tryz.ntmps84
  go_wp2_with (rw [HE1.out])
  refine HC.out.mono ?_
  rintro e w2 ⟨rfl, b2⟩
  have HB2 := (show Hid (Below w.heap.size w w2 ∧ EX w2 (w.heap.size + 1) e0) from ⟨HS1.out.1.trans (b2.mono HS1.out.1.size), HS1.out.2.2.below b2⟩)
  clear HC HE1 k0 k1 d0 d1 d2 d3 d4 d5 d6 HS1 b2
  obtain ⟨w3, hw3⟩ : ∃ w3, w3 = w2.alloc (.cells #[.bool en, .bool ec, .int .i64 el, .int .i64 em] 110) := ⟨_, rfl⟩
  obtain ⟨kk, hkk⟩ : ∃ kk, kk = w2.heap.size := ⟨_, rfl⟩
  have HE3 := (show Hid (w2.alloc (.cells #[.bool en, .bool ec, .int .i64 el, .int .i64 em] 110) = w3) from hw3.symm)
  have HKk := (show Hid (w2.heap.size = kk) from hkk.symm)
  have hb23 : Below w2.heap.size w2 w3 := by rw [hw3]; exact below_box _ _
  have HX3 := (show Hid (EX w3 kk ⟨en, ec, el, em⟩) from by rw [hw3, hkk]; exact EX.new w2 ⟨en, ec, el, em⟩)
  have HB3 := (show Hid (Below w.heap.size w w3 ∧ EX w3 (w.heap.size + 1) e0 ∧ w.heap.size + 1 < kk) from ⟨HB2.out.1.trans (hb23.mono HB2.out.1.size), HB2.out.2.below hb23, by rw [hkk]; exact HB2.out.2.lt⟩)
  have HO3 := (show Hid (w3.ownsRow Bb 110 4 (.slice A3 k c3) k (emc l)) from T.own_below HO.out HB3.out.1)
  have HL3 := (show Hid (LX w3 lb (.slice A3 k c3)) from HLx.out.below HB3.out.1)
  have l0 := HL3.out.c0
  have x0 : w3.cell? ⟨kk, 0, none⟩ = some (.bool en) := HX3.out.eb.c0
  have x1 : w3.cell? ⟨kk, 1, none⟩ = some (.bool ec) := HX3.out.eb.c1
  have x2 : w3.cell? ⟨kk, 2, none⟩ = some (.int .i64 el) := HX3.out.eb.c2
  have x3 : w3.cell? ⟨kk, 3, none⟩ = some (.int .i64 em) := HX3.out.eb.c3
  have HPu := (show Hid (∀ (w6 : World) (g6 cap6 : Nat), w6.ownsRow Bb 110 4 (.slice (some ⟨g6, 0, none⟩) (k + 1) cap6) (k + 1) (emc (l ++ [⟨en, ec, el, em⟩])) → w3.grownBy w6 (Value.slice A3 k c3).ownBlock → ((Value.slice A3 k c3).ownBlock = some g6 ∨ g6 = w3.heap.size + 1) → LX w6 lb (.slice A3 k c3) ∧ ∀ w7, w7 = w6.setCell ⟨lb, 0, none⟩ (.slice (some ⟨g6, 0, none⟩) (k + 1) cap6) → EX w7 kk ⟨en, ec, el, em⟩ ∧ EX w7 (w.heap.size + 1) e0 ∧ (∃ v', LX (st4 w7 (w.heap.size + 1) ⟨en, ec, el, em⟩) lb v' ∧ (st4 w7 (w.heap.size + 1) ⟨en, ec, el, em⟩).ownsRow Bb 110 4 v' (k + 1) (emc (l ++ [⟨en, ec, el, em⟩])) ∧ (∀ b, v'.ownBlock = some b → (Value.slice A3 k c3).ownBlock = some b ∨ w.heap.size ≤ b) ∧ Kp (fun b => b = lb ∨ (Value.slice A3 k c3).ownBlock = some b) w (st4 w7 (w.heap.size + 1) ⟨en, ec, el, em⟩))) from fun w6 g6 cap6 h1 h2 h3 => by
    have hlow : ∀ q, (Value.slice A3 k c3).ownBlock = some q → Bb ≤ q ∧ q < w.heap.size := fun q hq => HO.out.lt q hq
    have hbb := HBb.out
    have hkk2 := HB3.out.2.2
    have hlt3 := HX3.out.lt
    have key6 : ∀ j, j < w3.heap.size → (∀ q, (Value.slice A3 k c3).ownBlock = some q → q ≠ j) → w6.heap[j]? = w3.heap[j]? := fun j hj hq => h2.block j hj (fun e => hq j e.symm rfl)
    have hL6 : LX w6 lb (.slice A3 k c3) := HL3.out.same (key6 lb HL3.out.lt (fun q hq => by have := hlow q hq; omega))
    refine ⟨hL6, fun w7 hw7 => ?_⟩
    have key7 : ∀ j, j ≠ lb → w7.heap[j]? = w6.heap[j]? := fun j hj => by rw [hw7]; exact heap_setCell_other _ _ _ _ hj
    have hX7 : EX w7 kk ⟨en, ec, el, em⟩ := HX3.out.same ((key7 kk (by omega)).trans (key6 kk hlt3 (fun q hq => by have := hlow q hq; omega)))
    have hZ7 : EX w7 (w.heap.size + 1) e0 := HB3.out.2.1.same ((key7 _ (by omega)).trans (key6 _ HB3.out.2.1.lt (fun q hq => by have := hlow q hq; omega)))
    have key8 : ∀ j, j ≠ w.heap.size + 1 → (st4 w7 (w.heap.size + 1) ⟨en, ec, el, em⟩).heap[j]? = w7.heap[j]? := fun j hj => st4_other hj _
    have hL7 : LX w7 lb (.slice (some ⟨g6, 0, none⟩) (k + 1) cap6) := by rw [hw7]; exact hL6.set _
    have ho7 : w7.ownsRow Bb 110 4 (.slice (some ⟨g6, 0, none⟩) (k + 1) cap6) (k + 1) (emc (l ++ [⟨en, ec, el, em⟩])) := by rw [hw7]; exact ownsRow_setCell_below h1 (a := ⟨lb, 0, none⟩) hbb.1 _
    have hg6 : g6 ≠ w.heap.size + 1 := by
      rcases h3 with q | q
      · have := hlow g6 q; omega
      · omega
    have hs8 : (st4 w7 (w.heap.size + 1) ⟨en, ec, el, em⟩).heap.size = w6.heap.size := by unfold st4; rw [World.size_setCell, World.size_setCell, World.size_setCell, World.size_setCell, hw7, World.size_setCell]
    refine ⟨hX7, hZ7, _, hL7.same (key8 lb (by omega)), own_same ho7 (fun q hq => key8 q (by have e : g6 = q := Option.some.inj hq; omega)), fun b hb => ?_, ⟨?_, ?_, ?_, ?_, fun b hb hnb => ?_⟩⟩
    · have e : g6 = b := Option.some.inj hb
      subst e
      rcases h3 with q | q
      · exact .inl q
      · exact .inr (by omega)
    · rw [hw7]; exact h2.os.trans HB3.out.1.os
    · rw [hw7]; exact h2.tape.trans HB3.out.1.tape
    · rw [hw7]; exact h2.output.trans HB3.out.1.output
    · rw [hs8]; exact Nat.le_trans HB3.out.1.size h2.size
    · rw [key8 b (by omega), key7 b (fun e => hnb (.inl e)), key6 b (by omega) (fun q hq e => hnb (.inr (by rw [← e]; exact hq)))]
      exact HB3.out.1.block b hb)
  have HSz := (show Hid (Bb ≤ w3.heap.size) from Nat.le_trans HBb.out.2 HB3.out.1.size)
  clear hw3 hkk hb23 HX3 HL3 HB2 HB3 HO HLx HBb
  go_wp2_with (first
    | rw [HE3.out, HKk.out]
    | rw [HE7.out]
    | (at_builtin
       refine wpList_appE w3.heap.size rfl rfl _ _ rfl Bb k _ l rfl rfl HO3.out (by omega) HSz.out ?_
       intro g6 cap6 w6 ho6 hg6 hat6 hl6
       have HF6 := (show Hid _ from HPu.out w6 g6 cap6 ho6 hg6 hat6)
       have m0 := HF6.out.1.c0
       have mf := HF6.out.1.fz
       obtain ⟨w7, hw7⟩ : ∃ w7, w7 = w6.setCell ⟨lb, 0, none⟩ (.slice (some ⟨g6, 0, none⟩) (k + 1) cap6) := ⟨_, rfl⟩
       have HE7 := (show Hid (w6.setCell ⟨lb, 0, none⟩ (.slice (some ⟨g6, 0, none⟩) (k + 1) cap6) = w7) from hw7.symm)
       have HF7 := (show Hid _ from HF6.out.2 w7 hw7)
       have y0 : w7.cell? ⟨kk, 0, none⟩ = some (.bool en) := HF7.out.1.eb.c0
       have y1 : w7.cell? ⟨kk, 1, none⟩ = some (.bool ec) := HF7.out.1.eb.c1
       have y2 : w7.cell? ⟨kk, 2, none⟩ = some (.int .i64 el) := HF7.out.1.eb.c2
       have y3 : w7.cell? ⟨kk, 3, none⟩ = some (.int .i64 em) := HF7.out.1.eb.c3
       have z0 : w7.cell? ⟨w.heap.size + 1, 0, none⟩ = some (.bool false) := HF7.out.2.1.eb.c0
       have z1 : w7.cell? ⟨w.heap.size + 1, 1, none⟩ = some (.bool false) := HF7.out.2.1.eb.c1
       have z2 : w7.cell? ⟨w.heap.size + 1, 2, none⟩ = some (.int .i64 0) := HF7.out.2.1.eb.c2
       have z3 : w7.cell? ⟨w.heap.size + 1, 3, none⟩ = some (.int .i64 0) := HF7.out.2.1.eb.c3
       have f0 := HF7.out.2.1.fz 0
       have f1 := HF7.out.2.1.fz 1
       have f2 := HF7.out.2.1.fz 2
       have f3 := HF7.out.2.1.fz 3
       clear ho6 hg6 hat6 hl6 HPu HO3 HSz hw7 HF6 x0 x1 x2 x3 l0))
  refine ret_ex (s := 6) (k := w.heap.size + 1) (by rfl) (by rfl) (by rfl) (HF7.out.2.1.all ⟨en, ec, el, em⟩) ?_
  exact ⟨rfl, HF7.out.2.2⟩
end Go.Proofs.YtbipjdgholdhcabGreat.N

namespace Go.Proofs.YtbipjdgholdhcabGreat.N
open Go.RowKit Go.Maps
open Go.Proofs.YtbipjdgholdhcabGreat.T
/-- While the parts of a pattern are told. -/
def JP (gs : GL) (now : List Em) (Bm : Nat) (Ar : Option Addr) (cr kb lb : Nat) (E : Nat → Em) (k : Nat) (X : Nat → Prop) (w : World) : Prop := ∃ v, (∀ b, X b ↔ (b = lb ∨ v.ownBlock = some b)) ∧ LX w lb v ∧ w.ownsRow (lb + 1) 110 4 v k (emc ((List.range k).map E)) ∧ KX w kb (.map (some Bm)) (.slice Ar now.length cr) ∧ KnI w gs Bm Ar now
theorem see_pt {gs : GL} {now : List Em} {L : List Nd} (h : PtR gs now L) (Bm : Nat) (Ar : Option Addr) (cr kb lb Bc B : Nat) (h1 : kb < lb) (h2 : Bm < lb) (h3 : ∀ g o, Ar = some ⟨g, o, none⟩ → g < lb) (h4 : lb < B) (h5 : Bc ≤ lb) : See9 L 84 #[] #[.pointer (some ⟨kb, 0, none⟩), .pointer (some ⟨lb, 0, none⟩)] (EE (lkE gs now) L) Bc B (JP gs now Bm Ar cr kb lb (EE (lkE gs now) L)) where
  kept := fun k X w w' hj hz hb => by
    obtain ⟨v, hX, hL, ho, hk, hn⟩ := hj
    exact ⟨v, hX, hL.same (hb _ (.inr ((hX _).2 (.inl rfl)))), own_same ho (fun q hq => hb q (.inr ((hX _).2 (.inr hq)))), hk.same (hb _ (.inl (by omega))), hn.same hz (hb _ (.inl (by omega))) (fun g o e => hb _ (.inl (by have := h3 g o e; omega)))⟩
  far := fun k X w hj b hb => by
    obtain ⟨v, hX, hL, ho, hk, hn⟩ := hj
    rcases (hX b).1 hb with rfl | q
    · exact ⟨h5, hL.lt⟩
    · have := ho.lt b q
      exact ⟨by omega, this.2⟩
  call := fun k X w A c n hj hB hn hp hA => by
    obtain ⟨v, hX, hL, ho, hk, hkn⟩ := hj
    have hlow : ∀ q, v.ownBlock = some q → lb + 1 ≤ q := fun q hq => (ho.lt q hq).1
    refine (part1_any h hn Bm Ar A cr c kb lb (lb + 1) v _ w hkn hk hL (by rw [List.length_map, List.length_range]) ho (Nat.lt_succ_self _) hL.lt hp).mono ?_
    rintro e w' ⟨rfl, v', hL', ho', hb', hkp⟩
    have same : ∀ b, b < lb → w'.heap[b]? = w.heap[b]? := fun b hb => hkp.block b (Nat.lt_trans hb hL.lt) (fun q => by
      rcases q with q | q
      · omega
      · have := hlow b q; omega)
    refine ⟨rfl, fun b => b = lb ∨ v'.ownBlock = some b, ⟨v', fun b => Iff.rfl, hL', by rw [List.range_succ, List.map_append]; exact ho', hk.same (same _ h1), hkn.same hkp.size (same _ h2) (fun g o e => same _ (h3 g o e))⟩, ⟨hkp.os, hkp.tape, hkp.output, hkp.size, fun b hb hnX => hkp.block b hb (fun q => hnX ((hX b).2 q))⟩, fun b q => ?_⟩
    rcases q with q | q
    · exact .inl ((hX b).2 (.inl q))
    · rcases hb' b q with q | q
      · exact .inl ((hX b).2 (.inr q))
      · exact .inr q
theorem enters_pt1 (args : Array Value) (w : World) : (callFunc 84 args).run Tryz.prog w = .ok (.enter 84 args) w := enters_of Tryz.func84 (by kernel_rfl) rfl args w
set_option maxRecDepth 100000 in
set_option maxHeartbeats 8000000 in
/-- All parts of a pattern. -/
theorem parts_any {gs : GL} {now : List Em} {L : List Nd} (h : PtR gs now L) (B : Nat) (Ar Ap : Option Addr) (cr cp : Nat) (w : World) (hk : KnI w gs B Ar now) (hn : now ≠ []) (hL : RdN w Ap L) :
    Calls Tryz.prog 75 #[.agg #[.map (some B), .slice Ar now.length cr], .slice Ap L.length cp] w fun e w' => (∃ v, e = .returned v ∧ w'.ownsRow w.heap.size 110 4 v L.length (emc ((List.range L.length).map (EE (lkE gs now) L)))) ∧ Below w.heap.size w w' := by
  obtain ⟨w1, hw1⟩ : ∃ w1, w1 = (w.alloc (.cells #[.map (some B), .slice Ar now.length cr] 105)).alloc (.cells #[.slice none 0 0] 64) := ⟨_, rfl⟩
  have HE1 := (show Hid ((w.alloc (.cells #[.map (some B), .slice Ar now.length cr] 105)).alloc (.cells #[.slice none 0 0] 64) = w1) from hw1.symm)
  have s1 := World.size_alloc w (.cells #[.map (some B), .slice Ar now.length cr] 105)
  have s2 : w1.heap.size = w.heap.size + 2 := by rw [hw1, World.size_alloc, s1]
  have hb1 : Below w.heap.size w w1 := by rw [hw1]; exact ((Below.refl _ _).alloc (Nat.le_refl _) _).alloc (by omega) _
  have hk1 : KX w1 w.heap.size (.map (some B)) (.slice Ar now.length cr) := by rw [hw1]; exact (KX.new w _ _).below (below_box _ _)
  have hl1 : LX w1 (w.heap.size + 1) (.slice none 0 0) := by
    have q : LX ((w.alloc (.cells #[.map (some B), .slice Ar now.length cr] 105)).alloc (.cells #[.slice none 0 0] 64)) (w.alloc (.cells #[.map (some B), .slice Ar now.length cr] 105)).heap.size (.slice none 0 0) := ⟨heap_alloc_new _ _⟩
    rw [s1, ← hw1] at q; exact q
  have HT := hid_of (through9_any L 84 #[] #[.pointer (some ⟨w.heap.size, 0, none⟩), .pointer (some ⟨w.heap.size + 1, 0, none⟩)] (EE (lkE gs now) L) (JP gs now B Ar cr w.heap.size (w.heap.size + 1) (EE (lkE gs now) L)) Ap cp w.heap.size h.rt w1 hb1.size (hL.below hb1 (Nat.le_refl _)) (fun a ha => by
      have hne : L ≠ [] := by rintro rfl; have := h.rt.one; simp [run] at this
      obtain ⟨g, o, e, lt, _⟩ := hL hne
      rw [e] at ha
      obtain rfl := Option.some.inj ha
      exact lt) enters_pt1 (see_pt h B Ar cr w.heap.size (w.heap.size + 1) w.heap.size w1.heap.size (by omega) (by have := hk.m.lt; omega) (fun g o e => by have := rde_lt hk.r hn g o e; omega) (by omega) (by omega)) (fun b => b = w.heap.size + 1 ∨ (Value.slice none 0 0).ownBlock = some b) ⟨_, fun b => Iff.rfl, hl1, World.ownsRow_nil _ _ _ _, hk1, hk.later hb1⟩ (fun b q => by
      rcases q with q | q
      · omega
      · simp [Value.ownBlock] at q))
  have HB1 := (show Hid (Below w.heap.size w w1) from hb1)
  obtain ⟨⟨en, ec, el, em⟩, hE⟩ : ∃ e, e = EE (lkE gs now) L (L.length - 1) := ⟨_, rfl⟩
  rw [← hE] at HT
  simp only [emG] at HT
  clear hw1 h hk hn hL s1 s2 hb1 hk1 hl1
  go_enter Tryz.func75, Tryz.ntmps75
  go_wp2_with (rw [HE1.out])
  refine Calls.mono HT.out ?_
  rintro e w2 ⟨rfl, b2, X, v, _, hL2, ho2, _, _⟩
  obtain ⟨A2, c2, rfl⟩ := own_fm ho2
  have l0 := hL2.c0
  have HO := (show Hid (w2.ownsRow w.heap.size 110 4 (.slice A2 L.length c2) L.length (emc ((List.range L.length).map (EE (lkE gs now) L)))) from T.own_base ho2 (by omega))
  have HB2 := (show Hid (Below w.heap.size w w2) from HB1.out.trans b2)
  clear HT HE1 b2 hL2 ho2 hE HB1
  go_wp2_with fail
  go_ret
  exact ⟨⟨_, rfl, HO.out⟩, HB2.out⟩
end Go.Proofs.YtbipjdgholdhcabGreat.N

namespace Go.Proofs.YtbipjdgholdhcabGreat.N
open Go.RowKit Go.Maps
open Go.Proofs.YtbipjdgholdhcabGreat.T
/-- What Parts answers. -/
def PaR (gs : GL) (r : Int) (l : List Em) (cd : Int) : Prop := ((ckG gs).2 ≠ 0 → cd = (ckG gs).2 ∧ l = []) ∧ ((ckG gs).2 = 0 → (r < 0 ∨ (gs.length : Int) ≤ r → cd = 1 ∧ l = []) ∧ ∀ (k : Nat) g, r = k → gs[k]? = some g → cd = 0 ∧ ∃ now, KnF gs now ∧ l = (List.range g.2.length).map (EE (lkE gs now) g.2))
theorem below_dr (w : World) : Below w.heap.size w w.drew := ⟨rfl, rfl, rfl, Nat.le_refl _, fun _ _ => rfl⟩
theorem enters_pts (args : Array Value) (w : World) : (callFunc 75 args).run Tryz.prog w = .ok (.enter 75 args) w := enters_of Tryz.func75 (by kernel_rfl) rfl args w
set_option maxRecDepth 100000 in
set_option maxHeartbeats 8000000 in
theorem partsP_any (gs : GL) (A : Option Addr) (c : Nat) (r : Int) (w : World) (hp : GI w A gs) :
    Calls Tryz.prog 58 #[.agg #[.slice A gs.length c], .int .i64 r] w fun e w' => (∃ v l cd, e = .returned (.tuple #[v, .int .i64 cd]) ∧ PaR gs r l cd ∧ w'.ownsRow w.heap.size 110 4 v l.length (emc l)) ∧ Below w.heap.size w w' := by
  obtain ⟨w1, hw1⟩ : ∃ w1, w1 = w.alloc (.cells #[.slice A gs.length c] 24) := ⟨_, rfl⟩
  have HE1 := (show Hid (w.alloc (.cells #[.slice A gs.length c] 24) = w1) from hw1.symm)
  have HB1 := (show Hid (Below w.heap.size w w1) from by rw [hw1]; exact below_box _ _)
  have HG1 := (show Hid (GX w1 w.heap.size (.slice A gs.length c)) from by rw [hw1]; exact GX.mk (heap_alloc_new w _))
  have q1 := HG1.out.cl
  have HN := hid_of (knownOf_any gs A c w1 (hp.later HB1.out))
  have HP := (show Hid (GI w A gs) from hp)
  clear hw1 hp
  go_enter Tryz.func58, Tryz.ntmps58
  go_wp2_with (rw [HE1.out])
  refine Calls.mono HN.out ?_
  rintro e w2 ⟨⟨m, v, rfl, h1, h2⟩, b2⟩
  have HB2 := (show Hid (Below w.heap.size w w2) from HB1.out.trans (b2.mono HB1.out.size))
  have HG2 := (show Hid (GX w2 w.heap.size (.slice A gs.length c)) from HG1.out.below b2)
  have hs1 := HB1.out.size
  clear HN HE1 q1 b2 HG1
  by_cases hz : (ckG gs).2 = 0
  · obtain ⟨mb, Ar, cr, now, rfl, rfl, _, hm2, hF, hl, hok, ho⟩ := h2 hz
    have tz : ((ckG gs).2 != 0) = false := by rw [hz]; rfl
    have hR := ckG_ok.1 hz
    have hn200 := hR.n2
    obtain ⟨w3, hw3⟩ : ∃ w3, w3 = w2.alloc (.cells #[.map (some mb), .slice Ar gs.length cr] 105) := ⟨_, rfl⟩
    have HE3 := (show Hid (w2.alloc (.cells #[.map (some mb), .slice Ar gs.length cr] 105) = w3) from hw3.symm)
    have hb3 : Below w2.heap.size w2 w3 := by rw [hw3]; exact below_box _ _
    have k0 : w3.cell? ⟨w2.heap.size, 0, none⟩ = some (.map (some mb)) := by rw [hw3]; exact (KX.new w2 _ _).c0
    have k1 : w3.cell? ⟨w2.heap.size, 1, none⟩ = some (.slice Ar gs.length cr) := by rw [hw3]; exact (KX.new w2 _ _).c1
    have HB3 := (show Hid (Below w.heap.size w w3) from HB2.out.trans (hb3.mono HB2.out.size))
    have q3 := (HG2.out.below hb3).cl
    have HKn := (show Hid (KnI w3 gs mb Ar now) from ⟨hm2.later hb3, own_rd (T.own_below ho hb3) hl, hl⟩)
    have HR := (show Hid (RtG gs ∧ KnF gs now ∧ now.length = gs.length ∧ OkN gs now ∧ (ckG gs).2 = 0) from ⟨hR, hF, hl, hok, hz⟩)
    clear h1 h2 ho hF hl hok hz hs1 hm2 hR hw3 hb3 HG2
    generalize hcd : (ckG gs).2 = cd at tz ⊢
    clear hcd
    by_cases h0 : r < 0
    · have HA := (show Hid (PaR gs r [] 1) from ⟨fun q => absurd HR.out.2.2.2.2 q, fun _ => ⟨fun _ => ⟨rfl, rfl⟩, fun k g e _ => absurd e (by omega)⟩⟩)
      clear HKn HR HP
      go_wp2_with (rw [HE3.out])
      refine bodyPost_ret (v := .tuple #[.slice none 0 0, .int .i64 1]) (by simp [results, Tryz.results58, go_sem]) rfl ⟨⟨_, [], 1, rfl, HA.out, World.ownsRow_nil _ _ _ _⟩, HB3.out⟩
    by_cases hg : (gs.length : Int) ≤ r
    · have HA := (show Hid (PaR gs r [] 1) from ⟨fun q => absurd HR.out.2.2.2.2 q, fun _ => ⟨fun _ => ⟨rfl, rfl⟩, fun k g e he => absurd (List.getElem?_eq_some_iff.1 he).1 (by omega)⟩⟩)
      have hg2 : r ≥ (gs.length : Int) := hg
      clear HKn HR HP
      go_wp2_with (rw [HE3.out])
      refine bodyPost_ret (v := .tuple #[.slice none 0 0, .int .i64 1]) (by simp [results, Tryz.results58, go_sem]) rfl ⟨⟨_, [], 1, rfl, HA.out, World.ownsRow_nil _ _ _ _⟩, HB3.out⟩
    obtain ⟨k, rfl⟩ : ∃ k : Nat, r = k := ⟨r.toNat, by omega⟩
    have hk : k < gs.length := by omega
    obtain ⟨g, hgk⟩ : ∃ g, gs[k]? = some g := ⟨_, List.getElem?_eq_getElem hk⟩
    have hmem := List.mem_of_getElem? hgk
    obtain ⟨b, o, A2, c2, rfl, lb, x0, x1, r2⟩ := HP.out.d k g hgk
    have x0' := (HB3.out.cell (p := ⟨b, o + k * 2, none⟩) lb).trans x0
    have x1' := (HB3.out.cell (p := ⟨b, o + k * 2 + 1, none⟩) lb).trans x1
    have z0 : (0 : Int) ≤ (k : Int) := by omega
    have z1 : (k : Int) < (gs.length : Int) := by omega
    have hg3 : ¬ (k : Int) ≥ (gs.length : Int) := by omega
    have HC := (show Hid (∀ _ : Unit, Calls Tryz.prog 75 #[.agg #[.map (some mb), .slice Ar gs.length cr], .slice A2 g.2.length c2] w3.drew fun e w' => (∃ v, e = .returned v ∧ w'.ownsRow w3.heap.size 110 4 v g.2.length (emc ((List.range g.2.length).map (EE (lkE gs now) g.2)))) ∧ Below w3.heap.size w3 w') from fun _ => by
      have hne : now ≠ [] := by rintro rfl; have h1 := HR.out.2.2.1; have h2 := HR.out.1.n1; rw [← h1] at h2; exact absurd h2 (by decide)
      have t := parts_any (ptR_of HR.out.1 HP.out HR.out.2.2.2.1 hmem) mb Ar A2 cr c2 w3.drew (HKn.out.later (below_dr w3)) hne ((r2.below HB3.out (Nat.le_refl _)).below (below_dr w3) (Nat.le_refl _))
      rw [HR.out.2.2.1] at t
      refine t.mono ?_
      rintro e w' ⟨h1, h2⟩
      exact ⟨h1, ⟨h2.os, h2.tape, h2.output, h2.size, h2.block⟩⟩)
    have HA := (show Hid (PaR gs k ((List.range g.2.length).map (EE (lkE gs now) g.2)) 0) from ⟨fun q => absurd HR.out.2.2.2.2 q, fun _ => ⟨fun q => by omega, fun k2 g2 e he => by
      have e2 : k = k2 := by omega
      subst e2
      rw [hgk] at he
      obtain rfl := Option.some.inj he
      exact ⟨rfl, now, HR.out.2.1, rfl⟩⟩⟩)
    have HSz := (show Hid (w.heap.size ≤ w3.heap.size) from HB3.out.size)
    clear hgk hmem x0 x1 r2 HKn HR HP hg hk
    go_wp2_with (rw [HE3.out])
    go_region_law (refine step_call2 enters_pts rfl _ _ _ _ (by rfl) (.agg #[.map (some mb), .slice Ar gs.length cr]) (.slice A2 g.2.length c2) (by rfl) (by rfl) ?_; with_reducible refine (HC.out ()).mono ?_; rintro e w4 ⟨⟨v4, rfl, ho4⟩, b4⟩; refine ⟨_, rfl, ?_⟩)
    all_goals
      have HO4 := hid_of ho4
      have HB4 := hid_of b4
      clear ho4 b4
      go_wp2_with fail
      refine bodyPost_ret (v := .tuple #[v4, .int .i64 0]) (by simp [results, Tryz.results58, go_sem]) rfl ⟨⟨_, _, 0, rfl, HA.out, by rw [List.length_map, List.length_range]; exact T.own_base HO4.out HSz.out⟩, HB3.out.trans (HB4.out.mono HSz.out)⟩
  · obtain ⟨rfl, rfl⟩ := h1 hz
    have tz : ((ckG gs).2 != 0) = true := by rw [bne, beq_eq_false_iff_ne.2 hz]; rfl
    have HR := (show Hid (PaR gs r [] (ckG gs).2) from ⟨fun _ => ⟨rfl, rfl⟩, fun q => absurd q hz⟩)
    clear h1 h2 hz hs1 HG2 HP
    have HB3 := (show Hid (Below w2.heap.size w2 (w2.alloc (.cells #[.map none, .slice none 0 0] 105))) from below_box _ _)
    generalize hcd : (ckG gs).2 = cd at tz HR ⊢
    clear hcd
    go_wp2_with fail
    refine bodyPost_ret (v := .tuple #[.slice none 0 0, .int .i64 cd]) (by simp [results, Tryz.results58, go_sem]) rfl ⟨⟨_, [], cd, rfl, HR.out, World.ownsRow_nil _ _ _ _⟩, HB2.out.trans (HB3.out.mono HB2.out.size)⟩
end Go.Proofs.YtbipjdgholdhcabGreat.N

namespace Go.Proofs.YtbipjdgholdhcabGreat.N
open Go.RowKit Go.Maps
open Go.Proofs.YtbipjdgholdhcabGreat.T
/-- A pattern in which each call gives way to a node without parts. -/
def seN (nu : ByteArray → Bool) (n : Nd) : Nd := if n.op = 6 then (if nu n.tx then ⟨1, 0, ⟨#[]⟩, 0, 0, 0, 0⟩ else ⟨3, 0, ⟨#[]⟩, 0, 0, 0, 0⟩) else n
def seL (nu : ByteArray → Bool) (L : List Nd) : List Nd := L.map (seN nu)
theorem seN_6 {nu : ByteArray → Bool} {n : Nd} (h : ¬ n.op = 6) : seN nu n = n := by unfold seN; rw [if_neg h]
theorem seN_op {nu : ByteArray → Bool} {n : Nd} : (n.op = 6 ∧ ((seN nu n).op = 1 ∨ (seN nu n).op = 3)) ∨ (¬ n.op = 6 ∧ seN nu n = n) := by
  by_cases h : n.op = 6
  · refine .inl ⟨h, ?_⟩
    unfold seN
    rw [if_pos h]
    split
    · exact .inl rfl
    · exact .inr rfl
  · exact .inr ⟨h, seN_6 h⟩
theorem seN_ar {nu : ByteArray → Bool} {n : Nd} : ar (seN nu n).op = ar n.op := by
  rcases seN_op (nu := nu) (n := n) with ⟨h, e | e⟩ | ⟨_, e⟩
  · rw [h, e]; rfl
  · rw [h, e]; rfl
  · rw [e]
theorem seN_eq {nu : ByteArray → Bool} {n : Nd} {op : Int} (h : ¬ op = 1) (h3 : ¬ op = 3) (h6 : ¬ op = 6) : ((seN nu n).op = op) = (n.op = op) := by
  rcases seN_op (nu := nu) (n := n) with ⟨g, e⟩ | ⟨_, e⟩
  · refine propext ⟨fun q => ?_, fun q => ?_⟩ <;> omega
  · rw [e]
theorem seN_al {nu : ByteArray → Bool} {n : Nd} (h : alE n = 0) : alE (seN nu n) = 0 := by
  by_cases g : n.op = 6
  · unfold seN
    rw [if_pos g]
    split <;> rfl
  · rw [seN_6 g]; exact h
theorem opAt_se {nu : ByteArray → Bool} {L : List Nd} (k : Nat) : arN (T.opAt (seL nu L) k) = arN (T.opAt L k) ∧ ∀ op : Int, ¬ op = 1 → ¬ op = 3 → ¬ op = 6 → ((T.opAt (seL nu L) k = op) = (T.opAt L k = op)) := by
  unfold T.opAt seL
  rw [List.getElem?_map]
  cases h : L[k]? with
  | none => exact ⟨rfl, fun _ _ _ _ => rfl⟩
  | some n => exact ⟨by show arN (seN nu n).op = _; unfold arN; rw [seN_ar], fun op a b c => seN_eq a b c⟩
theorem mk_se {nu : ByteArray → Bool} {L : List Nd} (k : Nat) {op op2 : Int} (ha : arN op2 = arN op) (ho : arN op = 2 → op2 = op) (h7 : arN op = 2 → op = 7 ∨ op = 8) (st : List Pt) (h2 : arN op ≤ 2) : mk (seL nu L) k op2 st = mk L k op st := by
  unfold mk
  rw [ha]
  by_cases e0 : arN op = 0
  · rw [if_pos e0, if_pos e0]
  rw [if_neg e0, if_neg e0]
  by_cases e1 : arN op = 1
  · rw [if_pos e1, if_pos e1]
  rw [if_neg e1, if_neg e1]
  have e2 : arN op = 2 := by omega
  have eo := ho e2
  have e7 := h7 e2
  subst eo
  have key : ∀ j, (T.opAt (seL nu L) j = op2) = (T.opAt L j = op2) := fun j => (opAt_se j).2 op2 (by omega) (by omega) (by omega)
  simp only [key]
theorem arN_le2 (op : Int) : arN op ≤ 2 := by unfold arN; have := ar_hi op; omega
theorem arN_78 {op : Int} (h : arN op = 2) : op = 7 ∨ op = 8 := by
  unfold arN ar at h
  split at h
  · exact absurd h (by decide)
  · split at h
    · exact absurd h (by decide)
    · split at h
      · assumption
      · exact absurd h (by decide)
theorem run_se {nu : ByteArray → Bool} {L : List Nd} : ∀ k, run (seL nu L) k = run L k := by
  have one : ∀ k st, mk (seL nu L) k (T.opAt (seL nu L) k) st = mk L k (T.opAt L k) st := fun k st => by
    have ha := (opAt_se (nu := nu) (L := L) k).1
    refine mk_se k ha (fun h => ?_) (fun h => arN_78 h) st (arN_le2 _)
    have h7 := arN_78 h
    have hq := (opAt_se (nu := nu) (L := L) k).2 (T.opAt L k) (by omega) (by omega) (by omega)
    exact of_eq_true (hq.trans (eq_true rfl))
  intro k
  induction k with
  | zero => rfl
  | succ k ih =>
    rw [run, run, ih, one]
    rw [(opAt_se (nu := nu) (L := L) k).1]
theorem pt_se {nu : ByteArray → Bool} {L : List Nd} (k : Nat) : pt (seL nu L) k = pt L k := by
  have h := run_succ (seL nu L) k
  have g := run_succ L k
  rw [run_se] at h
  rw [h] at g
  injection g
theorem rt_se {nu : ByteArray → Bool} {L : List Nd} (h : Rt L) : Rt (seL nu L) := by
  have hl : (seL nu L).length = L.length := by unfold seL; exact List.length_map ..
  refine ⟨by rw [hl]; exact h.len, fun k hk => ?_, by rw [hl, run_se]; exact h.one⟩
  rw [hl] at hk
  have hn : L[k]? = some L[k] := List.getElem?_eq_getElem hk
  have hk2 := er_ok hn (h.each k hk)
  have e := h.each k hk
  unfold er at e ⊢
  rw [hn] at e
  have hs : (seL nu L)[k]? = some (seN nu L[k]) := by unfold seL; rw [List.getElem?_map, hn]; rfl
  rw [hs]
  have hal := hk2.al
  have h1 := seN_al (nu := nu) hal
  have h2 : arN (seN nu L[k]).op = arN L[k].op := by unfold arN; rw [seN_ar]
  simp only [h1, h2, run_se, pt_se, hal] at e ⊢
  exact e
theorem kdR_se {nu : ByteArray → Bool} {L : List Nd} (k : Nat) : kdR (seL nu L) k = kdR L k := by
  unfold kdR
  rw [run_se, (opAt_se (nu := nu) (L := L) k).1]
theorem rtG_se {nu : ByteArray → Bool} {L : List Nd} (h : Rt L) : RtG [(⟨#[]⟩, seL nu L)] := by
  have hr := rt_se (nu := nu) h
  refine ⟨Nat.le_refl 1, (by show 1 ≤ 200; omega), fun g hg => ?_, fun g hg => ?_, ?_, ⟨fun i j a b ha hb _ => ?_, fun g hg n hn h6 => ?_⟩⟩
  · rw [List.mem_singleton.1 hg]; exact .inr ⟨rfl, rfl⟩
  · rw [List.mem_singleton.1 hg, hr.ck]
  · have := hr.len
    simp
    omega
  · have h1 := (List.getElem?_eq_some_iff.1 ha).1
    have h2 := (List.getElem?_eq_some_iff.1 hb).1
    simp at h1 h2
    omega
  · exfalso
    rw [List.mem_singleton.1 hg] at hn
    unfold seL at hn
    obtain ⟨m, _, rfl⟩ := List.mem_map.1 hn
    rcases seN_op (nu := nu) (n := m) with ⟨_, e⟩ | ⟨g6, e⟩
    · omega
    · rw [e] at h6; exact g6 h6
theorem nuD_se {nu r : ByteArray → Bool} {n : Nd} {x y : Bool} : nuD (seN nu n) x y r = nuD n x y nu := by
  by_cases h : n.op = 6
  · have e : nuD n x y nu = nu n.tx := by
      unfold nuD
      rw [if_neg (by omega), if_neg (by omega), if_pos h]
    rw [e]
    unfold seN
    rw [if_pos h]
    cases nu n.tx <;> rfl
  · rw [seN_6 h]
    unfold nuD
    simp only [h, if_false]
theorem nuL_se {nu r : ByteArray → Bool} {L : List Nd} : ∀ k, k ≤ L.length → nuL (kdR (seL nu L)) r (seL nu L) k = nuL (kdR L) nu L k := by
  intro k
  induction k with
  | zero => intro _; rfl
  | succ k ih =>
    intro hk
    have hn : L[k]? = some L[k] := List.getElem?_eq_getElem (by omega)
    have hs : (seL nu L)[k]? = some (seN nu L[k]) := by unfold seL; rw [List.getElem?_map, hn]; rfl
    rw [nuL_succ hn, nuL_succ hs, ih (by omega), kdR_se, nuD_se]
theorem ee_nu {L : List Nd} {r : ByteArray → Em} (j : Nat) : (EE r L j).nu = nuA (kdR L) (fun s => (r s).nu) L j := by
  unfold EE nuA
  rw [← emL_nu _ (Nat.le_refl _), List.getElem?_map]
  cases (emL (kdR L) r L L.length)[j]? <;> rfl
/-- What layer 9 says of the parts of a pattern whose calls gave way. -/
theorem se_nu {nu : ByteArray → Bool} {L : List Nd} {r : ByteArray → Em} (j : Nat) : (EE r (seL nu L) j).nu = nuA (kdR L) nu L j := by
  rw [ee_nu]
  unfold nuA
  have hl : (seL nu L).length = L.length := by unfold seL; exact List.length_map ..
  rw [hl, nuL_se _ (Nat.le_refl _)]
theorem seL_len {nu : ByteArray → Bool} {L : List Nd} : (seL nu L).length = L.length := by unfold seL; exact List.length_map ..
/-- What Parts answers of such a pattern as a grammar alone. -/
theorem pa_se {nu : ByteArray → Bool} {L : List Nd} (h : Rt L) {l : List Em} {cd : Int} (hp : PaR [(⟨#[]⟩, seL nu L)] 0 l cd) : cd = 0 ∧ l.length = L.length ∧ l.map Em.nu = (List.range L.length).map (nuA (kdR L) nu L) := by
  obtain ⟨_, h2⟩ := hp
  have hz := ckG_ok.2 (rtG_se (nu := nu) h)
  obtain ⟨_, h3⟩ := h2 hz
  obtain ⟨e1, now, _, e2⟩ := h3 0 (⟨#[]⟩, seL nu L) rfl rfl
  have e2 : l = (List.range (seL nu L).length).map (EE (lkE [(⟨#[]⟩, seL nu L)] now) (seL nu L)) := e2
  rw [seL_len] at e2
  refine ⟨e1, by rw [e2, List.length_map, List.length_range], ?_⟩
  rw [e2, List.map_map]
  congr 1
  funext j
  exact se_nu j
end Go.Proofs.YtbipjdgholdhcabGreat.N

namespace Go.Proofs.YtbipjdgholdhcabGreat.N
open Go.RowKit Go.Maps
open Go.Proofs.YtbipjdgholdhcabGreat.T
/-- Which rules are heads of which. -/
def hdM (gs : GL) (nb : List Bool) : Mx := fun i q => match gs[i]? with
  | none => false
  | some g => hbA (kdR g.2) (nuA (kdR g.2) (lkB gs nb) g.2) (fdG gs) g.2 (g.2.length - 1) q
theorem hdM_of {gs : GL} {nb : List Bool} {i q : Nat} {g : ByteArray × List Nd} (h : gs[i]? = some g) : hdM gs nb i q = hbA (kdR g.2) (nuA (kdR g.2) (lkB gs nb) g.2) (fdG gs) g.2 (g.2.length - 1) q := by unfold hdM; rw [h]
theorem rt_facts {gs : GL} (hR : RtG gs) {g : ByteArray × List Nd} (hm : g ∈ gs) : Rt g.2 ∧ Kds (kdR g.2) g.2 ∧ (∀ n ∈ g.2, alE n = 0) ∧ 0 < g.2.length ∧ g.2.length ≤ 2048 := by
  have hrt : Rt g.2 := rt_of (hR.ck _ hm)
  refine ⟨hrt, kds_R hrt, fun n q => ?_, ?_, by have := hrt.len; omega⟩
  · obtain ⟨k, hk⟩ := List.getElem?_of_mem q
    exact (er_ok hk (hrt.each k (List.getElem?_eq_some_iff.1 hk).1)).al
  · apply Nat.pos_of_ne_zero
    intro e
    have h1 := hrt.one
    have e2 : g.2 = [] := List.eq_nil_of_length_eq_zero e
    rw [e2] at h1
    simp [run] at h1
theorem hdM_lt {gs : GL} (hR : RtG gs) {nb : List Bool} (i q : Nat) (h : hdM gs nb i q = true) : i < gs.length ∧ q < gs.length := by
  unfold hdM at h
  cases e : gs[i]? with
  | none => rw [e] at h; cases h
  | some g =>
    rw [e] at h
    obtain ⟨_, hk, ha, h0, _⟩ := rt_facts hR (List.mem_of_getElem? e)
    have h : hbA (kdR g.2) (nuA (kdR g.2) (lkB gs nb) g.2) (fdG gs) g.2 (g.2.length - 1) q = true := h
    obtain ⟨j, _, hj⟩ := (hb_iff hk ha g.2.length (g.2.length - 1) (by omega) (by omega) q).1 h
    refine ⟨(List.getElem?_eq_some_iff.1 e).1, ?_⟩
    unfold clB at hj
    cases w : g.2[j]? with
    | none => rw [w] at hj; cases hj
    | some n =>
      rw [w] at hj
      simp only [Bool.and_eq_true, decide_eq_true_eq] at hj
      exact fdG_lt hj.2
/-- A rule's heads as a list. -/
def hdl (n : Nat) (c : Mx) (i : Nat) : List Nat := (List.range n).filter (c i)
theorem hdl_mem {n : Nat} {c : Mx} (hc : ∀ i j, c i j = true → i < n ∧ j < n) {i q : Nat} : q ∈ hdl n c i ↔ c i q = true := by
  unfold hdl
  rw [List.mem_filter, List.mem_range]
  exact ⟨fun h => h.2, fun h => ⟨(hc i q h).2, h⟩⟩
theorem hdl_up (n : Nat) (c : Mx) (i : Nat) : (hdl n c i).Pairwise (· < ·) := List.Pairwise.filter _ List.pairwise_lt_range
theorem hdl_len (n : Nat) (c : Mx) (i : Nat) : (hdl n c i).length ≤ n := by
  have := List.length_filter_le (c i) (List.range n)
  rw [List.length_range] at this
  exact this
/-- Does a node repeat its part? -/
def rpB (n : Nd) : Bool := n.op == 9 || (n.op == 10 || n.op == 15)
/-- A pattern's loops. -/
def lpK (i : Nat) (L : List Nd) (nu : Nat → Bool) : Nat → List (Nat × Nat)
  | 0 => []
  | k + 1 => match L[k]? with
    | none => lpK i L nu k
    | some n => if rpB n && nu (k - 1) then lpK i L nu k ++ [(i, k)] else lpK i L nu k
theorem lpK_succ {i : Nat} {L : List Nd} {nu : Nat → Bool} {k : Nat} {n : Nd} (h : L[k]? = some n) : lpK i L nu (k + 1) = if rpB n && nu (k - 1) then lpK i L nu k ++ [(i, k)] else lpK i L nu k := by rw [lpK, h]
theorem lpK_len {i : Nat} {L : List Nd} {nu : Nat → Bool} : ∀ k, (lpK i L nu k).length ≤ k := by
  intro k
  induction k with
  | zero => exact Nat.le_refl _
  | succ k ih =>
    rw [lpK]
    split
    · omega
    · split
      · rw [List.length_append, List.length_singleton]; omega
      · omega
/-- Those of all rules. -/
def lpG (gs : GL) (nb : List Bool) : Nat → List (Nat × Nat)
  | 0 => []
  | i + 1 => match gs[i]? with
    | none => lpG gs nb i
    | some g => lpG gs nb i ++ lpK i g.2 (nuA (kdR g.2) (lkB gs nb) g.2) g.2.length
theorem lpG_succ {gs : GL} {nb : List Bool} {i : Nat} {g : ByteArray × List Nd} (h : gs[i]? = some g) : lpG gs nb (i + 1) = lpG gs nb i ++ lpK i g.2 (nuA (kdR g.2) (lkB gs nb) g.2) g.2.length := by rw [lpG, h]
theorem lpG_len {gs : GL} {nb : List Bool} {m : Nat} (h : ∀ g ∈ gs, g.2.length ≤ m) : ∀ i, (lpG gs nb i).length ≤ i * m := by
  intro i
  induction i with
  | zero => exact Nat.zero_le _
  | succ i ih =>
    rw [lpG, Nat.succ_mul]
    split
    · omega
    · next g e =>
      have h1 := lpK_len (i := i) (L := g.2) (nu := nuA (kdR g.2) (lkB gs nb) g.2) g.2.length
      have h2 := h g (List.mem_of_getElem? e)
      rw [List.length_append]
      omega
/-- A node that repeats has a part, right ahead of it. -/
theorem rp_pos {L : List Nd} (h : Rt L) {k : Nat} {n : Nd} (hn : L[k]? = some n) (hr : rpB n = true) : 0 < k := by
  have hlt := (List.getElem?_eq_some_iff.1 hn).1
  have hal := (er_ok hn (h.each k hlt)).al
  obtain ⟨hop, _⟩ := al_facts hal
  have h1 : n.op = 9 ∨ n.op = 10 ∨ n.op = 15 := by
    unfold rpB at hr
    simp only [Bool.or_eq_true, beq_iff_eq] at hr
    omega
  have ha := arN_1 hop (by omega) (by omega)
  have hk := (kds_R h).n k n hn
  have hx : ∃ j, (kdR L k)[0]? = some j := ⟨_, List.getElem?_eq_getElem (by omega)⟩
  obtain ⟨j, hj⟩ := hx
  have := (kds_R h).lt k j hlt (List.mem_of_getElem? hj)
  omega
def spV (p : Nat × Nat) : List Value := [.int .i64 (p.1 : Int), .int .i64 (p.2 : Int)]
def spc (l : List (Nat × Nat)) : List Value := l.flatMap spV
theorem spc_app (a b : List (Nat × Nat)) : spc (a ++ b) = spc a ++ spc b := List.flatMap_append
theorem spc_one (p : Nat × Nat) : spc [p] = spV p := by unfold spc; rw [List.flatMap_cons, List.flatMap_nil, List.append_nil]
theorem sp_one (p : Nat × Nat) : ∀ u ∈ spV p, u.oneCell' = true := fun u hu => by
  simp only [spV, List.mem_cons, List.not_mem_nil, or_false] at hu
  rcases hu with rfl | rfl <;> rfl
end Go.Proofs.YtbipjdgholdhcabGreat.N
