/- DERIVED. Plain mathematics and walks, laid together (9). -/
import Derived.Test.YtokfgoepnfjafaaEl08
namespace Go.Proofs.Ytokfgoepnfjafaa.N
open Go.RowKit Go.Maps
open Go.Proofs.Ytokfgoepnfjafaa.T

open U (own_get)
/-- What is known in the end. -/
def KnF (gs : GL) (now : List Em) : Prop := ∃ (R : Mx) (bd : Nat → Bool) (m : Nat), IsR gs.length (cG gs) R ∧ (∀ i, bd i = !(R i i)) ∧ now = pgE gs kdR bd m ∧ pgE gs kdR bd (m + 1) = pgE gs kdR bd m
theorem gk_R {gs : GL} (hR : RtG gs) : GK gs kdR := ⟨hR, fun g hg => kds_R (rt_of (hR.ck g hg))⟩
theorem bd_R {gs : GL} {l : List Bool} (hz : (ckG gs).2 = 0) (h : AgR gs l) : ∃ R, IsR gs.length (cG gs) R ∧ ∀ i, bdA l i = !(R i i) := by
  classical
  obtain ⟨h1, h2⟩ := h.1 hz
  refine ⟨fun i j => decide (i < gs.length ∧ Rc gs.length (cG gs) i j), ?_, fun i => ?_⟩
  · exact ⟨fun i j => cG_lt, fun i j hi hj => ⟨fun q => (of_decide_eq_true q).2, fun q => decide_eq_true ⟨hi, q⟩⟩⟩
  · unfold bdA
    have h3 := h2 i
    show _ = !decide (i < gs.length ∧ Rc gs.length (cG gs) i i)
    by_cases q : i < gs.length ∧ Rc gs.length (cG gs) i i
    · rw [h3.2 q, decide_eq_true q]; rfl
    · rw [decide_eq_false q]
      cases e : l[i]? with
      | none => rfl
      | some b =>
        cases b with
        | false => rfl
        | true => exact absurd (h3.1 e) q
structure KoS (w wr : World) (u : Value) (kb mb gA : Nat) (gs : GL) (ag : List Bool) (Ar : Option Addr) (cr : Nat) (now : List Em) : Prop where
  b : Below w.heap.size w wr
  g : GX wr w.heap.size u
  r : KX wr (w.heap.size + 1) (.map none) (.slice none 0 0)
  k : KX wr kb (.map (some mb)) (.slice Ar gs.length cr)
  m : NmM wr mb gs
  a : RdB wr gA ag
  l : now.length = gs.length
  o : wr.ownsRow (w.heap.size + 2) 32 4 (.slice Ar gs.length cr) gs.length (emc now)
  e1 : w.heap.size + 2 ≤ mb
  e2 : mb < kb
  e3 : gA < kb
theorem KoS.later {w wr w2 : World} {u : Value} {kb mb gA : Nat} {gs : GL} {ag : List Bool} {Ar : Option Addr} {cr : Nat} {now : List Em} (h : KoS w wr u kb mb gA gs ag Ar cr now) (hb : Below wr.heap.size wr w2) : KoS w w2 u kb mb gA gs ag Ar cr now :=
  ⟨h.b.trans (hb.mono h.b.size), h.g.below hb, h.r.below hb, h.k.below hb, h.m.later hb, h.a.later hb, h.l, T.own_below h.o hb, h.e1, h.e2, h.e3⟩
theorem own_rd {W : World} {B n cr : Nat} {Ar : Option Addr} {l : List Em} (h : W.ownsRow B 32 4 (.slice Ar n cr) n (emc l)) (hl : l.length = n) : RdE W Ar l := by
  subst hl
  obtain ⟨A, c, e, h2⟩ := own_re h
  injection e with e1 _ _
  rw [e1]; exact h2
theorem own_fm {W : World} {B n : Nat} {v : Value} {xs : List Value} (h : W.ownsRow B 32 4 v n xs) : ∃ A c, v = .slice A n c := by
  rcases h.2 with ⟨rfl, rfl⟩ | ⟨g, cap, cur, rfl, _⟩
  · exact ⟨_, _, rfl⟩
  · exact ⟨_, _, rfl⟩
theorem KoS.kn {w wr : World} {u : Value} {kb mb gA : Nat} {gs : GL} {ag : List Bool} {Ar : Option Addr} {cr : Nat} {now : List Em} (h : KoS w wr u kb mb gA gs ag Ar cr now) : KnI wr gs mb Ar now := ⟨h.m, own_rd h.o h.l, h.l⟩
/-- The next ones take the place. -/
theorem KoS.next {w wr w2 : World} {u : Value} {kb mb gA : Nat} {gs : GL} {ag : List Bool} {Ar An : Option Addr} {cr cn : Nat} {now nx : List Em} (h : KoS w wr u kb mb gA gs ag Ar cr now) (hb : Below wr.heap.size wr w2) (ho : w2.ownsRow (wr.heap.size + 2) 32 4 (.slice An gs.length cn) gs.length (emc nx)) (hl : nx.length = gs.length) : KoS w (w2.setCell ⟨kb, 1, none⟩ (.slice An gs.length cn)) u kb mb gA gs ag An cn nx := by
  have h2 := h.later hb
  have e1 := h.e1
  have e2 := h.e2
  have e3 := h.e3
  have hkb := h.k.lt
  have hsz := h.b.size
  have key : ∀ j, j ≠ kb → (w2.setCell ⟨kb, 1, none⟩ (.slice An gs.length cn)).heap[j]? = w2.heap[j]? := fun j hj => heap_setCell_other _ _ _ _ hj
  refine ⟨h2.b.setCell (p := ⟨kb, 1, none⟩) (by show w.heap.size ≤ kb; omega) _, h2.g.same (key _ (by omega)), h2.r.same (key _ (by omega)), h2.k.set1 _, h2.m.same (key _ (by omega)), fun j b hj => ?_, hl, T.own_base (own_same ho fun q hq => key q (by have := (ho.lt q hq).1; omega)) (by omega), e1, e2, e3⟩
  rw [World.cell?_of_block (a := ⟨gA, j, none⟩) (key gA (by omega))]
  exact h2.a j b hj
/-- What is told. -/
theorem KoS.told {w wr : World} {u : Value} {kb mb gA : Nat} {gs : GL} {ag : List Bool} {Ar : Option Addr} {cr : Nat} {now : List Em} (h : KoS w wr u kb mb gA gs ag Ar cr now) (W : World) (hW : W = (wr.setCell ⟨w.heap.size + 1, 0, none⟩ (.map (some mb))).setCell ⟨w.heap.size + 1, 1, none⟩ (.slice Ar gs.length cr)) : KX W (w.heap.size + 1) (.map (some mb)) (.slice Ar gs.length cr) ∧ w.heap.size ≤ mb ∧ NmM W mb gs ∧ W.ownsRow w.heap.size 32 4 (.slice Ar gs.length cr) gs.length (emc now) ∧ Below w.heap.size w W := by
  have e1 := h.e1
  have key : ∀ j, j ≠ w.heap.size + 1 → W.heap[j]? = wr.heap[j]? := fun j hj => by rw [hW]; exact (heap_setCell_other _ _ _ _ hj).trans (heap_setCell_other _ _ _ _ hj)
  refine ⟨by rw [hW]; exact (h.r.set0 _).set1 _, by omega, h.m.same (key _ (by omega)), T.own_base (own_same h.o fun q hq => key q (by have := (h.o.lt q hq).1; omega)) (by omega), ?_⟩
  rw [hW]
  exact (h.b.setCell (p := ⟨w.heap.size + 1, 0, none⟩) (by show w.heap.size ≤ w.heap.size + 1; omega) _).setCell (p := ⟨w.heap.size + 1, 1, none⟩) (by show w.heap.size ≤ w.heap.size + 1; omega) _
theorem below_dn {w : World} (m : Nat) : Below w.heap.size w (w.drewN m) := below_drewN (Below.refl _ _) _
set_option maxRecDepth 100000 in
set_option maxHeartbeats 16000000 in
/-- What is known of all rules. -/
theorem knownOf_any (gs : GL) (A : Option Addr) (c : Nat) (w : World) (hp : GI w A gs) :
    Calls Try.prog 8 #[.agg #[.slice A gs.length c]] w fun e w' => (∃ m v, e = .returned (.tuple #[.agg #[m, v], .int .i64 (ckG gs).2]) ∧ ((ckG gs).2 ≠ 0 → m = .map none ∧ v = .slice none 0 0) ∧ ((ckG gs).2 = 0 → ∃ mb Ar cr now, m = .map (some mb) ∧ v = .slice Ar gs.length cr ∧ w.heap.size ≤ mb ∧ NmM w' mb gs ∧ KnF gs now ∧ now.length = gs.length ∧ OkN gs now ∧ w'.ownsRow w.heap.size 32 4 (.slice Ar gs.length cr) gs.length (emc now))) ∧ Below w.heap.size w w' := by
  obtain ⟨w1, hw1⟩ : ∃ w1, w1 = (w.alloc (.cells #[.slice A gs.length c] 24)).alloc (.cells #[.map none, .slice none 0 0] 47) := ⟨_, rfl⟩
  have HE1 := (show Hid ((w.alloc (.cells #[.slice A gs.length c] 24)).alloc (.cells #[.map none, .slice none 0 0] 47) = w1) from hw1.symm)
  have HS1 := (show Hid (Below w.heap.size w w1 ∧ GX w1 w.heap.size (.slice A gs.length c) ∧ KX w1 (w.heap.size + 1) (.map none) (.slice none 0 0) ∧ w1.heap.size = w.heap.size + 2) from by
    have s1 := World.size_alloc w (.cells #[.slice A gs.length c] 24)
    refine ⟨by rw [hw1]; exact ((Below.refl _ _).alloc (Nat.le_refl _) _).alloc (by omega) _, by rw [hw1]; exact (GX.mk (heap_alloc_new w _)).below (below_box _ _), ?_, by rw [hw1, World.size_alloc, s1]⟩
    have h := KX.new (w.alloc (.cells #[.slice A gs.length c] 24)) (.map none) (.slice none 0 0)
    rw [s1, ← hw1] at h; exact h)
  have HN := (show Hid (Calls Try.prog 12 #[.agg #[.slice A gs.length c]] w1 fun e w' => (∃ v l, e = .returned (.tuple #[v, .int .i64 (ckG gs).2]) ∧ AgR gs l ∧ w'.ownsRow w1.heap.size 4 1 v l.length (l.map Value.bool)) ∧ Below w1.heap.size w1 w') from againP_any gs A c w1 (hp.later HS1.out.1))
  have HP := (show Hid (GI w A gs) from hp)
  have q1 := HS1.out.2.1.cl
  clear hw1 hp
  go_enter Try.func8, Try.ntmps8
  go_wp2_with (rw [HE1.out])
  refine HN.out.mono ?_
  rintro e w2 ⟨⟨v, l, rfl, hag, hov⟩, b2⟩
  have HS2 := (show Hid (Below w.heap.size w w2 ∧ GX w2 w.heap.size (.slice A gs.length c) ∧ KX w2 (w.heap.size + 1) (.map none) (.slice none 0 0) ∧ w.heap.size + 2 ≤ w2.heap.size) from ⟨HS1.out.1.trans (b2.mono HS1.out.1.size), HS1.out.2.1.below b2, HS1.out.2.2.1.below b2, by have := b2.size; have := HS1.out.2.2.2; omega⟩)
  have q2 := HS2.out.2.1.cl
  clear HN HE1 q1 b2
  by_cases hz : (ckG gs).2 = 0
  · have hR := ckG_ok.1 hz
    have hn1 := hR.n1
    have hn200 := hR.n2
    obtain ⟨hl, hag2⟩ := hag.1 hz
    obtain ⟨R, hIs, hbd⟩ := bd_R hz hag
    obtain ⟨gA, ca, rfl, gl1, gl2, gx1, gx2⟩ := own_get hov (j := 0) (x := .bool l[0]) (by rw [List.getElem?_map, List.getElem?_eq_getElem (by omega)]; rfl)
    have hrb : RdB w2 gA l := fun j b hj => by
      obtain ⟨g', c', e, _, _, x, _⟩ := own_get hov (j := j) (x := .bool b) (by rw [List.getElem?_map, hj]; rfl)
      injection e with e1 _ _
      obtain ⟨rfl, _⟩ := Addr.mk.inj (Option.some.inj e1)
      exact x
    clear gx1 gx2
    rw [hl]
    have HBg := (show Hid (Calls Try.prog 13 #[.agg #[.slice A gs.length c], .slice (some ⟨gA, 0, none⟩) gs.length ca] w2 fun e w' => (∃ mb v, e = .returned (.agg #[.map (some mb), v]) ∧ w2.heap.size ≤ mb ∧ NmM w' mb gs ∧ w'.ownsRow w2.heap.size 32 4 v gs.length (emc (pgS gs (bdA l)))) ∧ Below w2.heap.size w2 w') from begun_any hR hl gA A c ca w2 (HP.out.later HS2.out.1) hrb)
    have HRB := (show Hid (RdB w2 gA l ∧ gA < w2.heap.size) from ⟨hrb, gl2⟩)
    have HR := (show Hid (RtG gs ∧ l.length = gs.length ∧ IsR gs.length (cG gs) R ∧ (∀ i, bdA l i = !(R i i)) ∧ (ckG gs).2 = 0) from ⟨hR, hl, hIs, hbd, hz⟩)
    have tz : ((ckG gs).2 != 0) = false := by rw [hz]; rfl
    clear hag hag2 hIs hbd hrb hov gl1 gl2 hR hl hz
    generalize hcd : (ckG gs).2 = cd at *
    have HCD := (show Hid ((ckG gs).2 = cd) from hcd)
    clear hcd
    go_wp2_with fail
    refine HBg.out.mono ?_
    rintro e w3 ⟨⟨mb, v2, rfl, hmb, hm3, ho3⟩, b3⟩
    obtain ⟨A3, c3, rfl⟩ := own_fm ho3
    obtain ⟨kb, hkb⟩ : ∃ kb, kb = w3.heap.size := ⟨_, rfl⟩
    have HKb := (show Hid (w3.heap.size = kb) from hkb.symm)
    obtain ⟨w4, hw4⟩ : ∃ w4, w4 = w3.alloc (.cells #[.map (some mb), .slice A3 gs.length c3] 47) := ⟨_, rfl⟩
    have HE4 := (show Hid (w3.alloc (.cells #[.map (some mb), .slice A3 gs.length c3] 47) = w4) from hw4.symm)
    have HS := (show Hid (KoS w w4 (.slice A gs.length c) kb mb gA gs l A3 c3 (pgE gs kdR (bdA l) 0)) from by
      have hb4 : Below w3.heap.size w3 w4 := by rw [hw4]; exact below_box _ _
      have hb24 : Below w2.heap.size w2 w4 := b3.trans (hb4.mono b3.size)
      have s2 := HS2.out.2.2.2
      have hk4 : KX w4 kb (.map (some mb)) (.slice A3 gs.length c3) := by rw [hw4, hkb]; exact KX.new w3 _ _
      refine ⟨HS2.out.1.trans (hb24.mono HS2.out.1.size), HS2.out.2.1.below hb24, HS2.out.2.2.1.below hb24, hk4, hm3.later hb4, HRB.out.1.later hb24, pgS_len _ _, T.own_base (T.own_below ho3 hb4) s2, by omega, by rw [hkb]; exact hm3.lt, by rw [hkb]; exact Nat.lt_of_lt_of_le HRB.out.2 b3.size⟩)
    clear hw4 hkb hmb hm3 ho3 b3 HBg HRB HS2 HS1 q2
    go_wp2_with (rw [HE4.out, HKb.out])
    clear HE4 HKb
    go_loopg [7] (pgM gs kdR (bdA l) 0) (fun gk u wr => ∃ (m : Nat) (Ar : Option Addr) (cr : Nat), Hid (pgM gs kdR (bdA l) m = gk) ∧ Hid (KoS w wr (.slice A gs.length c) kb mb gA gs l Ar cr (pgE gs kdR (bdA l) m)))
    case atStart => exact ⟨0, A3, c3, rfl, HS⟩
    case round =>
      obtain ⟨m, Ar, cr, HM, HW⟩ := hrel
      clear HS
      have HRd := (show Hid (Calls Try.prog 14 #[.agg #[.map (some mb), .slice Ar gs.length cr], .agg #[.slice A gs.length c], .slice (some ⟨gA, 0, none⟩) gs.length ca] wr fun e w' => (∃ v, e = .returned v ∧ w'.ownsRow (wr.heap.size + 2) 32 4 v gs.length (emc (pgE gs kdR (bdA l) (m + 1)))) ∧ Below wr.heap.size wr w') from by
        have t := round_any HR.out.1 (pgE_ok (gk_R HR.out.1) (bdA l) m) HR.out.2.1 mb gA Ar A cr c ca wr HW.out.kn (HP.out.later HW.out.b) HW.out.a
        rw [HW.out.l] at t
        exact t)
      have k0 := HW.out.k.c0
      have k1 := HW.out.k.c1
      have q0 := HW.out.g.cl
      go_wp2_with fail
      refine HRd.out.mono ?_
      rintro e w5 ⟨⟨v5, rfl, ho5⟩, b5⟩
      obtain ⟨An, cn, rfl⟩ := own_fm ho5
      have HW5 := (show Hid (KoS w w5 (.slice A gs.length c) kb mb gA gs l Ar cr (pgE gs kdR (bdA l) m)) from HW.out.later b5)
      have HL5 := (show Hid ((pgE gs kdR (bdA l) (m + 1)).length = gs.length) from rdE_len)
      have HO5 := (show Hid (w5.ownsRow (wr.heap.size + 2) 32 4 (.slice An gs.length cn) gs.length (emc (pgE gs kdR (bdA l) (m + 1)))) from ho5)
      have HB5 := (show Hid (Below wr.heap.size wr w5) from b5)
      have HQ := (show Hid (Calls Try.prog 15 #[.slice An gs.length cn, .slice Ar gs.length cr] w5 fun e w' => (∃ b, e = .returned (.bool b) ∧ (b = true ↔ pgE gs kdR (bdA l) (m + 1) = pgE gs kdR (bdA l) m)) ∧ ∃ j, w' = w5.drewN j) from by
        have t := equalE_any (pgE gs kdR (bdA l) (m + 1)) (pgE gs kdR (bdA l) m) An Ar cn cr (by rw [HL5.out]; omega) (by rw [HL5.out]; exact HW5.out.l) w5 (own_rd ho5 HL5.out) (own_rd HW5.out.o HW5.out.l)
        rw [HL5.out, HW5.out.l] at t
        exact t)
      have k5 := HW5.out.k.c1
      clear HRd ho5 b5 k0 k1 q0
      go_wp2_with fail
      refine HQ.out.mono ?_
      rintro e w6 ⟨⟨bb, rfl, hbb⟩, j6, hw6⟩
      have b6 : Below w5.heap.size w5 w6 := by rw [hw6]; exact below_dn _
      have HW6 := (show Hid (KoS w w6 (.slice A gs.length c) kb mb gA gs l Ar cr (pgE gs kdR (bdA l) m)) from HW5.out.later b6)
      have HNx := (show Hid (KoS w (w6.setCell ⟨kb, 1, none⟩ (.slice An gs.length cn)) (.slice A gs.length c) kb mb gA gs l An cn (pgE gs kdR (bdA l) (m + 1))) from HW.out.next (HB5.out.trans (b6.mono HB5.out.size)) (T.own_below HO5.out b6) HL5.out)
      clear hw6 b6 HQ k5 HO5 HB5 HW5
      cases bb with
      | true =>
        have HFx := (show Hid (KnF gs (pgE gs kdR (bdA l) m)) from ⟨R, bdA l, m, HR.out.2.2.1, HR.out.2.2.2.1, rfl, hbb.1 rfl⟩)
        have HLn := (show Hid ((pgE gs kdR (bdA l) m).length = gs.length) from HW6.out.l)
        have HOk := (show Hid (OkN gs (pgE gs kdR (bdA l) m)) from pgE_ok (gk_R HR.out.1) (bdA l) m)
        have HT := (show Hid _ from HW6.out.told)
        have k0 := HW6.out.k.c0
        have k1 := HW6.out.k.c1
        have r0 := HW6.out.r.c0
        have r1 := HW6.out.r.c1
        have f0 := HW6.out.r.fz 0
        have f1 := HW6.out.r.fz 1
        clear hbb HW6 HNx HW HM HL5
        go_wp2_with fail
        have HZ := (show Hid _ from HT.out _ rfl)
        refine ret_kx2 (s := 2) (t := 3) (k := w.heap.size + 1) (x := .int .i64 0) (by rfl) (by rfl) (by rfl) (by rfl) HZ.out.1 ?_
        refine ⟨⟨_, _, by rw [HCD.out, HR.out.2.2.2.2], fun q => absurd (HCD.out.trans HR.out.2.2.2.2) q, fun _ => ⟨mb, Ar, cr, _, rfl, rfl, HZ.out.2.1, HZ.out.2.2.1, HFx.out, HLn.out, HOk.out, HZ.out.2.2.2.1⟩⟩, HZ.out.2.2.2.2⟩
      | false =>
        have HLs := (show Hid (pgM gs kdR (bdA l) (m + 1) < pgM gs kdR (bdA l) m) from pgM_less (gk_R HR.out.1) HR.out.2.2.1 HR.out.2.2.2.1 (fun e => by have := hbb.2 e; cases this))
        have f1 := HW6.out.k.fz 1
        have k1 := HW6.out.k.c1
        clear hbb HW6 HW HL5
        go_wp2_with fail
        go_roundg (pgM gs kdR (bdA l) (m + 1))
        case measure => have := HM.out; have := HLs.out; omega
        case rel => exact ⟨m + 1, An, cn, rfl, HNx⟩
  · have tz : ((ckG gs).2 != 0) = true := by rw [bne, beq_eq_false_iff_ne.2 hz]; rfl
    have HZ := (show Hid ((ckG gs).2 ≠ 0) from hz)
    have r0 := HS2.out.2.2.1.c0
    have r1 := HS2.out.2.2.1.c1
    have f0 := HS2.out.2.2.1.fz 0
    have f1 := HS2.out.2.2.1.fz 1
    have HT := (show Hid (∀ W, W = (w2.setCell ⟨w.heap.size + 1, 0, none⟩ (.map none)).setCell ⟨w.heap.size + 1, 1, none⟩ (.slice none 0 0) → KX W (w.heap.size + 1) (.map none) (.slice none 0 0) ∧ Below w.heap.size w W) from fun W hW => by
      rw [hW]
      exact ⟨(HS2.out.2.2.1.set0 _).set1 _, (HS2.out.1.setCell (p := ⟨w.heap.size + 1, 0, none⟩) (by show w.heap.size ≤ w.heap.size + 1; omega) _).setCell (p := ⟨w.heap.size + 1, 1, none⟩) (by show w.heap.size ≤ w.heap.size + 1; omega) _⟩)
    clear hag hov hz HS1 HS2 HP q2
    generalize hcd : (ckG gs).2 = cd at *
    have HCD := (show Hid ((ckG gs).2 = cd) from hcd)
    clear hcd
    go_wp2_with fail
    have HQ := (show Hid _ from HT.out _ rfl)
    refine ret_kx2 (s := 2) (t := 3) (k := w.heap.size + 1) (x := .int .i64 cd) (by rfl) (by rfl) (by rfl) (by rfl) HQ.out.1 ?_
    exact ⟨⟨_, _, by rw [HCD.out], fun _ => ⟨rfl, rfl⟩, fun q => absurd (HCD.out.symm.trans q) HZ.out⟩, HQ.out.2⟩
end Go.Proofs.Ytokfgoepnfjafaa.N

namespace Go.Proofs.Ytokfgoepnfjafaa.N
open Go.RowKit Go.Maps
open Go.Proofs.Ytokfgoepnfjafaa.T
/-- What Rules answers. -/
def RuR (gs : GL) (now : List Em) : Prop := ((ckG gs).2 = 0 → KnF gs now ∧ now.length = gs.length ∧ OkN gs now) ∧ ((ckG gs).2 ≠ 0 → now = [])
set_option maxRecDepth 100000 in
set_option maxHeartbeats 8000000 in
theorem rulesP_any (gs : GL) (A : Option Addr) (c : Nat) (w : World) (hp : GI w A gs) :
    Calls Try.prog 5 #[.agg #[.slice A gs.length c]] w fun e w' => (∃ v now, e = .returned (.tuple #[v, .int .i64 (ckG gs).2]) ∧ RuR gs now ∧ w'.ownsRow w.heap.size 32 4 v now.length (emc now)) ∧ Below w.heap.size w w' := by
  obtain ⟨w1, hw1⟩ : ∃ w1, w1 = w.alloc (.cells #[.slice A gs.length c] 24) := ⟨_, rfl⟩
  have HE1 := (show Hid (w.alloc (.cells #[.slice A gs.length c] 24) = w1) from hw1.symm)
  have HB1 := (show Hid (Below w.heap.size w w1) from by rw [hw1]; exact below_box _ _)
  have HG1 := (show Hid (GX w1 w.heap.size (.slice A gs.length c)) from by rw [hw1]; exact GX.mk (heap_alloc_new w _))
  have q1 := HG1.out.cl
  have HN := hid_of (knownOf_any gs A c w1 (hp.later HB1.out))
  clear hw1 hp HG1
  go_enter Try.func5, Try.ntmps5
  go_wp2_with (rw [HE1.out])
  refine Calls.mono HN.out ?_
  rintro e w2 ⟨⟨m, v, rfl, h1, h2⟩, b2⟩
  have HB2 := (show Hid (Below w.heap.size w w2) from HB1.out.trans (b2.mono HB1.out.size))
  have hs1 := HB1.out.size
  clear HN HE1 q1 b2
  by_cases hz : (ckG gs).2 = 0
  · obtain ⟨mb, Ar, cr, now, rfl, rfl, _, _, hF, hl, hok, ho⟩ := h2 hz
    have tz : ((ckG gs).2 != 0) = false := by rw [hz]; rfl
    have HO := (show Hid (w2.ownsRow w.heap.size 32 4 (.slice Ar gs.length cr) gs.length (emc now)) from T.own_base ho hs1)
    have HR := (show Hid (RuR gs now ∧ now.length = gs.length ∧ (ckG gs).2 = 0) from ⟨⟨fun _ => ⟨hF, hl, hok⟩, fun q => absurd hz q⟩, hl, hz⟩)
    clear h1 h2 ho hF hl hok hz hs1
    obtain ⟨w3, hw3⟩ : ∃ w3, w3 = w2.alloc (.cells #[.map (some mb), .slice Ar gs.length cr] 47) := ⟨_, rfl⟩
    have HE3 := (show Hid (w2.alloc (.cells #[.map (some mb), .slice Ar gs.length cr] 47) = w3) from hw3.symm)
    have k1 : w3.cell? ⟨w2.heap.size, 1, none⟩ = some (.slice Ar gs.length cr) := by rw [hw3]; exact (KX.new w2 _ _).c1
    have HB3 := (show Hid (Below w2.heap.size w2 w3) from by rw [hw3]; exact below_box _ _)
    clear hw3
    generalize hcd : (ckG gs).2 = cd at tz
    have HCD := (show Hid ((ckG gs).2 = cd) from hcd)
    clear hcd
    go_wp2_with (rw [HE3.out])
    refine bodyPost_ret (v := .tuple #[.slice Ar gs.length cr, .int .i64 0]) (by simp [results, Try.results5, go_sem]) rfl ⟨⟨_, now, by rw [HR.out.2.2], HR.out.1, by rw [HR.out.2.1]; exact T.own_below HO.out HB3.out⟩, HB2.out.trans (HB3.out.mono HB2.out.size)⟩
  · obtain ⟨rfl, rfl⟩ := h1 hz
    have tz : ((ckG gs).2 != 0) = true := by rw [bne, beq_eq_false_iff_ne.2 hz]; rfl
    have HR := (show Hid (RuR gs [] ∧ (ckG gs).2 ≠ 0) from ⟨⟨fun q => absurd q hz, fun _ => rfl⟩, hz⟩)
    clear h1 h2 hz hs1
    have HB3 := (show Hid (Below w2.heap.size w2 (w2.alloc (.cells #[.map none, .slice none 0 0] 47))) from below_box _ _)
    generalize hcd : (ckG gs).2 = cd at tz
    have HCD := (show Hid ((ckG gs).2 = cd) from hcd)
    clear hcd
    go_wp2_with fail
    refine bodyPost_ret (v := .tuple #[.slice none 0 0, .int .i64 cd]) (by simp [results, Try.results5, go_sem]) rfl ⟨⟨_, [], by rw [HCD.out], HR.out.1, World.ownsRow_nil _ _ _ _⟩, HB2.out.trans (HB3.out.mono HB2.out.size)⟩
/-- A box of a list. -/
structure LX (W : World) (b : Nat) (v : Value) : Prop where
  heap : W.heap[b]? = some (.cells #[v] 26 (0, 0))
theorem LX.lt {W : World} {b : Nat} {v : Value} (x : LX W b v) : b < W.heap.size := (Array.getElem?_eq_some_iff.1 x.heap).1
theorem LX.c0 {W : World} {b : Nat} {v : Value} (x : LX W b v) : W.cell? ⟨b, 0, none⟩ = some v := by rw [cell_of_row W b 0 _ 26 (0, 0) x.heap]; rfl
theorem LX.fz {W : World} {b : Nat} {v : Value} (x : LX W b v) : W.frozen? ⟨b, 0, none⟩ = false := frozen_of_row W b 0 _ 26 x.heap
theorem LX.same {W W' : World} {b : Nat} {v : Value} (x : LX W b v) (hb : W'.heap[b]? = W.heap[b]?) : LX W' b v := ⟨hb.trans x.heap⟩
theorem LX.below {W W' : World} {b : Nat} {v : Value} (x : LX W b v) (hb : Below W.heap.size W W') : LX W' b v := x.same (hb.block b x.lt)
theorem LX.set {W : World} {b : Nat} {v : Value} (x : LX W b v) (u : Value) : LX (W.setCell ⟨b, 0, none⟩ u) b u := ⟨by rw [heap_setCell_same W b 0 _ 26 _ x.heap]; rfl⟩
set_option maxRecDepth 100000 in
set_option maxHeartbeats 16000000 in
/-- One node, and its part put behind the others. -/
theorem part1_any {gs : GL} {now : List Em} {L : List Nd} (hpt : PtR gs now L) {k : Nat} {n : Nd} (hn : L[k]? = some n) (B : Nat) (Ar A : Option Addr) (cr c kb lb Bb : Nat) (v : Value) (l : List Em) (w : World) (hk : KnI w gs B Ar now) (hkx : KX w kb (.map (some B)) (.slice Ar now.length cr)) (hlx : LX w lb v) (hll : l.length = k) (ho : w.ownsRow Bb 32 4 v k (emc l)) (hlb : lb < Bb) (hBb : Bb ≤ w.heap.size) (hp : RdE w A (emS (EE (lkE gs now) L) ((run L k).take (arN n.op)))) :
    Calls Try.prog 17 #[ndG n, .slice A (arN n.op) c, .pointer (some ⟨kb, 0, none⟩), .pointer (some ⟨lb, 0, none⟩)] w fun e w' => e = .returned (emG (EE (lkE gs now) L k)) ∧ ∃ v', LX w' lb v' ∧ w'.ownsRow Bb 32 4 v' (k + 1) (emc (l ++ [EE (lkE gs now) L k])) ∧ (∀ b, v'.ownBlock = some b → v.ownBlock = some b ∨ w.heap.size ≤ b) ∧ Kp (fun b => b = lb ∨ v.ownBlock = some b) w w' := by
  have hkl : k ≤ 2048 := by have h1 := (List.getElem?_eq_some_iff.1 hn).1; have h2 := hpt.rt.len; omega
  obtain ⟨A3, c3, rfl⟩ := own_fm ho
  obtain ⟨w1, hw1⟩ : ∃ w1, w1 = (w.alloc (.cells #[.int .i64 n.op, .int .i64 n.nn, .string n.tx, .int .u64 n.s0, .int .u64 n.s1, .int .u64 n.s2, .int .u64 n.s3] 44)).alloc (.cells #[.bool false, .bool false, .int .i64 0, .int .i64 0] 32) := ⟨_, rfl⟩
  have HE1 := (show Hid ((w.alloc (.cells #[.int .i64 n.op, .int .i64 n.nn, .string n.tx, .int .u64 n.s0, .int .u64 n.s1, .int .u64 n.s2, .int .u64 n.s3] 44)).alloc (.cells #[.bool false, .bool false, .int .i64 0, .int .i64 0] 32) = w1) from hw1.symm)
  have HS1 := (show Hid (Below w.heap.size w w1 ∧ NX w1 w.heap.size n ∧ EX w1 (w.heap.size + 1) e0) from by
    have s1 := World.size_alloc w (ndO n)
    refine ⟨by rw [hw1]; exact ((Below.refl _ _).alloc (Nat.le_refl _) _).alloc (by rw [World.size_alloc]; omega) _, by rw [hw1]; exact nx_below ⟨heap_alloc_new w _⟩ (below_box _ _), ?_⟩
    have h := EX.new (w.alloc (ndO n)) e0
    rw [s1] at h
    rw [hw1]; exact h)
  have hx1 := hkx.below HS1.out.1
  have k0 := hx1.c0
  have k1 := hx1.c1
  obtain ⟨d0, d1, d2, d3, d4, d5, d6⟩ := HS1.out.2.1.nb
  simp only [Nat.zero_add] at d0 d1 d2 d3 d4 d5 d6
  obtain ⟨⟨en, ec, el, em⟩, hE⟩ : ∃ e, e = EE (lkE gs now) L k := ⟨_, rfl⟩
  have HC := (show Hid (Calls Try.prog 18 #[.agg #[.map (some B), .slice Ar now.length cr], ndG n, .slice A (arN n.op) c] w1 fun e w' => e = .returned (.agg #[.bool en, .bool ec, .int .i64 el, .int .i64 em]) ∧ Below w1.heap.size w1 w') from by
    have t := hpt.node hn B Ar A cr c w1 (hk.later HS1.out.1) (hp.later HS1.out.1)
    rw [← hE] at t
    exact t)
  have HLx := (show Hid (LX w lb (.slice A3 k c3)) from hlx)
  have HO := (show Hid (w.ownsRow Bb 32 4 (.slice A3 k c3) k (emc l)) from ho)
  have HBb := (show Hid (lb < Bb ∧ Bb ≤ w.heap.size) from ⟨hlb, hBb⟩)
  have hlw := hlx.lt
  rw [← hE]
  have HEE := (show Hid (⟨en, ec, el, em⟩ = EE (lkE gs now) L k) from hE)
  clear hw1 hpt hk hkx hlx ho hp hE hx1 hlb hBb hn
  go_enter Try.func17, Try.ntmps17
  go_wp2_with (rw [HE1.out])
  refine HC.out.mono ?_
  rintro e w2 ⟨rfl, b2⟩
  have HB2 := (show Hid (Below w.heap.size w w2 ∧ EX w2 (w.heap.size + 1) e0) from ⟨HS1.out.1.trans (b2.mono HS1.out.1.size), HS1.out.2.2.below b2⟩)
  clear HC HE1 k0 k1 d0 d1 d2 d3 d4 d5 d6 HS1 b2
  obtain ⟨w3, hw3⟩ : ∃ w3, w3 = w2.alloc (.cells #[.bool en, .bool ec, .int .i64 el, .int .i64 em] 32) := ⟨_, rfl⟩
  obtain ⟨kk, hkk⟩ : ∃ kk, kk = w2.heap.size := ⟨_, rfl⟩
  have HE3 := (show Hid (w2.alloc (.cells #[.bool en, .bool ec, .int .i64 el, .int .i64 em] 32) = w3) from hw3.symm)
  have HKk := (show Hid (w2.heap.size = kk) from hkk.symm)
  have hb23 : Below w2.heap.size w2 w3 := by rw [hw3]; exact below_box _ _
  have HX3 := (show Hid (EX w3 kk ⟨en, ec, el, em⟩) from by rw [hw3, hkk]; exact EX.new w2 ⟨en, ec, el, em⟩)
  have HB3 := (show Hid (Below w.heap.size w w3 ∧ EX w3 (w.heap.size + 1) e0 ∧ w.heap.size + 1 < kk) from ⟨HB2.out.1.trans (hb23.mono HB2.out.1.size), HB2.out.2.below hb23, by rw [hkk]; exact HB2.out.2.lt⟩)
  have HO3 := (show Hid (w3.ownsRow Bb 32 4 (.slice A3 k c3) k (emc l)) from T.own_below HO.out HB3.out.1)
  have HL3 := (show Hid (LX w3 lb (.slice A3 k c3)) from HLx.out.below HB3.out.1)
  have l0 := HL3.out.c0
  have x0 : w3.cell? ⟨kk, 0, none⟩ = some (.bool en) := HX3.out.eb.c0
  have x1 : w3.cell? ⟨kk, 1, none⟩ = some (.bool ec) := HX3.out.eb.c1
  have x2 : w3.cell? ⟨kk, 2, none⟩ = some (.int .i64 el) := HX3.out.eb.c2
  have x3 : w3.cell? ⟨kk, 3, none⟩ = some (.int .i64 em) := HX3.out.eb.c3
  have HPu := (show Hid (∀ (w6 : World) (g6 cap6 : Nat), w6.ownsRow Bb 32 4 (.slice (some ⟨g6, 0, none⟩) (k + 1) cap6) (k + 1) (emc (l ++ [⟨en, ec, el, em⟩])) → w3.grownBy w6 (Value.slice A3 k c3).ownBlock → ((Value.slice A3 k c3).ownBlock = some g6 ∨ g6 = w3.heap.size + 1) → LX w6 lb (.slice A3 k c3) ∧ ∀ w7, w7 = w6.setCell ⟨lb, 0, none⟩ (.slice (some ⟨g6, 0, none⟩) (k + 1) cap6) → EX w7 kk ⟨en, ec, el, em⟩ ∧ EX w7 (w.heap.size + 1) e0 ∧ (∃ v', LX (st4 w7 (w.heap.size + 1) ⟨en, ec, el, em⟩) lb v' ∧ (st4 w7 (w.heap.size + 1) ⟨en, ec, el, em⟩).ownsRow Bb 32 4 v' (k + 1) (emc (l ++ [⟨en, ec, el, em⟩])) ∧ (∀ b, v'.ownBlock = some b → (Value.slice A3 k c3).ownBlock = some b ∨ w.heap.size ≤ b) ∧ Kp (fun b => b = lb ∨ (Value.slice A3 k c3).ownBlock = some b) w (st4 w7 (w.heap.size + 1) ⟨en, ec, el, em⟩))) from fun w6 g6 cap6 h1 h2 h3 => by
    have hlow : ∀ q, (Value.slice A3 k c3).ownBlock = some q → Bb ≤ q ∧ q < w.heap.size := fun q hq => HO.out.lt q hq
    have hbb := HBb.out
    have hkk2 := HB3.out.2.2
    have hlt3 := HX3.out.lt
    have key6 : ∀ j, j < w3.heap.size → (∀ q, (Value.slice A3 k c3).ownBlock = some q → q ≠ j) → w6.heap[j]? = w3.heap[j]? := fun j hj hq => h2.block j hj (fun e => hq j e.symm rfl)
    have hL6 : LX w6 lb (.slice A3 k c3) := HL3.out.same (key6 lb HL3.out.lt (fun q hq => by have := hlow q hq; omega))
    refine ⟨hL6, fun w7 hw7 => ?_⟩
    have key7 : ∀ j, j ≠ lb → w7.heap[j]? = w6.heap[j]? := fun j hj => by rw [hw7]; exact heap_setCell_other _ _ _ _ hj
    have hX7 : EX w7 kk ⟨en, ec, el, em⟩ := HX3.out.same ((key7 kk (by omega)).trans (key6 kk hlt3 (fun q hq => by have := hlow q hq; omega)))
    have hZ7 : EX w7 (w.heap.size + 1) e0 := HB3.out.2.1.same ((key7 _ (by omega)).trans (key6 _ HB3.out.2.1.lt (fun q hq => by have := hlow q hq; omega)))
    have key8 : ∀ j, j ≠ w.heap.size + 1 → (st4 w7 (w.heap.size + 1) ⟨en, ec, el, em⟩).heap[j]? = w7.heap[j]? := fun j hj => st4_other hj _
    have hL7 : LX w7 lb (.slice (some ⟨g6, 0, none⟩) (k + 1) cap6) := by rw [hw7]; exact hL6.set _
    have ho7 : w7.ownsRow Bb 32 4 (.slice (some ⟨g6, 0, none⟩) (k + 1) cap6) (k + 1) (emc (l ++ [⟨en, ec, el, em⟩])) := by rw [hw7]; exact ownsRow_setCell_below h1 (a := ⟨lb, 0, none⟩) hbb.1 _
    have hg6 : g6 ≠ w.heap.size + 1 := by
      rcases h3 with q | q
      · have := hlow g6 q; omega
      · omega
    have hs8 : (st4 w7 (w.heap.size + 1) ⟨en, ec, el, em⟩).heap.size = w6.heap.size := by unfold st4; rw [World.size_setCell, World.size_setCell, World.size_setCell, World.size_setCell, hw7, World.size_setCell]
    refine ⟨hX7, hZ7, _, hL7.same (key8 lb (by omega)), own_same ho7 (fun q hq => key8 q (by have e : g6 = q := Option.some.inj hq; omega)), fun b hb => ?_, ⟨?_, ?_, ?_, ?_, fun b hb hnb => ?_⟩⟩
    · have e : g6 = b := Option.some.inj hb
      subst e
      rcases h3 with q | q
      · exact .inl q
      · exact .inr (by omega)
    · rw [hw7]; exact h2.os.trans HB3.out.1.os
    · rw [hw7]; exact h2.tape.trans HB3.out.1.tape
    · rw [hw7]; exact h2.output.trans HB3.out.1.output
    · rw [hs8]; exact Nat.le_trans HB3.out.1.size h2.size
    · rw [key8 b (by omega), key7 b (fun e => hnb (.inl e)), key6 b (by omega) (fun q hq e => hnb (.inr (by rw [← e]; exact hq)))]
      exact HB3.out.1.block b hb)
  have HSz := (show Hid (Bb ≤ w3.heap.size) from Nat.le_trans HBb.out.2 HB3.out.1.size)
  clear hw3 hkk hb23 HX3 HL3 HB2 HB3 HO HLx HBb
  go_wp2_with (first
    | rw [HE3.out, HKk.out]
    | rw [HE7.out]
    | (at_builtin
       refine wpList_appE w3.heap.size rfl rfl _ _ rfl Bb k _ l rfl rfl HO3.out (by omega) HSz.out ?_
       intro g6 cap6 w6 ho6 hg6 hat6 hl6
       have HF6 := (show Hid _ from HPu.out w6 g6 cap6 ho6 hg6 hat6)
       have m0 := HF6.out.1.c0
       have mf := HF6.out.1.fz
       obtain ⟨w7, hw7⟩ : ∃ w7, w7 = w6.setCell ⟨lb, 0, none⟩ (.slice (some ⟨g6, 0, none⟩) (k + 1) cap6) := ⟨_, rfl⟩
       have HE7 := (show Hid (w6.setCell ⟨lb, 0, none⟩ (.slice (some ⟨g6, 0, none⟩) (k + 1) cap6) = w7) from hw7.symm)
       have HF7 := (show Hid _ from HF6.out.2 w7 hw7)
       have y0 : w7.cell? ⟨kk, 0, none⟩ = some (.bool en) := HF7.out.1.eb.c0
       have y1 : w7.cell? ⟨kk, 1, none⟩ = some (.bool ec) := HF7.out.1.eb.c1
       have y2 : w7.cell? ⟨kk, 2, none⟩ = some (.int .i64 el) := HF7.out.1.eb.c2
       have y3 : w7.cell? ⟨kk, 3, none⟩ = some (.int .i64 em) := HF7.out.1.eb.c3
       have z0 : w7.cell? ⟨w.heap.size + 1, 0, none⟩ = some (.bool false) := HF7.out.2.1.eb.c0
       have z1 : w7.cell? ⟨w.heap.size + 1, 1, none⟩ = some (.bool false) := HF7.out.2.1.eb.c1
       have z2 : w7.cell? ⟨w.heap.size + 1, 2, none⟩ = some (.int .i64 0) := HF7.out.2.1.eb.c2
       have z3 : w7.cell? ⟨w.heap.size + 1, 3, none⟩ = some (.int .i64 0) := HF7.out.2.1.eb.c3
       have f0 := HF7.out.2.1.fz 0
       have f1 := HF7.out.2.1.fz 1
       have f2 := HF7.out.2.1.fz 2
       have f3 := HF7.out.2.1.fz 3
       clear ho6 hg6 hat6 hl6 HPu HO3 HSz hw7 HF6 x0 x1 x2 x3 l0))
  refine ret_ex (s := 6) (k := w.heap.size + 1) (by rfl) (by rfl) (by rfl) (HF7.out.2.1.all ⟨en, ec, el, em⟩) ?_
  exact ⟨rfl, HF7.out.2.2⟩
end Go.Proofs.Ytokfgoepnfjafaa.N

namespace Go.Proofs.Ytokfgoepnfjafaa.N
open Go.RowKit Go.Maps
open Go.Proofs.Ytokfgoepnfjafaa.T
/-- While the parts of a pattern are told. -/
def JP (gs : GL) (now : List Em) (Bm : Nat) (Ar : Option Addr) (cr kb lb : Nat) (E : Nat → Em) (k : Nat) (X : Nat → Prop) (w : World) : Prop := ∃ v, (∀ b, X b ↔ (b = lb ∨ v.ownBlock = some b)) ∧ LX w lb v ∧ w.ownsRow (lb + 1) 32 4 v k (emc ((List.range k).map E)) ∧ KX w kb (.map (some Bm)) (.slice Ar now.length cr) ∧ KnI w gs Bm Ar now
theorem see_pt {gs : GL} {now : List Em} {L : List Nd} (h : PtR gs now L) (Bm : Nat) (Ar : Option Addr) (cr kb lb Bc B : Nat) (h1 : kb < lb) (h2 : Bm < lb) (h3 : ∀ g o, Ar = some ⟨g, o, none⟩ → g < lb) (h4 : lb < B) (h5 : Bc ≤ lb) : See9 L 17 #[] #[.pointer (some ⟨kb, 0, none⟩), .pointer (some ⟨lb, 0, none⟩)] (EE (lkE gs now) L) Bc B (JP gs now Bm Ar cr kb lb (EE (lkE gs now) L)) where
  kept := fun k X w w' hj hz hb => by
    obtain ⟨v, hX, hL, ho, hk, hn⟩ := hj
    exact ⟨v, hX, hL.same (hb _ (.inr ((hX _).2 (.inl rfl)))), own_same ho (fun q hq => hb q (.inr ((hX _).2 (.inr hq)))), hk.same (hb _ (.inl (by omega))), hn.same hz (hb _ (.inl (by omega))) (fun g o e => hb _ (.inl (by have := h3 g o e; omega)))⟩
  far := fun k X w hj b hb => by
    obtain ⟨v, hX, hL, ho, hk, hn⟩ := hj
    rcases (hX b).1 hb with rfl | q
    · exact ⟨h5, hL.lt⟩
    · have := ho.lt b q
      exact ⟨by omega, this.2⟩
  call := fun k X w A c n hj hB hn hp hA => by
    obtain ⟨v, hX, hL, ho, hk, hkn⟩ := hj
    have hlow : ∀ q, v.ownBlock = some q → lb + 1 ≤ q := fun q hq => (ho.lt q hq).1
    refine (part1_any h hn Bm Ar A cr c kb lb (lb + 1) v _ w hkn hk hL (by rw [List.length_map, List.length_range]) ho (Nat.lt_succ_self _) hL.lt hp).mono ?_
    rintro e w' ⟨rfl, v', hL', ho', hb', hkp⟩
    have same : ∀ b, b < lb → w'.heap[b]? = w.heap[b]? := fun b hb => hkp.block b (Nat.lt_trans hb hL.lt) (fun q => by
      rcases q with q | q
      · omega
      · have := hlow b q; omega)
    refine ⟨rfl, fun b => b = lb ∨ v'.ownBlock = some b, ⟨v', fun b => Iff.rfl, hL', by rw [List.range_succ, List.map_append]; exact ho', hk.same (same _ h1), hkn.same hkp.size (same _ h2) (fun g o e => same _ (h3 g o e))⟩, ⟨hkp.os, hkp.tape, hkp.output, hkp.size, fun b hb hnX => hkp.block b hb (fun q => hnX ((hX b).2 q))⟩, fun b q => ?_⟩
    rcases q with q | q
    · exact .inl ((hX b).2 (.inl q))
    · rcases hb' b q with q | q
      · exact .inl ((hX b).2 (.inr q))
      · exact .inr q
theorem enters_pt1 (args : Array Value) (w : World) : (callFunc 17 args).run Try.prog w = .ok (.enter 17 args) w := enters_of Try.func17 (by kernel_rfl) rfl args w
set_option maxRecDepth 100000 in
set_option maxHeartbeats 8000000 in
/-- All parts of a pattern. -/
theorem parts_any {gs : GL} {now : List Em} {L : List Nd} (h : PtR gs now L) (B : Nat) (Ar Ap : Option Addr) (cr cp : Nat) (w : World) (hk : KnI w gs B Ar now) (hn : now ≠ []) (hL : RdN w Ap L) :
    Calls Try.prog 9 #[.agg #[.map (some B), .slice Ar now.length cr], .slice Ap L.length cp] w fun e w' => (∃ v, e = .returned v ∧ w'.ownsRow w.heap.size 32 4 v L.length (emc ((List.range L.length).map (EE (lkE gs now) L)))) ∧ Below w.heap.size w w' := by
  obtain ⟨w1, hw1⟩ : ∃ w1, w1 = (w.alloc (.cells #[.map (some B), .slice Ar now.length cr] 47)).alloc (.cells #[.slice none 0 0] 26) := ⟨_, rfl⟩
  have HE1 := (show Hid ((w.alloc (.cells #[.map (some B), .slice Ar now.length cr] 47)).alloc (.cells #[.slice none 0 0] 26) = w1) from hw1.symm)
  have s1 := World.size_alloc w (.cells #[.map (some B), .slice Ar now.length cr] 47)
  have s2 : w1.heap.size = w.heap.size + 2 := by rw [hw1, World.size_alloc, s1]
  have hb1 : Below w.heap.size w w1 := by rw [hw1]; exact ((Below.refl _ _).alloc (Nat.le_refl _) _).alloc (by omega) _
  have hk1 : KX w1 w.heap.size (.map (some B)) (.slice Ar now.length cr) := by rw [hw1]; exact (KX.new w _ _).below (below_box _ _)
  have hl1 : LX w1 (w.heap.size + 1) (.slice none 0 0) := by
    have q : LX ((w.alloc (.cells #[.map (some B), .slice Ar now.length cr] 47)).alloc (.cells #[.slice none 0 0] 26)) (w.alloc (.cells #[.map (some B), .slice Ar now.length cr] 47)).heap.size (.slice none 0 0) := ⟨heap_alloc_new _ _⟩
    rw [s1, ← hw1] at q; exact q
  have HT := hid_of (through9_any L 17 #[] #[.pointer (some ⟨w.heap.size, 0, none⟩), .pointer (some ⟨w.heap.size + 1, 0, none⟩)] (EE (lkE gs now) L) (JP gs now B Ar cr w.heap.size (w.heap.size + 1) (EE (lkE gs now) L)) Ap cp w.heap.size h.rt w1 hb1.size (hL.below hb1 (Nat.le_refl _)) (fun a ha => by
      have hne : L ≠ [] := by rintro rfl; have := h.rt.one; simp [run] at this
      obtain ⟨g, o, e, lt, _⟩ := hL hne
      rw [e] at ha
      obtain rfl := Option.some.inj ha
      exact lt) enters_pt1 (see_pt h B Ar cr w.heap.size (w.heap.size + 1) w.heap.size w1.heap.size (by omega) (by have := hk.m.lt; omega) (fun g o e => by have := rde_lt hk.r hn g o e; omega) (by omega) (by omega)) (fun b => b = w.heap.size + 1 ∨ (Value.slice none 0 0).ownBlock = some b) ⟨_, fun b => Iff.rfl, hl1, World.ownsRow_nil _ _ _ _, hk1, hk.later hb1⟩ (fun b q => by
      rcases q with q | q
      · omega
      · simp [Value.ownBlock] at q))
  have HB1 := (show Hid (Below w.heap.size w w1) from hb1)
  obtain ⟨⟨en, ec, el, em⟩, hE⟩ : ∃ e, e = EE (lkE gs now) L (L.length - 1) := ⟨_, rfl⟩
  rw [← hE] at HT
  simp only [emG] at HT
  clear hw1 h hk hn hL s1 s2 hb1 hk1 hl1
  go_enter Try.func9, Try.ntmps9
  go_wp2_with (rw [HE1.out])
  refine Calls.mono HT.out ?_
  rintro e w2 ⟨rfl, b2, X, v, _, hL2, ho2, _, _⟩
  obtain ⟨A2, c2, rfl⟩ := own_fm ho2
  have l0 := hL2.c0
  have HO := (show Hid (w2.ownsRow w.heap.size 32 4 (.slice A2 L.length c2) L.length (emc ((List.range L.length).map (EE (lkE gs now) L)))) from T.own_base ho2 (by omega))
  have HB2 := (show Hid (Below w.heap.size w w2) from HB1.out.trans b2)
  clear HT HE1 b2 hL2 ho2 hE HB1
  go_wp2_with fail
  go_ret
  exact ⟨⟨_, rfl, HO.out⟩, HB2.out⟩
end Go.Proofs.Ytokfgoepnfjafaa.N

namespace Go.Proofs.Ytokfgoepnfjafaa.N
open Go.RowKit Go.Maps
open Go.Proofs.Ytokfgoepnfjafaa.T
/-- What Parts answers. -/
def PaR (gs : GL) (r : Int) (l : List Em) (cd : Int) : Prop := ((ckG gs).2 ≠ 0 → cd = (ckG gs).2 ∧ l = []) ∧ ((ckG gs).2 = 0 → (r < 0 ∨ (gs.length : Int) ≤ r → cd = 1 ∧ l = []) ∧ ∀ (k : Nat) g, r = k → gs[k]? = some g → cd = 0 ∧ ∃ now, KnF gs now ∧ l = (List.range g.2.length).map (EE (lkE gs now) g.2))
theorem below_dr (w : World) : Below w.heap.size w w.drew := ⟨rfl, rfl, rfl, Nat.le_refl _, fun _ _ => rfl⟩
theorem enters_pts (args : Array Value) (w : World) : (callFunc 9 args).run Try.prog w = .ok (.enter 9 args) w := enters_of Try.func9 (by kernel_rfl) rfl args w
set_option maxRecDepth 100000 in
set_option maxHeartbeats 8000000 in
theorem partsP_any (gs : GL) (A : Option Addr) (c : Nat) (r : Int) (w : World) (hp : GI w A gs) :
    Calls Try.prog 6 #[.agg #[.slice A gs.length c], .int .i64 r] w fun e w' => (∃ v l cd, e = .returned (.tuple #[v, .int .i64 cd]) ∧ PaR gs r l cd ∧ w'.ownsRow w.heap.size 32 4 v l.length (emc l)) ∧ Below w.heap.size w w' := by
  obtain ⟨w1, hw1⟩ : ∃ w1, w1 = w.alloc (.cells #[.slice A gs.length c] 24) := ⟨_, rfl⟩
  have HE1 := (show Hid (w.alloc (.cells #[.slice A gs.length c] 24) = w1) from hw1.symm)
  have HB1 := (show Hid (Below w.heap.size w w1) from by rw [hw1]; exact below_box _ _)
  have HG1 := (show Hid (GX w1 w.heap.size (.slice A gs.length c)) from by rw [hw1]; exact GX.mk (heap_alloc_new w _))
  have q1 := HG1.out.cl
  have HN := hid_of (knownOf_any gs A c w1 (hp.later HB1.out))
  have HP := (show Hid (GI w A gs) from hp)
  clear hw1 hp
  go_enter Try.func6, Try.ntmps6
  go_wp2_with (rw [HE1.out])
  refine Calls.mono HN.out ?_
  rintro e w2 ⟨⟨m, v, rfl, h1, h2⟩, b2⟩
  have HB2 := (show Hid (Below w.heap.size w w2) from HB1.out.trans (b2.mono HB1.out.size))
  have HG2 := (show Hid (GX w2 w.heap.size (.slice A gs.length c)) from HG1.out.below b2)
  have hs1 := HB1.out.size
  clear HN HE1 q1 b2 HG1
  by_cases hz : (ckG gs).2 = 0
  · obtain ⟨mb, Ar, cr, now, rfl, rfl, _, hm2, hF, hl, hok, ho⟩ := h2 hz
    have tz : ((ckG gs).2 != 0) = false := by rw [hz]; rfl
    have hR := ckG_ok.1 hz
    have hn200 := hR.n2
    obtain ⟨w3, hw3⟩ : ∃ w3, w3 = w2.alloc (.cells #[.map (some mb), .slice Ar gs.length cr] 47) := ⟨_, rfl⟩
    have HE3 := (show Hid (w2.alloc (.cells #[.map (some mb), .slice Ar gs.length cr] 47) = w3) from hw3.symm)
    have hb3 : Below w2.heap.size w2 w3 := by rw [hw3]; exact below_box _ _
    have k0 : w3.cell? ⟨w2.heap.size, 0, none⟩ = some (.map (some mb)) := by rw [hw3]; exact (KX.new w2 _ _).c0
    have k1 : w3.cell? ⟨w2.heap.size, 1, none⟩ = some (.slice Ar gs.length cr) := by rw [hw3]; exact (KX.new w2 _ _).c1
    have HB3 := (show Hid (Below w.heap.size w w3) from HB2.out.trans (hb3.mono HB2.out.size))
    have q3 := (HG2.out.below hb3).cl
    have HKn := (show Hid (KnI w3 gs mb Ar now) from ⟨hm2.later hb3, own_rd (T.own_below ho hb3) hl, hl⟩)
    have HR := (show Hid (RtG gs ∧ KnF gs now ∧ now.length = gs.length ∧ OkN gs now ∧ (ckG gs).2 = 0) from ⟨hR, hF, hl, hok, hz⟩)
    clear h1 h2 ho hF hl hok hz hs1 hm2 hR hw3 hb3 HG2
    generalize hcd : (ckG gs).2 = cd at tz ⊢
    clear hcd
    by_cases h0 : r < 0
    · have HA := (show Hid (PaR gs r [] 1) from ⟨fun q => absurd HR.out.2.2.2.2 q, fun _ => ⟨fun _ => ⟨rfl, rfl⟩, fun k g e _ => absurd e (by omega)⟩⟩)
      clear HKn HR HP
      go_wp2_with (rw [HE3.out])
      refine bodyPost_ret (v := .tuple #[.slice none 0 0, .int .i64 1]) (by simp [results, Try.results6, go_sem]) rfl ⟨⟨_, [], 1, rfl, HA.out, World.ownsRow_nil _ _ _ _⟩, HB3.out⟩
    by_cases hg : (gs.length : Int) ≤ r
    · have HA := (show Hid (PaR gs r [] 1) from ⟨fun q => absurd HR.out.2.2.2.2 q, fun _ => ⟨fun _ => ⟨rfl, rfl⟩, fun k g e he => absurd (List.getElem?_eq_some_iff.1 he).1 (by omega)⟩⟩)
      have hg2 : r ≥ (gs.length : Int) := hg
      clear HKn HR HP
      go_wp2_with (rw [HE3.out])
      refine bodyPost_ret (v := .tuple #[.slice none 0 0, .int .i64 1]) (by simp [results, Try.results6, go_sem]) rfl ⟨⟨_, [], 1, rfl, HA.out, World.ownsRow_nil _ _ _ _⟩, HB3.out⟩
    obtain ⟨k, rfl⟩ : ∃ k : Nat, r = k := ⟨r.toNat, by omega⟩
    have hk : k < gs.length := by omega
    obtain ⟨g, hgk⟩ : ∃ g, gs[k]? = some g := ⟨_, List.getElem?_eq_getElem hk⟩
    have hmem := List.mem_of_getElem? hgk
    obtain ⟨b, o, A2, c2, rfl, lb, x0, x1, r2⟩ := HP.out.d k g hgk
    have x0' := (HB3.out.cell (p := ⟨b, o + k * 2, none⟩) lb).trans x0
    have x1' := (HB3.out.cell (p := ⟨b, o + k * 2 + 1, none⟩) lb).trans x1
    have z0 : (0 : Int) ≤ (k : Int) := by omega
    have z1 : (k : Int) < (gs.length : Int) := by omega
    have hg3 : ¬ (k : Int) ≥ (gs.length : Int) := by omega
    have HC := (show Hid (∀ _ : Unit, Calls Try.prog 9 #[.agg #[.map (some mb), .slice Ar gs.length cr], .slice A2 g.2.length c2] w3.drew fun e w' => (∃ v, e = .returned v ∧ w'.ownsRow w3.heap.size 32 4 v g.2.length (emc ((List.range g.2.length).map (EE (lkE gs now) g.2)))) ∧ Below w3.heap.size w3 w') from fun _ => by
      have hne : now ≠ [] := by rintro rfl; have h1 := HR.out.2.2.1; have h2 := HR.out.1.n1; rw [← h1] at h2; exact absurd h2 (by decide)
      have t := parts_any (ptR_of HR.out.1 HP.out HR.out.2.2.2.1 hmem) mb Ar A2 cr c2 w3.drew (HKn.out.later (below_dr w3)) hne ((r2.below HB3.out (Nat.le_refl _)).below (below_dr w3) (Nat.le_refl _))
      rw [HR.out.2.2.1] at t
      refine t.mono ?_
      rintro e w' ⟨h1, h2⟩
      exact ⟨h1, ⟨h2.os, h2.tape, h2.output, h2.size, h2.block⟩⟩)
    have HA := (show Hid (PaR gs k ((List.range g.2.length).map (EE (lkE gs now) g.2)) 0) from ⟨fun q => absurd HR.out.2.2.2.2 q, fun _ => ⟨fun q => by omega, fun k2 g2 e he => by
      have e2 : k = k2 := by omega
      subst e2
      rw [hgk] at he
      obtain rfl := Option.some.inj he
      exact ⟨rfl, now, HR.out.2.1, rfl⟩⟩⟩)
    have HSz := (show Hid (w.heap.size ≤ w3.heap.size) from HB3.out.size)
    clear hgk hmem x0 x1 r2 HKn HR HP hg hk
    go_wp2_with (rw [HE3.out])
    go_region_law (refine step_call2 enters_pts rfl _ _ _ _ (by rfl) (.agg #[.map (some mb), .slice Ar gs.length cr]) (.slice A2 g.2.length c2) (by rfl) (by rfl) ?_; with_reducible refine (HC.out ()).mono ?_; rintro e w4 ⟨⟨v4, rfl, ho4⟩, b4⟩; refine ⟨_, rfl, ?_⟩)
    all_goals
      have HO4 := hid_of ho4
      have HB4 := hid_of b4
      clear ho4 b4
      go_wp2_with fail
      refine bodyPost_ret (v := .tuple #[v4, .int .i64 0]) (by simp [results, Try.results6, go_sem]) rfl ⟨⟨_, _, 0, rfl, HA.out, by rw [List.length_map, List.length_range]; exact T.own_base HO4.out HSz.out⟩, HB3.out.trans (HB4.out.mono HSz.out)⟩
  · obtain ⟨rfl, rfl⟩ := h1 hz
    have tz : ((ckG gs).2 != 0) = true := by rw [bne, beq_eq_false_iff_ne.2 hz]; rfl
    have HR := (show Hid (PaR gs r [] (ckG gs).2) from ⟨fun _ => ⟨rfl, rfl⟩, fun q => absurd q hz⟩)
    clear h1 h2 hz hs1 HG2 HP
    have HB3 := (show Hid (Below w2.heap.size w2 (w2.alloc (.cells #[.map none, .slice none 0 0] 47))) from below_box _ _)
    generalize hcd : (ckG gs).2 = cd at tz HR ⊢
    clear hcd
    go_wp2_with fail
    refine bodyPost_ret (v := .tuple #[.slice none 0 0, .int .i64 cd]) (by simp [results, Try.results6, go_sem]) rfl ⟨⟨_, [], cd, rfl, HR.out, World.ownsRow_nil _ _ _ _⟩, HB2.out.trans (HB3.out.mono HB2.out.size)⟩
end Go.Proofs.Ytokfgoepnfjafaa.N

namespace Go.Proofs.Ytokfgoepnfjafaa.N
open Go.RowKit Go.Maps
open Go.Proofs.Ytokfgoepnfjafaa.T
theorem nmL_mem {L : List Nd} {s : ByteArray} : ∀ k, k ≤ L.length → (s ∈ nmL L k ↔ ∃ (j : Nat) (n : Nd), j < k ∧ L[j]? = some n ∧ n.op = 6 ∧ n.tx = s) := by
  intro k
  induction k with
  | zero =>
    intro _
    constructor
    · intro h; simp [nmL] at h
    · rintro ⟨j, n, h, _⟩; omega
  | succ k ih =>
    intro hk
    have hn : L[k]? = some L[k] := List.getElem?_eq_getElem (by omega)
    have ih := ih (by omega)
    have key : s ∈ nmL L (k + 1) ↔ s ∈ nmL L k ∨ ((L[k]).op = 6 ∧ (L[k]).tx = s) := by
      rw [nmL_succ hn]
      by_cases q : (L[k]).op = 6 ∧ inB (L[k]).tx (nmL L k) = false
      · rw [if_pos q, List.mem_append, List.mem_singleton]
        constructor
        · rintro (h | h)
          · exact .inl h
          · exact .inr ⟨q.1, h.symm⟩
        · rintro (h | h)
          · exact .inl h
          · exact .inr h.2.symm
      · rw [if_neg q]
        constructor
        · exact .inl
        · rintro (h | ⟨h1, h2⟩)
          · exact h
          · have e : inB (L[k]).tx (nmL L k) = true := by
              cases e : inB (L[k]).tx (nmL L k)
              · exact absurd ⟨h1, e⟩ q
              · rfl
            rw [← h2]
            exact inB_mem.1 e
    rw [key, ih]
    constructor
    · rintro (⟨j, n, h1, h2, h3, h4⟩ | ⟨h1, h2⟩)
      · exact ⟨j, n, by omega, h2, h3, h4⟩
      · exact ⟨k, _, by omega, hn, h1, h2⟩
    · rintro ⟨j, n, h1, h2, h3, h4⟩
      by_cases q : j = k
      · subst q
        rw [hn] at h2
        obtain rfl := Option.some.inj h2
        exact .inr ⟨h3, h4⟩
      · exact .inl ⟨j, n, by omega, h2, h3, h4⟩
/-- What Of answers. -/
def OfR (gs : GL) (L : List Nd) (x : Em) (cd : Int) : Prop := ((ckG gs).2 ≠ 0 → cd = (ckG gs).2 ∧ x = e0) ∧ ((ckG gs).2 = 0 → ((ck L).2 ≠ 0 → cd = (ck L).2 ∧ x = e0) ∧ ((ck L).2 = 0 → ((∃ n ∈ L, n.op = 6 ∧ fdG gs n.tx = none) → cd = 81 ∧ x = e0) ∧ ((∀ n ∈ L, n.op = 6 → ∃ i, fdG gs n.tx = some i) → cd = 0 ∧ ∃ now, KnF gs now ∧ x = EE (lkE gs now) L (L.length - 1))))
structure OfS (w W : World) (kb mb : Nat) (Ar : Option Addr) (cr : Nat) (gs : GL) (now : List Em) : Prop where
  b : Below w.heap.size w W
  z : EX W (w.heap.size + 1) e0
  k : KX W kb (.map (some mb)) (.slice Ar gs.length cr)
  n : KnI W gs mb Ar now
theorem OfS.later {w W W' : World} {kb mb : Nat} {Ar : Option Addr} {cr : Nat} {gs : GL} {now : List Em} (h : OfS w W kb mb Ar cr gs now) (hb : Below W.heap.size W W') : OfS w W' kb mb Ar cr gs now := ⟨h.b.trans (hb.mono h.b.size), h.z.below hb, h.k.below hb, h.n.later hb⟩
theorem of_ret {w W : World} (hb : Below w.heap.size w W) (hz : EX W (w.heap.size + 1) e0) (f : Em) : EX (st4 W (w.heap.size + 1) f) (w.heap.size + 1) f ∧ Below w.heap.size w (st4 W (w.heap.size + 1) f) := ⟨hz.all f, st4_below hb (by omega) f⟩
set_option maxRecDepth 100000 in
set_option maxHeartbeats 16000000 in
theorem ofP_any (gs : GL) (A : Option Addr) (c : Nat) (L : List Nd) (Ap : Option Addr) (cp : Nat) (hL : L.length ≤ 140737488355328) (hT : ∀ n ∈ L, n.tx.size ≤ 140737488355328) (w : World) (hp : GI w A gs) (hr : RdN w Ap L) :
    Calls Try.prog 7 #[.agg #[.slice A gs.length c], .slice Ap L.length cp] w fun e w' => (∃ x cd, e = .returned (.tuple #[emG x, .int .i64 cd]) ∧ OfR gs L x cd) ∧ Below w.heap.size w w' := by
  obtain ⟨w1, hw1⟩ : ∃ w1, w1 = (w.alloc (.cells #[.slice A gs.length c] 24)).alloc (.cells #[.bool false, .bool false, .int .i64 0, .int .i64 0] 32) := ⟨_, rfl⟩
  have HE1 := (show Hid ((w.alloc (.cells #[.slice A gs.length c] 24)).alloc (.cells #[.bool false, .bool false, .int .i64 0, .int .i64 0] 32) = w1) from hw1.symm)
  have HS1 := (show Hid (Below w.heap.size w w1 ∧ GX w1 w.heap.size (.slice A gs.length c) ∧ EX w1 (w.heap.size + 1) e0) from by
    have s1 := World.size_alloc w (.cells #[.slice A gs.length c] 24)
    refine ⟨by rw [hw1]; exact ((Below.refl _ _).alloc (Nat.le_refl _) _).alloc (by omega) _, by rw [hw1]; exact (GX.mk (heap_alloc_new w _)).below (below_box _ _), ?_⟩
    have h := EX.new (w.alloc (.cells #[.slice A gs.length c] 24)) e0
    rw [s1] at h
    rw [hw1]; exact h)
  have q1 := HS1.out.2.1.cl
  have HN := hid_of (knownOf_any gs A c w1 (hp.later HS1.out.1))
  have HTt := (show Hid (L.length ≤ 140737488355328 ∧ (∀ n ∈ L, n.tx.size ≤ 140737488355328) ∧ RdN w Ap L) from ⟨hL, hT, hr⟩)
  clear hw1 hp hL hT hr
  go_enter Try.func7, Try.ntmps7
  go_wp2_with (rw [HE1.out])
  refine Calls.mono HN.out ?_
  rintro e w2 ⟨⟨m, v, rfl, h1, h2⟩, b2⟩
  have HB2 := (show Hid (Below w.heap.size w w2 ∧ EX w2 (w.heap.size + 1) e0) from ⟨HS1.out.1.trans (b2.mono HS1.out.1.size), HS1.out.2.2.below b2⟩)
  clear HN HE1 q1 b2 HS1
  by_cases hz : (ckG gs).2 = 0
  · obtain ⟨mb, Ar, cr, now, rfl, rfl, _, hm2, hF, hl, hok, ho⟩ := h2 hz
    have tz : ((ckG gs).2 != 0) = false := by rw [hz]; rfl
    have hR := ckG_ok.1 hz
    obtain ⟨w3, hw3⟩ : ∃ w3, w3 = w2.alloc (.cells #[.map (some mb), .slice Ar gs.length cr] 47) := ⟨_, rfl⟩
    have HE3 := (show Hid (w2.alloc (.cells #[.map (some mb), .slice Ar gs.length cr] 47) = w3) from hw3.symm)
    have hb3 : Below w2.heap.size w2 w3 := by rw [hw3]; exact below_box _ _
    obtain ⟨kb, hkb⟩ : ∃ kb, kb = w2.heap.size := ⟨_, rfl⟩
    have HKb := (show Hid (w2.heap.size = kb) from hkb.symm)
    have HS3 := (show Hid (OfS w w3 kb mb Ar cr gs now) from ⟨HB2.out.1.trans (hb3.mono HB2.out.1.size), HB2.out.2.below hb3, by rw [hw3, hkb]; exact KX.new w2 _ _, ⟨hm2.later hb3, own_rd (T.own_below ho hb3) hl, hl⟩⟩)
    have HR := (show Hid (RtG gs ∧ KnF gs now ∧ now.length = gs.length ∧ OkN gs now ∧ (ckG gs).2 = 0) from ⟨hR, hF, hl, hok, hz⟩)
    have HNm := hid_of (names_any L Ap cp HTt.out.1 HTt.out.2.1 w3 (HTt.out.2.2.below HS3.out.b (Nat.le_refl _)))
    clear h1 h2 ho hF hl hok hz hm2 hR hw3 hb3 hkb HB2
    generalize hcd : (ckG gs).2 = cd at tz ⊢
    clear hcd
    go_wp2_with (rw [HE3.out, HKb.out])
    refine Calls.mono HNm.out ?_
    rintro e w4 ⟨⟨v4, rfl, ho4⟩, b4⟩
    have HS4 := (show Hid (OfS w w4 kb mb Ar cr gs now) from HS3.out.later b4)
    clear HNm HE3 HKb b4
    by_cases hc : (ck L).2 = 0
    · have hnm : nmE L = nmL L L.length := by unfold nmE; rw [if_pos hc]
      have hrt := rt_of hc
      have hlen := hrt.len
      have HNl := (show Hid ((nmE L).length ≤ 2048) from by rw [hnm]; have := nmL_len L L.length; show _ ≤ _; omega)
      have HMem := (show Hid (∀ s, s ∈ nmE L ↔ ∃ n ∈ L, n.op = 6 ∧ n.tx = s) from fun s => by
        rw [hnm, nmL_mem _ (Nat.le_refl _)]
        constructor
        · rintro ⟨j, n, _, h2, h3, h4⟩; exact ⟨n, List.mem_of_getElem? h2, h3, h4⟩
        · rintro ⟨n, h2, h3, h4⟩
          obtain ⟨j, hj⟩ := List.getElem?_of_mem h2
          exact ⟨j, n, (List.getElem?_eq_some_iff.1 hj).1, hj, h3, h4⟩)
      obtain ⟨A4, c4, rfl⟩ := U.own_slice ho4
      have HO4 := hid_of ho4
      have HRt := (show Hid (Rt L ∧ (ck L).2 = 0) from ⟨hrt, hc⟩)
      have tc : ((ck L).2 != 0) = false := by rw [hc]; rfl
      clear hnm hrt hc ho4
      generalize hcd : (ck L).2 = ce at tc ⊢
      clear hcd
      obtain ⟨ns, hns⟩ : ∃ ns, ns = nmE L := ⟨_, rfl⟩
      rw [← hns] at HNl HMem HO4 ⊢
      clear hns
      have hnl := HNl.out
      go_wp2_with fail
      go_loopw [33] (fun t wr => ∃ k : Nat, k ≤ ns.length ∧ t = .int .i64 (k : Int) ∧ w4 = wr ∧ Hid (∀ (j : Nat) s, j < k → ns[j]? = some s → ∃ i, fdG gs s = some i)) (fun t _ => ns.length - (intOf t).toNat)
      case atStart => exact ⟨0, Nat.zero_le _, by go_num, rfl, fun j s hj => absurd hj (Nat.not_lt_zero _)⟩
      case round =>
        obtain ⟨k, hk, rfl, rfl, HI⟩ := hrel
        by_cases hlt : k < ns.length
        · obtain ⟨s, hs⟩ : ∃ s, ns[k]? = some s := ⟨_, List.getElem?_eq_getElem hlt⟩
          obtain ⟨g4, c5, e4, _, _, x4, _⟩ := U.own_get HO4.out (j := k) (x := .string s) (by unfold stc; rw [List.getElem?_map, hs]; rfl)
          injection e4 with e5 _ _
          subst e5
          obtain ⟨n0, hn0, h60, ht0⟩ := (HMem.out s).1 (List.mem_of_getElem? hs)
          have hsz : s.size ≤ 140737488355328 := by rw [← ht0]; exact HTt.out.2.1 n0 hn0
          obtain ⟨cc, hrun, _⟩ := HS4.out.n.m.look s hsz
          have kk0 := HS4.out.k.c0
          have y0 : (0 : Int) ≤ (k : Int) := by omega
          have y1 : (k : Int) < (ns.length : Int) := by omega
          cases hf : fdG gs s with
          | none =>
            rw [hf] at hrun
            have HA := (show Hid (OfR gs L e0 81) from ⟨fun q => absurd HR.out.2.2.2.2 q, fun _ => ⟨fun q => absurd HRt.out.2 q, fun _ => ⟨fun _ => ⟨rfl, rfl⟩, fun q => by
              obtain ⟨i, hi⟩ := q n0 hn0 h60
              rw [ht0, hf] at hi
              cases hi⟩⟩⟩)
            have f0 := HS4.out.z.fz 0
            have f1 := HS4.out.z.fz 1
            have f2 := HS4.out.z.fz 2
            have f3 := HS4.out.z.fz 3
            have z0 : w4.cell? ⟨w.heap.size + 1, 0, none⟩ = some (.bool false) := HS4.out.z.eb.c0
            have z1 : w4.cell? ⟨w.heap.size + 1, 1, none⟩ = some (.bool false) := HS4.out.z.eb.c1
            have z2 : w4.cell? ⟨w.heap.size + 1, 2, none⟩ = some (.int .i64 0) := HS4.out.z.eb.c2
            have z3 : w4.cell? ⟨w.heap.size + 1, 3, none⟩ = some (.int .i64 0) := HS4.out.z.eb.c3
            have HZ := hid_of (of_ret HS4.out.b HS4.out.z e0)
            simp only [Option.isSome] at hrun
            clear hf hs hn0 h60 ht0 hsz HS4 HO4 HMem HTt HI HR HS3 HRt HNl
            go_wp2_with fail
            refine ret_ex2 (s := 4) (t := 5) (k := w.heap.size + 1) (x := .int .i64 81) (by rfl) (by rfl) (by rfl) (by rfl) HZ.out.1 ?_
            exact ⟨⟨e0, 81, rfl, HA.out⟩, HZ.out.2⟩
          | some i =>
            rw [hf] at hrun
            have HI2 := (show Hid (∀ (j : Nat) s, j < k + 1 → ns[j]? = some s → ∃ i, fdG gs s = some i) from fun j s2 hj hj2 => by
              by_cases q : j = k
              · subst q
                rw [hs] at hj2
                obtain rfl := Option.some.inj hj2
                exact ⟨i, hf⟩
              · exact HI.out j s2 (by omega) hj2)
            simp only [Option.isSome] at hrun
            clear hf hs hn0 h60 ht0 hsz HI
            go_wp2_with fail
            go_roundw
            case rel => exact ⟨k + 1, by omega, by go_num, by first | rfl | trivial, HI2⟩
            case measure => simp [intOf]; omega
        · obtain rfl : k = ns.length := by omega
          have hall : ∀ n ∈ L, n.op = 6 → ∃ i, fdG gs n.tx = some i := fun n hn h6 => by
            obtain ⟨j, hj⟩ := List.getElem?_of_mem ((HMem.out n.tx).2 ⟨n, hn, h6, rfl⟩)
            exact HI.out j _ (List.getElem?_eq_some_iff.1 hj).1 hj
          obtain ⟨⟨en, ec, el, em⟩, hE⟩ : ∃ e, e = EE (lkE gs now) L (L.length - 1) := ⟨_, rfl⟩
          have HA := (show Hid (OfR gs L ⟨en, ec, el, em⟩ 0) from ⟨fun q => absurd HR.out.2.2.2.2 q, fun _ => ⟨fun q => absurd HRt.out.2 q, fun _ => ⟨fun ⟨n, hn, h6, hf⟩ => absurd (hall n hn h6) (by rw [hf]; rintro ⟨i, hi⟩; cases hi), fun _ => ⟨rfl, now, HR.out.2.1, hE⟩⟩⟩⟩)
          have HC := (show Hid (Calls Try.prog 11 #[.agg #[.map (some mb), .slice Ar gs.length cr], .slice Ap L.length cp] w4 fun e w' => e = .returned (.agg #[.bool en, .bool ec, .int .i64 el, .int .i64 em]) ∧ Below w4.heap.size w4 w') from by
            have hne : now ≠ [] := by rintro rfl; have h1 := HR.out.2.2.1; have h2 := HR.out.1.n1; rw [← h1] at h2; exact absurd h2 (by decide)
            have t := of_any ⟨HRt.out.1, HTt.out.2.1, hall, HR.out.2.2.2.1⟩ mb Ar Ap cr cp w4 HS4.out.n hne (HTt.out.2.2.below HS4.out.b (Nat.le_refl _))
            rw [← hE, HR.out.2.2.1] at t
            exact t)
          have kk0 := HS4.out.k.c0
          have kk1 := HS4.out.k.c1
          clear hall hE HMem HTt HI HR HRt HO4 HNl HS3
          go_wp2_with fail
          refine Calls.mono HC.out ?_
          rintro e w5 ⟨rfl, b5⟩
          have HS5 := (show Hid (OfS w w5 kb mb Ar cr gs now) from HS4.out.later b5)
          have f0 := HS5.out.z.fz 0
          have f1 := HS5.out.z.fz 1
          have f2 := HS5.out.z.fz 2
          have f3 := HS5.out.z.fz 3
          have z0 : w5.cell? ⟨w.heap.size + 1, 0, none⟩ = some (.bool false) := HS5.out.z.eb.c0
          have z1 : w5.cell? ⟨w.heap.size + 1, 1, none⟩ = some (.bool false) := HS5.out.z.eb.c1
          have z2 : w5.cell? ⟨w.heap.size + 1, 2, none⟩ = some (.int .i64 0) := HS5.out.z.eb.c2
          have z3 : w5.cell? ⟨w.heap.size + 1, 3, none⟩ = some (.int .i64 0) := HS5.out.z.eb.c3
          have HZ := hid_of (of_ret HS5.out.b HS5.out.z ⟨en, ec, el, em⟩)
          clear HC b5 HS5 HS4 kk0 kk1
          go_wp2_with fail
          refine ret_ex2 (s := 4) (t := 5) (k := w.heap.size + 1) (x := .int .i64 0) (by rfl) (by rfl) (by rfl) (by rfl) HZ.out.1 ?_
          exact ⟨⟨_, 0, rfl, HA.out⟩, HZ.out.2⟩
    · have tc : ((ck L).2 != 0) = true := by rw [bne, beq_eq_false_iff_ne.2 hc]; rfl
      have HA := (show Hid (OfR gs L e0 (ck L).2) from ⟨fun q => absurd HR.out.2.2.2.2 q, fun _ => ⟨fun _ => ⟨rfl, rfl⟩, fun q => absurd q hc⟩⟩)
      have f0 := HS4.out.z.fz 0
      have f1 := HS4.out.z.fz 1
      have f2 := HS4.out.z.fz 2
      have f3 := HS4.out.z.fz 3
      have z0 : w4.cell? ⟨w.heap.size + 1, 0, none⟩ = some (.bool false) := HS4.out.z.eb.c0
      have z1 : w4.cell? ⟨w.heap.size + 1, 1, none⟩ = some (.bool false) := HS4.out.z.eb.c1
      have z2 : w4.cell? ⟨w.heap.size + 1, 2, none⟩ = some (.int .i64 0) := HS4.out.z.eb.c2
      have z3 : w4.cell? ⟨w.heap.size + 1, 3, none⟩ = some (.int .i64 0) := HS4.out.z.eb.c3
      have HZ := hid_of (of_ret HS4.out.b HS4.out.z e0)
      clear hc ho4 HS4 HS3 HR HTt
      generalize hcd : (ck L).2 = ce at tc HA ⊢
      clear hcd
      go_wp2_with fail
      refine ret_ex2 (s := 4) (t := 5) (k := w.heap.size + 1) (x := .int .i64 ce) (by rfl) (by rfl) (by rfl) (by rfl) HZ.out.1 ?_
      exact ⟨⟨e0, ce, rfl, HA.out⟩, HZ.out.2⟩
  · obtain ⟨rfl, rfl⟩ := h1 hz
    have tz : ((ckG gs).2 != 0) = true := by rw [bne, beq_eq_false_iff_ne.2 hz]; rfl
    have HA := (show Hid (OfR gs L e0 (ckG gs).2) from ⟨fun _ => ⟨rfl, rfl⟩, fun q => absurd q hz⟩)
    have HB3 := (show Hid (Below w.heap.size w (w2.alloc (.cells #[.map none, .slice none 0 0] 47)) ∧ EX (w2.alloc (.cells #[.map none, .slice none 0 0] 47)) (w.heap.size + 1) e0) from ⟨HB2.out.1.trans ((below_box _ _).mono HB2.out.1.size), HB2.out.2.below (below_box _ _)⟩)
    clear h1 h2 hz HB2 HTt
    have f0 := HB3.out.2.fz 0
    have f1 := HB3.out.2.fz 1
    have f2 := HB3.out.2.fz 2
    have f3 := HB3.out.2.fz 3
    have z0 : (w2.alloc (.cells #[.map none, .slice none 0 0] 47)).cell? ⟨w.heap.size + 1, 0, none⟩ = some (.bool false) := HB3.out.2.eb.c0
    have z1 : (w2.alloc (.cells #[.map none, .slice none 0 0] 47)).cell? ⟨w.heap.size + 1, 1, none⟩ = some (.bool false) := HB3.out.2.eb.c1
    have z2 : (w2.alloc (.cells #[.map none, .slice none 0 0] 47)).cell? ⟨w.heap.size + 1, 2, none⟩ = some (.int .i64 0) := HB3.out.2.eb.c2
    have z3 : (w2.alloc (.cells #[.map none, .slice none 0 0] 47)).cell? ⟨w.heap.size + 1, 3, none⟩ = some (.int .i64 0) := HB3.out.2.eb.c3
    have HZ := hid_of (of_ret HB3.out.1 HB3.out.2 e0)
    generalize hcd : (ckG gs).2 = cd at tz HA ⊢
    clear hcd
    go_wp2_with fail
    refine ret_ex2 (s := 4) (t := 5) (k := w.heap.size + 1) (x := .int .i64 cd) (by rfl) (by rfl) (by rfl) (by rfl) HZ.out.1 ?_
    exact ⟨⟨e0, cd, rfl, HA.out⟩, HZ.out.2⟩
end Go.Proofs.Ytokfgoepnfjafaa.N

namespace Go.Proofs.Ytokfgoepnfjafaa.N
open Go.RowKit Go.Maps
open Go.Proofs.Ytokfgoepnfjafaa.T
def nA : Nd := ⟨4, 0, ⟨#[97]⟩, 0, 0, 0, 0⟩
def nCs : Nd := ⟨6, 0, ⟨#[115]⟩, 0, 0, 0, 0⟩
def nK (op n : Int) : Nd := ⟨op, n, ⟨#[]⟩, 0, 0, 0, 0⟩
def nAb : Nd := ⟨4, 0, ⟨#[97, 98]⟩, 0, 0, 0, 0⟩
def exS : List Nd := [nA, nCs, nK 7 0, nK 1 0, nK 8 0]
def exT : List Nd := [nAb, nK 14 2, nA, nK 11 0, nK 7 0]
def exG : GL := [(⟨#[115]⟩, exS), (⟨#[116]⟩, exT)]
theorem ex_ck : (ckG exG).2 = 0 := by kernel_rfl
def exB : Nat → Bool := fun i => i == 1
def exZ : List Em := [⟨true, false, 0, -1⟩, ⟨false, true, 4, 5⟩]
theorem ex_pg2 : pgE exG kdR exB 2 = exZ := by kernel_rfl
theorem ex_pg3 : pgE exG kdR exB 3 = exZ := by kernel_rfl
theorem pgS_bd {gs : GL} {bd bd2 : Nat → Bool} (h : ∀ i, i < gs.length → bd i = bd2 i) : pgS gs bd = pgS gs bd2 := by
  unfold pgS
  refine List.map_congr_left fun i hi => ?_
  rw [h i (List.mem_range.1 hi)]
theorem rdE_bd0 {gs : GL} {kd : List Nd → Nat → List Nat} {bd bd2 : Nat → Bool} (h : ∀ i, i < gs.length → bd i = bd2 i) (now : List Em) : rdE gs kd bd now = rdE gs kd bd2 now := by
  apply List.ext_getElem?
  intro i
  by_cases hi : i < gs.length
  · have hg : gs[i]? = some gs[i] := List.getElem?_eq_getElem hi
    rw [rdE_get hg, rdE_get hg, h i hi]
  · rw [List.getElem?_eq_none (by rw [rdE_len]; omega), List.getElem?_eq_none (by rw [rdE_len]; omega)]
theorem pgE_bd {gs : GL} {kd : List Nd → Nat → List Nat} {bd bd2 : Nat → Bool} (h : ∀ i, i < gs.length → bd i = bd2 i) : ∀ m, pgE gs kd bd m = pgE gs kd bd2 m := by
  intro m
  induction m with
  | zero => exact pgS_bd h
  | succ m ih =>
    show rdE gs kd bd (pgE gs kd bd m) = rdE gs kd bd2 (pgE gs kd bd2 m)
    rw [ih, rdE_bd0 h]
theorem ex_c00 : cG exG 0 0 = true := by kernel_rfl
theorem ex_c10 : cG exG 1 0 = false := by kernel_rfl
theorem ex_c11 : cG exG 1 1 = false := by kernel_rfl
theorem rc_some {n : Nat} {c : Mx} {x y : Nat} (h : Rc n c x y) : ∃ k, c x k = true :=
  Rc.least (d := fun i _ => ∃ k, c i k = true) (fun _i j hc => ⟨j, hc⟩) (fun _i _k _j _ h1 _ => h1) h
theorem ex_kn {now : List Em} (h : KnF exG now) : now = exZ := by
  obtain ⟨R, bd, m, hI, hbd, rfl, hf⟩ := h
  have l2 : exG.length = 2 := rfl
  have b0 : bd 0 = exB 0 := by
    rw [hbd 0, (hI.rl 0 0 (by rw [l2]; omega) (by rw [l2]; omega)).2 (Rc.of ex_c00)]
    rfl
  have b1 : bd 1 = exB 1 := by
    rw [hbd 1]
    cases e : R 1 1 with
    | false => rfl
    | true =>
      obtain ⟨k, hk⟩ := rc_some ((hI.rl 1 1 (by rw [l2]; omega) (by rw [l2]; omega)).1 e)
      have hlt := (cG_lt hk).2
      rw [l2] at hlt
      have : k = 0 ∨ k = 1 := by omega
      rcases this with rfl | rfl
      · rw [ex_c10] at hk; cases hk
      · rw [ex_c11] at hk; cases hk
  have hb : ∀ i, i < exG.length → bd i = exB i := fun i hi => by
    rw [l2] at hi
    have : i = 0 ∨ i = 1 := by omega
    rcases this with rfl | rfl
    · exact b0
    · exact b1
  have h1 := pg_fix hf 2
  have h2 := pg_fix (gs := exG) (kd := kdR) (bd := exB) (m := 2) (ex_pg3.trans ex_pg2.symm) m
  rw [pgE_bd hb, pgE_bd hb] at h1
  rw [pgE_bd hb, ← h1, show m + 2 = 2 + m from by omega, h2, ex_pg2]
/-- Nodes that were just laid are read. -/
theorem rd_lit (w : World) (L : List Nd) (cs : Array Value) (hn : L.length ≤ 100) (hc : cs.toList = ndc L) : RdN (w.alloc (.cells cs 44)) (some ⟨w.heap.size, 0, none⟩) L := fun _ => by
  have hs : cs.size = L.length * 7 := by rw [← Array.length_toList, hc, ndc_len]
  have ho : (w.alloc (.cells cs 44)).ownsRow w.heap.size 44 7 (.slice (some ⟨w.heap.size, 0, none⟩) L.length L.length) L.length (ndc L ++ []) := by
    rw [List.append_nil, ← hc]
    exact World.ownsRow_lit w cs L.length (Nat.le_refl _) (by unfold maxLen; omega) hs
  exact ⟨w.heap.size, 0, rfl, by rw [World.size_alloc]; omega, own_ndl ho⟩
set_option maxRecDepth 100000 in
theorem ex_gi (w : World) : GI ((((((w.alloc (.cells #[.int .i64 4, .int .i64 0, .string ⟨#[97]⟩, .int .u64 0, .int .u64 0, .int .u64 0, .int .u64 0] 44)).alloc (.cells #[.int .i64 4, .int .i64 0, .string ⟨#[97]⟩, .int .u64 0, .int .u64 0, .int .u64 0, .int .u64 0, .int .i64 6, .int .i64 0, .string ⟨#[115]⟩, .int .u64 0, .int .u64 0, .int .u64 0, .int .u64 0, .int .i64 7, .int .i64 0, .string ⟨#[]⟩, .int .u64 0, .int .u64 0, .int .u64 0, .int .u64 0, .int .i64 1, .int .i64 0, .string ⟨#[]⟩, .int .u64 0, .int .u64 0, .int .u64 0, .int .u64 0, .int .i64 8, .int .i64 0, .string ⟨#[]⟩, .int .u64 0, .int .u64 0, .int .u64 0, .int .u64 0] 44)).alloc (.cells #[.string ⟨#[115]⟩, .slice (some ⟨w.heap.size + 1, 0, none⟩) 5 5] 38)).alloc (.cells #[.int .i64 4, .int .i64 0, .string ⟨#[97, 98]⟩, .int .u64 0, .int .u64 0, .int .u64 0, .int .u64 0, .int .i64 14, .int .i64 2, .string ⟨#[]⟩, .int .u64 0, .int .u64 0, .int .u64 0, .int .u64 0, .int .i64 4, .int .i64 0, .string ⟨#[97]⟩, .int .u64 0, .int .u64 0, .int .u64 0, .int .u64 0, .int .i64 11, .int .i64 0, .string ⟨#[]⟩, .int .u64 0, .int .u64 0, .int .u64 0, .int .u64 0, .int .i64 7, .int .i64 0, .string ⟨#[]⟩, .int .u64 0, .int .u64 0, .int .u64 0, .int .u64 0] 44)).alloc (.cells #[.string ⟨#[116]⟩, .slice (some ⟨w.heap.size + 3, 0, none⟩) 5 5] 38)).alloc (.cells #[.string ⟨#[115]⟩, .slice (some ⟨w.heap.size + 1, 0, none⟩) 5 5, .string ⟨#[116]⟩, .slice (some ⟨w.heap.size + 3, 0, none⟩) 5 5] 38)) (some ⟨w.heap.size + 5, 0, none⟩) exG := by
  have s1 := World.size_alloc w (.cells #[.int .i64 4, .int .i64 0, .string ⟨#[97]⟩, .int .u64 0, .int .u64 0, .int .u64 0, .int .u64 0] 44)
  obtain ⟨w1, h1⟩ : ∃ w1, w1 = (w.alloc (.cells #[.int .i64 4, .int .i64 0, .string ⟨#[97]⟩, .int .u64 0, .int .u64 0, .int .u64 0, .int .u64 0] 44)) := ⟨_, rfl⟩
  rw [← h1] at s1 ⊢
  have r2 := rd_lit w1 exS #[.int .i64 4, .int .i64 0, .string ⟨#[97]⟩, .int .u64 0, .int .u64 0, .int .u64 0, .int .u64 0, .int .i64 6, .int .i64 0, .string ⟨#[115]⟩, .int .u64 0, .int .u64 0, .int .u64 0, .int .u64 0, .int .i64 7, .int .i64 0, .string ⟨#[]⟩, .int .u64 0, .int .u64 0, .int .u64 0, .int .u64 0, .int .i64 1, .int .i64 0, .string ⟨#[]⟩, .int .u64 0, .int .u64 0, .int .u64 0, .int .u64 0, .int .i64 8, .int .i64 0, .string ⟨#[]⟩, .int .u64 0, .int .u64 0, .int .u64 0, .int .u64 0] (by decide) rfl
  have s2 := World.size_alloc w1 (.cells #[.int .i64 4, .int .i64 0, .string ⟨#[97]⟩, .int .u64 0, .int .u64 0, .int .u64 0, .int .u64 0, .int .i64 6, .int .i64 0, .string ⟨#[115]⟩, .int .u64 0, .int .u64 0, .int .u64 0, .int .u64 0, .int .i64 7, .int .i64 0, .string ⟨#[]⟩, .int .u64 0, .int .u64 0, .int .u64 0, .int .u64 0, .int .i64 1, .int .i64 0, .string ⟨#[]⟩, .int .u64 0, .int .u64 0, .int .u64 0, .int .u64 0, .int .i64 8, .int .i64 0, .string ⟨#[]⟩, .int .u64 0, .int .u64 0, .int .u64 0, .int .u64 0] 44)
  obtain ⟨w2, h2⟩ : ∃ w2, w2 = w1.alloc (.cells #[.int .i64 4, .int .i64 0, .string ⟨#[97]⟩, .int .u64 0, .int .u64 0, .int .u64 0, .int .u64 0, .int .i64 6, .int .i64 0, .string ⟨#[115]⟩, .int .u64 0, .int .u64 0, .int .u64 0, .int .u64 0, .int .i64 7, .int .i64 0, .string ⟨#[]⟩, .int .u64 0, .int .u64 0, .int .u64 0, .int .u64 0, .int .i64 1, .int .i64 0, .string ⟨#[]⟩, .int .u64 0, .int .u64 0, .int .u64 0, .int .u64 0, .int .i64 8, .int .i64 0, .string ⟨#[]⟩, .int .u64 0, .int .u64 0, .int .u64 0, .int .u64 0] 44) := ⟨_, rfl⟩
  rw [← h2] at s2 r2 ⊢
  have s3 := World.size_alloc w2 (.cells #[.string ⟨#[115]⟩, .slice (some ⟨w.heap.size + 1, 0, none⟩) 5 5] 38)
  have b3 := below_box w2 (.cells #[.string ⟨#[115]⟩, .slice (some ⟨w.heap.size + 1, 0, none⟩) 5 5] 38)
  obtain ⟨w3, h3⟩ : ∃ w3, w3 = w2.alloc (.cells #[.string ⟨#[115]⟩, .slice (some ⟨w.heap.size + 1, 0, none⟩) 5 5] 38) := ⟨_, rfl⟩
  rw [← h3] at s3 b3 ⊢
  have r4 := rd_lit w3 exT #[.int .i64 4, .int .i64 0, .string ⟨#[97, 98]⟩, .int .u64 0, .int .u64 0, .int .u64 0, .int .u64 0, .int .i64 14, .int .i64 2, .string ⟨#[]⟩, .int .u64 0, .int .u64 0, .int .u64 0, .int .u64 0, .int .i64 4, .int .i64 0, .string ⟨#[97]⟩, .int .u64 0, .int .u64 0, .int .u64 0, .int .u64 0, .int .i64 11, .int .i64 0, .string ⟨#[]⟩, .int .u64 0, .int .u64 0, .int .u64 0, .int .u64 0, .int .i64 7, .int .i64 0, .string ⟨#[]⟩, .int .u64 0, .int .u64 0, .int .u64 0, .int .u64 0] (by decide) rfl
  have s4 := World.size_alloc w3 (.cells #[.int .i64 4, .int .i64 0, .string ⟨#[97, 98]⟩, .int .u64 0, .int .u64 0, .int .u64 0, .int .u64 0, .int .i64 14, .int .i64 2, .string ⟨#[]⟩, .int .u64 0, .int .u64 0, .int .u64 0, .int .u64 0, .int .i64 4, .int .i64 0, .string ⟨#[97]⟩, .int .u64 0, .int .u64 0, .int .u64 0, .int .u64 0, .int .i64 11, .int .i64 0, .string ⟨#[]⟩, .int .u64 0, .int .u64 0, .int .u64 0, .int .u64 0, .int .i64 7, .int .i64 0, .string ⟨#[]⟩, .int .u64 0, .int .u64 0, .int .u64 0, .int .u64 0] 44)
  have b4 := below_box w3 (.cells #[.int .i64 4, .int .i64 0, .string ⟨#[97, 98]⟩, .int .u64 0, .int .u64 0, .int .u64 0, .int .u64 0, .int .i64 14, .int .i64 2, .string ⟨#[]⟩, .int .u64 0, .int .u64 0, .int .u64 0, .int .u64 0, .int .i64 4, .int .i64 0, .string ⟨#[97]⟩, .int .u64 0, .int .u64 0, .int .u64 0, .int .u64 0, .int .i64 11, .int .i64 0, .string ⟨#[]⟩, .int .u64 0, .int .u64 0, .int .u64 0, .int .u64 0, .int .i64 7, .int .i64 0, .string ⟨#[]⟩, .int .u64 0, .int .u64 0, .int .u64 0, .int .u64 0] 44)
  obtain ⟨w4, h4⟩ : ∃ w4, w4 = w3.alloc (.cells #[.int .i64 4, .int .i64 0, .string ⟨#[97, 98]⟩, .int .u64 0, .int .u64 0, .int .u64 0, .int .u64 0, .int .i64 14, .int .i64 2, .string ⟨#[]⟩, .int .u64 0, .int .u64 0, .int .u64 0, .int .u64 0, .int .i64 4, .int .i64 0, .string ⟨#[97]⟩, .int .u64 0, .int .u64 0, .int .u64 0, .int .u64 0, .int .i64 11, .int .i64 0, .string ⟨#[]⟩, .int .u64 0, .int .u64 0, .int .u64 0, .int .u64 0, .int .i64 7, .int .i64 0, .string ⟨#[]⟩, .int .u64 0, .int .u64 0, .int .u64 0, .int .u64 0] 44) := ⟨_, rfl⟩
  rw [← h4] at s4 b4 r4 ⊢
  have s5 := World.size_alloc w4 (.cells #[.string ⟨#[116]⟩, .slice (some ⟨w.heap.size + 3, 0, none⟩) 5 5] 38)
  have b5 := below_box w4 (.cells #[.string ⟨#[116]⟩, .slice (some ⟨w.heap.size + 3, 0, none⟩) 5 5] 38)
  obtain ⟨w5, h5⟩ : ∃ w5, w5 = w4.alloc (.cells #[.string ⟨#[116]⟩, .slice (some ⟨w.heap.size + 3, 0, none⟩) 5 5] 38) := ⟨_, rfl⟩
  rw [← h5] at s5 b5 ⊢
  have hn := heap_alloc_new w5 (.cells #[.string ⟨#[115]⟩, .slice (some ⟨w.heap.size + 1, 0, none⟩) 5 5, .string ⟨#[116]⟩, .slice (some ⟨w.heap.size + 3, 0, none⟩) 5 5] 38)
  have s6 := World.size_alloc w5 (.cells #[.string ⟨#[115]⟩, .slice (some ⟨w.heap.size + 1, 0, none⟩) 5 5, .string ⟨#[116]⟩, .slice (some ⟨w.heap.size + 3, 0, none⟩) 5 5] 38)
  have b6 := below_box w5 (.cells #[.string ⟨#[115]⟩, .slice (some ⟨w.heap.size + 1, 0, none⟩) 5 5, .string ⟨#[116]⟩, .slice (some ⟨w.heap.size + 3, 0, none⟩) 5 5] 38)
  obtain ⟨w6, h6⟩ : ∃ w6, w6 = w5.alloc (.cells #[.string ⟨#[115]⟩, .slice (some ⟨w.heap.size + 1, 0, none⟩) 5 5, .string ⟨#[116]⟩, .slice (some ⟨w.heap.size + 3, 0, none⟩) 5 5] 38) := ⟨_, rfl⟩
  rw [← h6] at hn s6 b6 ⊢
  have e5 : w5.heap.size = w.heap.size + 5 := by omega
  rw [e5] at hn
  have key := fun j => cell_of_row w6 (w.heap.size + 5) j _ 38 (0, 0) hn
  have r2' : RdN w6 (some ⟨w.heap.size + 1, 0, none⟩) exS := by
    have h : RdN w6 (some ⟨w1.heap.size, 0, none⟩) exS := ((((r2.below b3 (Nat.le_refl _)).below b4 (Nat.le_refl _)).below b5 (Nat.le_refl _)).below b6 (Nat.le_refl _))
    rw [s1] at h; exact h
  have r4' : RdN w6 (some ⟨w.heap.size + 3, 0, none⟩) exT := by
    have h : RdN w6 (some ⟨w3.heap.size, 0, none⟩) exT := ((r4.below b5 (Nat.le_refl _)).below b6 (Nat.le_refl _))
    rw [show w3.heap.size = w.heap.size + 3 from by omega] at h; exact h
  refine ⟨fun k g hg => ?_, by show 2 ≤ _; omega, fun g hg => ?_⟩
  · match k, hg with
    | 0, hg =>
      cases hg
      exact ⟨_, 0, _, 5, rfl, by omega, key 0, key 1, r2'⟩
    | 1, hg =>
      cases hg
      exact ⟨_, 0, _, 5, rfl, by omega, key 2, key 3, r4'⟩
    | k + 2, hg => simp [exG] at hg
  · simp only [exG, List.mem_cons, List.not_mem_nil, or_false] at hg
    rcases hg with rfl | rfl
    · refine ⟨by show 1 ≤ _; omega, by show 5 ≤ _; omega, fun n hn => ?_⟩
      simp only [exS, List.mem_cons, List.not_mem_nil, or_false] at hn
      rcases hn with rfl | rfl | rfl | rfl | rfl
      all_goals first | (show 1 ≤ _; omega) | (show 0 ≤ _; omega)
    · refine ⟨by show 1 ≤ _; omega, by show 5 ≤ _; omega, fun n hn => ?_⟩
      simp only [exT, List.mem_cons, List.not_mem_nil, or_false] at hn
      rcases hn with rfl | rfl | rfl | rfl | rfl
      all_goals first | (show 2 ≤ _; omega) | (show 1 ≤ _; omega) | (show 0 ≤ _; omega)
set_option maxRecDepth 100000 in
set_option maxHeartbeats 4000000 in
theorem em_eqlO (a b : Em) (W : World) : (binOp .eql 32 (emG a) (emG b)).run Try.prog W = .ok (.bool (eqB a b)) W := by
  have hp : Try.prog.stoodInHeld 32 = false := by kernel_rfl
  obtain ⟨a1, a2, a3, a4⟩ := a
  obtain ⟨b1, b2, b3, b4⟩ := b
  unfold eqB
  cases hc : (a3 == b3)
  · cases a1 <;> cases b1 <;> cases a2 <;> cases b2 <;> simp [go_sem, Try.underlying32, Try.underlying3, Try.underlying4, Try.isAgg3, Try.isAgg4, hp, hc]
  cases hd : (a4 == b4)
  · cases a1 <;> cases b1 <;> cases a2 <;> cases b2 <;> simp [go_sem, Try.underlying32, Try.underlying3, Try.underlying4, Try.isAgg3, Try.isAgg4, hp, hc, hd]
  cases a1 <;> cases b1 <;> cases a2 <;> cases b2 <;> simp [go_sem, Try.underlying32, Try.underlying3, Try.underlying4, Try.isAgg3, Try.isAgg4, hp, hc, hd]
set_option maxRecDepth 100000 in
set_option maxHeartbeats 16000000 in
theorem works_any (w : World) : Calls Try.prog 4 #[] w fun e w' => e = .returned (.bool true) ∧ Below w.heap.size w w' := by
  have HB6 := (show Hid (Below w.heap.size w ((((((w.alloc (.cells #[.int .i64 4, .int .i64 0, .string ⟨#[97]⟩, .int .u64 0, .int .u64 0, .int .u64 0, .int .u64 0] 44)).alloc (.cells #[.int .i64 4, .int .i64 0, .string ⟨#[97]⟩, .int .u64 0, .int .u64 0, .int .u64 0, .int .u64 0, .int .i64 6, .int .i64 0, .string ⟨#[115]⟩, .int .u64 0, .int .u64 0, .int .u64 0, .int .u64 0, .int .i64 7, .int .i64 0, .string ⟨#[]⟩, .int .u64 0, .int .u64 0, .int .u64 0, .int .u64 0, .int .i64 1, .int .i64 0, .string ⟨#[]⟩, .int .u64 0, .int .u64 0, .int .u64 0, .int .u64 0, .int .i64 8, .int .i64 0, .string ⟨#[]⟩, .int .u64 0, .int .u64 0, .int .u64 0, .int .u64 0] 44)).alloc (.cells #[.string ⟨#[115]⟩, .slice (some ⟨w.heap.size + 1, 0, none⟩) 5 5] 38)).alloc (.cells #[.int .i64 4, .int .i64 0, .string ⟨#[97, 98]⟩, .int .u64 0, .int .u64 0, .int .u64 0, .int .u64 0, .int .i64 14, .int .i64 2, .string ⟨#[]⟩, .int .u64 0, .int .u64 0, .int .u64 0, .int .u64 0, .int .i64 4, .int .i64 0, .string ⟨#[97]⟩, .int .u64 0, .int .u64 0, .int .u64 0, .int .u64 0, .int .i64 11, .int .i64 0, .string ⟨#[]⟩, .int .u64 0, .int .u64 0, .int .u64 0, .int .u64 0, .int .i64 7, .int .i64 0, .string ⟨#[]⟩, .int .u64 0, .int .u64 0, .int .u64 0, .int .u64 0] 44)).alloc (.cells #[.string ⟨#[116]⟩, .slice (some ⟨w.heap.size + 3, 0, none⟩) 5 5] 38)).alloc (.cells #[.string ⟨#[115]⟩, .slice (some ⟨w.heap.size + 1, 0, none⟩) 5 5, .string ⟨#[116]⟩, .slice (some ⟨w.heap.size + 3, 0, none⟩) 5 5] 38))) from ((((((Below.refl _ _).alloc (Nat.le_refl _) _).alloc (by simp) _).alloc (by simp; omega) _).alloc (by simp; omega) _).alloc (by simp; omega) _).alloc (by simp; omega) _)
  have HR := (show Hid (∀ (W : World) (A : Option Addr) (c : Nat), GI W A exG → Calls Try.prog 5 #[.agg #[.slice A 2 c]] W fun e w' => (∃ g cap, e = .returned (.tuple #[.slice (some ⟨g, 0, none⟩) 2 cap, .int .i64 0]) ∧ Hid (EB w' g 0 ⟨true, false, 0, -1⟩ ∧ EB w' g 4 ⟨false, true, 4, 5⟩)) ∧ Below W.heap.size W w') from fun W A c hG => by
    have h := rulesP_any exG A c W hG
    rw [ex_ck] at h
    refine h.mono ?_
    rintro e w' ⟨⟨v, now, rfl, hr, ho⟩, b⟩
    obtain ⟨hk, _, _⟩ := hr.1 ex_ck
    have e2 := ex_kn hk
    subst e2
    obtain ⟨g, cap, rfl, _, _⟩ := ho.form (by show 0 < 2; omega)
    have hE := own_eb (l := exZ) (xs := []) (by rw [List.append_nil]; exact ho)
    exact ⟨⟨g, cap, rfl, hE 0 _ rfl, hE 1 _ rfl⟩, b⟩)
  have HG := (show Hid (GI ((((((w.alloc (.cells #[.int .i64 4, .int .i64 0, .string ⟨#[97]⟩, .int .u64 0, .int .u64 0, .int .u64 0, .int .u64 0] 44)).alloc (.cells #[.int .i64 4, .int .i64 0, .string ⟨#[97]⟩, .int .u64 0, .int .u64 0, .int .u64 0, .int .u64 0, .int .i64 6, .int .i64 0, .string ⟨#[115]⟩, .int .u64 0, .int .u64 0, .int .u64 0, .int .u64 0, .int .i64 7, .int .i64 0, .string ⟨#[]⟩, .int .u64 0, .int .u64 0, .int .u64 0, .int .u64 0, .int .i64 1, .int .i64 0, .string ⟨#[]⟩, .int .u64 0, .int .u64 0, .int .u64 0, .int .u64 0, .int .i64 8, .int .i64 0, .string ⟨#[]⟩, .int .u64 0, .int .u64 0, .int .u64 0, .int .u64 0] 44)).alloc (.cells #[.string ⟨#[115]⟩, .slice (some ⟨w.heap.size + 1, 0, none⟩) 5 5] 38)).alloc (.cells #[.int .i64 4, .int .i64 0, .string ⟨#[97, 98]⟩, .int .u64 0, .int .u64 0, .int .u64 0, .int .u64 0, .int .i64 14, .int .i64 2, .string ⟨#[]⟩, .int .u64 0, .int .u64 0, .int .u64 0, .int .u64 0, .int .i64 4, .int .i64 0, .string ⟨#[97]⟩, .int .u64 0, .int .u64 0, .int .u64 0, .int .u64 0, .int .i64 11, .int .i64 0, .string ⟨#[]⟩, .int .u64 0, .int .u64 0, .int .u64 0, .int .u64 0, .int .i64 7, .int .i64 0, .string ⟨#[]⟩, .int .u64 0, .int .u64 0, .int .u64 0, .int .u64 0] 44)).alloc (.cells #[.string ⟨#[116]⟩, .slice (some ⟨w.heap.size + 3, 0, none⟩) 5 5] 38)).alloc (.cells #[.string ⟨#[115]⟩, .slice (some ⟨w.heap.size + 1, 0, none⟩) 5 5, .string ⟨#[116]⟩, .slice (some ⟨w.heap.size + 3, 0, none⟩) 5 5] 38)) (some ⟨w.heap.size + 5, 0, none⟩) exG) from ex_gi w)
  go_enter Try.func4, Try.ntmps4
  go_wp2_with fail
  refine (HR.out _ _ _ HG.out).mono ?_
  rintro e w7 ⟨⟨g, cap, rfl, hE⟩, b7⟩
  obtain ⟨a0, a1, a2, a3⟩ := hE.out.1
  obtain ⟨d0, d1, d2, d3⟩ := hE.out.2
  have a1 : w7.cell? ⟨g, 1, none⟩ = some (.bool false) := a1
  have a2 : w7.cell? ⟨g, 2, none⟩ = some (.int .i64 0) := a2
  have a3 : w7.cell? ⟨g, 3, none⟩ = some (.int .i64 (-1)) := a3
  have d1 : w7.cell? ⟨g, 5, none⟩ = some (.bool true) := d1
  have d2 : w7.cell? ⟨g, 6, none⟩ = some (.int .i64 4) := d2
  have d3 : w7.cell? ⟨g, 7, none⟩ = some (.int .i64 5) := d3
  have h1 := em_eqlO ⟨true, false, 0, -1⟩ ⟨true, false, 0, -1⟩
  have h2 := em_eqlO ⟨false, true, 4, 5⟩ ⟨false, true, 4, 5⟩
  rw [eqB_iff.2 rfl] at h1 h2
  simp only [emG] at h1 h2
  simp only at a0 d0
  have HB7 := (show Hid (Below w.heap.size w w7) from HB6.out.trans (b7.mono HB6.out.size))
  clear HB6 b7 hE HR HG
  go_wp2_with fail
  go_ret
  exact ⟨rfl, HB7.out⟩
end Go.Proofs.Ytokfgoepnfjafaa.N
