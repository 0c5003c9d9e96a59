/- DERIVED. Plain mathematics and walks, laid together (19). -/
import Derived.Recover
import Derived.Defers
import Derived.Test.YtnpifgcgjgddoaaGreatDoorPf18
namespace Go.Proofs.YtnpifgcgjgddoaaGreatDoor.N
open Go.RowKit
/-- A rule with its place, in a box of its own. -/
structure PX (W : World) (k : Nat) (a b c : Value) : Prop where
  heap : W.heap[k]? = some (.cells #[a, b, c] 79 (0, 0))
theorem PX.lt {W : World} {k : Nat} {a b c : Value} (h : PX W k a b c) : k < W.heap.size := (Array.getElem?_eq_some_iff.1 h.heap).1
theorem PX.same {W W' : World} {k : Nat} {a b c : Value} (h : PX W k a b c) (hb : W'.heap[k]? = W.heap[k]?) : PX W' k a b c := ⟨hb.trans h.heap⟩
theorem PX.cl {W : World} {k : Nat} {a b c : Value} (h : PX W k a b c) : W.cell? ⟨k, 0, none⟩ = some a ∧ W.cell? ⟨k, 1, none⟩ = some b ∧ W.cell? ⟨k, 2, none⟩ = some c := by
  have key : ∀ (j : Nat) u, (#[a, b, c] : Array Value)[j]? = some u → W.cell? ⟨k, j, none⟩ = some u := fun j u hu => by
    rw [cell_of_row W k j _ 79 (0, 0) h.heap]; exact hu
  exact ⟨key 0 _ rfl, key 1 _ rfl, key 2 _ rfl⟩
theorem PX.fz {W : World} {k : Nat} {a b c : Value} (h : PX W k a b c) (j : Nat) : W.frozen? ⟨k, j, none⟩ = false := frozen_of_row W k j _ 79 h.heap
abbrev st3 (W : World) (k : Nat) (a b c : Value) : World := ((W.setCell ⟨k, 0, none⟩ a).setCell ⟨k, 1, none⟩ b).setCell ⟨k, 2, none⟩ c
theorem st3_px {W : World} {k : Nat} {a0 b0 c0 : Value} (h : PX W k a0 b0 c0) (a b c : Value) : PX (st3 W k a b c) k a b c := by
  have h0 := heap_setCell_same _ k 0 _ 79 a h.heap
  have h1 := heap_setCell_same _ k 1 _ 79 b h0
  have h2 := heap_setCell_same _ k 2 _ 79 c h1
  refine ⟨?_⟩
  rw [h2]
  simp
theorem st3_other {W : World} {k j : Nat} (a b c : Value) (h : j ≠ k) : (st3 W k a b c).heap[j]? = W.heap[j]? :=
  (Below.heap_setCell _ _ _ _ h).trans ((Below.heap_setCell _ _ _ _ h).trans (Below.heap_setCell _ _ _ _ h))
theorem st3_below {B : Nat} {w W : World} {k : Nat} (h : Below B w W) (hk : B ≤ k) (a b c : Value) : Below B w (st3 W k a b c) := ((h.setCell (p := ⟨k, 0, none⟩) hk _).setCell (p := ⟨k, 1, none⟩) hk _).setCell (p := ⟨k, 2, none⟩) hk _
theorem PX.ne {W : World} {k B e s n : Nat} {u a b c : Value} {xs : List Value} (h : PX W k a b c) (ho : W.ownsRow B e s u n xs) (he : e ≠ 79) {j : Nat} (hj : u.ownBlock = some j) : j ≠ k := fun q => by
  subst q
  obtain ⟨cs, hc⟩ := own_ty ho hj
  rw [h.heap] at hc
  injection hc with h4
  injection h4 with _ h5
  exact he h5.symm
theorem PX.neb {W : World} {k b : Nat} {tv v x y u : Value} {i d : Nat} (h : PX W k x y u) (hx : RX W b tv i d v) : b ≠ k := fun q => by
  subst q
  have := hx.heap
  rw [h.heap] at this
  injection this with h4
  injection h4 with _ h5
  cases h5
theorem RS.st3 {E : PE} {z : Nat} {w0 W : World} {b : Nat} {tv : Value} {i d : Nat} {v : Value} {L : List Nd} {k : Nat} {a0 b0 c0 : Value} (h : RS E z w0 W b tv i d v L) (hp : PX W k a0 b0 c0) (hk : w0.heap.size ≤ k) (x y u : Value) : RS E z w0 (st3 W k x y u) b tv i d v L :=
  ⟨st3_below h.bl hk x y u, h.lo, h.x.same (st3_other x y u (hp.neb h.x)), own_same h.t fun j hj => st3_other x y u (hp.ne h.t (by decide) hj), own_same h.o fun j hj => st3_other x y u (hp.ne h.o (by decide) hj), h.hi, h.hd⟩
theorem Fr.st3 {W W' : World} {b k : Nat} {v v' : Value} (h : Fr W W' b v v') (hk : W.heap.size ≤ k) (x y u : Value) : Fr W (st3 W' k x y u) b v v' :=
  ⟨Nat.le_trans h.size (by simp [World.setCell]), fun j hj hb hv => (st3_other x y u (by omega)).trans (h.block j hj hb hv), h.own⟩
theorem ret_px {fn : Func} {R : Ending → World → Prop} {act : Act} {W : World} {k : Nat} {a b c : Value} (hF : fn.results = #[.cell 2 79]) (hd : act.defers = []) (h2 : act.tmps.getD 2 undef = .pointer (some ⟨k, 0, none⟩)) (hT : PX W k a b c) (hR : R (.returned (.agg #[a, b, c])) W) : bodyPost Tryz.prog fn R .ret act W := by
  obtain ⟨c0, c1, c2⟩ := hT.cl
  refine bodyPost_ret (v := .agg #[a, b, c]) ?_ hd hR
  simp only [Array.getD_eq_getD_getElem?] at h2
  simp [results, hF, go_sem, h2, c0, c1, c2]
set_option maxRecDepth 100000 in
set_option maxHeartbeats 8000000 in
theorem alone_x {E : PE} (hE : OkE E) {z : Nat} {w0 : World} (hv : R.VB w0) {b : Nat} {tv : Value} {W : World} {v : Value} {L : List Nd} (h : RS E z w0 W b tv 0 0 v L) (q : Nat × Int) (hq : exN E 0 = .inr q) : Calls Tryz.prog 41 #[.pointer (some ⟨b, 0, none⟩)] W fun e W' => e = pnc (plA E z q.1) q.2 ∧ Below w0.heap.size w0 W' := by
  obtain ⟨t, ht, hk, hpl, _⟩ := toks_get E z h.hi
  have HH : Hid (∀ W, RS E z w0 W b tv 0 0 v L → Calls Tryz.prog 62 #[.pointer (some ⟨b, 0, none⟩)] W fun e W' => e = .returned (.agg #[.int .i64 t.kd, .int .i64 t.nn, .int .i64 (plA E z 0), .int .i64 t.en, .string t.tx, .int .u64 t.s0, .int .u64 t.s1, .int .u64 t.s2, .int .u64 t.s3]) ∧ Below W.heap.size W W') := fun W h => by
    have := here_any h t ht
    rw [hpl] at this
    exact this
  have fl2 := fld2
  have fl0 := fld0
  have HP := (show Hid (PX (W.alloc (.cells #[.int .i64 0, .string ⟨#[]⟩, .slice none 0 0] 79)) W.heap.size (.int .i64 0) (.string ⟨#[]⟩) (.slice none 0 0)) from ⟨heap_alloc_new W _⟩)
  have H := (show Hid (RS E z w0 (W.alloc (.cells #[.int .i64 0, .string ⟨#[]⟩, .slice none 0 0] 79)) b tv 0 0 v L) from h.later (below_box _ _))
  have HF := (show Hid (Fr W (W.alloc (.cells #[.int .i64 0, .string ⟨#[]⟩, .slice none 0 0] 79)) b (.slice none 0 0) (.slice none 0 0)) from Fr.below b _ (below_box _ _))
  have hnb := h.x.lt
  have hw0 := h.bl.size
  have HBo : Hid (∀ W, RS E z w0 W b tv 0 0 v L → Calls Tryz.prog 63 #[.pointer (some ⟨b, 0, none⟩)] W fun e W' => e = pnc (plA E z q.1) q.2 ∧ Below w0.heap.size w0 W') := fun W h => body_no hE hv h q hq
  clear h ht hk hpl hE hv hq
  generalize plA E z 0 = p0 at *
  go_enter Tryz.func41, Tryz.ntmps41
  go_wp2_with fail
  generalize W.alloc (.cells #[.int .i64 0, .string ⟨#[]⟩, .slice none 0 0] 79) = w1 at *
  refine (HH.out _ H.out).mono ?_
  rintro e w2 ⟨rfl, hb⟩
  have H2 := (show Hid _ from H.out.later hb)
  have HF2 := (show Hid (Fr W w2 b (.slice none 0 0) (.slice none 0 0)) from HF.out.trans (Fr.below b _ hb))
  have HP2 := (show Hid _ from HP.out.same (hb.block _ HP.out.lt))
  clear hb HH H HF HP
  go_wp2_with fail
  refine (HBo.out _ H2.out).mono ?_
  rintro e w3 ⟨rfl, hb⟩
  exact post_panic rfl ⟨rfl, hb⟩
set_option maxRecDepth 100000 in
set_option maxHeartbeats 8000000 in
theorem alone_s {E : PE} (hE : OkE E) {z : Nat} {w0 : World} (hv : R.VB w0) {b : Nat} {tv : Value} {W : World} {v : Value} {L : List Nd} (h : RS E z w0 W b tv 0 0 v L) (a : Nat) (ns : List Nd) (hq : exN E 0 = .inl (a, ns)) (hz : ¬ kdA E a = 0) : Calls Tryz.prog 41 #[.pointer (some ⟨b, 0, none⟩)] W fun e W' => e = pnc (plA E z a) 60 ∧ Below w0.heap.size w0 W' := by
  obtain ⟨t, ht, hk, hpl, _⟩ := toks_get E z h.hi
  have HH : Hid (∀ W, RS E z w0 W b tv 0 0 v L → Calls Tryz.prog 62 #[.pointer (some ⟨b, 0, none⟩)] W fun e W' => e = .returned (.agg #[.int .i64 t.kd, .int .i64 t.nn, .int .i64 (plA E z 0), .int .i64 t.en, .string t.tx, .int .u64 t.s0, .int .u64 t.s1, .int .u64 t.s2, .int .u64 t.s3]) ∧ Below W.heap.size W W') := fun W h => by
    have := here_any h t ht
    rw [hpl] at this
    exact this
  have fl2 := fld2
  have fl0 := fld0
  have HP := (show Hid (PX (W.alloc (.cells #[.int .i64 0, .string ⟨#[]⟩, .slice none 0 0] 79)) W.heap.size (.int .i64 0) (.string ⟨#[]⟩) (.slice none 0 0)) from ⟨heap_alloc_new W _⟩)
  have H := (show Hid (RS E z w0 (W.alloc (.cells #[.int .i64 0, .string ⟨#[]⟩, .slice none 0 0] 79)) b tv 0 0 v L) from h.later (below_box _ _))
  have HF := (show Hid (Fr W (W.alloc (.cells #[.int .i64 0, .string ⟨#[]⟩, .slice none 0 0] 79)) b (.slice none 0 0) (.slice none 0 0)) from Fr.below b _ (below_box _ _))
  have hnb := h.x.lt
  have hw0 := h.bl.size
  have HBo : Hid (∀ W, RS E z w0 W b tv 0 0 v L → Calls Tryz.prog 63 #[.pointer (some ⟨b, 0, none⟩)] W fun e W' => ∃ v', e = .returned v' ∧ RS E z w0 W' b tv a 0 v' ns ∧ Fr W W' b (.slice none 0 0) v') := fun W h => body_ok hE hv h a ns hq
  have hal : a ≤ E.l.length := (ex_adv (Nat.zero_le _) hq).2
  obtain ⟨t2, ht2, hk2, hpl2, _⟩ := toks_get E z hal
  have HH2 : Hid (∀ W v, RS E z w0 W b tv a 0 v ns → Calls Tryz.prog 62 #[.pointer (some ⟨b, 0, none⟩)] W fun e W' => e = .returned (.agg #[.int .i64 t2.kd, .int .i64 t2.nn, .int .i64 t2.fr, .int .i64 t2.en, .string t2.tx, .int .u64 t2.s0, .int .u64 t2.s1, .int .u64 t2.s2, .int .u64 t2.s3]) ∧ Below W.heap.size W W') := fun W v h => here_any h t2 ht2
  have HRf : Hid (∀ W v, RS E z w0 W b tv a 0 v ns → Calls Tryz.prog 64 #[.pointer (some ⟨b, 0, none⟩), .int .i64 60] W fun e W' => e = pnc (plA E z a) 60 ∧ Below W.heap.size W W') := fun W v h => refuse_any h 60
  have t1 : (t2.kd != 0) = true := by rw [hk2]; simpa using hz
  clear h ht hk hpl hE hv hq ht2 hk2 hpl2 hz
  generalize plA E z 0 = p0 at *
  go_enter Tryz.func41, Tryz.ntmps41
  go_wp2_with fail
  generalize W.alloc (.cells #[.int .i64 0, .string ⟨#[]⟩, .slice none 0 0] 79) = w1 at *
  refine (HH.out _ H.out).mono ?_
  rintro e w2 ⟨rfl, hb⟩
  have H2 := (show Hid _ from H.out.later hb)
  have HF2 := (show Hid (Fr W w2 b (.slice none 0 0) (.slice none 0 0)) from HF.out.trans (Fr.below b _ hb))
  have HP2 := (show Hid _ from HP.out.same (hb.block _ HP.out.lt))
  clear hb HH H HF HP
  go_wp2_with fail
  refine (HBo.out _ H2.out).mono ?_
  rintro e w3 ⟨v3, rfl, h3, hf3⟩
  have H3 := (show Hid _ from h3)
  have HF3 := (show Hid (Fr W w3 b (.slice none 0 0) v3) from HF2.out.trans hf3)
  have HP3 := (show Hid _ from HP2.out.same (hf3.block _ HP2.out.lt (by omega) (by intro q; cases q)))
  clear h3 hf3 H2 HF2 HP2 HBo
  go_wp2_with fail
  refine (HH2.out _ _ H3.out).mono ?_
  rintro e w4 ⟨rfl, hb⟩
  have H4 := (show Hid _ from H3.out.later hb)
  have HF4 := (show Hid (Fr W w4 b (.slice none 0 0) v3) from HF3.out.trans (Fr.below b _ hb))
  have HP4 := (show Hid _ from HP3.out.same (hb.block _ HP3.out.lt))
  clear hb H3 HF3 HP3 HH2
  obtain ⟨c0, c1, c2⟩ := HP4.out.cl
  have f0 := HP4.out.fz 0
  have f1' := HP4.out.fz 1
  have f2' := HP4.out.fz 2
  go_wp2_with fail
  refine (HRf.out _ _ H4.out).mono ?_
  rintro e w5 ⟨rfl, hb⟩
  exact post_panic rfl ⟨rfl, H4.out.bl.trans (hb.mono H4.out.bl.size)⟩
set_option maxRecDepth 100000 in
set_option maxHeartbeats 8000000 in
theorem alone_ok {E : PE} (hE : OkE E) {z : Nat} {w0 : World} (hv : R.VB w0) {b : Nat} {tv : Value} {W : World} {v : Value} {L : List Nd} (h : RS E z w0 W b tv 0 0 v L) (a : Nat) (ns : List Nd) (hq : exN E 0 = .inl (a, ns)) (hz : kdA E a = 0) : Calls Tryz.prog 41 #[.pointer (some ⟨b, 0, none⟩)] W fun e W' => ∃ v', e = .returned (.agg #[.int .i64 (plA E z 0), .string ⟨#[]⟩, v']) ∧ RS E z w0 W' b tv a 0 v' ns ∧ Fr W W' b (.slice none 0 0) v' := by
  obtain ⟨t, ht, hk, hpl, _⟩ := toks_get E z h.hi
  have HH : Hid (∀ W, RS E z w0 W b tv 0 0 v L → Calls Tryz.prog 62 #[.pointer (some ⟨b, 0, none⟩)] W fun e W' => e = .returned (.agg #[.int .i64 t.kd, .int .i64 t.nn, .int .i64 (plA E z 0), .int .i64 t.en, .string t.tx, .int .u64 t.s0, .int .u64 t.s1, .int .u64 t.s2, .int .u64 t.s3]) ∧ Below W.heap.size W W') := fun W h => by
    have := here_any h t ht
    rw [hpl] at this
    exact this
  have fl2 := fld2
  have fl0 := fld0
  have HP := (show Hid (PX (W.alloc (.cells #[.int .i64 0, .string ⟨#[]⟩, .slice none 0 0] 79)) W.heap.size (.int .i64 0) (.string ⟨#[]⟩) (.slice none 0 0)) from ⟨heap_alloc_new W _⟩)
  have H := (show Hid (RS E z w0 (W.alloc (.cells #[.int .i64 0, .string ⟨#[]⟩, .slice none 0 0] 79)) b tv 0 0 v L) from h.later (below_box _ _))
  have HF := (show Hid (Fr W (W.alloc (.cells #[.int .i64 0, .string ⟨#[]⟩, .slice none 0 0] 79)) b (.slice none 0 0) (.slice none 0 0)) from Fr.below b _ (below_box _ _))
  have hnb := h.x.lt
  have hw0 := h.bl.size
  have HBo : Hid (∀ W, RS E z w0 W b tv 0 0 v L → Calls Tryz.prog 63 #[.pointer (some ⟨b, 0, none⟩)] W fun e W' => ∃ v', e = .returned v' ∧ RS E z w0 W' b tv a 0 v' ns ∧ Fr W W' b (.slice none 0 0) v') := fun W h => body_ok hE hv h a ns hq
  have hal : a ≤ E.l.length := (ex_adv (Nat.zero_le _) hq).2
  obtain ⟨t2, ht2, hk2, hpl2, _⟩ := toks_get E z hal
  have HH2 : Hid (∀ W v, RS E z w0 W b tv a 0 v ns → Calls Tryz.prog 62 #[.pointer (some ⟨b, 0, none⟩)] W fun e W' => e = .returned (.agg #[.int .i64 t2.kd, .int .i64 t2.nn, .int .i64 t2.fr, .int .i64 t2.en, .string t2.tx, .int .u64 t2.s0, .int .u64 t2.s1, .int .u64 t2.s2, .int .u64 t2.s3]) ∧ Below W.heap.size W W') := fun W v h => here_any h t2 ht2
  have t1 : (t2.kd != 0) = false := by rw [hk2, hz]; simp
  clear h ht hk hpl hE hv hq ht2 hk2 hpl2 hz
  generalize plA E z 0 = p0 at *
  go_enter Tryz.func41, Tryz.ntmps41
  go_wp2_with fail
  generalize W.alloc (.cells #[.int .i64 0, .string ⟨#[]⟩, .slice none 0 0] 79) = w1 at *
  refine (HH.out _ H.out).mono ?_
  rintro e w2 ⟨rfl, hb⟩
  have H2 := (show Hid _ from H.out.later hb)
  have HF2 := (show Hid (Fr W w2 b (.slice none 0 0) (.slice none 0 0)) from HF.out.trans (Fr.below b _ hb))
  have HP2 := (show Hid _ from HP.out.same (hb.block _ HP.out.lt))
  clear hb HH H HF HP
  go_wp2_with fail
  refine (HBo.out _ H2.out).mono ?_
  rintro e w3 ⟨v3, rfl, h3, hf3⟩
  have H3 := (show Hid _ from h3)
  have HF3 := (show Hid (Fr W w3 b (.slice none 0 0) v3) from HF2.out.trans hf3)
  have HP3 := (show Hid _ from HP2.out.same (hf3.block _ HP2.out.lt (by omega) (by intro q; cases q)))
  clear h3 hf3 H2 HF2 HP2 HBo
  go_wp2_with fail
  refine (HH2.out _ _ H3.out).mono ?_
  rintro e w4 ⟨rfl, hb⟩
  have H4 := (show Hid _ from H3.out.later hb)
  have HF4 := (show Hid (Fr W w4 b (.slice none 0 0) v3) from HF3.out.trans (Fr.below b _ hb))
  have HP4 := (show Hid _ from HP3.out.same (hb.block _ HP3.out.lt))
  clear hb H3 HF3 HP3 HH2
  obtain ⟨c0, c1, c2⟩ := HP4.out.cl
  have f0 := HP4.out.fz 0
  have f1' := HP4.out.fz 1
  have f2' := HP4.out.fz 2
  obtain ⟨A3, n3, rfl⟩ := own_form H4.out.o
  go_wp2_with fail
  refine ret_px rfl rfl rfl (st3_px HP4.out (.int .i64 p0) (.string ⟨#[]⟩) (.slice A3 ns.length n3)) ?_
  exact ⟨_, rfl, H4.out.st3 HP4.out hw0 _ _ _, HF4.out.st3 (Nat.le_refl _) _ _ _⟩
end Go.Proofs.YtnpifgcgjgddoaaGreatDoor.N

namespace Go.Proofs.YtnpifgcgjgddoaaGreatDoor.T
open Go.RowKit
theorem own_rd {W : World} {B n : Nat} {v : Value} {L : List Nd} (h : W.ownsRow B 51 7 v n (ndc L)) (hn : n = L.length) : ∃ A c, v = .slice A L.length c ∧ RdN W A L := by
  subst hn
  have hc := h
  rcases h.2 with ⟨rfl, h0⟩ | ⟨g, cap, cur, rfl, _⟩
  · exact ⟨none, 0, by rw [h0], fun hl => absurd (List.eq_nil_of_length_eq_zero h0) hl⟩
  · have hc2 : W.ownsRow B 51 7 (.slice (some ⟨g, 0, none⟩) L.length cap) L.length (ndc L ++ []) := by rw [List.append_nil]; exact hc
    exact ⟨_, cap, rfl, fun _ => ⟨g, 0, rfl, (hc.lt g rfl).2, own_ndl hc2⟩⟩
end Go.Proofs.YtnpifgcgjgddoaaGreatDoor.T

namespace Go.Proofs.YtnpifgcgjgddoaaGreatDoor.N
open Go.RowKit
/-- Rules with their places, as they lie in a row. -/
def plV (E : PE) (z : Nat) (x : Rl × Value) : List Value := [.int .i64 (plA E z x.1.1), .string x.1.2.1, x.2]
def plc (E : PE) (z : Nat) (l : List (Rl × Value)) : List Value := l.flatMap (plV E z)
theorem plc_one (E : PE) (z : Nat) (x : Rl × Value) : plc E z [x] = plV E z x := by unfold plc; rw [List.flatMap_cons, List.flatMap_nil, List.append_nil]
/-- The bodies of rules: each a row of its own. -/
structure Bds (w0 W : World) (ov : List (Rl × Value)) : Prop where
  e : ∀ x ∈ ov, W.ownsRow w0.heap.size 51 7 x.2 x.1.2.2.length (T.ndc x.1.2.2)
  ap : ov.Pairwise fun x y => ∀ k, x.2.ownBlock = some k → y.2.ownBlock ≠ some k
end Go.Proofs.YtnpifgcgjgddoaaGreatDoor.N

namespace Go.Proofs.YtnpifgcgjgddoaaGreatDoor.N
open Go.RowKit
theorem PF_all (E : PE) (P : Nd → Prop) (h0 : ∀ op, P (nd0 op)) (hs : ∀ i p, sufN E i = .inl p → P p.1) (hl : ∀ i p, primL E i = .inl p → ∀ n ∈ p.1, P n) (hc : ∀ i p, primL E i = .inr p → ∀ n ∈ p.2, P n) : ∀ (f m i d a : Nat) (ns : List Nd), PF E f m i d = .inl (a, ns) → ∀ n ∈ ns, P n := by
  have two : ∀ {x y : List Nd}, (∀ n ∈ x, P n) → (∀ n ∈ y, P n) → ∀ n ∈ x ++ y, P n := fun hx hy n hn => (List.mem_append.1 hn).elim (hx n) (hy n)
  have one : ∀ op, ∀ n ∈ [nd0 op], P n := fun op n hn => by rw [List.mem_singleton.1 hn]; exact h0 op
  have nil : ∀ n ∈ ([] : List Nd), P n := fun n hn => by cases hn
  intro f
  induction f with
  | zero => intro m i d a ns h; rw [PF] at h; cases h
  | succ f ih =>
    intro m i d a ns h
    rw [PF] at h
    by_cases m0 : m = 0
    · rw [if_pos m0] at h
      obtain ⟨a1, n1, r1, h⟩ := bnd_inl h
      obtain ⟨n2, r2, e2⟩ := ahd_inl h
      dsimp only at e2
      rw [e2]
      exact two (ih _ _ _ _ _ r1) (ih _ _ _ _ _ r2)
    rw [if_neg m0] at h
    by_cases m1 : m = 1
    · rw [if_pos m1] at h
      by_cases k7 : kdA E i = 7
      · rw [if_pos k7] at h
        obtain ⟨a1, n1, r1, h⟩ := bnd_inl h
        obtain ⟨n2, r2, e2⟩ := ahd_inl h
        dsimp only at e2
        rw [e2]
        exact two (two (ih _ _ _ _ _ r1) (one _)) (ih _ _ _ _ _ r2)
      · rw [if_neg k7] at h
        cases h
        exact nil
    rw [if_neg m1] at h
    by_cases m2 : m = 2
    · rw [if_pos m2] at h
      obtain ⟨a1, n1, r1, h⟩ := bnd_inl h
      obtain ⟨n2, r2, e2⟩ := ahd_inl h
      dsimp only at e2
      rw [e2]
      exact two (ih _ _ _ _ _ r1) (ih _ _ _ _ _ r2)
    rw [if_neg m2] at h
    by_cases m3 : m = 3
    · rw [if_pos m3] at h
      by_cases kb : bgn E i = true
      · rw [if_pos kb] at h
        obtain ⟨a1, n1, r1, h⟩ := bnd_inl h
        obtain ⟨n2, r2, e2⟩ := ahd_inl h
        dsimp only at e2
        rw [e2]
        exact two (two (ih _ _ _ _ _ r1) (one _)) (ih _ _ _ _ _ r2)
      · rw [if_neg kb] at h
        cases h
        exact nil
    rw [if_neg m3] at h
    by_cases m4 : m = 4
    · rw [if_pos m4] at h
      by_cases kb : bgn E i = true
      · rw [if_pos kb] at h
        by_cases k8 : kdA E i = 8 ∨ kdA E i = 9
        · rw [if_pos k8] at h
          split at h
          · cases h
          · obtain ⟨a1, n1, r1, h⟩ := bnd_inl h
            cases h
            exact two (ih _ _ _ _ _ r1) (one _)
        · rw [if_neg k8] at h
          obtain ⟨a1, n1, r1, h⟩ := bnd_inl h
          obtain ⟨n2, r2, e2⟩ := ahd_inl h
          dsimp only at e2
          rw [e2]
          exact two (ih _ _ _ _ _ r1) (ih _ _ _ _ _ r2)
      · rw [if_neg kb] at h; cases h
    rw [if_neg m4] at h
    by_cases m5 : m = 5
    · rw [if_pos m5] at h
      cases hp : primL E i with
      | inl p =>
        rw [hp] at h
        cases h
        exact hl i p hp
      | inr p =>
        rw [hp] at h
        dsimp only at h
        split at h
        · cases h
        · obtain ⟨a1, n1, r1, h⟩ := bnd_inl h
          split at h
          · cases h
            exact two (ih _ _ _ _ _ r1) (hc i p hp)
          · cases h
    rw [if_neg m5] at h
    cases hp : sufN E i with
    | inr q =>
      rw [hp] at h
      cases q with
      | none => cases h; exact nil
      | some c => cases h
    | inl p =>
      rw [hp] at h
      dsimp only at h
      obtain ⟨n2, r2, e2⟩ := ahd_inl h
      dsimp only at e2
      rw [e2]
      exact two (fun n hn => by rw [List.mem_singleton.1 hn]; exact hs i p hp) (ih _ _ _ _ _ r2)
theorem tk_tx {E : PE} (hE : OkE E) (i : Nat) : (tkA E i).tx.size ≤ 65536 := by
  unfold tkA
  by_cases h : i < E.l.length
  · rw [List.getElem?_eq_getElem h]
    exact hE.tx _ (List.getElem_mem h)
  · rw [List.getElem?_eq_none (by omega)]
    exact Nat.zero_le _
theorem nd0_tx (op : Int) : (nd0 op).tx.size ≤ 65536 := Nat.zero_le _
theorem rnP_tx (a b : Int) : ∀ n ∈ rnP a b, n.tx.size ≤ 65536 := fun n hn => by
  unfold rnP at hn
  rw [List.mem_map] at hn
  obtain ⟨m, _, rfl⟩ := hn
  exact Nat.zero_le _
theorem ex_tx {E : PE} (hE : OkE E) {i a : Nat} {ns : List Nd} (h : exN E i = .inl (a, ns)) : ∀ n ∈ ns, n.tx.size ≤ 65536 := by
  refine PF_all E (fun n => n.tx.size ≤ 65536) nd0_tx ?_ ?_ ?_ _ _ _ _ _ _ h
  · intro i p hp
    unfold sufN sufK at hp
    have e0 : (⟨#[]⟩ : ByteArray).size ≤ 65536 := Nat.zero_le _
    have hu := tk_tx hE (i + 1)
    repeat (split at hp; · cases hp; first | exact nd0_tx _ | exact e0)
    split at hp
    · split at hp
      · split at hp
        · cases hp; exact hu
        · cases hp
      · split at hp
        · split at hp
          · cases hp
          · cases hp; exact e0
        · cases hp
    · cases hp
  · intro i p hp n hn
    have hu := tk_tx hE i
    unfold primL at hp
    rw [hE.rn] at hp
    unfold primK at hp
    have one : ∀ op, n ∈ [nd0 op] → n.tx.size ≤ 65536 := fun op q => by rw [List.mem_singleton.1 q]; exact nd0_tx op
    by_cases c0 : (tkA E i).kd = 2
    · rw [if_pos c0] at hp
      cases hp
      dsimp only at hn
      split at hn
      · exact one _ hn
      · rw [List.mem_singleton.1 hn]; exact hu
    rw [if_neg c0] at hp
    by_cases c1 : (tkA E i).kd = 3 ∨ (tkA E i).kd = 28
    · rw [if_pos c1] at hp
      cases hp
      rw [List.mem_singleton.1 hn]
      exact Nat.zero_le _
    rw [if_neg c1] at hp
    by_cases c2 : (tkA E i).kd = 5
    · rw [if_pos c2] at hp
      cases hp
      exact rnP_tx _ _ n hn
    rw [if_neg c2] at hp
    by_cases c3 : (tkA E i).kd = 18
    · rw [if_pos c3] at hp; cases hp; exact one _ hn
    rw [if_neg c3] at hp
    by_cases c4 : (tkA E i).kd = 29
    · rw [if_pos c4] at hp; cases hp; exact one _ hn
    rw [if_neg c4] at hp
    by_cases c5 : (tkA E i).kd = 30
    · rw [if_pos c5] at hp; cases hp; exact one _ hn
    rw [if_neg c5] at hp
    by_cases c6 : (tkA E i).kd = 1
    · rw [if_pos c6] at hp; cases hp; rw [List.mem_singleton.1 hn]; exact hu
    rw [if_neg c6] at hp
    by_cases c7 : (tkA E i).kd = 16
    · rw [if_pos c7] at hp; cases hp
    rw [if_neg c7] at hp
    by_cases c8 : (tkA E i).kd = 19
    · rw [if_pos c8] at hp
      split at hp
      · cases hp; exact one _ hn
      · cases hp
    rw [if_neg c8] at hp
    split at hp
    · cases hp
    · split at hp <;> cases hp
  · intro i p hp n hn
    have hu := tk_tx hE i
    unfold primL primK at hp
    have one : ∀ op, n ∈ [nd0 op] → n.tx.size ≤ 65536 := fun op q => by rw [List.mem_singleton.1 q]; exact nd0_tx op
    by_cases c0 : (tkA E i).kd = 2
    · rw [if_pos c0] at hp; cases hp
    rw [if_neg c0] at hp
    by_cases c1 : (tkA E i).kd = 3 ∨ (tkA E i).kd = 28
    · rw [if_pos c1] at hp; cases hp
    rw [if_neg c1] at hp
    by_cases c2 : (tkA E i).kd = 5
    · rw [if_pos c2] at hp; cases hp
    rw [if_neg c2] at hp
    by_cases c3 : (tkA E i).kd = 18
    · rw [if_pos c3] at hp; cases hp
    rw [if_neg c3] at hp
    by_cases c4 : (tkA E i).kd = 29
    · rw [if_pos c4] at hp; cases hp
    rw [if_neg c4] at hp
    by_cases c5 : (tkA E i).kd = 30
    · rw [if_pos c5] at hp; cases hp
    rw [if_neg c5] at hp
    by_cases c6 : (tkA E i).kd = 1
    · rw [if_pos c6] at hp; cases hp
    rw [if_neg c6] at hp
    by_cases c7 : (tkA E i).kd = 16
    · rw [if_pos c7] at hp; cases hp; cases hn
    rw [if_neg c7] at hp
    by_cases c8 : (tkA E i).kd = 19
    · rw [if_pos c8] at hp
      split at hp
      · cases hp
      · cases hp; exact one _ hn
    rw [if_neg c8] at hp
    by_cases c9 : (tkA E i).kd = 21
    · rw [if_pos c9] at hp; cases hp; rw [List.mem_singleton.1 hn]; exact hu
    rw [if_neg c9] at hp
    split at hp
    · cases hp; exact one _ hn
    · cases hp; exact one _ hn
end Go.Proofs.YtnpifgcgjgddoaaGreatDoor.N

namespace Go.Proofs.YtnpifgcgjgddoaaGreatDoor.N
open Go.RowKit
/-- A grammar in a box of its own. -/
structure GX (W : World) (k : Nat) (a : Value) : Prop where
  heap : W.heap[k]? = some (.cells #[a] 33 (0, 0))
theorem GX.lt {W : World} {k : Nat} {a : Value} (h : GX W k a) : k < W.heap.size := (Array.getElem?_eq_some_iff.1 h.heap).1
theorem GX.same {W W' : World} {k : Nat} {a : Value} (h : GX W k a) (hb : W'.heap[k]? = W.heap[k]?) : GX W' k a := ⟨hb.trans h.heap⟩
theorem GX.below {W W' : World} {k : Nat} {a : Value} (h : GX W k a) (hb : Below W.heap.size W W') : GX W' k a := h.same (hb.block k h.lt)
theorem GX.cl {W : World} {k : Nat} {a : Value} (h : GX W k a) : W.cell? ⟨k, 0, none⟩ = some a := by
  rw [cell_of_row W k 0 _ 33 (0, 0) h.heap]; rfl
theorem GX.fz {W : World} {k : Nat} {a : Value} (h : GX W k a) : W.frozen? ⟨k, 0, none⟩ = false := frozen_of_row W k 0 _ 33 h.heap
theorem GX.set {W : World} {k : Nat} {a : Value} (h : GX W k a) (u : Value) : GX (W.setCell ⟨k, 0, none⟩ u) k u := ⟨by
  rw [heap_setCell_same _ k 0 _ 33 u h.heap]; simp⟩
theorem GX.ne {W : World} {k B e s n : Nat} {u a : Value} {xs : List Value} (h : GX W k a) (ho : W.ownsRow B e s u n xs) (he : e ≠ 33) {j : Nat} (hj : u.ownBlock = some j) : j ≠ k := fun q => by
  subst q
  obtain ⟨cs, hc⟩ := own_ty ho hj
  rw [h.heap] at hc
  injection hc with h4
  injection h4 with _ h5
  exact he h5.symm
theorem Tryz.info41 : (Tryz.prog.info? 73).map (fun i => (i.zero, i.size, i.bytes)) = some (some (.agg #[.string ⟨#[]⟩, .slice none 0 0]), 2, 40) := by kernel_rfl
/-- Rules as they lie in a grammar's row. -/
def grV (x : Rl × Value) : List Value := [.string x.1.2.1, x.2]
def grc (l : List (Rl × Value)) : List Value := l.flatMap grV
theorem grc_append (a b : List (Rl × Value)) : grc (a ++ b) = grc a ++ grc b := List.flatMap_append
theorem grc_one (x : Rl × Value) : grc [x] = grV x := by unfold grc; rw [List.flatMap_cons, List.flatMap_nil, List.append_nil]
theorem plc_get (E : PE) (z : Nat) (L : List (Rl × Value)) : ∀ (k j : Nat) (x : Rl × Value) (u : Value), L[k]? = some x → (plV E z x)[j]? = some u → (plc E z L)[k * 3 + j]? = some u := by
  induction L with
  | nil => intro k j t u h; simp at h
  | cons a L ih =>
    intro k j t u h hj
    have e : plc E z (a :: L) = plV E z a ++ plc E z L := by unfold plc; rw [List.flatMap_cons]
    have hl : (plV E z a).length = 3 := rfl
    rw [e]
    cases k with
    | zero =>
      have h : a = t := by simpa using h
      subst h
      rw [Nat.zero_mul, Nat.zero_add, List.getElem?_append_left (by have := (List.getElem?_eq_some_iff.1 hj).1; omega)]
      exact hj
    | succ k =>
      rw [List.getElem?_append_right (by omega), hl, show (k + 1) * 3 + j - 3 = k * 3 + j from by omega]
      exact ih k j t u (by simpa using h) hj
theorem own_pl {E : PE} {z : Nat} {W : World} {B : Nat} {u : Value} {ov : List (Rl × Value)} (h : W.ownsRow B 79 3 u ov.length (plc E z ov)) : ∃ A c, u = .slice A ov.length c ∧ ∀ (k : Nat) x, ov[k]? = some x → ∃ g, A = some ⟨g, 0, none⟩ ∧ g < W.heap.size ∧ W.cell? ⟨g, k * 3, none⟩ = some (.int .i64 (plA E z x.1.1)) ∧ W.cell? ⟨g, k * 3 + 1, none⟩ = some (.string x.1.2.1) ∧ W.cell? ⟨g, k * 3 + 2, none⟩ = some x.2 := by
  have hc := h
  rcases h.2 with ⟨rfl, h0⟩ | ⟨g, cap, cur, rfl, _⟩
  · refine ⟨none, 0, by rw [h0], fun k x hk => ?_⟩
    rw [List.eq_nil_of_length_eq_zero h0] at hk
    simp at hk
  · refine ⟨_, cap, rfl, fun k x hk => ⟨g, rfl, (hc.lt g rfl).2, ?_⟩⟩
    have key : ∀ j u, (plV E z x)[j]? = some u → W.cell? ⟨g, k * 3 + j, none⟩ = some u := fun j u hj => by
      have := (hc.cells (g := g) rfl) (k * 3 + j) u (plc_get E z ov k j x u hk hj)
      rwa [Addr.add_lit, Nat.zero_add] at this
    exact ⟨key 0 _ rfl, key 1 _ rfl, key 2 _ rfl⟩
/-- So many nodes have the first rules. -/
def smN (ov : List (Rl × Value)) (k : Nat) : Nat := ((ov.take k).map fun x => x.1.2.2.length).sum
theorem smN_succ {ov : List (Rl × Value)} {k : Nat} {x : Rl × Value} (h : ov[k]? = some x) : smN ov (k + 1) = smN ov k + x.1.2.2.length := by
  unfold smN
  rw [List.take_add_one, h, List.map_append, List.sum_append]
  simp
/-- While rules are laid into the grammar. -/
structure AtO (w0 W wr : World) (gv : Value) (ov : List (Rl × Value)) (k : Nat) : Prop where
  b : Below W.heap.size W wr
  r : GX wr W.heap.size (.slice none 0 0)
  x : GX wr (W.heap.size + 1) gv
  o : wr.ownsRow W.heap.size 73 2 gv k (grc (ov.take k))
theorem AtO.later {w0 W wr W' : World} {gv : Value} {ov : List (Rl × Value)} {k : Nat} (h : AtO w0 W wr gv ov k) (hb : Below wr.heap.size wr W') : AtO w0 W W' gv ov k :=
  ⟨h.b.trans (hb.mono h.b.size), h.r.below hb, h.x.below hb, ownB h.o hb⟩
/-- How grammarOf ends. -/
def GrV (_w0 W : World) (ov : List (Rl × Value)) (r : Option (Int × Int)) (e : Ending) (W' : World) : Prop := match r with
  | some p => e = pnc p.1 p.2 ∧ Below W.heap.size W W'
  | none => ∃ u, e = .returned (.agg #[u]) ∧ W'.ownsRow W.heap.size 73 2 u ov.length (grc ov) ∧ Below W.heap.size W W'
theorem ret_gx {fn : Func} {R : Ending → World → Prop} {act : Act} {W : World} {k : Nat} {a : Value} (hF : fn.results = #[.cell 2 33]) (hd : act.defers = []) (h2 : act.tmps.getD 2 undef = .pointer (some ⟨k, 0, none⟩)) (hT : GX W k a) (hR : R (.returned (.agg #[a])) W) : bodyPost Tryz.prog fn R .ret act W := by
  have c0 := hT.cl
  refine bodyPost_ret (v := .agg #[a]) ?_ hd hR
  simp only [Array.getD_eq_getD_getElem?] at h2
  simp [results, hF, go_sem, h2, c0]
set_option maxRecDepth 100000 in
set_option maxHeartbeats 8000000 in
theorem grammarOf_long {E : PE} {z : Nat} {w0 W : World} {u : Value} {ov : List (Rl × Value)} (ho : W.ownsRow w0.heap.size 79 3 u ov.length (plc E z ov)) (x : Rl × Value) (hx : ov[200]? = some x) (hn : ov.length ≤ 65536) : Calls Tryz.prog 39 #[u] W fun e W' => e = pnc (plA E z x.1.1) 2 ∧ Below W.heap.size W W' := by
  obtain ⟨A, c, rfl, hc⟩ := own_pl ho
  obtain ⟨g, rfl, hlt, e0, e1, e2⟩ := hc 200 x hx
  have hl : 200 < ov.length := (List.getElem?_eq_some_iff.1 hx).1
  have HU : Hid (∀ a c W, Calls Tryz.prog 60 #[.int .i64 a, .int .i64 c] W fun e W' => e = pnc a c ∧ W' = W) := fun a c W => giveUp_any a c W
  have z1 : (200 : Int) < (ov.length : Int) := by omega
  have HB := (show Hid (Below W.heap.size W (W.alloc (.cells #[.slice none 0 0] 33))) from below_box _ _)
  have e0' := (HB.out.cell (p := ⟨g, 200 * 3, none⟩) hlt).trans e0
  clear ho hc hx e0 e1 e2 hl
  generalize plA E z x.1.1 = p0 at *
  generalize ov.length = n at *
  go_enter Tryz.func39, Tryz.ntmps39
  go_wp2_with fail
  generalize W.alloc (.cells #[.slice none 0 0] 33) = w1 at *
  go_wp2_with fail
  refine (HU.out _ _ _).mono ?_
  rintro e w2 ⟨rfl, rfl⟩
  exact post_panic rfl ⟨rfl, HB.out⟩
set_option maxRecDepth 100000 in
set_option maxHeartbeats 8000000 in
theorem grammarOf_any {E : PE} {z : Nat} {w0 W : World} {u : Value} {ov : List (Rl × Value)} (ho : W.ownsRow w0.heap.size 79 3 u ov.length (plc E z ov)) (hb : Bds w0 W ov) (htx : ∀ x ∈ ov, ∀ n ∈ x.1.2.2, n.tx.size ≤ 65536) (hln : ∀ x ∈ ov, x.1.2.2.length ≤ 2000000000000) (hn : ov.length ≤ 200) : Calls Tryz.prog 39 #[u] W fun e W' => GrV w0 W ov (szGo E z 0 (ov.map (·.1))) e W' := by
  obtain ⟨i0, hinf, hz0, hz1, hz2⟩ := info_parts Tryz.info41
  obtain ⟨A, c, rfl, hc⟩ := own_pl ho
  have HC := (show Hid _ from hc)
  have HBd := (show Hid _ from hb)
  have HTx := (show Hid _ from htx)
  have HLn := (show Hid _ from hln)
  have HG := (show Hid (∀ k, k < ov.length → ∃ x, ov[k]? = some x ∧ x ∈ ov) from fun k hk => ⟨_, List.getElem?_eq_getElem hk, List.getElem_mem hk⟩)
  have HU : Hid (∀ a c W, Calls Tryz.prog 60 #[.int .i64 a, .int .i64 c] W fun e W' => e = pnc a c ∧ W' = W) := fun a c W => giveUp_any a c W
  have HA := (show Hid (AtO w0 W ((W.alloc (.cells #[.slice none 0 0] 33)).alloc (.cells #[.slice none 0 0] 33)) (.slice none 0 0) ov 0) from
    ⟨((Below.refl _ _).alloc (Nat.le_refl _) _).alloc (by rw [World.size_alloc]; omega) _, (GX.mk (heap_alloc_new W _)).below (below_box _ _), ⟨by have h := heap_alloc_new (W.alloc (.cells #[.slice none 0 0] 33)) (.cells #[.slice none 0 0] 33); rw [World.size_alloc] at h; exact h⟩, World.ownsRow_nil _ _ _ _⟩)
  have z2 : ¬ (200 : Int) < (ov.length : Int) := by omega
  have HZ0 : Hid (szGo E z 0 (ov.map (·.1)) = szGo E z (smN ov 0) ((ov.drop 0).map (·.1))) := rfl
  generalize szGo E z 0 (ov.map (·.1)) = R0 at *
  clear ho hb htx hln hc
  go_enter Tryz.func39, Tryz.ntmps39
  go_wp2_with fail
  generalize (W.alloc (.cells #[.slice none 0 0] 33)).alloc (.cells #[.slice none 0 0] 33) = w1 at *
  go_loopw [4, 19] (fun s t wr => ∃ (k : Nat) (gv : Value), k ≤ ov.length ∧ smN ov k ≤ 2048 ∧ s = .int .i64 (smN ov k : Nat) ∧ t = .int .i64 k ∧ Hid (AtO w0 W wr gv ov k) ∧ Hid (R0 = szGo E z (smN ov k) ((ov.drop k).map (·.1)))) (fun _ t _ => ov.length - (intOf t).toNat)
  case atStart => exact ⟨0, _, Nat.zero_le _, Nat.zero_le _, rfl, rfl, HA, HZ0⟩
  case round =>
    obtain ⟨k, gv, hk, hsm, rfl, rfl, HW, HR⟩ := hrel
    clear HA HZ0
    by_cases hlt : k < ov.length
    · obtain ⟨x, hx, hxm⟩ := HG.out k hlt
      obtain ⟨g, rfl, hglt, e0, e1, e2⟩ := HC.out k x hx
      have hb1 := HBd.out.e x hxm
      obtain ⟨A2, n2, hv2⟩ := own_form hb1
      have HSz : Hid (R0 = if (T.ck x.1.2.2).2 ≠ 0 then some (plA E z x.1.1, (T.ck x.1.2.2).2) else if 2048 < smN ov k + x.1.2.2.length then some (plA E z x.1.1, 2) else szGo E z (smN ov (k + 1)) ((ov.drop (k + 1)).map (·.1))) := by
        show R0 = _
        rw [HR.out, List.drop_eq_getElem_cons hlt, show ov[k] = x from (List.getElem?_eq_some_iff.1 hx).2, List.map_cons, szGo, smN_succ hx]
      have hsm1 := smN_succ hx
      obtain ⟨m1, hm1⟩ : ∃ m, m = smN ov (k + 1) := ⟨_, rfl⟩
      rw [← hm1] at hsm1 HSz
      have HTk := (show Hid (grc (ov.take (k + 1)) = grc (ov.take k) ++ [.string x.1.2.1, x.2]) from by show grc _ = _; rw [List.take_add_one, hx, grc_append]; show _ ++ grc [x] = _; rw [grc_one]; rfl)
      have HCk : Hid (∀ W2, Below W.heap.size W W2 → Calls Tryz.prog 25 #[.slice A2 x.1.2.2.length n2] W2 fun e w' => e = .returned (.tuple #[.int .i64 (T.ck x.1.2.2).1, .int .i64 (T.ck x.1.2.2).2]) ∧ Below W2.heap.size W2 w') := fun W2 hW2 => by
        have hrow := own_same (W' := W2) hb1 fun j hj => hW2.block j (hb1.lt j hj).2
        rw [hv2] at hrow
        obtain ⟨A3, c3, e3, hrd⟩ := T.own_rd hrow rfl
        cases e3
        exact T.check_any _ _ _ (by have := HLn.out x hxm; omega) (fun n hn => by have := HTx.out x hxm n hn; omega) W2 hrd
      have hlx := HLn.out x hxm
      rw [hv2] at e2 HTk
      have d0 := (HW.out.b.cell (p := ⟨g, k * 3, none⟩) hglt).trans e0
      have d1 := (HW.out.b.cell (p := ⟨g, k * 3 + 1, none⟩) hglt).trans e1
      have d2 := (HW.out.b.cell (p := ⟨g, k * 3 + 2, none⟩) hglt).trans e2
      clear e0 e1 e2 hx hxm hb1 hv2 HG HR HBd HTx HLn HC
      generalize T.ck x.1.2.2 = r at *
      generalize x.1.2.2.length = nl at *
      generalize x.1.2.1 = nm at *
      generalize plA E z x.1.1 = p0 at *
      have z0 : (0 : Int) ≤ (k : Int) := by omega
      have z1 : (k : Int) < (ov.length : Int) := by omega
      have hsz := HW.out.b.size
      have HB1 := (show Hid (AtO w0 W (wr.alloc (.cells #[.int .i64 p0, .string nm, .slice A2 nl n2] 79)) gv ov k ∧ PX (wr.alloc (.cells #[.int .i64 p0, .string nm, .slice A2 nl n2] 79)) wr.heap.size (.int .i64 p0) (.string nm) (.slice A2 nl n2)) from ⟨HW.out.later (below_box _ _), ⟨heap_alloc_new wr _⟩⟩)
      go_wp2_with fail
      refine (HCk.out _ HB1.out.1.b).mono ?_
      rintro e w2 ⟨rfl, hb2⟩
      have HB2 := (show Hid (AtO w0 W w2 gv ov k ∧ PX w2 wr.heap.size (.int .i64 p0) (.string nm) (.slice A2 nl n2)) from ⟨HB1.out.1.later hb2, HB1.out.2.same (hb2.block _ HB1.out.2.lt)⟩)
      clear hb2 HB1 HCk d0 d1 d2 HW
      obtain ⟨y0, y1, y2⟩ := HB2.out.2.cl
      by_cases hr2 : r.2 = 0
      · have t1 : (r.2 != 0) = false := by rw [hr2]; rfl
        have u1 : IntKind.i64.wrap ((smN ov k : Nat) + (nl : Int)) = (m1 : Int) := by rw [IntKind.wrap_i64]; omega
        by_cases h48 : 2048 < m1
        · have HV : Hid (R0 = some (p0, 2)) := by show R0 = _; rw [HSz.out, if_neg (by rw [hr2]; simp), if_pos (by omega)]
          have t2 : (2048 : Int) < (m1 : Int) := by omega
          clear HSz hr2 hsm1 hm1 HTk
          generalize smN ov k = s0 at *
          go_wp2_with fail
          refine (HU.out _ _ _).mono ?_
          rintro e w3 ⟨rfl, rfl⟩
          exact post_panic (P := Tryz.prog) (fn := Tryz.f39) rfl (by show GrV w0 W ov R0 _ _; rw [HV.out]; exact ⟨rfl, HB2.out.1.b⟩)
        · have HV : Hid (R0 = szGo E z m1 ((ov.drop (k + 1)).map (·.1))) := by show R0 = _; rw [HSz.out, if_neg (by rw [hr2]; simp), if_neg (by omega)]
          have t2 : ¬ (2048 : Int) < (m1 : Int) := by omega
          have hO := HB2.out.1.o
          have q0 := HB2.out.1.x.cl
          have qf := HB2.out.1.x.fz
          have HM := (show Hid (m1 = smN ov (k + 1)) from hm1)
          clear HSz hr2 hsm1 hm1
          generalize hs0 : smN ov k = s0 at *
          clear hs0
          have hs2 := HB2.out.1.b.size
          go_wp2_with (at_builtin; refine wpList_append_lies _ rfl _ _ 31 rfl W.heap.size 73 i0 (.agg #[.string ⟨#[]⟩, .slice none 0 0]) 2 40 Tryz.underlying31 hinf hz0 hz1 hz2 rfl (by decide) _ _ _ rfl (hO.alloc _) ⟨w2.heap.size, 0, none⟩ 1 1 [.string nm, .slice A2 nl n2] rfl rfl ?c1 ?c2 (by decide) ?c3 ?c4 ?c5 (w2.heap.size + 1) (by simp) ?_)
          case c1 => exact World.news_of_block (cs := #[.string nm, .slice A2 nl n2]) (t := 73) (fr := (0, 0)) (heap_alloc_new w2 _)
          case c2 => intro u hu; simp only [List.mem_cons, List.not_mem_nil, or_false] at hu; rcases hu with rfl | rfl <;> rfl
          case c3 => unfold maxLen; omega
          case c4 => omega
          case c5 => rw [World.size_alloc]; omega
          intro g3 cap w3 hown hgrow hat hlt3
          have hA2 := HB2.out.1.later (below_box w2 (.cells #[.string nm, .slice A2 nl n2] 73))
          have hO2 := hO.alloc (.cells #[.string nm, .slice A2 nl n2] 73)
          have hx3 : GX w3 (W.heap.size + 1) gv := hA2.x.same (hgrow.block _ hA2.x.lt (fun e => hA2.x.ne hO2 (by decide) e.symm rfl))
          have hr3 : GX w3 W.heap.size (.slice none 0 0) := hA2.r.same (hgrow.block _ hA2.r.lt (fun e => hA2.r.ne hO2 (by decide) e.symm rfl))
          have hbl3 : Below W.heap.size W w3 := hA2.b.grown hgrow hA2.b.size (fun j e => (hO2.lt j e).1)
          have HW3 := (show Hid (AtO w0 W (w3.setCell ⟨W.heap.size + 1, 0, none⟩ (.slice (some ⟨g3, 0, none⟩) (k + 1) cap)) (.slice (some ⟨g3, 0, none⟩) (k + 1) cap) ov (k + 1)) from
            ⟨hbl3.setCell (p := ⟨W.heap.size + 1, 0, none⟩) (Nat.le_succ _) _, hr3.same (Below.heap_setCell _ _ _ _ (by show W.heap.size ≠ W.heap.size + 1; omega)), hx3.set _, by
              rw [HTk.out]
              exact own_same hown fun j hj => Below.heap_setCell _ _ _ _ (hx3.ne hown (by decide) hj)⟩)
          have q3 := hx3.cl
          have qf3 := hx3.fz
          clear hown hgrow hat hlt3 hA2 hO2 hx3 hr3 hbl3 hO HB2 q0 qf y0 y1 y2 HTk
          go_wp2_with fail
          go_roundw
          case rel => exact ⟨k + 1, _, by omega, by rw [← HM.out]; omega, by rw [← HM.out], by go_num, HW3, by rw [← HM.out]; exact HV⟩
          case measure => simp [intOf]; omega
      · have t1 : (r.2 != 0) = true := by simpa using hr2
        have HV : Hid (R0 = some (p0, r.2)) := by show R0 = _; rw [HSz.out, if_pos hr2]
        clear HSz hr2 hsm1 hm1 HTk
        generalize smN ov k = s0 at *
        go_wp2_with fail
        refine (HU.out _ _ _).mono ?_
        rintro e w3 ⟨rfl, rfl⟩
        exact post_panic (P := Tryz.prog) (fn := Tryz.f39) rfl (by show GrV w0 W ov R0 _ _; rw [HV.out]; exact ⟨rfl, HB2.out.1.b⟩)
    · obtain rfl : k = ov.length := by omega
      have HV : Hid (R0 = none) := by show R0 = _; rw [HR.out, List.drop_of_length_le (Nat.le_refl _)]; rfl
      have HO := (show Hid (wr.ownsRow W.heap.size 73 2 gv ov.length (grc ov)) from by have := HW.out.o; rw [List.take_of_length_le (Nat.le_refl _)] at this; exact this)
      have q0 := HW.out.x.cl
      have r0 := HW.out.r.cl
      have rf := HW.out.r.fz
      obtain ⟨A3, n3, rfl⟩ := own_form HO.out
      clear HG HR HBd HTx HLn HC
      generalize smN ov ov.length = s0 at *
      go_wp2_with fail
      refine ret_gx rfl rfl rfl (HW.out.r.set (.slice A3 ov.length n3)) ?_
      show GrV w0 W ov R0 _ _
      rw [HV.out]
      exact ⟨_, rfl, own_same HO.out fun j hj => Below.heap_setCell _ _ _ _ (HW.out.r.ne HO.out (by decide) hj), HW.out.b.setCell (p := ⟨W.heap.size, 0, none⟩) (Nat.le_refl _) _⟩
end Go.Proofs.YtnpifgcgjgddoaaGreatDoor.N

namespace Go.Proofs.YtnpifgcgjgddoaaGreatDoor.N
open Go.RowKit
theorem assert27 (v : Value) (w : World) : (Instr.typeAssert (.iface 39 v) 20 39 true).run Tryz.prog w = .ok (.tuple #[v, .bool true]) w := by kernel_rfl
theorem ret_fx {fn : Func} {R : Ending → World → Prop} {a : Act} {W : World} {b : Nat} {p e : Int} (hF : fn.results = #[.cell 2 39]) (hd : a.defers = []) (h2 : a.tmps.getD 2 undef = .pointer (some ⟨b, 0, none⟩)) (hT : FX W b p e) (hR : R (.returned (.agg #[.int .i64 p, .int .i64 e])) W) : bodyPost Tryz.prog fn R .ret a W := by
  have c0 := hT.c0
  have c1 := hT.c1
  refine bodyPost_ret (v := .agg #[.int .i64 p, .int .i64 e]) ?_ hd hR
  simp only [Array.getD_eq_getD_getElem?] at h2
  simp [results, hF, go_sem, h2, c0, c1]
abbrev fxZ : Obj := .cells #[.int .i64 0, .int .i64 0] 39
set_option maxRecDepth 100000 in
set_option maxHeartbeats 8000000 in
theorem reason_any (a c : Int) (W : World) : Calls Tryz.prog 38 #[.iface 39 (.agg #[.int .i64 a, .int .i64 c])] W fun e W' => e = .returned (.agg #[.int .i64 a, .int .i64 c]) ∧ Below W.heap.size W W' := by
  have has := assert27
  have hnot : ∀ (x : Bool) (w : World), (Op.unary .not (.bool x)).run Tryz.prog w = .ok (.bool (!x)) w := fun _ _ => rfl
  go_enter Tryz.func38, Tryz.ntmps38
  go_wp2_with fail
  refine ret_fx (b := W.heap.size) (p := a) (e := c) rfl rfl rfl ((FX.mk (heap_alloc_new W _)).below (below_box _ _)) ⟨rfl, ((Below.refl _ _).alloc (Nat.le_refl _) _).alloc (by rw [World.size_alloc]; omega) _⟩
set_option maxRecDepth 100000 in
set_option maxHeartbeats 8000000 in
theorem catchA_panic (p : Nat) (x y a c : Int) (older : List PanicEntry) (w : World) (hx : FX w p x y) :
    CallsD Tryz.prog 37 #[.pointer (some ⟨p, 0, none⟩)] (.panicking ({ v := .iface 39 (.agg #[.int .i64 a, .int .i64 c]), recovered := false } :: older)) w fun e u' w' =>
      e = .returned (.tuple #[]) ∧ u' = .panicking ({ v := .iface 39 (.agg #[.int .i64 a, .int .i64 c]), recovered := true } :: older) ∧ FX w' p a c ∧ Fr w w' p (.slice none 0 0) (.slice none 0 0) ∧ Below p w w' := by
  have HR : Hid (∀ W, Calls Tryz.prog 38 #[.iface 39 (.agg #[.int .i64 a, .int .i64 c])] W fun e W' => e = .returned (.agg #[.int .i64 a, .int .i64 c]) ∧ Below W.heap.size W W') := fun W => reason_any a c W
  have HX := (show Hid (FX w p x y) from hx)
  refine callsD_of_wpS Tryz.func37 rfl fun c₀ cs hu => ?_
  apply wpS_seq
  apply wpS_region
  simp [wpOpsS, go_sem, recoverD, hu, Tryz.ntmps37, Exit.thenS]
  refine wpS_of_wp ?_
  have ht : (#[Value.pointer (some ⟨p, 0, none⟩)] ++ ((Array.replicate 6 undef).setIfInBounds 1 (.iface 39 (.agg #[.int .i64 a, .int .i64 c]))).setIfInBounds 0 (.iface 39 (.agg #[.int .i64 a, .int .i64 c])) : Array Value) = #[.pointer (some ⟨p, 0, none⟩), .iface 39 (.agg #[.int .i64 a, .int .i64 c]), .iface 39 (.agg #[.int .i64 a, .int .i64 c]), undef, undef, undef, undef] := rfl
  rw [ht]
  clear ht hu hx
  go_wp2_with fail
  refine (HR.out _).mono ?_
  rintro e w1 ⟨rfl, hb⟩
  have H1 := (show Hid (FX w1 p x y) from HX.out.below hb)
  have HB := (show Hid (Below w.heap.size w w1) from hb)
  have hlt := HX.out.lt
  clear hb HR HX
  have c0 := H1.out.c0
  have c1 := H1.out.c1
  have f0 := H1.out.f0
  have f1' := H1.out.f1
  go_wp2_with fail
  refine ⟨rfl, _, rfl, .tuple #[], (by simp [results, Tryz.results37]), rfl, rfl, stF_fx H1.out a c, (Fr.below p _ HB.out).trans ((Fr.set _ _ _ _ _).trans (Fr.set _ _ _ _ _)), stF_below (HB.out.mono (Nat.le_of_lt hlt)) (Nat.le_refl _) a c⟩
set_option maxRecDepth 100000 in
set_option maxHeartbeats 8000000 in
theorem catchA_idle (p : Nat) (w : World) :
    CallsD Tryz.prog 37 #[.pointer (some ⟨p, 0, none⟩)] .returning w fun e u' w' => e = .returned (.tuple #[]) ∧ u' = .returning ∧ w' = w := by
  refine callsD_of_wpS Tryz.func37 rfl fun c₀ cs hu => ?_
  apply wpS_seq
  apply wpS_region
  simp [wpOpsS, go_sem, recoverD, hu, Tryz.ntmps37, Exit.thenS]
  refine wpS_of_wp ?_
  have ht : (#[Value.pointer (some ⟨p, 0, none⟩)] ++ ((Array.replicate 6 undef).setIfInBounds 1 Value.nilIface).setIfInBounds 0 Value.nilIface : Array Value) = #[.pointer (some ⟨p, 0, none⟩), .nilIface, .nilIface, undef, undef, undef, undef] := rfl
  rw [ht]
  have HC := (show Hid (c₀ :: cs = { c₀ with mode := .returning } :: cs) from by show _ = _; rw [← hu])
  clear ht hu
  go_wp2_with fail
  exact ⟨rfl, _, HC.out, .tuple #[], (by simp [results, Tryz.results37]), rfl, rfl, rfl⟩
end Go.Proofs.YtnpifgcgjgddoaaGreatDoor.N

namespace Go.Proofs.YtnpifgcgjgddoaaGreatDoor.N
open Go.RowKit
theorem doorA {R : Ending → World → Prop} {act : Act} {W : World} {k : Nat} {p c x y : Int} (hd : act.defers = [{ target := .fn (.func 37) #[.pointer (some ⟨k, 0, none⟩)], args := #[] }]) (h2 : act.tmps.getD 2 undef = .slice none 0 0) (h3 : act.tmps.getD 3 undef = .pointer (some ⟨k, 0, none⟩)) (hf : FX W k x y)
    (hR : ∀ W', Below k W W' → R (.returned (.tuple #[.slice none 0 0, .agg #[.int .i64 p, .int .i64 c]])) W') :
    bodyPostD Tryz.prog Tryz.f19 R (.panic [{ v := .iface 39 (.agg #[.int .i64 p, .int .i64 c]), recovered := false }]) act W := by
  show Leaves _ _ _ _ act.defers _ _
  rw [hd]
  refine leaves_cons (f := 37) (args := #[.pointer (some ⟨k, 0, none⟩)]) (by simp) (by simp [go_sem]) ?_
  refine (catchA_panic k x y p c [] W hf).mono ?_
  rintro e u' w' ⟨rfl, rfl, h4, h5, h6⟩
  have d0 := h4.c0
  have d1 := h4.c1
  simp only [Array.getD_eq_getD_getElem?] at h2 h3
  refine ⟨.tuple #[.slice none 0 0, .agg #[.int .i64 p, .int .i64 c]], ?_, hR w' h6⟩
  simp [results, Tryz.results19, go_sem, h2, h3, d0, d1]
theorem doorB {R : Ending → World → Prop} {act : Act} {W : World} {k : Nat} {p c : Int} {v : Value} (hd : act.defers = [{ target := .fn (.func 37) #[.pointer (some ⟨k, 0, none⟩)], args := #[] }]) (h2 : act.tmps.getD 2 undef = v) (h3 : act.tmps.getD 3 undef = .pointer (some ⟨k, 0, none⟩)) (hf : FX W k p c)
    (hR : R (.returned (.tuple #[v, .agg #[.int .i64 p, .int .i64 c]])) W) :
    bodyPostD Tryz.prog Tryz.f19 R .ret act W := by
  show Leaves _ _ _ _ act.defers _ _
  rw [hd]
  refine leaves_cons (f := 37) (args := #[.pointer (some ⟨k, 0, none⟩)]) (by simp) (by simp [go_sem]) ?_
  refine (catchA_idle k W).mono ?_
  rintro e u' w' ⟨rfl, rfl, rfl⟩
  have d0 := hf.c0
  have d1 := hf.c1
  simp only [Array.getD_eq_getD_getElem?] at h2 h3
  refine ⟨.tuple #[v, .agg #[.int .i64 p, .int .i64 c]], ?_, hR⟩
  simp [results, Tryz.results19, go_sem, h2, h3, d0, d1]
theorem grammarOf_all {E : PE} {z : Nat} {w0 W : World} {u : Value} {ov : List (Rl × Value)} (ho : W.ownsRow w0.heap.size 79 3 u ov.length (plc E z ov)) (hb : Bds w0 W ov) (htx : ∀ x ∈ ov, ∀ n ∈ x.1.2.2, n.tx.size ≤ 65536) (hln : ∀ x ∈ ov, x.1.2.2.length ≤ 2000000000000) (hn : ov.length ≤ 65536) : Calls Tryz.prog 39 #[u] W fun e W' => GrV w0 W ov (szR E z (ov.map (·.1))) e W' := by
  unfold szR
  rw [List.getElem?_map]
  cases h : ov[200]? with
  | some x => exact grammarOf_long ho x h hn
  | none =>
    have hl := List.getElem?_eq_none_iff.1 h
    exact grammarOf_any ho hb htx hln hl
theorem FX.ne2 {W : World} {k B e s n : Nat} {u : Value} {p c : Int} {xs : List Value} (h : FX W k p c) (ho : W.ownsRow B e s u n xs) (he : e ≠ 39) {j : Nat} (hj : u.ownBlock = some j) : j ≠ k := fun q => by
  subst q
  obtain ⟨cs, hc⟩ := own_ty ho hj
  rw [h.heap] at hc
  injection hc with h4
  injection h4 with _ h5
  exact he h5.symm
theorem kd_pos {s : ByteArray} {l : List Tk} (h : lexR (oneP s) s = .inl l) : ∀ a, a < (mkE l).l.length → ¬ kdA (mkE l) a = 0 := fun a ha q => by
  have ha : a < l.length := ha
  unfold kdA mkE at q
  rw [List.getElem?_eq_getElem ha] at q
  have h1 := (lex_rgt h l[a] (List.getElem_mem ha)).r
  unfold riF at h1
  simp only [Bool.and_eq_true, decide_eq_true_eq] at h1
  have q : (l[a]).kd = 0 := q
  omega
theorem ex_len {E : PE} (hE : OkE E) {i a : Nat} {ns : List Nd} (hi : i ≤ E.l.length) (h : exN E i = .inl (a, ns)) : ns.length ≤ 2000000000000 := by
  have h2 := ex_adv hi h
  have h3 := (gN_len hE.rl (m := 0) (d := 0) hi (by omega) h).2
  have h4 := hE.len
  omega
end Go.Proofs.YtnpifgcgjgddoaaGreatDoor.N

namespace Go.Proofs.YtnpifgcgjgddoaaGreatDoor.N
open Go.RowKit
/-- How alone ends. -/
def AlV (E : PE) (z : Nat) (w0 : World) (r : Sum (List Rl) (Nat × Int)) (e : Ending) (W' : World) : Prop := match r with
  | .inr q => e = pnc (plA E z q.1) q.2 ∧ Below w0.heap.size w0 W'
  | .inl rs => ∃ A c ns, rs = [(0, ⟨#[]⟩, ns)] ∧ e = .returned (.agg #[.int .i64 (plA E z 0), .string ⟨#[]⟩, .slice A ns.length c]) ∧ W'.ownsRow w0.heap.size 51 7 (.slice A ns.length c) ns.length (T.ndc ns) ∧ Below w0.heap.size w0 W'
theorem alone_any {E : PE} (hE : OkE E) (hk0 : ∀ a, a < E.l.length → ¬ kdA E a = 0) {z : Nat} {w0 : World} (hv : R.VB w0) {b : Nat} {tv : Value} {W : World} {v : Value} {L : List Nd} (h : RS E z w0 W b tv 0 0 v L) : Calls Tryz.prog 41 #[.pointer (some ⟨b, 0, none⟩)] W fun e W' => AlV E z w0 (alN E) e W' := by
  unfold alN
  cases hx : exN E 0 with
  | inr q => exact alone_x hE hv h q hx
  | inl p =>
    obtain ⟨a, ns⟩ := p
    have hal := (ex_adv (Nat.zero_le _) hx).2
    dsimp only
    by_cases hlt : a < E.l.length
    · rw [if_pos hlt]
      exact alone_s hE hv h a ns hx (hk0 a hlt)
    · rw [if_neg hlt]
      refine (alone_ok hE hv h a ns hx (by rw [show a = E.l.length from by omega]; exact kd_end E)).mono ?_
      rintro e W' ⟨v', rfl, h2, _⟩
      obtain ⟨A, c, rfl⟩ := own_form h2.o
      exact ⟨A, c, ns, rfl, rfl, h2.o, h2.bl⟩
theorem own_pl1 {E : PE} {z : Nat} {w0 W : World} (hw : w0.heap.size ≤ W.heap.size) (ns : List Nd) (v : Value) : (W.alloc (.cells #[.int .i64 (plA E z 0), .string ⟨#[]⟩, v] 79)).ownsRow w0.heap.size 79 3 (.slice (some ⟨W.heap.size, 0, none⟩) 1 1) 1 (plc E z [((0, ⟨#[]⟩, ns), v)]) := by
  rw [plc_one]
  exact ⟨rfl, .inr ⟨W.heap.size, 1, _, rfl, hw, heap_alloc_new W _, Nat.le_refl _, by unfold maxLen; omega, rfl, rfl⟩⟩
theorem al_tx {E : PE} (hE : OkE E) {rs : List Rl} (h : alN E = .inl rs) : ∀ r ∈ rs, (∀ n ∈ r.2.2, n.tx.size ≤ 65536) ∧ r.2.2.length ≤ 2000000000000 := by
  unfold alN at h
  cases hx : exN E 0 with
  | inr q => rw [hx] at h; cases h
  | inl p =>
    rw [hx] at h
    dsimp only at h
    split at h
    · cases h
    · cases h
      intro r hr
      rw [List.mem_singleton.1 hr]
      exact ⟨ex_tx hE hx, ex_len hE (Nat.zero_le _) hx⟩
/-- What Pattern answers. -/
def PaV (w w' : World) (r : Sum (List (ByteArray × List Nd)) (Int × Int)) (e : Ending) : Prop := match r with
  | .inr p => e = .returned (.tuple #[.slice none 0 0, .agg #[.int .i64 p.1, .int .i64 p.2]])
  | .inl gs => ∃ v ns, gs = [(⟨#[]⟩, ns)] ∧ e = .returned (.tuple #[v, .agg #[.int .i64 0, .int .i64 0]]) ∧ w'.ownsRow w.heap.size 51 7 v ns.length (T.ndc ns)
set_option maxRecDepth 100000 in
set_option maxHeartbeats 8000000 in
theorem patt_lex (s : ByteArray) (w : World) (hg : GW w) (q : Nat × Int) (hq : lexR (oneP s) s = .inr q) : Calls Tryz.prog 19 #[.string s] w fun e w' => e = .returned (.tuple #[.slice none 0 0, .agg #[.int .i64 q.1, .int .i64 q.2]]) ∧ Below w.heap.size w w' := by
  have hmf : ∀ (fn : Fn) (first cap : Array Value) (w : World), (Instr.makeFunc fn first cap).run Tryz.prog w = .ok (.func fn first cap) w := fun _ _ _ _ => rfl
  have HB0 := (show Hid (Below w.heap.size w (w.alloc fxZ) ∧ FX (w.alloc fxZ) w.heap.size 0 0) from ⟨below_box _ _, ⟨heap_alloc_new w _⟩⟩)
  have HN : Hid (∀ _ : Unit, Calls Tryz.prog 40 #[.string s] (w.alloc fxZ) fun e w' => e = pnc q.1 q.2 ∧ Below (w.alloc fxZ).heap.size (w.alloc fxZ) w') := fun _ => newReader_no s _ (hg.later HB0.out.1) q hq (lex_bad hq).2
  clear hg hq
  go_enter_defers Tryz.func19, Tryz.ntmps19
  go_wp2_with fail
  generalize w.alloc fxZ = w0 at *
  refine (HN.out ()).mono ?_
  rintro e w1 ⟨rfl, hb⟩
  have hsz := HB0.out.1.size
  exact doorA rfl rfl rfl (HB0.out.2.below hb) fun W' hW' => ⟨rfl, (HB0.out.1.trans (hb.mono hsz)).trans hW'⟩
set_option maxRecDepth 100000 in
set_option maxHeartbeats 8000000 in
theorem patt_alone (s : ByteArray) (w : World) (hg : GW w) (l : List Tk) (hl : lexR (oneP s) s = .inl l) : Calls Tryz.prog 19 #[.string s] w fun e w' => PaV w w' (fin (mkE l) s.size (alN (mkE l))) e ∧ Below w.heap.size w w' := by
  have hE := okE_of hl
  have hz := hE.z
  have hk0 := kd_pos hl
  have hmf : ∀ (fn : Fn) (first cap : Array Value) (w : World), (Instr.makeFunc fn first cap).run Tryz.prog w = .ok (.func fn first cap) w := fun _ _ _ _ => rfl
  have HB0 := (show Hid (Below w.heap.size w (w.alloc fxZ) ∧ FX (w.alloc fxZ) w.heap.size 0 0) from ⟨below_box _ _, ⟨heap_alloc_new w _⟩⟩)
  have hgw := hg.later HB0.out.1
  have HN : Hid (∀ _ : Unit, Calls Tryz.prog 40 #[.string s] (w.alloc fxZ) fun e w' => ∃ b tv, e = .returned (.pointer (some ⟨b, 0, none⟩)) ∧ RS (mkE l) s.size (w.alloc fxZ) w' b tv 0 0 (.slice none 0 0) []) := fun _ => newReader_ok s _ hgw l hl
  have HVB := (show Hid (R.VB (w.alloc fxZ)) from hgw.v)
  have HTx := (show Hid (∀ rs, alN (mkE l) = .inl rs → ∀ r ∈ rs, (∀ n ∈ r.2.2, n.tx.size ≤ 65536) ∧ r.2.2.length ≤ 2000000000000) from fun rs h => al_tx hE h)
  have HE := (show Hid (OkE (mkE l) ∧ (∀ a, a < (mkE l).l.length → ¬ kdA (mkE l) a = 0)) from ⟨hE, hk0⟩)
  clear hg hgw hl hE hk0
  generalize mkE l = E at *
  go_enter_defers Tryz.func19, Tryz.ntmps19
  go_wp2_with fail
  generalize w.alloc fxZ = w0 at *
  refine (HN.out ()).mono ?_
  rintro e w1 ⟨b, tv, rfl, h1⟩
  have HRu : Hid (∀ _ : Unit, Calls Tryz.prog 41 #[.pointer (some ⟨b, 0, none⟩)] w1 fun e W' => AlV E s.size w0 (alN E) e W') := fun _ => alone_any HE.out.1 HE.out.2 HVB.out h1
  have hsz := HB0.out.1.size
  clear h1 HN
  cases hrd : alN E with
  | inr q =>
    rw [hrd] at HRu
    go_wp2_with fail
    refine (HRu.out ()).mono ?_
    rintro e w3 ⟨rfl, hb⟩
    exact doorA rfl rfl rfl (HB0.out.2.below hb) fun W' hW' => ⟨by rw [hrd]; rfl, (HB0.out.1.trans (hb.mono hsz)).trans hW'⟩
  | inl rs =>
    have hx1 := HTx.out rs hrd
    rw [hrd] at HRu
    go_wp2_with fail
    refine (HRu.out ()).mono ?_
    rintro e w3 ⟨A, c, ns, hrs, rfl, ho, hb3⟩
    have hs3 := hb3.size
    have HGr : Hid (∀ _ : Unit, Calls Tryz.prog 39 #[.slice (some ⟨w3.heap.size, 0, none⟩) 1 1] (w3.alloc (.cells #[.int .i64 (plA E s.size 0), .string ⟨#[]⟩, .slice A ns.length c] 79)) fun e W' => GrV w0 (w3.alloc (.cells #[.int .i64 (plA E s.size 0), .string ⟨#[]⟩, .slice A ns.length c] 79)) [((0, ⟨#[]⟩, ns), .slice A ns.length c)] (szR E s.size rs) e W') := fun _ => by
      rw [hrs]
      refine grammarOf_all (ov := [((0, ⟨#[]⟩, ns), .slice A ns.length c)]) (own_pl1 hs3 ns _) ⟨fun x hx => by rw [List.mem_singleton.1 hx]; exact ho.alloc _, List.pairwise_singleton _ _⟩ ?_ ?_ (by simp)
      · intro x hx; rw [List.mem_singleton.1 hx]; exact (hx1 (0, ⟨#[]⟩, ns) (by rw [hrs]; exact List.mem_singleton.2 rfl)).1
      · intro x hx; rw [List.mem_singleton.1 hx]; exact (hx1 (0, ⟨#[]⟩, ns) (by rw [hrs]; exact List.mem_singleton.2 rfl)).2
    have HB3 := (show Hid (Below w0.heap.size w0 (w3.alloc (.cells #[.int .i64 (plA E s.size 0), .string ⟨#[]⟩, .slice A ns.length c] 79)) ∧ (w3.alloc (.cells #[.int .i64 (plA E s.size 0), .string ⟨#[]⟩, .slice A ns.length c] 79)).ownsRow w0.heap.size 51 7 (.slice A ns.length c) ns.length (T.ndc ns) ∧ rs = [(0, ⟨#[]⟩, ns)]) from ⟨hb3.alloc hs3 _, ho.alloc _, hrs⟩)
    clear ho hrs hb3 HRu HTx hx1
    generalize plA E s.size 0 = p0 at *
    cases hsr : szR E s.size rs with
    | some p =>
      rw [hsr] at HGr
      go_wp2_with fail
      refine (HGr.out ()).mono ?_
      rintro e w4 ⟨rfl, hb⟩
      have hb4 := HB3.out.1.trans (hb.mono HB3.out.1.size)
      exact doorA rfl rfl rfl (HB0.out.2.below hb4) fun W' hW' => ⟨by rw [hrd]; unfold fin; simp only [hsr]; rfl, (HB0.out.1.trans (hb4.mono hsz)).trans hW'⟩
    | none =>
      rw [hsr] at HGr
      go_wp2_with fail
      refine (HGr.out ()).mono ?_
      rintro e w4 ⟨gu, rfl, ho, hb⟩
      obtain ⟨g4, n4, rfl, _, hglt⟩ := ho.form (by simp)
      have hcl := ho.cells (g := g4) rfl
      have hb4 := HB3.out.1.trans (hb.mono HB3.out.1.size)
      have hcell : w4.cell? ⟨g4, 1, none⟩ = some (.slice A ns.length c) := by
        have := hcl 1 (.slice A ns.length c) rfl
        rwa [Addr.add_lit, Nat.zero_add] at this
      have HO := (show Hid ((w4.alloc (.cells #[.slice (some ⟨g4, 0, none⟩) 1 n4] 33)).ownsRow w0.heap.size 51 7 (.slice A ns.length c) ns.length (T.ndc ns) ∧ Below w0.heap.size w0 (w4.alloc (.cells #[.slice (some ⟨g4, 0, none⟩) 1 n4] 33)) ∧ FX (w4.alloc (.cells #[.slice (some ⟨g4, 0, none⟩) 1 n4] 33)) w.heap.size 0 0) from ⟨ownB (ownB HB3.out.2.1 hb) (below_box _ _), hb4.alloc hb4.size _, (HB0.out.2.below hb4).below (below_box _ _)⟩)
      have hcell2 := ((below_box w4 (.cells #[.slice (some ⟨g4, 0, none⟩) 1 n4] 33)).cell (p := ⟨g4, 1, none⟩) hglt).trans hcell
      have hg0 : (w4.alloc (.cells #[.slice (some ⟨g4, 0, none⟩) 1 n4] 33)).cell? ⟨w4.heap.size, 0, none⟩ = some (.slice (some ⟨g4, 0, none⟩) 1 n4) := (GX.mk (heap_alloc_new w4 _)).cl
      have hf4 := HB0.out.2.below hb4
      have d0 := hf4.c0
      have d1 := hf4.c1
      have e0 := hf4.f0
      have e1 := hf4.f1
      have d0' := HO.out.2.2.c0
      have d1' := HO.out.2.2.c1
      have e0' := HO.out.2.2.f0
      have e1' := HO.out.2.2.f1
      clear hcl ho hb hb4 HGr hcell hf4
      go_wp2_with fail
      exact doorB rfl rfl rfl (stF_fx HO.out.2.2 0 0) ⟨by rw [hrd]; unfold fin; simp only [hsr]; exact ⟨_, ns, by rw [HB3.out.2.2]; rfl, rfl, own_base (own_same HO.out.1 fun j hj => stF_other 0 0 (FX.ne2 HO.out.2.2 HO.out.1 (by decide) hj)) hsz⟩, stF_below (HB0.out.1.trans (HO.out.2.1.mono hsz)) (Nat.le_refl _) 0 0⟩
/-- Pattern, at any text. -/
theorem patt_any (s : ByteArray) (w : World) (hg : GW w) : Calls Tryz.prog 19 #[.string s] w fun e w' => PaV w w' (paR s) e ∧ Below w.heap.size w w' := by
  unfold paR
  cases hl : lexR (oneP s) s with
  | inr q => exact patt_lex s w hg q hl
  | inl l => exact patt_alone s w hg l hl
end Go.Proofs.YtnpifgcgjgddoaaGreatDoor.N

namespace Go.Proofs.YtnpifgcgjgddoaaGreatDoor.N
open Go.RowKit
theorem fx_eql (a b c d : Int) (W : World) : (binOp .eql 39 (.agg #[.int .i64 a, .int .i64 b]) (.agg #[.int .i64 c, .int .i64 d])).run Tryz.prog W = .ok (.bool (a == c && b == d)) W := by
  have h := eq26 a b c d W
  have e : Op.maxDepth = 10000 := rfl
  simp [binOp, Op.equal, e, h]
end Go.Proofs.YtnpifgcgjgddoaaGreatDoor.N

namespace Go.Proofs.YtnpifgcgjgddoaaGreatDoor.N
open Go.RowKit
open Go.Proofs.YtnpifgcgjgddoaaGreatDoor.T (RdN below_drewN node_neq ndE)
set_option maxRecDepth 100000 in
set_option maxHeartbeats 8000000 in
theorem sameq (A1 A2 : Option Addr) (c1 c2 : Nat) (L : List Nd) (hl : L.length ≤ 140737488355328) (w : World) (h1 : RdN w A1 L) (h2 : RdN w A2 L) :
    Calls Tryz.prog 20 #[.slice A1 L.length c1, .slice A2 L.length c2] w fun e w' => e = .returned (.bool true) ∧ ∃ m, w' = w.drewN m := by
  have H1 := (show Hid _ from h1)
  have H2 := (show Hid _ from h2)
  have HG := (show Hid (∀ k, k < L.length → ∃ m, L[k]? = some m ∧ L ≠ []) from fun k hk => ⟨_, List.getElem?_eq_getElem hk, by rintro rfl; simp at hk⟩)
  clear h1 h2
  go_enter Tryz.func20, Tryz.ntmps20
  go_wp2_with fail
  go_loopw [5] (fun t wr => ∃ k : Nat, k ≤ L.length ∧ t = .int .i64 k ∧ Hid (∃ m, wr = w.drewN m)) (fun t _ => L.length - (intOf t).toNat)
  case atStart => exact ⟨0, by omega, by go_num, ⟨0, rfl⟩⟩
  case round =>
    obtain ⟨k, hk, rfl, HW⟩ := hrel
    by_cases hlt : k < L.length
    · obtain ⟨n, hn1, nl⟩ := HG.out k hlt
      have hB : Below w.heap.size w wr := by obtain ⟨m, rfl⟩ := HW.out; exact below_drewN (Below.refl _ _) _
      obtain ⟨g1, o1, rfl, l1, q1⟩ := H1.out nl
      obtain ⟨g2, o2, rfl, l2, q2⟩ := H2.out nl
      obtain ⟨a0, a1, a2, a3, a4, a5, a6⟩ := (q1.same (hB.block g1 l1)) k n hn1
      obtain ⟨d0, d1, d2, d3, d4, d5, d6⟩ := (q2.same (hB.block g2 l2)) k n hn1
      have z0 : (0 : Int) ≤ (k : Int) := by omega
      have z1 : (k : Int) < (L.length : Int) := by omega
      clear HG H1 H2 q1 q2 nl hn1 hB
      have hneq := node_neq n n
      rw [T.ndE_refl] at hneq
      go_wp2_with fail
      go_quiet (fail)
      have HW2 := (show Hid (∃ m, wr.drewN nq = w.drewN m) from by obtain ⟨m, e⟩ := HW.out; exact ⟨m + nq, by rw [e, World.drewN_drewN]⟩)
      generalize wr.drewN nq = w2 at *
      clear hneq a0 a1 a2 a3 a4 a5 a6 d0 d1 d2 d3 d4 d5 d6 HW
      go_wp2_with fail
      go_roundw
      case rel => exact ⟨k + 1, by omega, by go_num, HW2⟩
      case measure => simp [intOf]; omega
    · obtain rfl : k = L.length := by omega
      clear HG H1 H2
      go_wp2_with fail
      go_ret
      exact ⟨rfl, HW.out⟩
end Go.Proofs.YtnpifgcgjgddoaaGreatDoor.N

namespace Go.Proofs.YtnpifgcgjgddoaaGreatDoor.N
open Go.RowKit
/-- A rule's line, without its line feed. -/
def lnI (g : ByteArray × List Nd) : List It := (if g.1.size = 0 then [] else [txI 1 g.1, none, sgI 6, none]) ++ shI g.2
def grT (gs : List (ByteArray × List Nd)) : List UInt8 := gs.flatMap fun g => itT (lnI g) ++ [10]
end Go.Proofs.YtnpifgcgjgddoaaGreatDoor.N
