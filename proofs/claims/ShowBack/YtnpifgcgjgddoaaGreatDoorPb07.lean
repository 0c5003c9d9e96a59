/- DERIVED. Plain mathematics and walks, laid together (7). -/
import Derived.Test.YtnpifgcgjgddoaaGreatDoorPb06
set_option maxRecDepth 100000
set_option maxHeartbeats 8000000
namespace Go.Proofs.YtnpifgcgjgddoaaGreatDoor.N
open Go.RowKit
def rW (E : PE) (i d : Nat) (c : Int) : PR := if 240 <= d then .inr (i, 4) else bnd (gN E 0 (i + 1) (d + 1)) fun a ms => if kdA E a = c then .inl (a + 1, ms) else .inr (a, 60)
def rA (E : PE) (i d : Nat) (op : Int) : PR := if 240 <= d then .inr (i, 4) else bnd (gN E 4 (i + 1) (d + 1)) fun a ns => .inl (a, ns ++ [nd0 op])
theorem zgm {E : PE} (hE : OkE E) {z : Nat} {w0 : World} {b : Nat} {tv : Value} {i d : Nat} (op : Int) (hlt : i < E.l.length) (HP0 : Ct 145 E z w0 b tv (i + 1) (d + 1) (gN E 4 (i + 1) (d + 1))) (W : World) (v : Value) (L : List Nd) (h : RS E z w0 W b tv i d v L) (hL : L.length <= 10027010 * i) :
  Calls Tryz.prog 162 #[.pointer (some ⟨b, 0, none⟩), .int .i64 op] W fun e W' => PoR E z w0 b tv d W v L (rA E i d op) e W' := by
 have hlen := hE.len
 have hz := hE.z
 have H := hO h
 have HE := hO hE
 unfold rA
 by_cases hd : 240 <= d
 ·rw [if_pos hd]
  have HN : Hid (∀ _ : Unit, Calls Tryz.prog 184 #[.pointer (some ⟨b, 0, none⟩)] W fun e W' => e = pnc (plA E z i) 4 /\ Below w0.heap.size w0 W') := fun _ => zh2 h hd
  clear h hd HP0 hE
  go_enter Tryz.func162, Tryz.ntmps162
  go_wp2_with fail
  refine (HN.out ()).mono ?_
  rintro e w1 ⟨rfl, hb⟩
  exact zac rfl ⟨rfl, hb⟩
 ·rw [if_neg hd]
  have HN : Hid (∀ _ : Unit, Calls Tryz.prog 184 #[.pointer (some ⟨b, 0, none⟩)] W fun e W' => e = .returned (.tuple #[]) /\ RS E z w0 W' b tv (i + 1) (d + 1) v L /\ Fr W W' b v v) := fun _ => zh1 h hlt hd hz
  have HP : Hid (∀ W1, RS E z w0 W1 b tv (i + 1) (d + 1) v L -> Calls Tryz.prog 145 #[.pointer (some ⟨b, 0, none⟩)] W1 fun e W' => PoR E z w0 b tv (d + 1) W1 v L (gN E 4 (i + 1) (d + 1)) e W') := fun W1 h1 => HP0 W1 v L h1 (by omega)
  cases hr : gN E 4 (i + 1) (d + 1) with
  | inr q =>
   rw [hr] at HP
   show Calls Tryz.prog 162 _ _ fun e W' => PoR E z w0 b tv d W v L (.inr q) e W'
   clear h hd HP0 hE hr
   go_enter Tryz.func162, Tryz.ntmps162
   go_wp2_with fail
   refine (HN.out ()).mono ?_
   rintro e w1 ⟨rfl, h1, hf1⟩
   have H1 := hO h1
   clear h1 hf1 HN
   go_wp2_with fail
   refine (HP.out _ H1.out).mono ?_
   rintro e w2 ⟨rfl, hb⟩
   exact zac rfl ⟨rfl, hb⟩
  | inl p =>
   obtain ⟨a, ns⟩ := p
   rw [hr] at HP
   show Calls Tryz.prog 162 _ _ fun e W' => PoR E z w0 b tv d W v L (.inl (a, ns ++ [nd0 op])) e W'
   have hadv := zdN (i := i + 1) (by omega) (by omega) hr
   have hln := (zdn HE.out.rl (i := i + 1) (by omega) (by omega) hr).1 (by omega)
   have hal := hadv.2.1
   have HLv : Hid (∀ W v, RS E z w0 W b tv a (d + 1) v (L ++ ns) -> Calls Tryz.prog 185 #[.pointer (some ⟨b, 0, none⟩)] W fun e W' => e = .returned (.tuple #[]) /\ RS E z w0 W' b tv a d v (L ++ ns) /\ Fr W W' b v v) := fun W v h => zgh h
   have HPu : Hid (∀ W v, RS E z w0 W b tv a d v (L ++ ns) -> Calls Tryz.prog 119 #[.pointer (some ⟨b, 0, none⟩), .slice (some ⟨W.heap.size, 0, none⟩) 1 1] (W.alloc (.cells #[.int .i64 op, .int .i64 0, .string ⟨#[]⟩, .int .u64 0, .int .u64 0, .int .u64 0, .int .u64 0] 51)) fun e W' => e = .returned (.tuple #[]) /\ ∃ v', RS E z w0 W' b tv a d v' ((L ++ ns) ++ [⟨op, 0, ⟨#[]⟩, 0, 0, 0, 0⟩]) /\ Fr W W' b v v') := fun W v h => zfD h ⟨op, 0, ⟨#[]⟩, 0, 0, 0, 0⟩ (by rw [List.length_append]; omega)
   clear h hd HP0 hE hr hadv hln
   go_enter Tryz.func162, Tryz.ntmps162
   go_wp2_with fail
   refine (HN.out ()).mono ?_
   rintro e w1 ⟨rfl, h1, hf1⟩
   have H1 := hO h1
   have HF1 : Hid (Fr W w1 b v v) := hf1
   clear h1 hf1 HN
   go_wp2_with fail
   refine (HP.out _ H1.out).mono ?_
   rintro e w2 ⟨rfl, v2, h2, hf2⟩
   have H2 := hO h2
   have HF2 : Hid (Fr W w2 b v v2) := HF1.out.trans hf2
   clear h2 hf2 HP H1 HF1
   go_wp2_with fail
   refine (HLv.out _ _ H2.out).mono ?_
   rintro e w3 ⟨rfl, h3, hf3⟩
   have H3 := hO h3
   have HF3 : Hid (Fr W w3 b v v2) := HF2.out.trans hf3
   clear h3 hf3 HLv H2 HF2
   go_wp2_with fail
   refine (HPu.out _ _ H3.out).mono ?_
   rintro e w4 ⟨rfl, v4, h4, hf4⟩
   rw [List.append_assoc] at h4
   have H4 : Hid (∃ v', RS E z w0 w4 b tv a d v' (L ++ (ns ++ [nd0 op])) /\ Fr W w4 b v v') := ⟨v4, h4, HF3.out.trans hf4⟩
   clear h4 hf4 HPu H3 HF3
   go_wp2_with fail
   go_end0
   exact ⟨rfl, H4.out⟩
theorem zcg {E : PE} (hE : OkE E) {z : Nat} {w0 : World} {b : Nat} {tv : Value} {i d : Nat} (c : Int) (hc : ¬ c = 0) (hlt : i < E.l.length) (HX0 : Ct 89 E z w0 b tv (i + 1) (d + 1) (gN E 0 (i + 1) (d + 1))) (W : World) (v : Value) (L : List Nd) (h : RS E z w0 W b tv i d v L) (hL : L.length <= 10027010 * i) :
  Calls Tryz.prog 201 #[.pointer (some ⟨b, 0, none⟩), .int .i64 c] W fun e W' => PoR E z w0 b tv d W v L (rW E i d c) e W' := by
 have hlen := hE.len
 have hz := hE.z
 have H := hO h
 have HE := hO hE
 unfold rW
 by_cases hd : 240 <= d
 ·rw [if_pos hd]
  have HN : Hid (∀ _ : Unit, Calls Tryz.prog 184 #[.pointer (some ⟨b, 0, none⟩)] W fun e W' => e = pnc (plA E z i) 4 /\ Below w0.heap.size w0 W') := fun _ => zh2 h hd
  clear h hd HX0 hE
  go_enter Tryz.func201, Tryz.ntmps201
  go_wp2_with fail
  refine (HN.out ()).mono ?_
  rintro e w1 ⟨rfl, hb⟩
  exact zac rfl ⟨rfl, hb⟩
 ·rw [if_neg hd]
  have HN : Hid (∀ _ : Unit, Calls Tryz.prog 184 #[.pointer (some ⟨b, 0, none⟩)] W fun e W' => e = .returned (.tuple #[]) /\ RS E z w0 W' b tv (i + 1) (d + 1) v L /\ Fr W W' b v v) := fun _ => zh1 h hlt hd hz
  have HP : Hid (∀ W1, RS E z w0 W1 b tv (i + 1) (d + 1) v L -> Calls Tryz.prog 89 #[.pointer (some ⟨b, 0, none⟩)] W1 fun e W' => PoR E z w0 b tv (d + 1) W1 v L (gN E 0 (i + 1) (d + 1)) e W') := fun W1 h1 => HX0 W1 v L h1 (by omega)
  cases hr : gN E 0 (i + 1) (d + 1) with
  | inr q =>
   rw [hr] at HP
   show Calls Tryz.prog 201 _ _ fun e W' => PoR E z w0 b tv d W v L (.inr q) e W'
   clear h hd HX0 hE hr hc
   go_enter Tryz.func201, Tryz.ntmps201
   go_wp2_with fail
   refine (HN.out ()).mono ?_
   rintro e w1 ⟨rfl, h1, hf1⟩
   have H1 := hO h1
   clear h1 hf1 HN
   go_wp2_with fail
   refine (HP.out _ H1.out).mono ?_
   rintro e w2 ⟨rfl, hb⟩
   exact zac rfl ⟨rfl, hb⟩
  | inl p =>
   obtain ⟨a, ns⟩ := p
   rw [hr] at HP
   have hadv := zdN (i := i + 1) (by omega) (by omega) hr
   have hal := hadv.2.1
   by_cases hk : kdA E a = c
   ·have hal2 := zbi (E := E) (i := a) (by omega)
    have HPs : Hid (∀ W v, RS E z w0 W b tv a (d + 1) v (L ++ ns) -> Calls Tryz.prog 90 #[.pointer (some ⟨b, 0, none⟩), .int .i64 c] W fun e W' => e = .returned (.tuple #[]) /\ RS E z w0 W' b tv (a + 1) (d + 1) v (L ++ ns) /\ Fr W W' b v v) := fun W v h => by
     have := zcp h hal2 hz
     rw [hk] at this
     exact this
    have HLv : Hid (∀ W v, RS E z w0 W b tv (a + 1) (d + 1) v (L ++ ns) -> Calls Tryz.prog 185 #[.pointer (some ⟨b, 0, none⟩)] W fun e W' => e = .returned (.tuple #[]) /\ RS E z w0 W' b tv (a + 1) d v (L ++ ns) /\ Fr W W' b v v) := fun W v h => zgh h
    have HV : Hid ((if kdA E a = c then (.inl (a + 1, ns) : PR) else .inr (a, 60)) = .inl (a + 1, ns)) := if_pos hk
    show Calls Tryz.prog 201 _ _ fun e W' => PoR E z w0 b tv d W v L (if kdA E a = c then .inl (a + 1, ns) else .inr (a, 60)) e W'
    rw [HV.out]
    clear h hd HX0 hE hr hadv hk HV hc
    go_enter Tryz.func201, Tryz.ntmps201
    go_wp2_with fail
    refine (HN.out ()).mono ?_
    rintro e w1 ⟨rfl, h1, hf1⟩
    have H1 := hO h1
    have HF1 : Hid (Fr W w1 b v v) := hf1
    clear h1 hf1 HN
    go_wp2_with fail
    refine (HP.out _ H1.out).mono ?_
    rintro e w2 ⟨rfl, v2, h2, hf2⟩
    have H2 := hO h2
    have HF2 : Hid (Fr W w2 b v v2) := HF1.out.trans hf2
    clear h2 hf2 HP H1 HF1
    go_wp2_with fail
    refine (HPs.out _ _ H2.out).mono ?_
    rintro e w3 ⟨rfl, h3, hf3⟩
    have H3 := hO h3
    have HF3 : Hid (Fr W w3 b v v2) := HF2.out.trans hf3
    clear h3 hf3 HPs H2 HF2
    go_wp2_with fail
    refine (HLv.out _ _ H3.out).mono ?_
    rintro e w4 ⟨rfl, h4, hf4⟩
    have H4 : Hid (∃ v', RS E z w0 w4 b tv (a + 1) d v' (L ++ ns) /\ Fr W w4 b v v') := ⟨v2, h4, HF3.out.trans hf4⟩
    clear h4 hf4 HLv H3 HF3
    go_wp2_with fail
    go_end0
    exact ⟨rfl, H4.out⟩
   ·have HPs : Hid (∀ W v, RS E z w0 W b tv a (d + 1) v (L ++ ns) -> Calls Tryz.prog 90 #[.pointer (some ⟨b, 0, none⟩), .int .i64 c] W fun e W' => e = pnc (plA E z a) 60 /\ Below w0.heap.size w0 W') := fun W v h => zj1 h c hk
    have HV : Hid ((if kdA E a = c then (.inl (a + 1, ns) : PR) else .inr (a, 60)) = .inr (a, 60)) := if_neg hk
    show Calls Tryz.prog 201 _ _ fun e W' => PoR E z w0 b tv d W v L (if kdA E a = c then .inl (a + 1, ns) else .inr (a, 60)) e W'
    rw [HV.out]
    clear h hd HX0 hE hr hadv hk HV hc
    go_enter Tryz.func201, Tryz.ntmps201
    go_wp2_with fail
    refine (HN.out ()).mono ?_
    rintro e w1 ⟨rfl, h1, hf1⟩
    have H1 := hO h1
    clear h1 hf1 HN
    go_wp2_with fail
    refine (HP.out _ H1.out).mono ?_
    rintro e w2 ⟨rfl, v2, h2, hf2⟩
    have H2 := hO h2
    clear h2 hf2 HP H1
    go_wp2_with fail
    refine (HPs.out _ _ H2.out).mono ?_
    rintro e w3 ⟨rfl, hb⟩
    exact zac rfl ⟨rfl, hb⟩
def gS (E : PE) (i d : Nat) : PR := if bgP E i = true then bnd (gN E 5 i d) fun a ns => ahd ns (gN E 6 a d) else .inr (i, 60)
theorem zkk {E : PE} (hE : OkE E) {z : Nat} {w0 : World} {b : Nat} {tv : Value} {i d : Nat} (HP0 : i < E.l.length -> Ct 145 E z w0 b tv (i + 1) (d + 1) (gN E 4 (i + 1) (d + 1))) (HS0 : Ct 163 E z w0 b tv i d (gS E i d)) : Ct 145 E z w0 b tv i d (gN E 4 i d) := by
 intro W v L h hL
 obtain ⟨t, ht, hk, _, _⟩ := zam E z h.hi
 have HH : Hid (∀ _ : Unit, Calls Tryz.prog 62 #[.pointer (some ⟨b, 0, none⟩)] W fun e W' => e = .returned (.agg #[.int .i64 t.kd, .int .i64 t.nn, .int .i64 t.fr, .int .i64 t.en, .string t.tx, .int .u64 t.s0, .int .u64 t.s1, .int .u64 t.s2, .int .u64 t.s3]) /\ Below W.heap.size W W') := fun _ => zaq h t ht
 have H := hO h
 have fl0 := zjz
 have HG := hO (g4 E i d h.hi)
 by_cases c8 : kdA E i = 8
 ·have hlt := zbi (E := E) (i := i) (by omega)
  have HA : Hid (∀ W1, RS E z w0 W1 b tv i d v L -> Calls Tryz.prog 162 #[.pointer (some ⟨b, 0, none⟩), .int .i64 12] W1 fun e W' => PoR E z w0 b tv d W1 v L (rA E i d 12) e W') := fun W1 h1 => zgm hE 12 hlt (HP0 hlt) W1 v L h1 hL
  have HV : Hid (gN E 4 i d = rA E i d 12) := by
   show gN E 4 i d = _
   rw [HG.out, if_pos (by unfold bgn; rw [c8]; rfl), if_pos (.inl c8), show (if kdA E i = 8 then (12 : Int) else 13) = 12 from if_pos c8]
   rfl
  rw [HV.out]
  generalize rA E i d 12 = r at *
  rw [hk.trans c8] at HH
  clear h ht hk c8 HG HV HP0 HS0 hE
  go_enter Tryz.func145, Tryz.ntmps145
  go_wp2_with fail
  refine (HH.out ()).mono ?_
  rintro e w1 ⟨rfl, hb⟩
  have H1 := hO (H.out.later hb)
  have HF1 : Hid (Fr W w1 b v v) := Fr.below b v hb
  clear hb HH H
  go_wp2_with fail
  refine (HA.out _ H1.out).mono ?_
  rintro e w2 hp
  cases r with
  | inr q =>
   obtain ⟨rfl, hb⟩ := hp
   exact zac rfl ⟨rfl, hb⟩
  | inl p =>
   obtain ⟨rfl, v2, h2, hf2⟩ := hp
   have H2 : Hid (∃ v', RS E z w0 w2 b tv p.1 d v' (L ++ p.2) /\ Fr W w2 b v v') := ⟨v2, h2, HF1.out.trans hf2⟩
   clear h2 hf2
   go_wp2_with fail
   go_end0
   exact ⟨rfl, H2.out⟩
 by_cases c9 : kdA E i = 9
 ·have hlt := zbi (E := E) (i := i) (by omega)
  have HA : Hid (∀ W1, RS E z w0 W1 b tv i d v L -> Calls Tryz.prog 162 #[.pointer (some ⟨b, 0, none⟩), .int .i64 13] W1 fun e W' => PoR E z w0 b tv d W1 v L (rA E i d 13) e W') := fun W1 h1 => zgm hE 13 hlt (HP0 hlt) W1 v L h1 hL
  have HV : Hid (gN E 4 i d = rA E i d 13) := by
   show gN E 4 i d = _
   rw [HG.out, if_pos (by unfold bgn; rw [c9]; rfl), if_pos (.inr c9), show (if kdA E i = 8 then (12 : Int) else 13) = 13 from if_neg c8]
   rfl
  rw [HV.out]
  generalize rA E i d 13 = r at *
  rw [hk.trans c9] at HH
  clear h ht hk c9 c8 HG HV HP0 HS0 hE
  go_enter Tryz.func145, Tryz.ntmps145
  go_wp2_with fail
  refine (HH.out ()).mono ?_
  rintro e w1 ⟨rfl, hb⟩
  have H1 := hO (H.out.later hb)
  have HF1 : Hid (Fr W w1 b v v) := Fr.below b v hb
  clear hb HH H
  go_wp2_with fail
  refine (HA.out _ H1.out).mono ?_
  rintro e w2 hp
  cases r with
  | inr q =>
   obtain ⟨rfl, hb⟩ := hp
   exact zac rfl ⟨rfl, hb⟩
  | inl p =>
   obtain ⟨rfl, v2, h2, hf2⟩ := hp
   have H2 : Hid (∃ v', RS E z w0 w2 b tv p.1 d v' (L ++ p.2) /\ Fr W w2 b v v') := ⟨v2, h2, HF1.out.trans hf2⟩
   clear h2 hf2
   go_wp2_with fail
   go_end0
   exact ⟨rfl, H2.out⟩
 have HS : Hid (∀ W1, RS E z w0 W1 b tv i d v L -> Calls Tryz.prog 163 #[.pointer (some ⟨b, 0, none⟩)] W1 fun e W' => PoR E z w0 b tv d W1 v L (gS E i d) e W') := fun W1 h1 => HS0 W1 v L h1 hL
 have HV : Hid (gN E 4 i d = gS E i d) := by
  show gN E 4 i d = _
  have hb : bgn E i = bgP E i := by rw [zj3, bF c8, bF c9]; rfl
  rw [HG.out, hb, if_neg (by omega : ¬ (kdA E i = 8 ∨ kdA E i = 9))]
  rfl
 rw [HV.out]
 have v8 : (t.kd == 8) = false := by rw [hk]; exact bF c8
 have v9 : (t.kd == 9) = false := by rw [hk]; exact bF c9
 generalize gS E i d = r at *
 clear h ht hk c8 c9 HG HV HP0 HS0 hE
 go_enter Tryz.func145, Tryz.ntmps145
 go_wp2_with fail
 refine (HH.out ()).mono ?_
 rintro e w1 ⟨rfl, hb⟩
 have H1 := hO (H.out.later hb)
 have HF1 : Hid (Fr W w1 b v v) := Fr.below b v hb
 clear hb HH H
 go_wp2_with fail
 refine (HS.out _ H1.out).mono ?_
 rintro e w2 hp
 cases r with
 | inr q =>
  obtain ⟨rfl, hb⟩ := hp
  exact zac rfl ⟨rfl, hb⟩
 | inl p =>
  obtain ⟨rfl, v2, h2, hf2⟩ := hp
  have H2 : Hid (∃ v', RS E z w0 w2 b tv p.1 d v' (L ++ p.2) /\ Fr W w2 b v v') := ⟨v2, h2, HF1.out.trans hf2⟩
  clear h2 hf2
  go_wp2_with fail
  go_end0
  exact ⟨rfl, H2.out⟩
theorem zeu {W W' : World} {k b : Nat} {t : Tk} {v v' : Value} (h : TX W k t) (hf : Fr W W' b v v') (hk : k ≠ b) (hv : v.ownBlock ≠ some k) : TX W' k t := h.same (hf.block k h.lt hk hv)
theorem RS.new {E : PE} {z : Nat} {w0 W : World} {b : Nat} {tv : Value} {i d : Nat} {v : Value} {L : List Nd} (h : RS E z w0 W b tv i d v L) : W.heap.size ≠ b /\ v.ownBlock ≠ some W.heap.size :=
 ⟨by have := h.x.lt; omega, fun e => by have := (h.o.lt _ e).2; omega⟩
theorem zgn {E : PE} {z : Nat} {w0 W : World} {b : Nat} {tv : Value} {i d : Nat} {v : Value} {L : List Nd} (h : RS E z w0 W b tv i d v L) (n : Nd) (q : Nat) (hq : W.heap.size = q) (hl : L.length + 1 <= 2000000000000) :
  Calls Tryz.prog 119 #[.pointer (some ⟨b, 0, none⟩), .slice (some ⟨q, 0, none⟩) 1 1] (W.alloc (.cells #[.int .i64 n.op, .int .i64 n.nn, .string n.tx, .int .u64 n.s0, .int .u64 n.s1, .int .u64 n.s2, .int .u64 n.s3] 51)) fun e W' => e = .returned (.tuple #[]) /\ ∃ v', RS E z w0 W' b tv i d v' (L ++ [n]) /\ Fr W W' b v v' := by
 subst hq
 exact zfD h n hl
def imR (E : PE) (j : Nat) : PR := if kdA E j = 2 then (if E.tm (tkA E j).tx then .inl (j + 1, [⟨22, 0, (tkA E j).tx, 0, 0, 0, 0⟩]) else .inr (j, 61)) else if kdA E j = 4 then (if 50 < (tkA E j).nn then .inr (j, 1) else .inl (j + 1, [⟨23, (tkA E j).nn, ⟨#[]⟩, 0, 0, 0, 0⟩])) else .inr (j, 60)
theorem g6_27 (E : PE) (a d : Nat) (ha : a <= E.l.length) (hk : kdA E a = 27) : gN E 6 a d = bnd (imR E (a + 1)) fun j ns => ahd ns (gN E 6 j d) := by
 rw [g6 E a d ha]
 unfold zdE zgT imR
 rw [hk, if_neg (by decide), if_neg (by decide), if_neg (by decide), if_neg (by decide), if_neg (by decide), if_neg (by decide), if_pos rfl]
 by_cases k2 : kdA E (a + 1) = 2
 ·rw [if_pos k2, if_pos k2]
  cases E.tm (tkA E (a + 1)).tx <;> rfl
 ·rw [if_neg k2, if_neg k2]
  by_cases k4 : kdA E (a + 1) = 4
  ·rw [if_pos k4, if_pos k4]
   by_cases h50 : 50 < (tkA E (a + 1)).nn
   ·rw [if_pos h50, if_pos h50]; rfl
   ·rw [if_neg h50, if_neg h50]; rfl
  ·rw [if_neg k4, if_neg k4]; rfl
theorem g6_sf (E : PE) (a d : Nat) (ha : a <= E.l.length) (hs : sfB (kdA E a) = true) (h0 : kdA E a = 10 ∨ kdA E a = 11 ∨ kdA E a = 12 -> (tkA E a).nn = 0) : gN E 6 a d = ahd [⟨sfO (kdA E a), (tkA E a).nn, ⟨#[]⟩, 0, 0, 0, 0⟩] (gN E 6 (a + 1) d) := by
 rw [g6 E a d ha]
 have key : zdE E a = .inl (⟨sfO (kdA E a), (tkA E a).nn, ⟨#[]⟩, 0, 0, 0, 0⟩, 1) := by
  unfold zdE zgT
  unfold sfB at hs
  simp only [Bool.or_eq_true, beq_iff_eq] at hs
  rcases hs with ((((h | h) | h) | h) | h) | h
  ·rw [h, h0 (.inl h)]; rfl
  ·rw [h, h0 (.inr (.inl h))]; rfl
  ·rw [h, h0 (.inr (.inr h))]; rfl
  ·rw [h]; rfl
  ·rw [h]; rfl
  ·rw [h]; rfl
 rw [key]
theorem g6_no (E : PE) (a d : Nat) (ha : a <= E.l.length) (hs : sfB (kdA E a) = false) (hk : ¬ kdA E a = 27) : gN E 6 a d = .inl (a, []) := by
 rw [g6 E a d ha]
 have key : zdE E a = .inr none := by
  unfold zdE zgT
  unfold sfB at hs
  simp only [Bool.or_eq_false_iff, beq_eq_false_iff_ne] at hs
  obtain ⟨⟨⟨⟨⟨h1, h2⟩, h3⟩, h4⟩, h5⟩, h6⟩ := hs
  rw [if_neg h1, if_neg h2, if_neg h3, if_neg h4, if_neg h5, if_neg h6, if_neg hk]
 rw [key]
theorem zkl {E : PE} (hE : OkE E) {z : Nat} {w0 : World} {b : Nat} {tv : Value} {i d : Nat} : Ct 187 E z w0 b tv i d (imR E i) := by
 intro W v L h hL
 have hlen := hE.len
 have hz := hE.z
 have hi := h.hi
 obtain ⟨t, ht, hk, hpl, hta⟩ := zam E z h.hi
 clear hpl
 have HH : Hid (∀ _ : Unit, Calls Tryz.prog 62 #[.pointer (some ⟨b, 0, none⟩)] W fun e W' => e = .returned (.agg #[.int .i64 t.kd, .int .i64 t.nn, .int .i64 t.fr, .int .i64 t.en, .string t.tx, .int .u64 t.s0, .int .u64 t.s1, .int .u64 t.s2, .int .u64 t.s3]) /\ Below W.heap.size W W') := fun _ => zaq h t ht
 have H := hO h
 unfold imR
 by_cases k2 : kdA E i = 2
 ·have hlt := zbi (E := E) (i := i) (by omega)
  obtain rfl : t = tkA E i := hta hlt
  have hmem : tkA E i ∈ E.l := by unfold tkA; rw [List.getElem?_eq_getElem hlt]; exact List.getElem_mem hlt
  have htx := hE.tx _ hmem
  have HTm : Hid (∀ W, Calls Tryz.prog 204 #[.string (tkA E i).tx] W fun e W' => e = .returned (.bool (T.tmB (tkA E i).tx)) /\ Below W.heap.size W W') := fun W => zkf _ (by omega) W
  have hnot : ∀ (x : Bool) (w : World), (Op.unary .not (.bool x)).run Tryz.prog w = .ok (.bool (!x)) w := fun _ _ => rfl
  rw [if_pos k2, hE.tm]
  rw [hk.trans k2] at HH
  have hk2 := hk.trans k2
  generalize tkA E i = t at *
  cases htm : T.tmB t.tx with
  | true =>
   rw [htm] at HTm
   have HPs : Hid (∀ W v, RS E z w0 W b tv i d v (L ++ [⟨22, 0, t.tx, 0, 0, 0, 0⟩]) -> Calls Tryz.prog 90 #[.pointer (some ⟨b, 0, none⟩), .int .i64 2] W fun e W' => e = .returned (.tuple #[]) /\ RS E z w0 W' b tv (i + 1) d v (L ++ [⟨22, 0, t.tx, 0, 0, 0, 0⟩]) /\ Fr W W' b v v) := fun W v h => by
    have := zcp h hlt hz
    rw [k2] at this
    exact this
   have HPu : Hid (∀ W v q, W.heap.size = q -> RS E z w0 W b tv i d v L -> Calls Tryz.prog 119 #[.pointer (some ⟨b, 0, none⟩), .slice (some ⟨q, 0, none⟩) 1 1] (W.alloc (.cells #[.int .i64 22, .int .i64 0, .string t.tx, .int .u64 0, .int .u64 0, .int .u64 0, .int .u64 0] 51)) fun e W' => e = .returned (.tuple #[]) /\ ∃ v', RS E z w0 W' b tv i d v' (L ++ [⟨22, 0, t.tx, 0, 0, 0, 0⟩]) /\ Fr W W' b v v') := fun W v q hq h => zgn h ⟨22, 0, t.tx, 0, 0, 0, 0⟩ q hq (by omega)
   show Calls Tryz.prog 187 _ _ fun e W' => PoR E z w0 b tv d W v L (.inl (i + 1, [⟨22, 0, t.tx, 0, 0, 0, 0⟩])) e W'
   clear h ht hk k2 hta hmem htx htm hk2
   go_enter Tryz.func187, Tryz.ntmps187
   go_wp2_with fail
   refine (HH.out ()).mono ?_
   rintro e w1 ⟨rfl, hb⟩
   have H1 : Hid (RS E z w0 (w1.alloc (.cells #[.int .i64 2, .int .i64 t.nn, .int .i64 t.fr, .int .i64 t.en, .string t.tx, .int .u64 t.s0, .int .u64 t.s1, .int .u64 t.s2, .int .u64 t.s3] 115)) b tv i d v L) := (H.out.later hb).later (zaa _ _)
   have HF1 : Hid (Fr W (w1.alloc (.cells #[.int .i64 2, .int .i64 t.nn, .int .i64 t.fr, .int .i64 t.en, .string t.tx, .int .u64 t.s0, .int .u64 t.s1, .int .u64 t.s2, .int .u64 t.s3] 115)) b v v) := (Fr.below b v hb).trans (Fr.below b v (zaa _ _))
   have HT1 : Hid (TX (w1.alloc (.cells #[.int .i64 2, .int .i64 t.nn, .int .i64 t.fr, .int .i64 t.en, .string t.tx, .int .u64 t.s0, .int .u64 t.s1, .int .u64 t.s2, .int .u64 t.s3] 115)) w1.heap.size ⟨2, t.nn, t.fr, t.en, t.tx, t.s0, t.s1, t.s2, t.s3⟩) := ⟨heap_alloc_new w1 _⟩
   have HN1 : Hid (w1.heap.size ≠ b /\ v.ownBlock ≠ some w1.heap.size) := (H.out.later hb).new
   clear hb HH H
   go_wp2_with fail
   refine (HTm.out _).mono ?_
   rintro e w2 ⟨rfl, hb⟩
   have H2 := hO (H1.out.later hb)
   have HF2 : Hid (Fr W w2 b v v) := HF1.out.trans (Fr.below b v hb)
   have HT2 := hO (HT1.out.below hb)
   clear hb H1 HF1 HT1 HTm
   obtain ⟨c0, c1, c2, c3, c4, c5, c6, c7, c8⟩ := HT2.out.cells
   go_wp2_with fail
   refine (HPu.out _ _ _ rfl H2.out).mono ?_
   rintro e w3 ⟨rfl, v3, h3, hf3⟩
   have H3 := hO h3
   have HF3 : Hid (Fr W w3 b v v3) := HF2.out.trans hf3
   have HT3 := hO (zeu HT2.out hf3 HN1.out.1 HN1.out.2)
   clear h3 hf3 H2 HF2 HT2 HPu c0 c1 c2 c3 c4 c5 c6 c7 c8
   obtain ⟨c0, c1, c2, c3, c4, c5, c6, c7, c8⟩ := HT3.out.cells
   go_wp2_with fail
   refine (HPs.out _ _ H3.out).mono ?_
   rintro e w4 ⟨rfl, h4, hf4⟩
   have H4 : Hid (∃ v', RS E z w0 w4 b tv (i + 1) d v' (L ++ [⟨22, 0, t.tx, 0, 0, 0, 0⟩]) /\ Fr W w4 b v v') := ⟨v3, h4, HF3.out.trans hf4⟩
   clear h4 hf4 H3 HF3 HT3 HPs c0 c1 c2 c3 c4 c5 c6 c7 c8
   go_wp2_with fail
   go_end0
   exact ⟨rfl, H4.out⟩
  | false =>
   rw [htm] at HTm
   have HRf : Hid (∀ W, RS E z w0 W b tv i d v L -> Calls Tryz.prog 64 #[.pointer (some ⟨b, 0, none⟩), .int .i64 61] W fun e W' => e = pnc (plA E z i) 61 /\ Below W.heap.size W W') := fun W h => zbx h 61
   show Calls Tryz.prog 187 _ _ fun e W' => PoR E z w0 b tv d W v L (.inr (i, 61)) e W'
   clear h ht hk k2 hta hmem htx htm hk2
   go_enter Tryz.func187, Tryz.ntmps187
   go_wp2_with fail
   refine (HH.out ()).mono ?_
   rintro e w1 ⟨rfl, hb⟩
   have H1 : Hid (RS E z w0 (w1.alloc (.cells #[.int .i64 2, .int .i64 t.nn, .int .i64 t.fr, .int .i64 t.en, .string t.tx, .int .u64 t.s0, .int .u64 t.s1, .int .u64 t.s2, .int .u64 t.s3] 115)) b tv i d v L) := (H.out.later hb).later (zaa _ _)
   have HF1 : Hid (Fr W (w1.alloc (.cells #[.int .i64 2, .int .i64 t.nn, .int .i64 t.fr, .int .i64 t.en, .string t.tx, .int .u64 t.s0, .int .u64 t.s1, .int .u64 t.s2, .int .u64 t.s3] 115)) b v v) := (Fr.below b v hb).trans (Fr.below b v (zaa _ _))
   have HT1 : Hid (TX (w1.alloc (.cells #[.int .i64 2, .int .i64 t.nn, .int .i64 t.fr, .int .i64 t.en, .string t.tx, .int .u64 t.s0, .int .u64 t.s1, .int .u64 t.s2, .int .u64 t.s3] 115)) w1.heap.size ⟨2, t.nn, t.fr, t.en, t.tx, t.s0, t.s1, t.s2, t.s3⟩) := ⟨heap_alloc_new w1 _⟩
   have HN1 : Hid (w1.heap.size ≠ b /\ v.ownBlock ≠ some w1.heap.size) := (H.out.later hb).new
   clear hb HH H
   go_wp2_with fail
   refine (HTm.out _).mono ?_
   rintro e w2 ⟨rfl, hb⟩
   have H2 := hO (H1.out.later hb)
   clear hb H1 HF1 HT1 HTm
   go_wp2_with fail
   refine (HRf.out _ H2.out).mono ?_
   rintro e w3 ⟨rfl, hb⟩
   exact zac rfl ⟨rfl, H2.out.bl.trans (hb.mono H2.out.bl.size)⟩
 rw [if_neg k2]
 by_cases k4 : kdA E i = 4
 ·have hlt := zbi (E := E) (i := i) (by omega)
  obtain rfl : t = tkA E i := hta hlt
  rw [if_pos k4]
  rw [hk.trans k4] at HH
  have hk2 := hk.trans k4
  generalize tkA E i = t at *
  by_cases h50 : 50 < t.nn
  ·have HRf : Hid (∀ W, RS E z w0 W b tv i d v L -> Calls Tryz.prog 64 #[.pointer (some ⟨b, 0, none⟩), .int .i64 1] W fun e W' => e = pnc (plA E z i) 1 /\ Below W.heap.size W W') := fun W h => zbx h 1
   rw [if_pos h50]
   clear h ht hk k2 hta k4 hk2
   go_enter Tryz.func187, Tryz.ntmps187
   go_wp2_with fail
   refine (HH.out ()).mono ?_
   rintro e w1 ⟨rfl, hb⟩
   have H1 : Hid (RS E z w0 (w1.alloc (.cells #[.int .i64 4, .int .i64 t.nn, .int .i64 t.fr, .int .i64 t.en, .string t.tx, .int .u64 t.s0, .int .u64 t.s1, .int .u64 t.s2, .int .u64 t.s3] 115)) b tv i d v L) := (H.out.later hb).later (zaa _ _)
   have HF1 : Hid (Fr W (w1.alloc (.cells #[.int .i64 4, .int .i64 t.nn, .int .i64 t.fr, .int .i64 t.en, .string t.tx, .int .u64 t.s0, .int .u64 t.s1, .int .u64 t.s2, .int .u64 t.s3] 115)) b v v) := (Fr.below b v hb).trans (Fr.below b v (zaa _ _))
   have HT1 : Hid (TX (w1.alloc (.cells #[.int .i64 4, .int .i64 t.nn, .int .i64 t.fr, .int .i64 t.en, .string t.tx, .int .u64 t.s0, .int .u64 t.s1, .int .u64 t.s2, .int .u64 t.s3] 115)) w1.heap.size ⟨4, t.nn, t.fr, t.en, t.tx, t.s0, t.s1, t.s2, t.s3⟩) := ⟨heap_alloc_new w1 _⟩
   have HN1 : Hid (w1.heap.size ≠ b /\ v.ownBlock ≠ some w1.heap.size) := (H.out.later hb).new
   clear hb HH H
   go_wp2_with fail
   refine (HRf.out _ H1.out).mono ?_
   rintro e w3 ⟨rfl, hb⟩
   exact zac rfl ⟨rfl, H1.out.bl.trans (hb.mono H1.out.bl.size)⟩
  ·have HPs : Hid (∀ W v, RS E z w0 W b tv i d v (L ++ [⟨23, t.nn, ⟨#[]⟩, 0, 0, 0, 0⟩]) -> Calls Tryz.prog 90 #[.pointer (some ⟨b, 0, none⟩), .int .i64 4] W fun e W' => e = .returned (.tuple #[]) /\ RS E z w0 W' b tv (i + 1) d v (L ++ [⟨23, t.nn, ⟨#[]⟩, 0, 0, 0, 0⟩]) /\ Fr W W' b v v) := fun W v h => by
    have := zcp h hlt hz
    rw [k4] at this
    exact this
   have HPu : Hid (∀ W v q, W.heap.size = q -> RS E z w0 W b tv i d v L -> Calls Tryz.prog 119 #[.pointer (some ⟨b, 0, none⟩), .slice (some ⟨q, 0, none⟩) 1 1] (W.alloc (.cells #[.int .i64 23, .int .i64 t.nn, .string ⟨#[]⟩, .int .u64 0, .int .u64 0, .int .u64 0, .int .u64 0] 51)) fun e W' => e = .returned (.tuple #[]) /\ ∃ v', RS E z w0 W' b tv i d v' (L ++ [⟨23, t.nn, ⟨#[]⟩, 0, 0, 0, 0⟩]) /\ Fr W W' b v v') := fun W v q hq h => zgn h ⟨23, t.nn, ⟨#[]⟩, 0, 0, 0, 0⟩ q hq (by omega)
   rw [if_neg h50]
   clear h ht hk k2 hta k4 hk2
   go_enter Tryz.func187, Tryz.ntmps187
   go_wp2_with fail
   refine (HH.out ()).mono ?_
   rintro e w1 ⟨rfl, hb⟩
   have H1 : Hid (RS E z w0 (w1.alloc (.cells #[.int .i64 4, .int .i64 t.nn, .int .i64 t.fr, .int .i64 t.en, .string t.tx, .int .u64 t.s0, .int .u64 t.s1, .int .u64 t.s2, .int .u64 t.s3] 115)) b tv i d v L) := (H.out.later hb).later (zaa _ _)
   have HF1 : Hid (Fr W (w1.alloc (.cells #[.int .i64 4, .int .i64 t.nn, .int .i64 t.fr, .int .i64 t.en, .string t.tx, .int .u64 t.s0, .int .u64 t.s1, .int .u64 t.s2, .int .u64 t.s3] 115)) b v v) := (Fr.below b v hb).trans (Fr.below b v (zaa _ _))
   have HT1 : Hid (TX (w1.alloc (.cells #[.int .i64 4, .int .i64 t.nn, .int .i64 t.fr, .int .i64 t.en, .string t.tx, .int .u64 t.s0, .int .u64 t.s1, .int .u64 t.s2, .int .u64 t.s3] 115)) w1.heap.size ⟨4, t.nn, t.fr, t.en, t.tx, t.s0, t.s1, t.s2, t.s3⟩) := ⟨heap_alloc_new w1 _⟩
   have HN1 : Hid (w1.heap.size ≠ b /\ v.ownBlock ≠ some w1.heap.size) := (H.out.later hb).new
   clear hb HH H
   go_wp2_with fail
   refine (HPu.out _ _ _ (World.size_alloc _ _) H1.out).mono ?_
   rintro e w3 ⟨rfl, v3, h3, hf3⟩
   have H3 := hO h3
   have HF3 : Hid (Fr W w3 b v v3) := HF1.out.trans hf3
   have HT3 := hO (zeu HT1.out hf3 HN1.out.1 HN1.out.2)
   clear h3 hf3 H1 HF1 HT1 HPu
   obtain ⟨c0, c1, c2, c3, c4, c5, c6, c7, c8⟩ := HT3.out.cells
   go_wp2_with fail
   refine (HPs.out _ _ H3.out).mono ?_
   rintro e w4 ⟨rfl, h4, hf4⟩
   have H4 : Hid (∃ v', RS E z w0 w4 b tv (i + 1) d v' (L ++ [⟨23, t.nn, ⟨#[]⟩, 0, 0, 0, 0⟩]) /\ Fr W w4 b v v') := ⟨v3, h4, HF3.out.trans hf4⟩
   clear h4 hf4 H3 HF3 HT3 HPs c0 c1 c2 c3 c4 c5 c6 c7 c8
   go_wp2_with fail
   go_end0
   exact ⟨rfl, H4.out⟩
 ·have HRf : Hid (∀ W, RS E z w0 W b tv i d v L -> Calls Tryz.prog 64 #[.pointer (some ⟨b, 0, none⟩), .int .i64 60] W fun e W' => e = pnc (plA E z i) 60 /\ Below W.heap.size W W') := fun W h => zbx h 60
  rw [if_neg k4]
  have v2 : (t.kd == 2) = false := by rw [hk]; exact bF k2
  have v4 : (t.kd == 4) = false := by rw [hk]; exact bF k4
  clear h ht hk k2 hta k4
  go_enter Tryz.func187, Tryz.ntmps187
  go_wp2_with fail
  refine (HH.out ()).mono ?_
  rintro e w1 ⟨rfl, hb⟩
  have H1 : Hid (RS E z w0 (w1.alloc (.cells #[.int .i64 t.kd, .int .i64 t.nn, .int .i64 t.fr, .int .i64 t.en, .string t.tx, .int .u64 t.s0, .int .u64 t.s1, .int .u64 t.s2, .int .u64 t.s3] 115)) b tv i d v L) := (H.out.later hb).later (zaa _ _)
  have HF1 : Hid (Fr W (w1.alloc (.cells #[.int .i64 t.kd, .int .i64 t.nn, .int .i64 t.fr, .int .i64 t.en, .string t.tx, .int .u64 t.s0, .int .u64 t.s1, .int .u64 t.s2, .int .u64 t.s3] 115)) b v v) := (Fr.below b v hb).trans (Fr.below b v (zaa _ _))
  have HT1 : Hid (TX (w1.alloc (.cells #[.int .i64 t.kd, .int .i64 t.nn, .int .i64 t.fr, .int .i64 t.en, .string t.tx, .int .u64 t.s0, .int .u64 t.s1, .int .u64 t.s2, .int .u64 t.s3] 115)) w1.heap.size t) := ⟨heap_alloc_new w1 _⟩
  have HN1 : Hid (w1.heap.size ≠ b /\ v.ownBlock ≠ some w1.heap.size) := (H.out.later hb).new
  clear hb HH H
  go_wp2_with fail
  refine (HRf.out _ H1.out).mono ?_
  rintro e w3 ⟨rfl, hb⟩
  exact zac rfl ⟨rfl, H1.out.bl.trans (hb.mono H1.out.bl.size)⟩
def gP (E : PE) (i d : Nat) : PR := if bgP E i = true then gN E 5 i d else .inr (i, 60)
theorem gS_eq (E : PE) (i d : Nat) : gS E i d = bnd (gP E i d) fun a ns => ahd ns (gN E 6 a d) := by
 unfold gS gP
 split <;> rfl
theorem zoa {E : PE} {i : Nat} (h : bgP E i = true) : i < E.l.length := zcz (by rw [zj3, h]; simp)
theorem zkm {E : PE} (hE : OkE E) {z : Nat} {w0 : World} {b : Nat} {tv : Value} {i d : Nat} (HP0 : Ct 186 E z w0 b tv i d (gP E i d)) : Ct 163 E z w0 b tv i d (gS E i d) := by
 intro W v L h hL
 have hi := h.hi
 have hlen := hE.len
 have hz := hE.z
 have HE := hO hE
 have HC : Hid (∀ _ : Unit, Calls Tryz.prog 186 #[.pointer (some ⟨b, 0, none⟩)] W fun e W' => PoR E z w0 b tv d W v L (gP E i d) e W') := fun _ => HP0 W v L h hL
 have HG := hO (gS_eq E i d)
 have HB := (show Hid (∀ a ns, gP E i d = .inl (a, ns) -> i < a /\ a <= E.l.length /\ ns.length <= 10027010 * (a - i)) from fun a ns hr => by
  unfold gP at hr
  split at hr
  ·next hb =>
   have hlt := zoa hb
   have h1 := zdN hi (fun _ => hlt) hr
   have h2 := zdn hE.rl hi (fun _ => hlt) hr
   exact ⟨h1.2.2 (by omega), h1.2.1, h2.2⟩
  ·cases hr)
 clear h hE HP0
 cases hr : gP E i d with
 | inr q =>
  rw [hr] at HC HG
  have HV : Hid (gS E i d = .inr q) := HG.out
  rw [HV.out]
  clear HG hr HB
  go_enter Tryz.func163, Tryz.ntmps163
  go_wp2_with fail
  refine (HC.out ()).mono ?_
  rintro e w1 ⟨rfl, hb⟩
  exact zac rfl ⟨rfl, hb⟩
 | inl p =>
  obtain ⟨a, ns⟩ := p
  obtain ⟨hia, hal, hlenN⟩ := HB.out a ns hr
  rw [hr] at HC HG
  have HV : Hid (gS E i d = ahd ns (gN E 6 a d)) := HG.out
  generalize gS E i d = R0 at *
  clear HG hr HB
  go_enter Tryz.func163, Tryz.ntmps163
  go_wp2_with fail
  refine (HC.out ()).mono ?_
  rintro e w1 ⟨rfl, v1, h1, hf1⟩
  have H1 := hO h1
  have HF1 : Hid (Fr W w1 b v v1) := hf1
  obtain ⟨v0, hv0⟩ : ∃ u, u = v := ⟨_, rfl⟩
  rw [<- hv0] at HF1
  clear HC h1 hf1
  go_wp2_with fail
  go_loopw [7] (fun _ wr => ∃ (a : Nat) (v : Value) (M : List Nd), i < a /\ a <= E.l.length /\ (L ++ M).length <= 10027010 * a /\ Hid (RS E z w0 wr b tv a d v (L ++ M)) /\ Hid (Fr W wr b v0 v) /\ Hid (R0 = ahd M (gN E 6 a d))) (fun _ wr => E.l.length - nxt b wr)
  case atStart => exact ⟨a, v1, ns, hia, hal, by rw [List.length_append]; omega, H1, HF1, HV⟩
  case round =>
   obtain ⟨a, v, M, ha1, ha2, hlm, HW, HFW, HR⟩ := hrel
   clear H1 HF1 HV hia hal hlenN
   obtain ⟨t, ht, hk, hpl, hta⟩ := zam E z ha2
   clear hpl
   have HH : Hid (∀ _ : Unit, Calls Tryz.prog 62 #[.pointer (some ⟨b, 0, none⟩)] wr fun e W' => e = .returned (.agg #[.int .i64 t.kd, .int .i64 t.nn, .int .i64 t.fr, .int .i64 t.en, .string t.tx, .int .u64 t.s0, .int .u64 t.s1, .int .u64 t.s2, .int .u64 t.s3]) /\ Below wr.heap.size wr W') := fun _ => zaq HW.out t ht
   by_cases k27 : kdA E a = 27
   ·have hlt := zbi (E := E) (i := a) (by omega)
    have HV : Hid (R0 = ahd M (bnd (imR E (a + 1)) fun j ns => ahd ns (gN E 6 j d))) := by
     show R0 = _
     rw [HR.out, g6_27 E a d ha2 k27]
    have HI : Hid (∀ W v, RS E z w0 W b tv (a + 1) d v (L ++ M) -> Calls Tryz.prog 187 #[.pointer (some ⟨b, 0, none⟩)] W fun e W' => PoR E z w0 b tv d W v (L ++ M) (imR E (a + 1)) e W') := fun W v h => zkl HE.out W v _ h (by omega)
    have HPs : Hid (∀ W v, RS E z w0 W b tv a d v (L ++ M) -> Calls Tryz.prog 90 #[.pointer (some ⟨b, 0, none⟩), .int .i64 27] W fun e W' => e = .returned (.tuple #[]) /\ RS E z w0 W' b tv (a + 1) d v (L ++ M) /\ Fr W W' b v v) := fun W v h => by
     have := zcp h hlt hz
     rw [k27] at this
     exact this
    have HJ := (show Hid (∀ j ns, imR E (a + 1) = .inl (j, ns) -> j = a + 2 /\ j <= E.l.length /\ ns.length = 1) from fun j ns hj => by
     unfold imR at hj
     split at hj
     ·next k2 =>
      have := zbi (E := E) (i := a + 1) (by omega)
      split at hj
      ·cases hj; exact ⟨rfl, by omega, rfl⟩
      ·cases hj
     ·split at hj
      ·next k4 =>
       have := zbi (E := E) (i := a + 1) (by omega)
       split at hj
       ·cases hj
       ·cases hj; exact ⟨rfl, by omega, rfl⟩
      ·cases hj)
    rw [hk.trans k27] at HH
    clear HR k27 ht hk hta
    go_wp2_with fail
    refine (HH.out ()).mono ?_
    rintro e w1 ⟨rfl, hb⟩
    have H1 : Hid (RS E z w0 (w1.alloc (.cells #[.int .i64 27, .int .i64 t.nn, .int .i64 t.fr, .int .i64 t.en, .string t.tx, .int .u64 t.s0, .int .u64 t.s1, .int .u64 t.s2, .int .u64 t.s3] 115)) b tv a d v (L ++ M)) := (HW.out.later hb).later (zaa _ _)
    have HF1 : Hid (Fr W (w1.alloc (.cells #[.int .i64 27, .int .i64 t.nn, .int .i64 t.fr, .int .i64 t.en, .string t.tx, .int .u64 t.s0, .int .u64 t.s1, .int .u64 t.s2, .int .u64 t.s3] 115)) b v0 v) := HFW.out.trans ((Fr.below b v hb).trans (Fr.below b v (zaa _ _)))
    have HNx : Hid (nxt b wr = a) := HW.out.nx
    clear hb HH HW HFW
    go_wp2_with fail
    refine (HPs.out _ _ H1.out).mono ?_
    rintro e w2 ⟨rfl, h2, hf2⟩
    have H2 := hO h2
    have HF2 : Hid (Fr W w2 b v0 v) := HF1.out.trans hf2
    clear h2 hf2 H1 HF1 HPs
    go_wp2_with fail
    refine (HI.out _ _ H2.out).mono ?_
    rintro e w3 hp
    cases hr : imR E (a + 1) with
    | inr q =>
     rw [hr] at hp HV
     obtain ⟨rfl, hb⟩ := hp
     exact zac (P := Tryz.prog) (fn := Tryz.f163) rfl (by subst hv0; show PoR E z w0 b tv d W _ L R0 _ _; rw [HV.out]; exact ⟨rfl, hb⟩)
    | inl p =>
     obtain ⟨j, ns2⟩ := p
     obtain ⟨hj1, hj2, hj3⟩ := HJ.out j ns2 hr
     rw [hr] at hp HV
     obtain ⟨rfl, v3, h3, hf3⟩ := hp
     have H3 : Hid (RS E z w0 w3 b tv j d v3 (L ++ (M ++ ns2))) := by rw [<- List.append_assoc]; exact h3
     have HF3 : Hid (Fr W w3 b v0 v3) := HF2.out.trans hf3
     have HV3 : Hid (R0 = ahd (M ++ ns2) (gN E 6 j d)) := by
      show R0 = _
      rw [HV.out, <- zc5]
      rfl
     clear h3 hf3 H2 HF2 HI HV HJ hr
     go_wp2_with fail
     go_roundw
     case rel => exact ⟨j, v3, _, by omega, hj2, by rw [<- List.append_assoc, List.length_append]; omega, H3, HF3, HV3⟩
     case measure => rw [HNx.out, H3.out.nx]; omega
   ·have HSf : Hid (∀ W, Calls Tryz.prog 188 #[.int .i64 t.kd] W fun e W' => e = .returned (.tuple #[.int .i64 (sfO t.kd), .bool (sfB t.kd)]) /\ W' = W) := fun W => zgi t.kd W
    have hnot : ∀ (x : Bool) (w : World), (Op.unary .not (.bool x)).run Tryz.prog w = .ok (.bool (!x)) w := fun _ _ => rfl
    have v27 : (t.kd == 27) = false := by rw [hk]; exact bF k27
    cases hs : sfB t.kd with
    | false =>
     have HV : Hid (R0 = .inl (a, M)) := by
      show R0 = _
      rw [HR.out, g6_no E a d ha2 (by rw [<- hk]; exact hs) k27]
      show Sum.inl (a, M ++ []) = _
      rw [List.append_nil]
     rw [hs] at HSf
     clear HR k27 ht hk hta hs
     go_wp2_with fail
     refine (HH.out ()).mono ?_
     rintro e w1 ⟨rfl, hb⟩
     have H1 : Hid (RS E z w0 (w1.alloc (.cells #[.int .i64 t.kd, .int .i64 t.nn, .int .i64 t.fr, .int .i64 t.en, .string t.tx, .int .u64 t.s0, .int .u64 t.s1, .int .u64 t.s2, .int .u64 t.s3] 115)) b tv a d v (L ++ M)) := (HW.out.later hb).later (zaa _ _)
     have HF1 : Hid (Fr W (w1.alloc (.cells #[.int .i64 t.kd, .int .i64 t.nn, .int .i64 t.fr, .int .i64 t.en, .string t.tx, .int .u64 t.s0, .int .u64 t.s1, .int .u64 t.s2, .int .u64 t.s3] 115)) b v0 v) := HFW.out.trans ((Fr.below b v hb).trans (Fr.below b v (zaa _ _)))
     clear hb HH HW HFW
     go_wp2_with fail
     refine (HSf.out _).mono ?_
     rintro e w2 ⟨rfl, rfl⟩
     go_wp2_with fail
     first | go_end0 | refine bodyPost_ret (results_none rfl _ _ _) rfl ?_
     subst hv0
     show PoR E z w0 b tv d W _ L R0 _ _
     rw [HV.out]
     exact ⟨rfl, _, H1.out, HF1.out⟩
    | true =>
     have hlt : a < E.l.length := zbi (E := E) (i := a) (fun q => by rw [hk, q] at hs; exact absurd hs (by decide))
     obtain rfl : t = tkA E a := hta hlt
     have hmem : tkA E a ∈ E.l := by unfold tkA; rw [List.getElem?_eq_getElem hlt]; exact List.getElem_mem hlt
     have HV : Hid (R0 = ahd (M ++ [⟨sfO (tkA E a).kd, (tkA E a).nn, ⟨#[]⟩, 0, 0, 0, 0⟩]) (gN E 6 (a + 1) d)) := by
      show R0 = _
      rw [HR.out, g6_sf E a d ha2 (by rw [<- hk]; exact hs) (by rw [<- hk]; exact HE.out.n0 _ hmem), zc5, hk]
     rw [hs] at HSf
     have HPs : Hid (∀ W v, RS E z w0 W b tv a d v (L ++ M) -> Calls Tryz.prog 90 #[.pointer (some ⟨b, 0, none⟩), .int .i64 (tkA E a).kd] W fun e W' => e = .returned (.tuple #[]) /\ RS E z w0 W' b tv (a + 1) d v (L ++ M) /\ Fr W W' b v v) := fun W v h => by
      rw [hk]
      exact zcp h hlt hz
     clear HR k27 ht hta hs hmem hk
     generalize tkA E a = t at *
     have HPu : Hid (∀ W v q, W.heap.size = q -> RS E z w0 W b tv (a + 1) d v (L ++ M) -> Calls Tryz.prog 119 #[.pointer (some ⟨b, 0, none⟩), .slice (some ⟨q, 0, none⟩) 1 1] (W.alloc (.cells #[.int .i64 (sfO t.kd), .int .i64 t.nn, .string ⟨#[]⟩, .int .u64 0, .int .u64 0, .int .u64 0, .int .u64 0] 51)) fun e W' => e = .returned (.tuple #[]) /\ ∃ v', RS E z w0 W' b tv (a + 1) d v' ((L ++ M) ++ [⟨(sfO t.kd), t.nn, ⟨#[]⟩, 0, 0, 0, 0⟩]) /\ Fr W W' b v v') := fun W v q hq h => zgn h ⟨sfO t.kd, t.nn, ⟨#[]⟩, 0, 0, 0, 0⟩ q hq (by omega)
     generalize sfO t.kd = op at *
     go_wp2_with fail
     refine (HH.out ()).mono ?_
     rintro e w1 ⟨rfl, hb⟩
     have H1 : Hid (RS E z w0 (w1.alloc (.cells #[.int .i64 t.kd, .int .i64 t.nn, .int .i64 t.fr, .int .i64 t.en, .string t.tx, .int .u64 t.s0, .int .u64 t.s1, .int .u64 t.s2, .int .u64 t.s3] 115)) b tv a d v (L ++ M)) := (HW.out.later hb).later (zaa _ _)
     have HF1 : Hid (Fr W (w1.alloc (.cells #[.int .i64 t.kd, .int .i64 t.nn, .int .i64 t.fr, .int .i64 t.en, .string t.tx, .int .u64 t.s0, .int .u64 t.s1, .int .u64 t.s2, .int .u64 t.s3] 115)) b v0 v) := HFW.out.trans ((Fr.below b v hb).trans (Fr.below b v (zaa _ _)))
     have HT1 : Hid (TX (w1.alloc (.cells #[.int .i64 t.kd, .int .i64 t.nn, .int .i64 t.fr, .int .i64 t.en, .string t.tx, .int .u64 t.s0, .int .u64 t.s1, .int .u64 t.s2, .int .u64 t.s3] 115)) w1.heap.size t) := ⟨heap_alloc_new w1 _⟩
     have HN1 : Hid (w1.heap.size ≠ b /\ v.ownBlock ≠ some w1.heap.size) := (HW.out.later hb).new
     have HNx : Hid (nxt b wr = a) := HW.out.nx
     clear hb HH HW HFW
     go_wp2_with fail
     refine (HSf.out _).mono ?_
     rintro e w2 ⟨rfl, rfl⟩
     clear HSf
     go_wp2_with fail
     refine (HPs.out _ _ H1.out).mono ?_
     rintro e w3 ⟨rfl, h3, hf3⟩
     have H3 := hO h3
     have HF3 : Hid (Fr W w3 b v0 v) := HF1.out.trans hf3
     have HT3 := hO (zeu HT1.out hf3 HN1.out.1 HN1.out.2)
     clear h3 hf3 H1 HF1 HT1 HPs
     obtain ⟨c0, c1, c2, c3, c4, c5, c6, c7, c8⟩ := HT3.out.cells
     go_wp2_with fail
     refine (HPu.out _ _ _ rfl H3.out).mono ?_
     rintro e w4 ⟨rfl, v4, h4, hf4⟩
     have H4 : Hid (RS E z w0 w4 b tv (a + 1) d v4 (L ++ (M ++ [⟨op, t.nn, ⟨#[]⟩, 0, 0, 0, 0⟩]))) := by rw [<- List.append_assoc]; exact h4
     have HF4 : Hid (Fr W w4 b v0 v4) := HF3.out.trans hf4
     clear h4 hf4 H3 HF3 HT3 HPu c0 c1 c2 c3 c4 c5 c6 c7 c8
     go_wp2_with fail
     go_roundw
     case rel => exact ⟨a + 1, v4, _, by omega, by omega, by rw [<- List.append_assoc, List.length_append, List.length_singleton]; omega, H4, HF4, HV⟩
     case measure => rw [HNx.out, H4.out.nx]; omega
end Go.Proofs.YtnpifgcgjgddoaaGreatDoor.N
