/- DERIVED. Plain mathematics and walks, laid together (8). -/
import Derived.Test.YtnpifgcgjgddoaaGreatDoorPw07
set_option maxRecDepth 100000
set_option maxHeartbeats 8000000
namespace Go.Proofs.YtnpifgcgjgddoaaGreatDoor.N
open Go.RowKit
theorem zhx {W W' : World} {k b : Nat} {t : Tk} {v v' : Value} (h : TX W k t) (hf : Fr W W' b v v') (hk : k ≠ b) (hv : v.ownBlock ≠ some k) : TX W' k t := h.same (hf.block k h.lt hk hv)
theorem RS.new {E : PE} {z : Nat} {w0 W : World} {b : Nat} {tv : Value} {i d : Nat} {v : Value} {L : List Nd} (h : RS E z w0 W b tv i d v L) : W.heap.size ≠ b /\ v.ownBlock ≠ some W.heap.size :=
 ⟨by have := h.x.lt; omega, fun e => by have := (h.o.lt _ e).2; omega⟩
theorem zgE {E : PE} {z : Nat} {w0 W : World} {b : Nat} {tv : Value} {i d : Nat} {v : Value} {L : List Nd} (h : RS E z w0 W b tv i d v L) (n : Nd) (q : Nat) (hq : W.heap.size = q) (hl : L.length + 1 <= 2000000000000) :
  Calls Tryz.prog 119 #[.pointer (some ⟨b, 0, none⟩), .slice (some ⟨q, 0, none⟩) 1 1] (W.alloc (.cells #[.int .i64 n.op, .int .i64 n.nn, .string n.tx, .int .u64 n.s0, .int .u64 n.s1, .int .u64 n.s2, .int .u64 n.s3] 51)) fun e W' => e = .returned (.tuple #[]) /\ ∃ v', RS E z w0 W' b tv i d v' (L ++ [n]) /\ Fr W W' b v v' := by
 subst hq
 exact zfO h n hl
def imR (E : PE) (j : Nat) : PR := if kdA E j = 2 then (if E.tm (tkA E j).tx then .inl (j + 1, [⟨22, 0, (tkA E j).tx, 0, 0, 0, 0⟩]) else .inr (j, 61)) else if kdA E j = 4 then (if 50 < (tkA E j).nn then .inr (j, 1) else .inl (j + 1, [⟨23, (tkA E j).nn, ⟨#[]⟩, 0, 0, 0, 0⟩])) else .inr (j, 60)
theorem g6_27 (E : PE) (a d : Nat) (ha : a <= E.l.length) (hk : kdA E a = 27) : gN E 6 a d = bnd (imR E (a + 1)) fun j ns => ahd ns (gN E 6 j d) := by
 rw [g6 E a d ha]
 unfold zfB zi2 imR
 rw [hk, if_neg (by decide), if_neg (by decide), if_neg (by decide), if_neg (by decide), if_neg (by decide), if_neg (by decide), if_pos rfl]
 by_cases k2 : kdA E (a + 1) = 2
 ·rw [if_pos k2, if_pos k2]
  cases E.tm (tkA E (a + 1)).tx <;> rfl
 ·rw [if_neg k2, if_neg k2]
  by_cases k4 : kdA E (a + 1) = 4
  ·rw [if_pos k4, if_pos k4]
   by_cases h50 : 50 < (tkA E (a + 1)).nn
   ·rw [if_pos h50, if_pos h50]; rfl
   ·rw [if_neg h50, if_neg h50]; rfl
  ·rw [if_neg k4, if_neg k4]; rfl
theorem g6_sf (E : PE) (a d : Nat) (ha : a <= E.l.length) (hs : sfB (kdA E a) = true) (h0 : kdA E a = 10 ∨ kdA E a = 11 ∨ kdA E a = 12 -> (tkA E a).nn = 0) : gN E 6 a d = ahd [⟨sfO (kdA E a), (tkA E a).nn, ⟨#[]⟩, 0, 0, 0, 0⟩] (gN E 6 (a + 1) d) := by
 rw [g6 E a d ha]
 have key : zfB E a = .inl (⟨sfO (kdA E a), (tkA E a).nn, ⟨#[]⟩, 0, 0, 0, 0⟩, 1) := by
  unfold zfB zi2
  unfold sfB at hs
  simp only [Bool.or_eq_true, beq_iff_eq] at hs
  rcases hs with ((((h | h) | h) | h) | h) | h
  ·rw [h, h0 (.inl h)]; rfl
  ·rw [h, h0 (.inr (.inl h))]; rfl
  ·rw [h, h0 (.inr (.inr h))]; rfl
  ·rw [h]; rfl
  ·rw [h]; rfl
  ·rw [h]; rfl
 rw [key]
theorem g6_no (E : PE) (a d : Nat) (ha : a <= E.l.length) (hs : sfB (kdA E a) = false) (hk : ¬ kdA E a = 27) : gN E 6 a d = .inl (a, []) := by
 rw [g6 E a d ha]
 have key : zfB E a = .inr none := by
  unfold zfB zi2
  unfold sfB at hs
  simp only [Bool.or_eq_false_iff, beq_eq_false_iff_ne] at hs
  obtain ⟨⟨⟨⟨⟨h1, h2⟩, h3⟩, h4⟩, h5⟩, h6⟩ := hs
  rw [if_neg h1, if_neg h2, if_neg h3, if_neg h4, if_neg h5, if_neg h6, if_neg hk]
 rw [key]
theorem zko {E : PE} (hE : OkE E) {z : Nat} {w0 : World} {b : Nat} {tv : Value} {i d : Nat} : Ct 187 E z w0 b tv i d (imR E i) := by
 intro W v L h hL
 have hlen := hE.len
 have hz := hE.z
 have hi := h.hi
 obtain ⟨t, ht, hk, hpl, hta⟩ := zaw E z h.hi
 clear hpl
 have HH : Hid (∀ _ : Unit, Calls Tryz.prog 62 #[.pointer (some ⟨b, 0, none⟩)] W fun e W' => e = .returned (.agg #[.int .i64 t.kd, .int .i64 t.nn, .int .i64 t.fr, .int .i64 t.en, .string t.tx, .int .u64 t.s0, .int .u64 t.s1, .int .u64 t.s2, .int .u64 t.s3]) /\ Below W.heap.size W W') := fun _ => zaC h t ht
 have H := hO h
 unfold imR
 by_cases k2 : kdA E i = 2
 ·have hlt := zbl (E := E) (i := i) (by omega)
  obtain rfl : t = tkA E i := hta hlt
  have hmem : tkA E i ∈ E.l := by unfold tkA; rw [List.getElem?_eq_getElem hlt]; exact List.getElem_mem hlt
  have htx := hE.tx _ hmem
  have HTm : Hid (∀ W, Calls Tryz.prog 204 #[.string (tkA E i).tx] W fun e W' => e = .returned (.bool (T.tmB (tkA E i).tx)) /\ Below W.heap.size W W') := fun W => zki _ (by omega) W
  have hnot : ∀ (x : Bool) (w : World), (Op.unary .not (.bool x)).run Tryz.prog w = .ok (.bool (!x)) w := fun _ _ => rfl
  rw [if_pos k2, hE.tm]
  rw [hk.trans k2] at HH
  have hk2 := hk.trans k2
  generalize tkA E i = t at *
  cases htm : T.tmB t.tx with
  | true =>
   rw [htm] at HTm
   have HPs : Hid (∀ W v, RS E z w0 W b tv i d v (L ++ [⟨22, 0, t.tx, 0, 0, 0, 0⟩]) -> Calls Tryz.prog 90 #[.pointer (some ⟨b, 0, none⟩), .int .i64 2] W fun e W' => e = .returned (.tuple #[]) /\ RS E z w0 W' b tv (i + 1) d v (L ++ [⟨22, 0, t.tx, 0, 0, 0, 0⟩]) /\ Fr W W' b v v) := fun W v h => by
    have := zcs h hlt hz
    rw [k2] at this
    exact this
   have HPu : Hid (∀ W v q, W.heap.size = q -> RS E z w0 W b tv i d v L -> Calls Tryz.prog 119 #[.pointer (some ⟨b, 0, none⟩), .slice (some ⟨q, 0, none⟩) 1 1] (W.alloc (.cells #[.int .i64 22, .int .i64 0, .string t.tx, .int .u64 0, .int .u64 0, .int .u64 0, .int .u64 0] 51)) fun e W' => e = .returned (.tuple #[]) /\ ∃ v', RS E z w0 W' b tv i d v' (L ++ [⟨22, 0, t.tx, 0, 0, 0, 0⟩]) /\ Fr W W' b v v') := fun W v q hq h => zgE h ⟨22, 0, t.tx, 0, 0, 0, 0⟩ q hq (by omega)
   show Calls Tryz.prog 187 _ _ fun e W' => PoR E z w0 b tv d W v L (.inl (i + 1, [⟨22, 0, t.tx, 0, 0, 0, 0⟩])) e W'
   clear h ht hk k2 hta hmem htx htm hk2
   go_enter Tryz.func187, Tryz.ntmps187
   go_wp2_with fail
   refine (HH.out ()).mono ?_
   rintro e w1 ⟨rfl, hb⟩
   have H1 : Hid (RS E z w0 (w1.alloc (.cells #[.int .i64 2, .int .i64 t.nn, .int .i64 t.fr, .int .i64 t.en, .string t.tx, .int .u64 t.s0, .int .u64 t.s1, .int .u64 t.s2, .int .u64 t.s3] 115)) b tv i d v L) := (H.out.later hb).later (zaa _ _)
   have HF1 : Hid (Fr W (w1.alloc (.cells #[.int .i64 2, .int .i64 t.nn, .int .i64 t.fr, .int .i64 t.en, .string t.tx, .int .u64 t.s0, .int .u64 t.s1, .int .u64 t.s2, .int .u64 t.s3] 115)) b v v) := (Fr.below b v hb).trans (Fr.below b v (zaa _ _))
   have HT1 : Hid (TX (w1.alloc (.cells #[.int .i64 2, .int .i64 t.nn, .int .i64 t.fr, .int .i64 t.en, .string t.tx, .int .u64 t.s0, .int .u64 t.s1, .int .u64 t.s2, .int .u64 t.s3] 115)) w1.heap.size ⟨2, t.nn, t.fr, t.en, t.tx, t.s0, t.s1, t.s2, t.s3⟩) := ⟨heap_alloc_new w1 _⟩
   have HN1 : Hid (w1.heap.size ≠ b /\ v.ownBlock ≠ some w1.heap.size) := (H.out.later hb).new
   clear hb HH H
   go_wp2_with fail
   refine (HTm.out _).mono ?_
   rintro e w2 ⟨rfl, hb⟩
   have H2 := hO (H1.out.later hb)
   have HF2 : Hid (Fr W w2 b v v) := HF1.out.trans (Fr.below b v hb)
   have HT2 := hO (HT1.out.below hb)
   clear hb H1 HF1 HT1 HTm
   obtain ⟨c0, c1, c2, c3, c4, c5, c6, c7, c8⟩ := HT2.out.cells
   go_wp2_with fail
   refine (HPu.out _ _ _ rfl H2.out).mono ?_
   rintro e w3 ⟨rfl, v3, h3, hf3⟩
   have H3 := hO h3
   have HF3 : Hid (Fr W w3 b v v3) := HF2.out.trans hf3
   have HT3 := hO (zhx HT2.out hf3 HN1.out.1 HN1.out.2)
   clear h3 hf3 H2 HF2 HT2 HPu c0 c1 c2 c3 c4 c5 c6 c7 c8
   obtain ⟨c0, c1, c2, c3, c4, c5, c6, c7, c8⟩ := HT3.out.cells
   go_wp2_with fail
   refine (HPs.out _ _ H3.out).mono ?_
   rintro e w4 ⟨rfl, h4, hf4⟩
   have H4 : Hid (∃ v', RS E z w0 w4 b tv (i + 1) d v' (L ++ [⟨22, 0, t.tx, 0, 0, 0, 0⟩]) /\ Fr W w4 b v v') := ⟨v3, h4, HF3.out.trans hf4⟩
   clear h4 hf4 H3 HF3 HT3 HPs c0 c1 c2 c3 c4 c5 c6 c7 c8
   go_wp2_with fail
   go_end0
   exact ⟨rfl, H4.out⟩
  | false =>
   rw [htm] at HTm
   have HRf : Hid (∀ W, RS E z w0 W b tv i d v L -> Calls Tryz.prog 64 #[.pointer (some ⟨b, 0, none⟩), .int .i64 61] W fun e W' => e = pnc (plA E z i) 61 /\ Below W.heap.size W W') := fun W h => zbz h 61
   show Calls Tryz.prog 187 _ _ fun e W' => PoR E z w0 b tv d W v L (.inr (i, 61)) e W'
   clear h ht hk k2 hta hmem htx htm hk2
   go_enter Tryz.func187, Tryz.ntmps187
   go_wp2_with fail
   refine (HH.out ()).mono ?_
   rintro e w1 ⟨rfl, hb⟩
   have H1 : Hid (RS E z w0 (w1.alloc (.cells #[.int .i64 2, .int .i64 t.nn, .int .i64 t.fr, .int .i64 t.en, .string t.tx, .int .u64 t.s0, .int .u64 t.s1, .int .u64 t.s2, .int .u64 t.s3] 115)) b tv i d v L) := (H.out.later hb).later (zaa _ _)
   have HF1 : Hid (Fr W (w1.alloc (.cells #[.int .i64 2, .int .i64 t.nn, .int .i64 t.fr, .int .i64 t.en, .string t.tx, .int .u64 t.s0, .int .u64 t.s1, .int .u64 t.s2, .int .u64 t.s3] 115)) b v v) := (Fr.below b v hb).trans (Fr.below b v (zaa _ _))
   have HT1 : Hid (TX (w1.alloc (.cells #[.int .i64 2, .int .i64 t.nn, .int .i64 t.fr, .int .i64 t.en, .string t.tx, .int .u64 t.s0, .int .u64 t.s1, .int .u64 t.s2, .int .u64 t.s3] 115)) w1.heap.size ⟨2, t.nn, t.fr, t.en, t.tx, t.s0, t.s1, t.s2, t.s3⟩) := ⟨heap_alloc_new w1 _⟩
   have HN1 : Hid (w1.heap.size ≠ b /\ v.ownBlock ≠ some w1.heap.size) := (H.out.later hb).new
   clear hb HH H
   go_wp2_with fail
   refine (HTm.out _).mono ?_
   rintro e w2 ⟨rfl, hb⟩
   have H2 := hO (H1.out.later hb)
   clear hb H1 HF1 HT1 HTm
   go_wp2_with fail
   refine (HRf.out _ H2.out).mono ?_
   rintro e w3 ⟨rfl, hb⟩
   exact zae rfl ⟨rfl, H2.out.bl.trans (hb.mono H2.out.bl.size)⟩
 rw [if_neg k2]
 by_cases k4 : kdA E i = 4
 ·have hlt := zbl (E := E) (i := i) (by omega)
  obtain rfl : t = tkA E i := hta hlt
  rw [if_pos k4]
  rw [hk.trans k4] at HH
  have hk2 := hk.trans k4
  generalize tkA E i = t at *
  by_cases h50 : 50 < t.nn
  ·have HRf : Hid (∀ W, RS E z w0 W b tv i d v L -> Calls Tryz.prog 64 #[.pointer (some ⟨b, 0, none⟩), .int .i64 1] W fun e W' => e = pnc (plA E z i) 1 /\ Below W.heap.size W W') := fun W h => zbz h 1
   rw [if_pos h50]
   clear h ht hk k2 hta k4 hk2
   go_enter Tryz.func187, Tryz.ntmps187
   go_wp2_with fail
   refine (HH.out ()).mono ?_
   rintro e w1 ⟨rfl, hb⟩
   have H1 : Hid (RS E z w0 (w1.alloc (.cells #[.int .i64 4, .int .i64 t.nn, .int .i64 t.fr, .int .i64 t.en, .string t.tx, .int .u64 t.s0, .int .u64 t.s1, .int .u64 t.s2, .int .u64 t.s3] 115)) b tv i d v L) := (H.out.later hb).later (zaa _ _)
   have HF1 : Hid (Fr W (w1.alloc (.cells #[.int .i64 4, .int .i64 t.nn, .int .i64 t.fr, .int .i64 t.en, .string t.tx, .int .u64 t.s0, .int .u64 t.s1, .int .u64 t.s2, .int .u64 t.s3] 115)) b v v) := (Fr.below b v hb).trans (Fr.below b v (zaa _ _))
   have HT1 : Hid (TX (w1.alloc (.cells #[.int .i64 4, .int .i64 t.nn, .int .i64 t.fr, .int .i64 t.en, .string t.tx, .int .u64 t.s0, .int .u64 t.s1, .int .u64 t.s2, .int .u64 t.s3] 115)) w1.heap.size ⟨4, t.nn, t.fr, t.en, t.tx, t.s0, t.s1, t.s2, t.s3⟩) := ⟨heap_alloc_new w1 _⟩
   have HN1 : Hid (w1.heap.size ≠ b /\ v.ownBlock ≠ some w1.heap.size) := (H.out.later hb).new
   clear hb HH H
   go_wp2_with fail
   refine (HRf.out _ H1.out).mono ?_
   rintro e w3 ⟨rfl, hb⟩
   exact zae rfl ⟨rfl, H1.out.bl.trans (hb.mono H1.out.bl.size)⟩
  ·have HPs : Hid (∀ W v, RS E z w0 W b tv i d v (L ++ [⟨23, t.nn, ⟨#[]⟩, 0, 0, 0, 0⟩]) -> Calls Tryz.prog 90 #[.pointer (some ⟨b, 0, none⟩), .int .i64 4] W fun e W' => e = .returned (.tuple #[]) /\ RS E z w0 W' b tv (i + 1) d v (L ++ [⟨23, t.nn, ⟨#[]⟩, 0, 0, 0, 0⟩]) /\ Fr W W' b v v) := fun W v h => by
    have := zcs h hlt hz
    rw [k4] at this
    exact this
   have HPu : Hid (∀ W v q, W.heap.size = q -> RS E z w0 W b tv i d v L -> Calls Tryz.prog 119 #[.pointer (some ⟨b, 0, none⟩), .slice (some ⟨q, 0, none⟩) 1 1] (W.alloc (.cells #[.int .i64 23, .int .i64 t.nn, .string ⟨#[]⟩, .int .u64 0, .int .u64 0, .int .u64 0, .int .u64 0] 51)) fun e W' => e = .returned (.tuple #[]) /\ ∃ v', RS E z w0 W' b tv i d v' (L ++ [⟨23, t.nn, ⟨#[]⟩, 0, 0, 0, 0⟩]) /\ Fr W W' b v v') := fun W v q hq h => zgE h ⟨23, t.nn, ⟨#[]⟩, 0, 0, 0, 0⟩ q hq (by omega)
   rw [if_neg h50]
   clear h ht hk k2 hta k4 hk2
   go_enter Tryz.func187, Tryz.ntmps187
   go_wp2_with fail
   refine (HH.out ()).mono ?_
   rintro e w1 ⟨rfl, hb⟩
   have H1 : Hid (RS E z w0 (w1.alloc (.cells #[.int .i64 4, .int .i64 t.nn, .int .i64 t.fr, .int .i64 t.en, .string t.tx, .int .u64 t.s0, .int .u64 t.s1, .int .u64 t.s2, .int .u64 t.s3] 115)) b tv i d v L) := (H.out.later hb).later (zaa _ _)
   have HF1 : Hid (Fr W (w1.alloc (.cells #[.int .i64 4, .int .i64 t.nn, .int .i64 t.fr, .int .i64 t.en, .string t.tx, .int .u64 t.s0, .int .u64 t.s1, .int .u64 t.s2, .int .u64 t.s3] 115)) b v v) := (Fr.below b v hb).trans (Fr.below b v (zaa _ _))
   have HT1 : Hid (TX (w1.alloc (.cells #[.int .i64 4, .int .i64 t.nn, .int .i64 t.fr, .int .i64 t.en, .string t.tx, .int .u64 t.s0, .int .u64 t.s1, .int .u64 t.s2, .int .u64 t.s3] 115)) w1.heap.size ⟨4, t.nn, t.fr, t.en, t.tx, t.s0, t.s1, t.s2, t.s3⟩) := ⟨heap_alloc_new w1 _⟩
   have HN1 : Hid (w1.heap.size ≠ b /\ v.ownBlock ≠ some w1.heap.size) := (H.out.later hb).new
   clear hb HH H
   go_wp2_with fail
   refine (HPu.out _ _ _ (World.size_alloc _ _) H1.out).mono ?_
   rintro e w3 ⟨rfl, v3, h3, hf3⟩
   have H3 := hO h3
   have HF3 : Hid (Fr W w3 b v v3) := HF1.out.trans hf3
   have HT3 := hO (zhx HT1.out hf3 HN1.out.1 HN1.out.2)
   clear h3 hf3 H1 HF1 HT1 HPu
   obtain ⟨c0, c1, c2, c3, c4, c5, c6, c7, c8⟩ := HT3.out.cells
   go_wp2_with fail
   refine (HPs.out _ _ H3.out).mono ?_
   rintro e w4 ⟨rfl, h4, hf4⟩
   have H4 : Hid (∃ v', RS E z w0 w4 b tv (i + 1) d v' (L ++ [⟨23, t.nn, ⟨#[]⟩, 0, 0, 0, 0⟩]) /\ Fr W w4 b v v') := ⟨v3, h4, HF3.out.trans hf4⟩
   clear h4 hf4 H3 HF3 HT3 HPs c0 c1 c2 c3 c4 c5 c6 c7 c8
   go_wp2_with fail
   go_end0
   exact ⟨rfl, H4.out⟩
 ·have HRf : Hid (∀ W, RS E z w0 W b tv i d v L -> Calls Tryz.prog 64 #[.pointer (some ⟨b, 0, none⟩), .int .i64 60] W fun e W' => e = pnc (plA E z i) 60 /\ Below W.heap.size W W') := fun W h => zbz h 60
  rw [if_neg k4]
  have v2 : (t.kd == 2) = false := by rw [hk]; exact bF k2
  have v4 : (t.kd == 4) = false := by rw [hk]; exact bF k4
  clear h ht hk k2 hta k4
  go_enter Tryz.func187, Tryz.ntmps187
  go_wp2_with fail
  refine (HH.out ()).mono ?_
  rintro e w1 ⟨rfl, hb⟩
  have H1 : Hid (RS E z w0 (w1.alloc (.cells #[.int .i64 t.kd, .int .i64 t.nn, .int .i64 t.fr, .int .i64 t.en, .string t.tx, .int .u64 t.s0, .int .u64 t.s1, .int .u64 t.s2, .int .u64 t.s3] 115)) b tv i d v L) := (H.out.later hb).later (zaa _ _)
  have HF1 : Hid (Fr W (w1.alloc (.cells #[.int .i64 t.kd, .int .i64 t.nn, .int .i64 t.fr, .int .i64 t.en, .string t.tx, .int .u64 t.s0, .int .u64 t.s1, .int .u64 t.s2, .int .u64 t.s3] 115)) b v v) := (Fr.below b v hb).trans (Fr.below b v (zaa _ _))
  have HT1 : Hid (TX (w1.alloc (.cells #[.int .i64 t.kd, .int .i64 t.nn, .int .i64 t.fr, .int .i64 t.en, .string t.tx, .int .u64 t.s0, .int .u64 t.s1, .int .u64 t.s2, .int .u64 t.s3] 115)) w1.heap.size t) := ⟨heap_alloc_new w1 _⟩
  have HN1 : Hid (w1.heap.size ≠ b /\ v.ownBlock ≠ some w1.heap.size) := (H.out.later hb).new
  clear hb HH H
  go_wp2_with fail
  refine (HRf.out _ H1.out).mono ?_
  rintro e w3 ⟨rfl, hb⟩
  exact zae rfl ⟨rfl, H1.out.bl.trans (hb.mono H1.out.bl.size)⟩
def gP (E : PE) (i d : Nat) : PR := if bgP E i = true then gN E 5 i d else .inr (i, 60)
theorem gS_eq (E : PE) (i d : Nat) : gS E i d = bnd (gP E i d) fun a ns => ahd ns (gN E 6 a d) := by
 unfold gS gP
 split <;> rfl
theorem zof {E : PE} {i : Nat} (h : bgP E i = true) : i < E.l.length := zcD (by rw [zj6, h]; simp)
theorem zkp {E : PE} (hE : OkE E) {z : Nat} {w0 : World} {b : Nat} {tv : Value} {i d : Nat} (HP0 : Ct 186 E z w0 b tv i d (gP E i d)) : Ct 163 E z w0 b tv i d (gS E i d) := by
 intro W v L h hL
 have hi := h.hi
 have hlen := hE.len
 have hz := hE.z
 have HE := hO hE
 have HC : Hid (∀ _ : Unit, Calls Tryz.prog 186 #[.pointer (some ⟨b, 0, none⟩)] W fun e W' => PoR E z w0 b tv d W v L (gP E i d) e W') := fun _ => HP0 W v L h hL
 have HG := hO (gS_eq E i d)
 have HB := (show Hid (∀ a ns, gP E i d = .inl (a, ns) -> i < a /\ a <= E.l.length /\ ns.length <= 10027010 * (a - i)) from fun a ns hr => by
  unfold gP at hr
  split at hr
  ·next hb =>
   have hlt := zof hb
   have h1 := zdH hi (fun _ => hlt) hr
   have h2 := zdI hE.rl hi (fun _ => hlt) hr
   exact ⟨h1.2.2 (by omega), h1.2.1, h2.2⟩
  ·cases hr)
 clear h hE HP0
 cases hr : gP E i d with
 | inr q =>
  rw [hr] at HC HG
  have HV : Hid (gS E i d = .inr q) := HG.out
  rw [HV.out]
  clear HG hr HB
  go_enter Tryz.func163, Tryz.ntmps163
  go_wp2_with fail
  refine (HC.out ()).mono ?_
  rintro e w1 ⟨rfl, hb⟩
  exact zae rfl ⟨rfl, hb⟩
 | inl p =>
  obtain ⟨a, ns⟩ := p
  obtain ⟨hia, hal, hlenN⟩ := HB.out a ns hr
  rw [hr] at HC HG
  have HV : Hid (gS E i d = ahd ns (gN E 6 a d)) := HG.out
  generalize gS E i d = R0 at *
  clear HG hr HB
  go_enter Tryz.func163, Tryz.ntmps163
  go_wp2_with fail
  refine (HC.out ()).mono ?_
  rintro e w1 ⟨rfl, v1, h1, hf1⟩
  have H1 := hO h1
  have HF1 : Hid (Fr W w1 b v v1) := hf1
  obtain ⟨v0, hv0⟩ : ∃ u, u = v := ⟨_, rfl⟩
  rw [<- hv0] at HF1
  clear HC h1 hf1
  go_wp2_with fail
  go_loopw [7] (fun _ wr => ∃ (a : Nat) (v : Value) (M : List Nd), i < a /\ a <= E.l.length /\ (L ++ M).length <= 10027010 * a /\ Hid (RS E z w0 wr b tv a d v (L ++ M)) /\ Hid (Fr W wr b v0 v) /\ Hid (R0 = ahd M (gN E 6 a d))) (fun _ wr => E.l.length - nxt b wr)
  case atStart => exact ⟨a, v1, ns, hia, hal, by rw [List.length_append]; omega, H1, HF1, HV⟩
  case round =>
   obtain ⟨a, v, M, ha1, ha2, hlm, HW, HFW, HR⟩ := hrel
   clear H1 HF1 HV hia hal hlenN
   obtain ⟨t, ht, hk, hpl, hta⟩ := zaw E z ha2
   clear hpl
   have HH : Hid (∀ _ : Unit, Calls Tryz.prog 62 #[.pointer (some ⟨b, 0, none⟩)] wr fun e W' => e = .returned (.agg #[.int .i64 t.kd, .int .i64 t.nn, .int .i64 t.fr, .int .i64 t.en, .string t.tx, .int .u64 t.s0, .int .u64 t.s1, .int .u64 t.s2, .int .u64 t.s3]) /\ Below wr.heap.size wr W') := fun _ => zaC HW.out t ht
   by_cases k27 : kdA E a = 27
   ·have hlt := zbl (E := E) (i := a) (by omega)
    have HV : Hid (R0 = ahd M (bnd (imR E (a + 1)) fun j ns => ahd ns (gN E 6 j d))) := by
     show R0 = _
     rw [HR.out, g6_27 E a d ha2 k27]
    have HI : Hid (∀ W v, RS E z w0 W b tv (a + 1) d v (L ++ M) -> Calls Tryz.prog 187 #[.pointer (some ⟨b, 0, none⟩)] W fun e W' => PoR E z w0 b tv d W v (L ++ M) (imR E (a + 1)) e W') := fun W v h => zko HE.out W v _ h (by omega)
    have HPs : Hid (∀ W v, RS E z w0 W b tv a d v (L ++ M) -> Calls Tryz.prog 90 #[.pointer (some ⟨b, 0, none⟩), .int .i64 27] W fun e W' => e = .returned (.tuple #[]) /\ RS E z w0 W' b tv (a + 1) d v (L ++ M) /\ Fr W W' b v v) := fun W v h => by
     have := zcs h hlt hz
     rw [k27] at this
     exact this
    have HJ := (show Hid (∀ j ns, imR E (a + 1) = .inl (j, ns) -> j = a + 2 /\ j <= E.l.length /\ ns.length = 1) from fun j ns hj => by
     unfold imR at hj
     split at hj
     ·next k2 =>
      have := zbl (E := E) (i := a + 1) (by omega)
      split at hj
      ·cases hj; exact ⟨rfl, by omega, rfl⟩
      ·cases hj
     ·split at hj
      ·next k4 =>
       have := zbl (E := E) (i := a + 1) (by omega)
       split at hj
       ·cases hj
       ·cases hj; exact ⟨rfl, by omega, rfl⟩
      ·cases hj)
    rw [hk.trans k27] at HH
    clear HR k27 ht hk hta
    go_wp2_with fail
    refine (HH.out ()).mono ?_
    rintro e w1 ⟨rfl, hb⟩
    have H1 : Hid (RS E z w0 (w1.alloc (.cells #[.int .i64 27, .int .i64 t.nn, .int .i64 t.fr, .int .i64 t.en, .string t.tx, .int .u64 t.s0, .int .u64 t.s1, .int .u64 t.s2, .int .u64 t.s3] 115)) b tv a d v (L ++ M)) := (HW.out.later hb).later (zaa _ _)
    have HF1 : Hid (Fr W (w1.alloc (.cells #[.int .i64 27, .int .i64 t.nn, .int .i64 t.fr, .int .i64 t.en, .string t.tx, .int .u64 t.s0, .int .u64 t.s1, .int .u64 t.s2, .int .u64 t.s3] 115)) b v0 v) := HFW.out.trans ((Fr.below b v hb).trans (Fr.below b v (zaa _ _)))
    have HNx : Hid (nxt b wr = a) := HW.out.nx
    clear hb HH HW HFW
    go_wp2_with fail
    refine (HPs.out _ _ H1.out).mono ?_
    rintro e w2 ⟨rfl, h2, hf2⟩
    have H2 := hO h2
    have HF2 : Hid (Fr W w2 b v0 v) := HF1.out.trans hf2
    clear h2 hf2 H1 HF1 HPs
    go_wp2_with fail
    refine (HI.out _ _ H2.out).mono ?_
    rintro e w3 hp
    cases hr : imR E (a + 1) with
    | inr q =>
     rw [hr] at hp HV
     obtain ⟨rfl, hb⟩ := hp
     exact zae (P := Tryz.prog) (fn := Tryz.f163) rfl (by subst hv0; show PoR E z w0 b tv d W _ L R0 _ _; rw [HV.out]; exact ⟨rfl, hb⟩)
    | inl p =>
     obtain ⟨j, ns2⟩ := p
     obtain ⟨hj1, hj2, hj3⟩ := HJ.out j ns2 hr
     rw [hr] at hp HV
     obtain ⟨rfl, v3, h3, hf3⟩ := hp
     have H3 : Hid (RS E z w0 w3 b tv j d v3 (L ++ (M ++ ns2))) := by rw [<- List.append_assoc]; exact h3
     have HF3 : Hid (Fr W w3 b v0 v3) := HF2.out.trans hf3
     have HV3 : Hid (R0 = ahd (M ++ ns2) (gN E 6 j d)) := by
      show R0 = _
      rw [HV.out, <- zfC]
      rfl
     clear h3 hf3 H2 HF2 HI HV HJ hr
     go_wp2_with fail
     go_roundw
     case rel => exact ⟨j, v3, _, by omega, hj2, by rw [<- List.append_assoc, List.length_append]; omega, H3, HF3, HV3⟩
     case measure => rw [HNx.out, H3.out.nx]; omega
   ·have HSf : Hid (∀ W, Calls Tryz.prog 188 #[.int .i64 t.kd] W fun e W' => e = .returned (.tuple #[.int .i64 (sfO t.kd), .bool (sfB t.kd)]) /\ W' = W) := fun W => zgz t.kd W
    have hnot : ∀ (x : Bool) (w : World), (Op.unary .not (.bool x)).run Tryz.prog w = .ok (.bool (!x)) w := fun _ _ => rfl
    have v27 : (t.kd == 27) = false := by rw [hk]; exact bF k27
    cases hs : sfB t.kd with
    | false =>
     have HV : Hid (R0 = .inl (a, M)) := by
      show R0 = _
      rw [HR.out, g6_no E a d ha2 (by rw [<- hk]; exact hs) k27]
      show Sum.inl (a, M ++ []) = _
      rw [List.append_nil]
     rw [hs] at HSf
     clear HR k27 ht hk hta hs
     go_wp2_with fail
     refine (HH.out ()).mono ?_
     rintro e w1 ⟨rfl, hb⟩
     have H1 : Hid (RS E z w0 (w1.alloc (.cells #[.int .i64 t.kd, .int .i64 t.nn, .int .i64 t.fr, .int .i64 t.en, .string t.tx, .int .u64 t.s0, .int .u64 t.s1, .int .u64 t.s2, .int .u64 t.s3] 115)) b tv a d v (L ++ M)) := (HW.out.later hb).later (zaa _ _)
     have HF1 : Hid (Fr W (w1.alloc (.cells #[.int .i64 t.kd, .int .i64 t.nn, .int .i64 t.fr, .int .i64 t.en, .string t.tx, .int .u64 t.s0, .int .u64 t.s1, .int .u64 t.s2, .int .u64 t.s3] 115)) b v0 v) := HFW.out.trans ((Fr.below b v hb).trans (Fr.below b v (zaa _ _)))
     clear hb HH HW HFW
     go_wp2_with fail
     refine (HSf.out _).mono ?_
     rintro e w2 ⟨rfl, rfl⟩
     go_wp2_with fail
     first | go_end0 | refine bodyPost_ret (results_none rfl _ _ _) rfl ?_
     subst hv0
     show PoR E z w0 b tv d W _ L R0 _ _
     rw [HV.out]
     exact ⟨rfl, _, H1.out, HF1.out⟩
    | true =>
     have hlt : a < E.l.length := zbl (E := E) (i := a) (fun q => by rw [hk, q] at hs; exact absurd hs (by decide))
     obtain rfl : t = tkA E a := hta hlt
     have hmem : tkA E a ∈ E.l := by unfold tkA; rw [List.getElem?_eq_getElem hlt]; exact List.getElem_mem hlt
     have HV : Hid (R0 = ahd (M ++ [⟨sfO (tkA E a).kd, (tkA E a).nn, ⟨#[]⟩, 0, 0, 0, 0⟩]) (gN E 6 (a + 1) d)) := by
      show R0 = _
      rw [HR.out, g6_sf E a d ha2 (by rw [<- hk]; exact hs) (by rw [<- hk]; exact HE.out.n0 _ hmem), zfC, hk]
     rw [hs] at HSf
     have HPs : Hid (∀ W v, RS E z w0 W b tv a d v (L ++ M) -> Calls Tryz.prog 90 #[.pointer (some ⟨b, 0, none⟩), .int .i64 (tkA E a).kd] W fun e W' => e = .returned (.tuple #[]) /\ RS E z w0 W' b tv (a + 1) d v (L ++ M) /\ Fr W W' b v v) := fun W v h => by
      rw [hk]
      exact zcs h hlt hz
     clear HR k27 ht hta hs hmem hk
     generalize tkA E a = t at *
     have HPu : Hid (∀ W v q, W.heap.size = q -> RS E z w0 W b tv (a + 1) d v (L ++ M) -> Calls Tryz.prog 119 #[.pointer (some ⟨b, 0, none⟩), .slice (some ⟨q, 0, none⟩) 1 1] (W.alloc (.cells #[.int .i64 (sfO t.kd), .int .i64 t.nn, .string ⟨#[]⟩, .int .u64 0, .int .u64 0, .int .u64 0, .int .u64 0] 51)) fun e W' => e = .returned (.tuple #[]) /\ ∃ v', RS E z w0 W' b tv (a + 1) d v' ((L ++ M) ++ [⟨(sfO t.kd), t.nn, ⟨#[]⟩, 0, 0, 0, 0⟩]) /\ Fr W W' b v v') := fun W v q hq h => zgE h ⟨sfO t.kd, t.nn, ⟨#[]⟩, 0, 0, 0, 0⟩ q hq (by omega)
     generalize sfO t.kd = op at *
     go_wp2_with fail
     refine (HH.out ()).mono ?_
     rintro e w1 ⟨rfl, hb⟩
     have H1 : Hid (RS E z w0 (w1.alloc (.cells #[.int .i64 t.kd, .int .i64 t.nn, .int .i64 t.fr, .int .i64 t.en, .string t.tx, .int .u64 t.s0, .int .u64 t.s1, .int .u64 t.s2, .int .u64 t.s3] 115)) b tv a d v (L ++ M)) := (HW.out.later hb).later (zaa _ _)
     have HF1 : Hid (Fr W (w1.alloc (.cells #[.int .i64 t.kd, .int .i64 t.nn, .int .i64 t.fr, .int .i64 t.en, .string t.tx, .int .u64 t.s0, .int .u64 t.s1, .int .u64 t.s2, .int .u64 t.s3] 115)) b v0 v) := HFW.out.trans ((Fr.below b v hb).trans (Fr.below b v (zaa _ _)))
     have HT1 : Hid (TX (w1.alloc (.cells #[.int .i64 t.kd, .int .i64 t.nn, .int .i64 t.fr, .int .i64 t.en, .string t.tx, .int .u64 t.s0, .int .u64 t.s1, .int .u64 t.s2, .int .u64 t.s3] 115)) w1.heap.size t) := ⟨heap_alloc_new w1 _⟩
     have HN1 : Hid (w1.heap.size ≠ b /\ v.ownBlock ≠ some w1.heap.size) := (HW.out.later hb).new
     have HNx : Hid (nxt b wr = a) := HW.out.nx
     clear hb HH HW HFW
     go_wp2_with fail
     refine (HSf.out _).mono ?_
     rintro e w2 ⟨rfl, rfl⟩
     clear HSf
     go_wp2_with fail
     refine (HPs.out _ _ H1.out).mono ?_
     rintro e w3 ⟨rfl, h3, hf3⟩
     have H3 := hO h3
     have HF3 : Hid (Fr W w3 b v0 v) := HF1.out.trans hf3
     have HT3 := hO (zhx HT1.out hf3 HN1.out.1 HN1.out.2)
     clear h3 hf3 H1 HF1 HT1 HPs
     obtain ⟨c0, c1, c2, c3, c4, c5, c6, c7, c8⟩ := HT3.out.cells
     go_wp2_with fail
     refine (HPu.out _ _ _ rfl H3.out).mono ?_
     rintro e w4 ⟨rfl, v4, h4, hf4⟩
     have H4 : Hid (RS E z w0 w4 b tv (a + 1) d v4 (L ++ (M ++ [⟨op, t.nn, ⟨#[]⟩, 0, 0, 0, 0⟩]))) := by rw [<- List.append_assoc]; exact h4
     have HF4 : Hid (Fr W w4 b v0 v4) := HF3.out.trans hf4
     clear h4 hf4 H3 HF3 HT3 HPu c0 c1 c2 c3 c4 c5 c6 c7 c8
     go_wp2_with fail
     go_roundw
     case rel => exact ⟨a + 1, v4, _, by omega, by omega, by rw [<- List.append_assoc, List.length_append, List.length_singleton]; omega, H4, HF4, HV⟩
     case measure => rw [HNx.out, H4.out.nx]; omega
theorem zkq {E : PE} (hE : OkE E) {i d a : Nat} {c : Int} {ms : List Nd} (hc : ¬ c = 0) (hlt : i < E.l.length) (h : rW E i d c = .inl (a, ms)) : i < a /\ a <= E.l.length /\ ms.length <= 10027010 * (a - i) := by
 unfold rW at h
 split at h
 ·cases h
 ·obtain ⟨a1, ns, h1, h2⟩ := zau h
  have h3 := zdH (i := i + 1) (by omega) (by omega) h1
  have h4 := (zdI hE.rl (i := i + 1) (by omega) (by omega) h1).2
  split at h2
  ·next hk =>
   have := zbl (E := E) (i := a1) (by omega)
   cases h2
   exact ⟨by omega, by omega, by omega⟩
  ·cases h2
theorem zkr {E : PE} {i d : Nat} (hi : i < E.l.length) {c : Int} {post : List Nd} (h : zbt E i = .inr (c, post)) : gN E 5 i d = bnd (rW E i d c) fun a ms => .inl (a, ms ++ post) := by
 rw [g5 E i d hi, h]
 unfold rW
 dsimp only
 by_cases hd : 240 <= d
 ·rw [if_pos hd, if_pos hd]; rfl
 ·rw [if_neg hd, if_neg hd]
  cases gN E 0 (i + 1) (d + 1) with
  | inr q => rfl
  | inl p =>
   show (if kdA E p.1 = c then (.inl (p.1 + 1, p.2 ++ post) : PR) else .inr (p.1, 60)) = bnd (if kdA E p.1 = c then .inl (p.1 + 1, p.2) else .inr (p.1, 60)) _
   split <;> rfl
def brR (E : PE) (i d : Nat) : PR := if kdA E (i + 1) = 20 then .inl (i + 2, [nd0 17]) else bnd (rW E i d 20) fun a ms => .inl (a, ms ++ [nd0 18])
theorem g5_br {E : PE} {i d : Nat} (hi : i < E.l.length) (hk : kdA E i = 19) : gN E 5 i d = brR E i d := by
 have ht : (tkA E i).kd = 19 := by
  unfold tkA
  unfold kdA at hk
  rw [List.getElem?_eq_getElem hi] at hk ⊢
  exact hk
 unfold brR
 by_cases h : kdA E (i + 1) = 20
 ·rw [if_pos h, g5 E i d hi]
  have : zbt E i = .inl ([nd0 17], 2) := by unfold zbt zbW; rw [ht, h]; rfl
  rw [this]
 ·rw [if_neg h]
  exact zkr hi (by unfold zbt zbW; rw [ht, if_neg (by decide), if_neg (by decide), if_neg (by decide), if_neg (by decide), if_neg (by decide), if_neg (by decide), if_neg (by decide), if_neg (by decide), if_pos rfl, if_neg h])
theorem ze1 {E : PE} {i : Nat} (hi : i < E.l.length) : (tkA E i).kd = kdA E i := by
 unfold tkA kdA
 rw [List.getElem?_eq_getElem hi]
 rfl
theorem zmv (ss : List R.zbe) (h : ∀ s ∈ ss, 1 <= s.length) : 0 < (R.zjG ss).length := by
 unfold R.zjG
 split
 ·decide
 ·next h0 =>
  cases ss with
  | nil => exact absurd rfl h0
  | cons s l =>
   have h1 := h s (List.mem_cons_self)
   have key : ∀ k, 0 < (R.zfL (s :: l) (k + 1)).length := by
    intro k
    induction k with
    | zero =>
     rw [R.zdl, List.length_append]
     have : 0 < (R.ptI (s :: l) 0).length := by
      unfold R.ptI
      show 0 < (R.zd0 s s.length ++ _).length
      rw [List.length_append]
      have : 0 < (R.zd0 s s.length).length := by
       cases s with
       | nil => exact absurd h1 (by decide)
       | cons p r =>
        have key2 : ∀ k, 0 < (R.zd0 (p :: r) (k + 1)).length := by
         intro k
         induction k with
         | zero => rw [R.zdk, List.length_append]; unfold R.ndI; show 0 < _ + (_ :: _ : List R.Nd).length; rw [List.length_cons]; omega
         | succ k ih => rw [R.zdk, List.length_append]; omega
        exact key2 r.length
      omega
     omega
    | succ k ih => rw [R.zdl, List.length_append]; omega
   exact key l.length
theorem zpA (t : Tk) : 0 < (lfN t).length := by
 unfold lfN
 split
 ·split <;> simp
 ·split
  ·simp
  ·split
   ·unfold rnP; rw [List.length_map]; exact zmv _ fun s hs => (R.zeo _ _ s hs).2.1
   ·split
    ·simp
    ·split
     ·simp
     ·split <;> simp
theorem zpB (t : Tk) : (lfN t).length + 1 <= 10027010 := by
 unfold lfN
 split
 ·split <;> simp
 ·split
  ·simp
  ·split
   ·exact zkk _ _
   ·split
    ·simp
    ·split
     ·simp
     ·split <;> simp
theorem zmw {t : Tk} {k2 : Int} (hk : t.kd = 2 ∨ t.kd = 3 ∨ t.kd = 28 ∨ t.kd = 5 ∨ t.kd = 18 ∨ t.kd = 29 ∨ t.kd = 30 ∨ t.kd = 1) : zbW rnP t k2 = .inl (lfN t, 1) := by
 unfold zbW lfN
 rcases hk with h | h | h | h | h | h | h | h <;> rw [h] <;> rfl
theorem zks {E : PE} (hE : OkE E) {z : Nat} {w0 : World} {b : Nat} {tv : Value} {i d : Nat} (hk : kdA E i = 19) (HX0 : Ct 89 E z w0 b tv (i + 1) (d + 1) (gN E 0 (i + 1) (d + 1))) : Ct 202 E z w0 b tv i d (brR E i d) := by
 intro W v L h hL
 have hlen := hE.len
 have hz := hE.z
 have hlt := zbl (E := E) (i := i) (by omega)
 have H := hO h
 have HE := hO hE
 have HB : Hid (∀ _ : Unit, Calls Tryz.prog 65 #[.pointer (some ⟨b, 0, none⟩)] W fun e W' => e = .returned (.int .i64 (kdA E (i + 1))) /\ Below W.heap.size W W') := fun _ => zfi h hlt hz
 unfold brR
 by_cases h20 : kdA E (i + 1) = 20
 ·have hlt2 := zbl (E := E) (i := i + 1) (by omega)
  have HP1 : Hid (∀ W v, RS E z w0 W b tv i d v L -> Calls Tryz.prog 90 #[.pointer (some ⟨b, 0, none⟩), .int .i64 19] W fun e W' => e = .returned (.tuple #[]) /\ RS E z w0 W' b tv (i + 1) d v L /\ Fr W W' b v v) := fun W v h => by
   have := zcs h hlt hz
   rw [hk] at this
   exact this
  have HP2 : Hid (∀ W v, RS E z w0 W b tv (i + 1) d v L -> Calls Tryz.prog 90 #[.pointer (some ⟨b, 0, none⟩), .int .i64 20] W fun e W' => e = .returned (.tuple #[]) /\ RS E z w0 W' b tv ((i + 1) + 1) d v L /\ Fr W W' b v v) := fun W v h => by
   have := zcs h hlt2 hz
   rw [h20] at this
   exact this
  have HPu : Hid (∀ W v q, W.heap.size = q -> RS E z w0 W b tv (i + 1 + 1) d v L -> Calls Tryz.prog 119 #[.pointer (some ⟨b, 0, none⟩), .slice (some ⟨q, 0, none⟩) 1 1] (W.alloc (.cells #[.int .i64 17, .int .i64 0, .string ⟨#[]⟩, .int .u64 0, .int .u64 0, .int .u64 0, .int .u64 0] 51)) fun e W' => e = .returned (.tuple #[]) /\ ∃ v', RS E z w0 W' b tv (i + 1 + 1) d v' (L ++ [⟨17, 0, ⟨#[]⟩, 0, 0, 0, 0⟩]) /\ Fr W W' b v v') := fun W v q hq h => zgE h (nd0 17) q hq (by omega)
  rw [if_pos h20]
  rw [h20] at HB
  clear h hk h20 HX0 hE
  go_enter Tryz.func202, Tryz.ntmps202
  go_wp2_with fail
  refine (HB.out ()).mono ?_
  rintro e w1 ⟨rfl, hb⟩
  have H1 := hO (H.out.later hb)
  have HF1 : Hid (Fr W w1 b v v) := Fr.below b v hb
  clear hb HB H
  go_wp2_with fail
  refine (HP1.out _ _ H1.out).mono ?_
  rintro e w2 ⟨rfl, h2, hf2⟩
  have H2 := hO h2
  have HF2 : Hid (Fr W w2 b v v) := HF1.out.trans hf2
  clear h2 hf2 H1 HF1 HP1
  go_wp2_with fail
  refine (HP2.out _ _ H2.out).mono ?_
  rintro e w3 ⟨rfl, h3, hf3⟩
  have H3 := hO h3
  have HF3 : Hid (Fr W w3 b v v) := HF2.out.trans hf3
  clear h3 hf3 H2 HF2 HP2
  go_wp2_with fail
  refine (HPu.out _ _ _ rfl H3.out).mono ?_
  rintro e w4 ⟨rfl, v4, h4, hf4⟩
  have H4 : Hid (∃ v', RS E z w0 w4 b tv (i + 2) d v' (L ++ [nd0 17]) /\ Fr W w4 b v v') := ⟨v4, h4, HF3.out.trans hf4⟩
  clear h4 hf4 H3 HF3 HPu
  go_wp2_with fail
  first | go_end0 | refine bodyPost_ret (results_none rfl _ _ _) rfl ?_
  exact ⟨rfl, H4.out⟩
 ·have t1 : (kdA E (i + 1) == 20) = false := bF h20
  have HWi : Hid (∀ W v, RS E z w0 W b tv i d v L -> Calls Tryz.prog 201 #[.pointer (some ⟨b, 0, none⟩), .int .i64 20] W fun e W' => PoR E z w0 b tv d W v L (rW E i d 20) e W') := fun W v h => zcj hE 20 (by omega) hlt HX0 W v L h hL
  have HBd := (show Hid _ from fun a ms => zkq (a := a) (ms := ms) hE (i := i) (d := d) (c := 20) (by omega) hlt)
  rw [if_neg h20]
  generalize rW E i d 20 = r at *
  generalize kdA E (i + 1) = k2 at *
  clear h hk h20 HX0 hE
  cases r with
  | inr q =>
   show Calls Tryz.prog 202 _ _ fun e W' => PoR E z w0 b tv d W v L (.inr q) e W'
   go_enter Tryz.func202, Tryz.ntmps202
   go_wp2_with fail
   refine (HB.out ()).mono ?_
   rintro e w1 ⟨rfl, hb⟩
   have H1 := hO (H.out.later hb)
   clear hb HB H
   go_wp2_with fail
   refine (HWi.out _ _ H1.out).mono ?_
   rintro e w2 ⟨rfl, hb⟩
   exact zae rfl ⟨rfl, hb⟩
  | inl p =>
   obtain ⟨a, ms⟩ := p
   obtain ⟨b1, b2, b3⟩ := HBd.out a ms rfl
   show Calls Tryz.prog 202 _ _ fun e W' => PoR E z w0 b tv d W v L (.inl (a, ms ++ [nd0 18])) e W'
   have HPu : Hid (∀ W v q, W.heap.size = q -> RS E z w0 W b tv a d v (L ++ ms) -> Calls Tryz.prog 119 #[.pointer (some ⟨b, 0, none⟩), .slice (some ⟨q, 0, none⟩) 1 1] (W.alloc (.cells #[.int .i64 18, .int .i64 0, .string ⟨#[]⟩, .int .u64 0, .int .u64 0, .int .u64 0, .int .u64 0] 51)) fun e W' => e = .returned (.tuple #[]) /\ ∃ v', RS E z w0 W' b tv a d v' ((L ++ ms) ++ [⟨18, 0, ⟨#[]⟩, 0, 0, 0, 0⟩]) /\ Fr W W' b v v') := fun W v q hq h => zgE h (nd0 18) q hq (by rw [List.length_append]; omega)
   clear HBd
   go_enter Tryz.func202, Tryz.ntmps202
   go_wp2_with fail
   refine (HB.out ()).mono ?_
   rintro e w1 ⟨rfl, hb⟩
   have H1 := hO (H.out.later hb)
   have HF1 : Hid (Fr W w1 b v v) := Fr.below b v hb
   clear hb HB H
   go_wp2_with fail
   refine (HWi.out _ _ H1.out).mono ?_
   rintro e w2 ⟨rfl, v2, h2, hf2⟩
   have H2 := hO h2
   have HF2 : Hid (Fr W w2 b v v2) := HF1.out.trans hf2
   clear h2 hf2 H1 HF1 HWi
   go_wp2_with fail
   refine (HPu.out _ _ _ rfl H2.out).mono ?_
   rintro e w4 ⟨rfl, v4, h4, hf4⟩
   have H4 : Hid (∃ v', RS E z w0 w4 b tv a d v' (L ++ (ms ++ [nd0 18])) /\ Fr W w4 b v v') := ⟨v4, by rw [<- List.append_assoc]; exact h4, HF2.out.trans hf4⟩
   clear h4 hf4 H2 HF2 HPu
   go_wp2_with fail
   go_end0
   exact ⟨rfl, H4.out⟩
theorem zpC {E : PE} (hE : OkE E) {z : Nat} {w0 : World} {b : Nat} {tv : Value} {i d : Nat} (hb : bgP E i = false) (W : World) (v : Value) (L : List Nd) (h : RS E z w0 W b tv i d v L) : Calls Tryz.prog 186 #[.pointer (some ⟨b, 0, none⟩)] W fun e W' => PoR E z w0 b tv d W v L (.inr (i, 60)) e W' := by
 have HB : Hid (∀ _ : Unit, Calls Tryz.prog 164 #[.pointer (some ⟨b, 0, none⟩)] W fun e W' => e = .returned (.bool false) /\ Below W.heap.size W W') := fun _ => by
  have := zaH h hE.z
  rw [hb] at this
  exact this
 have HRf : Hid (∀ W, RS E z w0 W b tv i d v L -> Calls Tryz.prog 64 #[.pointer (some ⟨b, 0, none⟩), .int .i64 60] W fun e W' => e = pnc (plA E z i) 60 /\ Below W.heap.size W W') := fun W h => zbz h 60
 have H := hO h
 clear h hb hE
 go_enter Tryz.func186, Tryz.ntmps186
 go_wp2_with fail
 refine (HB.out ()).mono ?_
 rintro e w1 ⟨rfl, hb⟩
 have H1 := hO (H.out.later hb)
 clear hb HB H
 go_wp2_with fail
 refine (HRf.out _ H1.out).mono ?_
 rintro e w3 ⟨rfl, hb⟩
 exact zae rfl ⟨rfl, H1.out.bl.trans (hb.mono H1.out.bl.size)⟩
theorem zpD {E : PE} (hE : OkE E) {z : Nat} {w0 : World} {b : Nat} {tv : Value} {i d : Nat} (hb : bgP E i = true) (h16 : kdA E i = 16) (HX0 : Ct 89 E z w0 b tv (i + 1) (d + 1) (gN E 0 (i + 1) (d + 1))) (W : World) (v : Value) (L : List Nd) (h : RS E z w0 W b tv i d v L) (hL : L.length <= 10027010 * i) : Calls Tryz.prog 186 #[.pointer (some ⟨b, 0, none⟩)] W fun e W' => PoR E z w0 b tv d W v L (gN E 5 i d) e W' := by
 have hlen := hE.len
 have hz := hE.z
 have hlt := zbl (E := E) (i := i) (by omega)
 obtain ⟨t, ht, hk, hpl, hta⟩ := zaw E z h.hi
 clear hpl
 obtain rfl : t = tkA E i := hta hlt
 have HB : Hid (∀ _ : Unit, Calls Tryz.prog 164 #[.pointer (some ⟨b, 0, none⟩)] W fun e W' => e = .returned (.bool true) /\ Below W.heap.size W W') := fun _ => by
  have := zaH h hz
  rw [hb] at this
  exact this
 have HH : Hid (∀ W, RS E z w0 W b tv i d v L -> Calls Tryz.prog 62 #[.pointer (some ⟨b, 0, none⟩)] W fun e W' => e = .returned (.agg #[.int .i64 (tkA E i).kd, .int .i64 (tkA E i).nn, .int .i64 (tkA E i).fr, .int .i64 (tkA E i).en, .string (tkA E i).tx, .int .u64 (tkA E i).s0, .int .u64 (tkA E i).s1, .int .u64 (tkA E i).s2, .int .u64 (tkA E i).s3]) /\ Below W.heap.size W W') := fun W h => zaC h _ ht
 have H := hO h
 have HE := hO hE
 have HV : Hid (gN E 5 i d = bnd (rW E i d 17) fun a ms => .inl (a, ms ++ [])) := zkr hlt (by unfold zbt zbW; rw [ze1 hlt, h16]; rfl)
 have HWi : Hid (∀ W v, RS E z w0 W b tv i d v L -> Calls Tryz.prog 201 #[.pointer (some ⟨b, 0, none⟩), .int .i64 17] W fun e W' => PoR E z w0 b tv d W v L (rW E i d 17) e W') := fun W v h => zcj hE 17 (by omega) hlt HX0 W v L h hL
 have HBd := (show Hid _ from fun a ms => zkq (a := a) (ms := ms) hE (i := i) (d := d) (c := 17) (by omega) hlt)
 rw [HV.out]
 rw [ze1 hlt, h16] at HH
 generalize rW E i d 17 = r at *
 clear h ht hk hta h16 hb HX0 hE HV
 generalize tkA E i = t at *
 cases r with
 | inr q =>
  show Calls Tryz.prog 186 _ _ fun e W' => PoR E z w0 b tv d W v L (.inr q) e W'
  go_enter Tryz.func186, Tryz.ntmps186
  go_wp2_with fail
  refine (HB.out ()).mono ?_
  rintro e w1 ⟨rfl, hb⟩
  have H1 := hO (H.out.later hb)
  have HF1 : Hid (Fr W w1 b v v) := Fr.below b v hb
  clear hb HB H
  go_wp2_with fail
  refine (HH.out _ H1.out).mono ?_
  rintro e w2 ⟨rfl, hb⟩
  have H2 : Hid (RS E z w0 (w2.alloc (.cells #[.int .i64 16, .int .i64 t.nn, .int .i64 t.fr, .int .i64 t.en, .string t.tx, .int .u64 t.s0, .int .u64 t.s1, .int .u64 t.s2, .int .u64 t.s3] 115)) b tv i d v L) := (H1.out.later hb).later (zaa _ _)
  have HF2 : Hid (Fr W (w2.alloc (.cells #[.int .i64 16, .int .i64 t.nn, .int .i64 t.fr, .int .i64 t.en, .string t.tx, .int .u64 t.s0, .int .u64 t.s1, .int .u64 t.s2, .int .u64 t.s3] 115)) b v v) := HF1.out.trans ((Fr.below b v hb).trans (Fr.below b v (zaa _ _)))
  have HT2 : Hid (TX (w2.alloc (.cells #[.int .i64 16, .int .i64 t.nn, .int .i64 t.fr, .int .i64 t.en, .string t.tx, .int .u64 t.s0, .int .u64 t.s1, .int .u64 t.s2, .int .u64 t.s3] 115)) w2.heap.size ⟨16, t.nn, t.fr, t.en, t.tx, t.s0, t.s1, t.s2, t.s3⟩) := ⟨heap_alloc_new w2 _⟩
  have HN2 : Hid (w2.heap.size ≠ b /\ v.ownBlock ≠ some w2.heap.size) := (H1.out.later hb).new
  clear hb HH H1 HF1
  go_wp2_with fail
  refine (HWi.out _ _ H2.out).mono ?_
  rintro e w3 ⟨rfl, hb⟩
  exact zae rfl ⟨rfl, hb⟩
 | inl p =>
  obtain ⟨a, ms⟩ := p
  obtain ⟨b1, b2, b3⟩ := HBd.out a ms rfl
  show Calls Tryz.prog 186 _ _ fun e W' => PoR E z w0 b tv d W v L (.inl (a, ms ++ [])) e W'
  rw [List.append_nil]
  clear HBd
  go_enter Tryz.func186, Tryz.ntmps186
  go_wp2_with fail
  refine (HB.out ()).mono ?_
  rintro e w1 ⟨rfl, hb⟩
  have H1 := hO (H.out.later hb)
  have HF1 : Hid (Fr W w1 b v v) := Fr.below b v hb
  clear hb HB H
  go_wp2_with fail
  refine (HH.out _ H1.out).mono ?_
  rintro e w2 ⟨rfl, hb⟩
  have H2 : Hid (RS E z w0 (w2.alloc (.cells #[.int .i64 16, .int .i64 t.nn, .int .i64 t.fr, .int .i64 t.en, .string t.tx, .int .u64 t.s0, .int .u64 t.s1, .int .u64 t.s2, .int .u64 t.s3] 115)) b tv i d v L) := (H1.out.later hb).later (zaa _ _)
  have HF2 : Hid (Fr W (w2.alloc (.cells #[.int .i64 16, .int .i64 t.nn, .int .i64 t.fr, .int .i64 t.en, .string t.tx, .int .u64 t.s0, .int .u64 t.s1, .int .u64 t.s2, .int .u64 t.s3] 115)) b v v) := HF1.out.trans ((Fr.below b v hb).trans (Fr.below b v (zaa _ _)))
  have HT2 : Hid (TX (w2.alloc (.cells #[.int .i64 16, .int .i64 t.nn, .int .i64 t.fr, .int .i64 t.en, .string t.tx, .int .u64 t.s0, .int .u64 t.s1, .int .u64 t.s2, .int .u64 t.s3] 115)) w2.heap.size ⟨16, t.nn, t.fr, t.en, t.tx, t.s0, t.s1, t.s2, t.s3⟩) := ⟨heap_alloc_new w2 _⟩
  have HN2 : Hid (w2.heap.size ≠ b /\ v.ownBlock ≠ some w2.heap.size) := (H1.out.later hb).new
  clear hb HH H1 HF1
  go_wp2_with fail
  refine (HWi.out _ _ H2.out).mono ?_
  rintro e w3 ⟨rfl, v3, h3, hf3⟩
  have H4 : Hid (∃ v', RS E z w0 w3 b tv a d v' (L ++ ms) /\ Fr W w3 b v v') := ⟨v3, h3, HF2.out.trans hf3⟩
  clear h3 hf3 H2 HF2 HWi HT2
  go_wp2_with fail
  go_end0
  exact ⟨rfl, H4.out⟩
theorem zpE {E : PE} (hE : OkE E) {z : Nat} {w0 : World} {b : Nat} {tv : Value} {i d : Nat} (hb : bgP E i = true) (h21 : kdA E i = 21) (HX0 : Ct 89 E z w0 b tv (i + 1) (d + 1) (gN E 0 (i + 1) (d + 1))) (W : World) (v : Value) (L : List Nd) (h : RS E z w0 W b tv i d v L) (hL : L.length <= 10027010 * i) : Calls Tryz.prog 186 #[.pointer (some ⟨b, 0, none⟩)] W fun e W' => PoR E z w0 b tv d W v L (gN E 5 i d) e W' := by
 have hlen := hE.len
 have hz := hE.z
 have hlt := zbl (E := E) (i := i) (by omega)
 obtain ⟨t, ht, hk, hpl, hta⟩ := zaw E z h.hi
 clear hpl
 obtain rfl : t = tkA E i := hta hlt
 have HB : Hid (∀ _ : Unit, Calls Tryz.prog 164 #[.pointer (some ⟨b, 0, none⟩)] W fun e W' => e = .returned (.bool true) /\ Below W.heap.size W W') := fun _ => by
  have := zaH h hz
  rw [hb] at this
  exact this
 have HH : Hid (∀ W, RS E z w0 W b tv i d v L -> Calls Tryz.prog 62 #[.pointer (some ⟨b, 0, none⟩)] W fun e W' => e = .returned (.agg #[.int .i64 (tkA E i).kd, .int .i64 (tkA E i).nn, .int .i64 (tkA E i).fr, .int .i64 (tkA E i).en, .string (tkA E i).tx, .int .u64 (tkA E i).s0, .int .u64 (tkA E i).s1, .int .u64 (tkA E i).s2, .int .u64 (tkA E i).s3]) /\ Below W.heap.size W W') := fun W h => zaC h _ ht
 have H := hO h
 have HE := hO hE
 have HV : Hid (gN E 5 i d = bnd (rW E i d 22) fun a ms => .inl (a, ms ++ [⟨19, 0, (tkA E i).tx, 0, 0, 0, 0⟩])) := zkr hlt (by unfold zbt zbW; rw [ze1 hlt, h21]; rfl)
 have HWi : Hid (∀ W v, RS E z w0 W b tv i d v L -> Calls Tryz.prog 201 #[.pointer (some ⟨b, 0, none⟩), .int .i64 22] W fun e W' => PoR E z w0 b tv d W v L (rW E i d 22) e W') := fun W v h => zcj hE 22 (by omega) hlt HX0 W v L h hL
 have HBd := (show Hid _ from fun a ms => zkq (a := a) (ms := ms) hE (i := i) (d := d) (c := 22) (by omega) hlt)
 rw [HV.out]
 rw [ze1 hlt, h21] at HH
 generalize rW E i d 22 = r at *
 clear h ht hk hta h21 hb HX0 hE HV
 generalize tkA E i = t at *
 cases r with
 | inr q =>
  show Calls Tryz.prog 186 _ _ fun e W' => PoR E z w0 b tv d W v L (.inr q) e W'
  go_enter Tryz.func186, Tryz.ntmps186
  go_wp2_with fail
  refine (HB.out ()).mono ?_
  rintro e w1 ⟨rfl, hb⟩
  have H1 := hO (H.out.later hb)
  have HF1 : Hid (Fr W w1 b v v) := Fr.below b v hb
  clear hb HB H
  go_wp2_with fail
  refine (HH.out _ H1.out).mono ?_
  rintro e w2 ⟨rfl, hb⟩
  have H2 : Hid (RS E z w0 (w2.alloc (.cells #[.int .i64 21, .int .i64 t.nn, .int .i64 t.fr, .int .i64 t.en, .string t.tx, .int .u64 t.s0, .int .u64 t.s1, .int .u64 t.s2, .int .u64 t.s3] 115)) b tv i d v L) := (H1.out.later hb).later (zaa _ _)
  have HF2 : Hid (Fr W (w2.alloc (.cells #[.int .i64 21, .int .i64 t.nn, .int .i64 t.fr, .int .i64 t.en, .string t.tx, .int .u64 t.s0, .int .u64 t.s1, .int .u64 t.s2, .int .u64 t.s3] 115)) b v v) := HF1.out.trans ((Fr.below b v hb).trans (Fr.below b v (zaa _ _)))
  have HT2 : Hid (TX (w2.alloc (.cells #[.int .i64 21, .int .i64 t.nn, .int .i64 t.fr, .int .i64 t.en, .string t.tx, .int .u64 t.s0, .int .u64 t.s1, .int .u64 t.s2, .int .u64 t.s3] 115)) w2.heap.size ⟨21, t.nn, t.fr, t.en, t.tx, t.s0, t.s1, t.s2, t.s3⟩) := ⟨heap_alloc_new w2 _⟩
  have HN2 : Hid (w2.heap.size ≠ b /\ v.ownBlock ≠ some w2.heap.size) := (H1.out.later hb).new
  clear hb HH H1 HF1
  go_wp2_with fail
  refine (HWi.out _ _ H2.out).mono ?_
  rintro e w3 ⟨rfl, hb⟩
  exact zae rfl ⟨rfl, hb⟩
 | inl p =>
  obtain ⟨a, ms⟩ := p
  obtain ⟨b1, b2, b3⟩ := HBd.out a ms rfl
  show Calls Tryz.prog 186 _ _ fun e W' => PoR E z w0 b tv d W v L (.inl (a, ms ++ [⟨19, 0, t.tx, 0, 0, 0, 0⟩])) e W'
  have HPu : Hid (∀ W v q, W.heap.size = q -> RS E z w0 W b tv a d v (L ++ ms) -> Calls Tryz.prog 119 #[.pointer (some ⟨b, 0, none⟩), .slice (some ⟨q, 0, none⟩) 1 1] (W.alloc (.cells #[.int .i64 19, .int .i64 0, .string t.tx, .int .u64 0, .int .u64 0, .int .u64 0, .int .u64 0] 51)) fun e W' => e = .returned (.tuple #[]) /\ ∃ v', RS E z w0 W' b tv a d v' ((L ++ ms) ++ [⟨19, 0, t.tx, 0, 0, 0, 0⟩]) /\ Fr W W' b v v') := fun W v q hq h => zgE h ⟨19, 0, t.tx, 0, 0, 0, 0⟩ q hq (by rw [List.length_append]; omega)
  clear HBd
  go_enter Tryz.func186, Tryz.ntmps186
  go_wp2_with fail
  refine (HB.out ()).mono ?_
  rintro e w1 ⟨rfl, hb⟩
  have H1 := hO (H.out.later hb)
  have HF1 : Hid (Fr W w1 b v v) := Fr.below b v hb
  clear hb HB H
  go_wp2_with fail
  refine (HH.out _ H1.out).mono ?_
  rintro e w2 ⟨rfl, hb⟩
  have H2 : Hid (RS E z w0 (w2.alloc (.cells #[.int .i64 21, .int .i64 t.nn, .int .i64 t.fr, .int .i64 t.en, .string t.tx, .int .u64 t.s0, .int .u64 t.s1, .int .u64 t.s2, .int .u64 t.s3] 115)) b tv i d v L) := (H1.out.later hb).later (zaa _ _)
  have HF2 : Hid (Fr W (w2.alloc (.cells #[.int .i64 21, .int .i64 t.nn, .int .i64 t.fr, .int .i64 t.en, .string t.tx, .int .u64 t.s0, .int .u64 t.s1, .int .u64 t.s2, .int .u64 t.s3] 115)) b v v) := HF1.out.trans ((Fr.below b v hb).trans (Fr.below b v (zaa _ _)))
  have HT2 : Hid (TX (w2.alloc (.cells #[.int .i64 21, .int .i64 t.nn, .int .i64 t.fr, .int .i64 t.en, .string t.tx, .int .u64 t.s0, .int .u64 t.s1, .int .u64 t.s2, .int .u64 t.s3] 115)) w2.heap.size ⟨21, t.nn, t.fr, t.en, t.tx, t.s0, t.s1, t.s2, t.s3⟩) := ⟨heap_alloc_new w2 _⟩
  have HN2 : Hid (w2.heap.size ≠ b /\ v.ownBlock ≠ some w2.heap.size) := (H1.out.later hb).new
  clear hb HH H1 HF1
  go_wp2_with fail
  refine (HWi.out _ _ H2.out).mono ?_
  rintro e w3 ⟨rfl, v3, h3, hf3⟩
  have H3 := hO h3
  have HF3 : Hid (Fr W w3 b v v3) := HF2.out.trans hf3
  have HT3 := hO (zhx HT2.out hf3 HN2.out.1 HN2.out.2)
  clear h3 hf3 H2 HF2 HT2 HWi
  obtain ⟨c0, c1, c2, c3, c4, c5, c6, c7, c8⟩ := HT3.out.cells
  go_wp2_with fail
  refine (HPu.out _ _ _ rfl H3.out).mono ?_
  rintro e w4 ⟨rfl, v4, h4, hf4⟩
  have H4 : Hid (∃ v', RS E z w0 w4 b tv a d v' (L ++ (ms ++ [⟨19, 0, t.tx, 0, 0, 0, 0⟩])) /\ Fr W w4 b v v') := ⟨v4, by rw [<- List.append_assoc]; exact h4, HF3.out.trans hf4⟩
  clear h4 hf4 H3 HF3 HT3 HPu c0 c1 c2 c3 c4 c5 c6 c7 c8
  go_wp2_with fail
  go_end0
  exact ⟨rfl, H4.out⟩
theorem zpF {E : PE} (hE : OkE E) {z : Nat} {w0 : World} {b : Nat} {tv : Value} {i d : Nat} (hb : bgP E i = true) (h23 : kdA E i = 23) (HX0 : Ct 89 E z w0 b tv (i + 1) (d + 1) (gN E 0 (i + 1) (d + 1))) (W : World) (v : Value) (L : List Nd) (h : RS E z w0 W b tv i d v L) (hL : L.length <= 10027010 * i) : Calls Tryz.prog 186 #[.pointer (some ⟨b, 0, none⟩)] W fun e W' => PoR E z w0 b tv d W v L (gN E 5 i d) e W' := by
 have hlen := hE.len
 have hz := hE.z
 have hlt := zbl (E := E) (i := i) (by omega)
 obtain ⟨t, ht, hk, hpl, hta⟩ := zaw E z h.hi
 clear hpl
 obtain rfl : t = tkA E i := hta hlt
 have HB : Hid (∀ _ : Unit, Calls Tryz.prog 164 #[.pointer (some ⟨b, 0, none⟩)] W fun e W' => e = .returned (.bool true) /\ Below W.heap.size W W') := fun _ => by
  have := zaH h hz
  rw [hb] at this
  exact this
 have HH : Hid (∀ W, RS E z w0 W b tv i d v L -> Calls Tryz.prog 62 #[.pointer (some ⟨b, 0, none⟩)] W fun e W' => e = .returned (.agg #[.int .i64 (tkA E i).kd, .int .i64 (tkA E i).nn, .int .i64 (tkA E i).fr, .int .i64 (tkA E i).en, .string (tkA E i).tx, .int .u64 (tkA E i).s0, .int .u64 (tkA E i).s1, .int .u64 (tkA E i).s2, .int .u64 (tkA E i).s3]) /\ Below W.heap.size W W') := fun W h => zaC h _ ht
 have H := hO h
 have HE := hO hE
 have HV : Hid (gN E 5 i d = bnd (rW E i d 24) fun a ms => .inl (a, ms ++ [⟨20, 0, ⟨#[]⟩, 0, 0, 0, 0⟩])) := zkr hlt (by unfold zbt zbW; rw [ze1 hlt, h23]; rfl)
 have HWi : Hid (∀ W v, RS E z w0 W b tv i d v L -> Calls Tryz.prog 201 #[.pointer (some ⟨b, 0, none⟩), .int .i64 24] W fun e W' => PoR E z w0 b tv d W v L (rW E i d 24) e W') := fun W v h => zcj hE 24 (by omega) hlt HX0 W v L h hL
 have HBd := (show Hid _ from fun a ms => zkq (a := a) (ms := ms) hE (i := i) (d := d) (c := 24) (by omega) hlt)
 rw [HV.out]
 rw [ze1 hlt, h23] at HH
 generalize rW E i d 24 = r at *
 clear h ht hk hta h23 hb HX0 hE HV
 generalize tkA E i = t at *
 cases r with
 | inr q =>
  show Calls Tryz.prog 186 _ _ fun e W' => PoR E z w0 b tv d W v L (.inr q) e W'
  go_enter Tryz.func186, Tryz.ntmps186
  go_wp2_with fail
  refine (HB.out ()).mono ?_
  rintro e w1 ⟨rfl, hb⟩
  have H1 := hO (H.out.later hb)
  have HF1 : Hid (Fr W w1 b v v) := Fr.below b v hb
  clear hb HB H
  go_wp2_with fail
  refine (HH.out _ H1.out).mono ?_
  rintro e w2 ⟨rfl, hb⟩
  have H2 : Hid (RS E z w0 (w2.alloc (.cells #[.int .i64 23, .int .i64 t.nn, .int .i64 t.fr, .int .i64 t.en, .string t.tx, .int .u64 t.s0, .int .u64 t.s1, .int .u64 t.s2, .int .u64 t.s3] 115)) b tv i d v L) := (H1.out.later hb).later (zaa _ _)
  have HF2 : Hid (Fr W (w2.alloc (.cells #[.int .i64 23, .int .i64 t.nn, .int .i64 t.fr, .int .i64 t.en, .string t.tx, .int .u64 t.s0, .int .u64 t.s1, .int .u64 t.s2, .int .u64 t.s3] 115)) b v v) := HF1.out.trans ((Fr.below b v hb).trans (Fr.below b v (zaa _ _)))
  have HT2 : Hid (TX (w2.alloc (.cells #[.int .i64 23, .int .i64 t.nn, .int .i64 t.fr, .int .i64 t.en, .string t.tx, .int .u64 t.s0, .int .u64 t.s1, .int .u64 t.s2, .int .u64 t.s3] 115)) w2.heap.size ⟨23, t.nn, t.fr, t.en, t.tx, t.s0, t.s1, t.s2, t.s3⟩) := ⟨heap_alloc_new w2 _⟩
  have HN2 : Hid (w2.heap.size ≠ b /\ v.ownBlock ≠ some w2.heap.size) := (H1.out.later hb).new
  clear hb HH H1 HF1
  go_wp2_with fail
  refine (HWi.out _ _ H2.out).mono ?_
  rintro e w3 ⟨rfl, hb⟩
  exact zae rfl ⟨rfl, hb⟩
 | inl p =>
  obtain ⟨a, ms⟩ := p
  obtain ⟨b1, b2, b3⟩ := HBd.out a ms rfl
  show Calls Tryz.prog 186 _ _ fun e W' => PoR E z w0 b tv d W v L (.inl (a, ms ++ [⟨20, 0, ⟨#[]⟩, 0, 0, 0, 0⟩])) e W'
  have HPu : Hid (∀ W v q, W.heap.size = q -> RS E z w0 W b tv a d v (L ++ ms) -> Calls Tryz.prog 119 #[.pointer (some ⟨b, 0, none⟩), .slice (some ⟨q, 0, none⟩) 1 1] (W.alloc (.cells #[.int .i64 20, .int .i64 0, .string ⟨#[]⟩, .int .u64 0, .int .u64 0, .int .u64 0, .int .u64 0] 51)) fun e W' => e = .returned (.tuple #[]) /\ ∃ v', RS E z w0 W' b tv a d v' ((L ++ ms) ++ [⟨20, 0, ⟨#[]⟩, 0, 0, 0, 0⟩]) /\ Fr W W' b v v') := fun W v q hq h => zgE h ⟨20, 0, ⟨#[]⟩, 0, 0, 0, 0⟩ q hq (by rw [List.length_append]; omega)
  clear HBd
  go_enter Tryz.func186, Tryz.ntmps186
  go_wp2_with fail
  refine (HB.out ()).mono ?_
  rintro e w1 ⟨rfl, hb⟩
  have H1 := hO (H.out.later hb)
  have HF1 : Hid (Fr W w1 b v v) := Fr.below b v hb
  clear hb HB H
  go_wp2_with fail
  refine (HH.out _ H1.out).mono ?_
  rintro e w2 ⟨rfl, hb⟩
  have H2 : Hid (RS E z w0 (w2.alloc (.cells #[.int .i64 23, .int .i64 t.nn, .int .i64 t.fr, .int .i64 t.en, .string t.tx, .int .u64 t.s0, .int .u64 t.s1, .int .u64 t.s2, .int .u64 t.s3] 115)) b tv i d v L) := (H1.out.later hb).later (zaa _ _)
  have HF2 : Hid (Fr W (w2.alloc (.cells #[.int .i64 23, .int .i64 t.nn, .int .i64 t.fr, .int .i64 t.en, .string t.tx, .int .u64 t.s0, .int .u64 t.s1, .int .u64 t.s2, .int .u64 t.s3] 115)) b v v) := HF1.out.trans ((Fr.below b v hb).trans (Fr.below b v (zaa _ _)))
  have HT2 : Hid (TX (w2.alloc (.cells #[.int .i64 23, .int .i64 t.nn, .int .i64 t.fr, .int .i64 t.en, .string t.tx, .int .u64 t.s0, .int .u64 t.s1, .int .u64 t.s2, .int .u64 t.s3] 115)) w2.heap.size ⟨23, t.nn, t.fr, t.en, t.tx, t.s0, t.s1, t.s2, t.s3⟩) := ⟨heap_alloc_new w2 _⟩
  have HN2 : Hid (w2.heap.size ≠ b /\ v.ownBlock ≠ some w2.heap.size) := (H1.out.later hb).new
  clear hb HH H1 HF1
  go_wp2_with fail
  refine (HWi.out _ _ H2.out).mono ?_
  rintro e w3 ⟨rfl, v3, h3, hf3⟩
  have H3 := hO h3
  have HF3 : Hid (Fr W w3 b v v3) := HF2.out.trans hf3
  have HT3 := hO (zhx HT2.out hf3 HN2.out.1 HN2.out.2)
  clear h3 hf3 H2 HF2 HT2 HWi
  obtain ⟨c0, c1, c2, c3, c4, c5, c6, c7, c8⟩ := HT3.out.cells
  go_wp2_with fail
  refine (HPu.out _ _ _ rfl H3.out).mono ?_
  rintro e w4 ⟨rfl, v4, h4, hf4⟩
  have H4 : Hid (∃ v', RS E z w0 w4 b tv a d v' (L ++ (ms ++ [⟨20, 0, ⟨#[]⟩, 0, 0, 0, 0⟩])) /\ Fr W w4 b v v') := ⟨v4, by rw [<- List.append_assoc]; exact h4, HF3.out.trans hf4⟩
  clear h4 hf4 H3 HF3 HT3 HPu c0 c1 c2 c3 c4 c5 c6 c7 c8
  go_wp2_with fail
  go_end0
  exact ⟨rfl, H4.out⟩
theorem zpG {E : PE} (hE : OkE E) {z : Nat} {w0 : World} {b : Nat} {tv : Value} {i d : Nat} (hb : bgP E i = true) (h25 : kdA E i = 25) (HX0 : Ct 89 E z w0 b tv (i + 1) (d + 1) (gN E 0 (i + 1) (d + 1))) (W : World) (v : Value) (L : List Nd) (h : RS E z w0 W b tv i d v L) (hL : L.length <= 10027010 * i) : Calls Tryz.prog 186 #[.pointer (some ⟨b, 0, none⟩)] W fun e W' => PoR E z w0 b tv d W v L (gN E 5 i d) e W' := by
 have hlen := hE.len
 have hz := hE.z
 have hlt := zbl (E := E) (i := i) (by omega)
 obtain ⟨t, ht, hk, hpl, hta⟩ := zaw E z h.hi
 clear hpl
 obtain rfl : t = tkA E i := hta hlt
 have HB : Hid (∀ _ : Unit, Calls Tryz.prog 164 #[.pointer (some ⟨b, 0, none⟩)] W fun e W' => e = .returned (.bool true) /\ Below W.heap.size W W') := fun _ => by
  have := zaH h hz
  rw [hb] at this
  exact this
 have HH : Hid (∀ W, RS E z w0 W b tv i d v L -> Calls Tryz.prog 62 #[.pointer (some ⟨b, 0, none⟩)] W fun e W' => e = .returned (.agg #[.int .i64 (tkA E i).kd, .int .i64 (tkA E i).nn, .int .i64 (tkA E i).fr, .int .i64 (tkA E i).en, .string (tkA E i).tx, .int .u64 (tkA E i).s0, .int .u64 (tkA E i).s1, .int .u64 (tkA E i).s2, .int .u64 (tkA E i).s3]) /\ Below W.heap.size W W') := fun W h => zaC h _ ht
 have H := hO h
 have HE := hO hE
 have HV : Hid (gN E 5 i d = bnd (rW E i d 26) fun a ms => .inl (a, ms ++ [⟨21, 0, ⟨#[]⟩, 0, 0, 0, 0⟩])) := zkr hlt (by unfold zbt zbW; rw [ze1 hlt, h25]; rfl)
 have HWi : Hid (∀ W v, RS E z w0 W b tv i d v L -> Calls Tryz.prog 201 #[.pointer (some ⟨b, 0, none⟩), .int .i64 26] W fun e W' => PoR E z w0 b tv d W v L (rW E i d 26) e W') := fun W v h => zcj hE 26 (by omega) hlt HX0 W v L h hL
 have HBd := (show Hid _ from fun a ms => zkq (a := a) (ms := ms) hE (i := i) (d := d) (c := 26) (by omega) hlt)
 rw [HV.out]
 rw [ze1 hlt, h25] at HH
 generalize rW E i d 26 = r at *
 clear h ht hk hta h25 hb HX0 hE HV
 generalize tkA E i = t at *
 cases r with
 | inr q =>
  show Calls Tryz.prog 186 _ _ fun e W' => PoR E z w0 b tv d W v L (.inr q) e W'
  go_enter Tryz.func186, Tryz.ntmps186
  go_wp2_with fail
  refine (HB.out ()).mono ?_
  rintro e w1 ⟨rfl, hb⟩
  have H1 := hO (H.out.later hb)
  have HF1 : Hid (Fr W w1 b v v) := Fr.below b v hb
  clear hb HB H
  go_wp2_with fail
  refine (HH.out _ H1.out).mono ?_
  rintro e w2 ⟨rfl, hb⟩
  have H2 : Hid (RS E z w0 (w2.alloc (.cells #[.int .i64 25, .int .i64 t.nn, .int .i64 t.fr, .int .i64 t.en, .string t.tx, .int .u64 t.s0, .int .u64 t.s1, .int .u64 t.s2, .int .u64 t.s3] 115)) b tv i d v L) := (H1.out.later hb).later (zaa _ _)
  have HF2 : Hid (Fr W (w2.alloc (.cells #[.int .i64 25, .int .i64 t.nn, .int .i64 t.fr, .int .i64 t.en, .string t.tx, .int .u64 t.s0, .int .u64 t.s1, .int .u64 t.s2, .int .u64 t.s3] 115)) b v v) := HF1.out.trans ((Fr.below b v hb).trans (Fr.below b v (zaa _ _)))
  have HT2 : Hid (TX (w2.alloc (.cells #[.int .i64 25, .int .i64 t.nn, .int .i64 t.fr, .int .i64 t.en, .string t.tx, .int .u64 t.s0, .int .u64 t.s1, .int .u64 t.s2, .int .u64 t.s3] 115)) w2.heap.size ⟨25, t.nn, t.fr, t.en, t.tx, t.s0, t.s1, t.s2, t.s3⟩) := ⟨heap_alloc_new w2 _⟩
  have HN2 : Hid (w2.heap.size ≠ b /\ v.ownBlock ≠ some w2.heap.size) := (H1.out.later hb).new
  clear hb HH H1 HF1
  go_wp2_with fail
  refine (HWi.out _ _ H2.out).mono ?_
  rintro e w3 ⟨rfl, hb⟩
  exact zae rfl ⟨rfl, hb⟩
 | inl p =>
  obtain ⟨a, ms⟩ := p
  obtain ⟨b1, b2, b3⟩ := HBd.out a ms rfl
  show Calls Tryz.prog 186 _ _ fun e W' => PoR E z w0 b tv d W v L (.inl (a, ms ++ [⟨21, 0, ⟨#[]⟩, 0, 0, 0, 0⟩])) e W'
  have HPu : Hid (∀ W v q, W.heap.size = q -> RS E z w0 W b tv a d v (L ++ ms) -> Calls Tryz.prog 119 #[.pointer (some ⟨b, 0, none⟩), .slice (some ⟨q, 0, none⟩) 1 1] (W.alloc (.cells #[.int .i64 21, .int .i64 0, .string ⟨#[]⟩, .int .u64 0, .int .u64 0, .int .u64 0, .int .u64 0] 51)) fun e W' => e = .returned (.tuple #[]) /\ ∃ v', RS E z w0 W' b tv a d v' ((L ++ ms) ++ [⟨21, 0, ⟨#[]⟩, 0, 0, 0, 0⟩]) /\ Fr W W' b v v') := fun W v q hq h => zgE h ⟨21, 0, ⟨#[]⟩, 0, 0, 0, 0⟩ q hq (by rw [List.length_append]; omega)
  clear HBd
  go_enter Tryz.func186, Tryz.ntmps186
  go_wp2_with fail
  refine (HB.out ()).mono ?_
  rintro e w1 ⟨rfl, hb⟩
  have H1 := hO (H.out.later hb)
  have HF1 : Hid (Fr W w1 b v v) := Fr.below b v hb
  clear hb HB H
  go_wp2_with fail
  refine (HH.out _ H1.out).mono ?_
  rintro e w2 ⟨rfl, hb⟩
  have H2 : Hid (RS E z w0 (w2.alloc (.cells #[.int .i64 25, .int .i64 t.nn, .int .i64 t.fr, .int .i64 t.en, .string t.tx, .int .u64 t.s0, .int .u64 t.s1, .int .u64 t.s2, .int .u64 t.s3] 115)) b tv i d v L) := (H1.out.later hb).later (zaa _ _)
  have HF2 : Hid (Fr W (w2.alloc (.cells #[.int .i64 25, .int .i64 t.nn, .int .i64 t.fr, .int .i64 t.en, .string t.tx, .int .u64 t.s0, .int .u64 t.s1, .int .u64 t.s2, .int .u64 t.s3] 115)) b v v) := HF1.out.trans ((Fr.below b v hb).trans (Fr.below b v (zaa _ _)))
  have HT2 : Hid (TX (w2.alloc (.cells #[.int .i64 25, .int .i64 t.nn, .int .i64 t.fr, .int .i64 t.en, .string t.tx, .int .u64 t.s0, .int .u64 t.s1, .int .u64 t.s2, .int .u64 t.s3] 115)) w2.heap.size ⟨25, t.nn, t.fr, t.en, t.tx, t.s0, t.s1, t.s2, t.s3⟩) := ⟨heap_alloc_new w2 _⟩
  have HN2 : Hid (w2.heap.size ≠ b /\ v.ownBlock ≠ some w2.heap.size) := (H1.out.later hb).new
  clear hb HH H1 HF1
  go_wp2_with fail
  refine (HWi.out _ _ H2.out).mono ?_
  rintro e w3 ⟨rfl, v3, h3, hf3⟩
  have H3 := hO h3
  have HF3 : Hid (Fr W w3 b v v3) := HF2.out.trans hf3
  have HT3 := hO (zhx HT2.out hf3 HN2.out.1 HN2.out.2)
  clear h3 hf3 H2 HF2 HT2 HWi
  obtain ⟨c0, c1, c2, c3, c4, c5, c6, c7, c8⟩ := HT3.out.cells
  go_wp2_with fail
  refine (HPu.out _ _ _ rfl H3.out).mono ?_
  rintro e w4 ⟨rfl, v4, h4, hf4⟩
  have H4 : Hid (∃ v', RS E z w0 w4 b tv a d v' (L ++ (ms ++ [⟨21, 0, ⟨#[]⟩, 0, 0, 0, 0⟩])) /\ Fr W w4 b v v') := ⟨v4, by rw [<- List.append_assoc]; exact h4, HF3.out.trans hf4⟩
  clear h4 hf4 H3 HF3 HT3 HPu c0 c1 c2 c3 c4 c5 c6 c7 c8
  go_wp2_with fail
  go_end0
  exact ⟨rfl, H4.out⟩
theorem zpH {E : PE} (hE : OkE E) {z : Nat} {w0 : World} {b : Nat} {tv : Value} {i d : Nat} (hb : bgP E i = true) (h19 : kdA E i = 19) (HX0 : Ct 89 E z w0 b tv (i + 1) (d + 1) (gN E 0 (i + 1) (d + 1))) (W : World) (v : Value) (L : List Nd) (h : RS E z w0 W b tv i d v L) (hL : L.length <= 10027010 * i) : Calls Tryz.prog 186 #[.pointer (some ⟨b, 0, none⟩)] W fun e W' => PoR E z w0 b tv d W v L (gN E 5 i d) e W' := by
 have hlen := hE.len
 have hz := hE.z
 have hlt := zbl (E := E) (i := i) (by omega)
 obtain ⟨t, ht, hk, hpl, hta⟩ := zaw E z h.hi
 clear hpl
 obtain rfl : t = tkA E i := hta hlt
 have HB : Hid (∀ _ : Unit, Calls Tryz.prog 164 #[.pointer (some ⟨b, 0, none⟩)] W fun e W' => e = .returned (.bool true) /\ Below W.heap.size W W') := fun _ => by
  have := zaH h hz
  rw [hb] at this
  exact this
 have HH : Hid (∀ W, RS E z w0 W b tv i d v L -> Calls Tryz.prog 62 #[.pointer (some ⟨b, 0, none⟩)] W fun e W' => e = .returned (.agg #[.int .i64 (tkA E i).kd, .int .i64 (tkA E i).nn, .int .i64 (tkA E i).fr, .int .i64 (tkA E i).en, .string (tkA E i).tx, .int .u64 (tkA E i).s0, .int .u64 (tkA E i).s1, .int .u64 (tkA E i).s2, .int .u64 (tkA E i).s3]) /\ Below W.heap.size W W') := fun W h => zaC h _ ht
 have H := hO h
 have HE := hO hE
 have HV : Hid (gN E 5 i d = brR E i d) := g5_br hlt h19
 have HWi : Hid (∀ W v, RS E z w0 W b tv i d v L -> Calls Tryz.prog 202 #[.pointer (some ⟨b, 0, none⟩)] W fun e W' => PoR E z w0 b tv d W v L (brR E i d) e W') := fun W v h => zks hE h19 HX0 W v L h hL
 rw [HV.out]
 rw [ze1 hlt, h19] at HH
 generalize brR E i d = r at *
 clear h ht hk hta h19 hb HX0 hE HV
 generalize tkA E i = t at *
 cases r with
 | inr q =>
  go_enter Tryz.func186, Tryz.ntmps186
  go_wp2_with fail
  refine (HB.out ()).mono ?_
  rintro e w1 ⟨rfl, hb⟩
  have H1 := hO (H.out.later hb)
  have HF1 : Hid (Fr W w1 b v v) := Fr.below b v hb
  clear hb HB H
  go_wp2_with fail
  refine (HH.out _ H1.out).mono ?_
  rintro e w2 ⟨rfl, hb⟩
  have H2 : Hid (RS E z w0 (w2.alloc (.cells #[.int .i64 19, .int .i64 t.nn, .int .i64 t.fr, .int .i64 t.en, .string t.tx, .int .u64 t.s0, .int .u64 t.s1, .int .u64 t.s2, .int .u64 t.s3] 115)) b tv i d v L) := (H1.out.later hb).later (zaa _ _)
  have HF2 : Hid (Fr W (w2.alloc (.cells #[.int .i64 19, .int .i64 t.nn, .int .i64 t.fr, .int .i64 t.en, .string t.tx, .int .u64 t.s0, .int .u64 t.s1, .int .u64 t.s2, .int .u64 t.s3] 115)) b v v) := HF1.out.trans ((Fr.below b v hb).trans (Fr.below b v (zaa _ _)))
  have HT2 : Hid (TX (w2.alloc (.cells #[.int .i64 19, .int .i64 t.nn, .int .i64 t.fr, .int .i64 t.en, .string t.tx, .int .u64 t.s0, .int .u64 t.s1, .int .u64 t.s2, .int .u64 t.s3] 115)) w2.heap.size ⟨19, t.nn, t.fr, t.en, t.tx, t.s0, t.s1, t.s2, t.s3⟩) := ⟨heap_alloc_new w2 _⟩
  have HN2 : Hid (w2.heap.size ≠ b /\ v.ownBlock ≠ some w2.heap.size) := (H1.out.later hb).new
  clear hb HH H1 HF1
  go_wp2_with fail
  refine (HWi.out _ _ H2.out).mono ?_
  rintro e w3 ⟨rfl, hb⟩
  exact zae rfl ⟨rfl, hb⟩
 | inl p =>
  go_enter Tryz.func186, Tryz.ntmps186
  go_wp2_with fail
  refine (HB.out ()).mono ?_
  rintro e w1 ⟨rfl, hb⟩
  have H1 := hO (H.out.later hb)
  have HF1 : Hid (Fr W w1 b v v) := Fr.below b v hb
  clear hb HB H
  go_wp2_with fail
  refine (HH.out _ H1.out).mono ?_
  rintro e w2 ⟨rfl, hb⟩
  have H2 : Hid (RS E z w0 (w2.alloc (.cells #[.int .i64 19, .int .i64 t.nn, .int .i64 t.fr, .int .i64 t.en, .string t.tx, .int .u64 t.s0, .int .u64 t.s1, .int .u64 t.s2, .int .u64 t.s3] 115)) b tv i d v L) := (H1.out.later hb).later (zaa _ _)
  have HF2 : Hid (Fr W (w2.alloc (.cells #[.int .i64 19, .int .i64 t.nn, .int .i64 t.fr, .int .i64 t.en, .string t.tx, .int .u64 t.s0, .int .u64 t.s1, .int .u64 t.s2, .int .u64 t.s3] 115)) b v v) := HF1.out.trans ((Fr.below b v hb).trans (Fr.below b v (zaa _ _)))
  have HT2 : Hid (TX (w2.alloc (.cells #[.int .i64 19, .int .i64 t.nn, .int .i64 t.fr, .int .i64 t.en, .string t.tx, .int .u64 t.s0, .int .u64 t.s1, .int .u64 t.s2, .int .u64 t.s3] 115)) w2.heap.size ⟨19, t.nn, t.fr, t.en, t.tx, t.s0, t.s1, t.s2, t.s3⟩) := ⟨heap_alloc_new w2 _⟩
  have HN2 : Hid (w2.heap.size ≠ b /\ v.ownBlock ≠ some w2.heap.size) := (H1.out.later hb).new
  clear hb HH H1 HF1
  go_wp2_with fail
  refine (HWi.out _ _ H2.out).mono ?_
  rintro e w3 ⟨rfl, v3, h3, hf3⟩
  have H4 : Hid (∃ v', RS E z w0 w3 b tv p.1 d v' (L ++ p.2) /\ Fr W w3 b v v') := ⟨v3, h3, HF2.out.trans hf3⟩
  clear h3 hf3 H2 HF2 HWi HT2
  go_wp2_with fail
  go_end0
  exact ⟨rfl, H4.out⟩
theorem zcG {E : PE} (hE : OkE E) {z : Nat} {w0 : World} {b : Nat} {tv : Value} {i d : Nat} (hv : R.VB w0) (hb : bgP E i = true) (hkd : kdA E i = 2 ∨ kdA E i = 3 ∨ kdA E i = 28 ∨ kdA E i = 5 ∨ kdA E i = 18 ∨ kdA E i = 29 ∨ kdA E i = 30 ∨ kdA E i = 1) (W : World) (v : Value) (L : List Nd) (h : RS E z w0 W b tv i d v L) (hL : L.length <= 10027010 * i) : Calls Tryz.prog 186 #[.pointer (some ⟨b, 0, none⟩)] W fun e W' => PoR E z w0 b tv d W v L (gN E 5 i d) e W' := by
 have hlen := hE.len
 have hz := hE.z
 have hlt := zbl (E := E) (i := i) (by omega)
 obtain ⟨t, ht, hk, hpl, hta⟩ := zaw E z h.hi
 clear hpl
 obtain rfl : t = tkA E i := hta hlt
 have HB : Hid (∀ _ : Unit, Calls Tryz.prog 164 #[.pointer (some ⟨b, 0, none⟩)] W fun e W' => e = .returned (.bool true) /\ Below W.heap.size W W') := fun _ => by
  have := zaH h hz
  rw [hb] at this
  exact this
 have HH : Hid (∀ W, RS E z w0 W b tv i d v L -> Calls Tryz.prog 62 #[.pointer (some ⟨b, 0, none⟩)] W fun e W' => e = .returned (.agg #[.int .i64 (tkA E i).kd, .int .i64 (tkA E i).nn, .int .i64 (tkA E i).fr, .int .i64 (tkA E i).en, .string (tkA E i).tx, .int .u64 (tkA E i).s0, .int .u64 (tkA E i).s1, .int .u64 (tkA E i).s2, .int .u64 (tkA E i).s3]) /\ Below W.heap.size W W') := fun W h => zaC h _ ht
 have H := hO h
 have HE := hO hE
 have hkt := ze1 hlt
 have hmem : tkA E i ∈ E.l := by unfold tkA; rw [List.getElem?_eq_getElem hlt]; exact List.getElem_mem hlt
 have HV : Hid (gN E 5 i d = .inl (i + 1, lfN (tkA E i))) := by
  show gN E 5 i d = _
  rw [g5 E i d hlt, show zbt E i = .inl (lfN (tkA E i), 1) from by unfold zbt; rw [hE.rn]; exact zmw (by rw [hkt]; exact hkd)]
 rw [HV.out]
 have HLf : Hid (∀ W, R.VB W -> Calls Tryz.prog 203 #[(.agg #[.int .i64 (tkA E i).kd, .int .i64 (tkA E i).nn, .int .i64 (tkA E i).fr, .int .i64 (tkA E i).en, .string (tkA E i).tx, .int .u64 (tkA E i).s0, .int .u64 (tkA E i).s1, .int .u64 (tkA E i).s2, .int .u64 (tkA E i).s3])] W fun e w' => LfV W w' (lfN (tkA E i)) e /\ Below W.heap.size W w') := fun W hw => zmu (tkA E i) (by rw [hkt]; exact hkd) (hE.rg _ hmem) W hw
 have HVB : Hid (∀ W, Below w0.heap.size w0 W -> R.VB W) := fun W hW => hv.below hW hv.lt
 have hM := zpA (tkA E i)
 have hM2 := zpB (tkA E i)
 have HPu : Hid (∀ W q c, RS E z w0 W b tv i d v L -> (∀ j u, (T.ndc (lfN (tkA E i)))[j]? = some u -> W.cell? ((⟨q, 0, none⟩ : Addr).add j) = some u) -> Calls Tryz.prog 119 #[.pointer (some ⟨b, 0, none⟩), .slice (some ⟨q, 0, none⟩) (lfN (tkA E i)).length c] W fun e W' => e = .returned (.tuple #[]) /\ ∃ v', RS E z w0 W' b tv i d v' (L ++ lfN (tkA E i)) /\ Fr W W' b v v') := fun W q c h hq => zj5 h _ q c hM (by omega) hq
 have HPs : Hid (∀ W v, RS E z w0 W b tv i d v (L ++ lfN (tkA E i)) -> Calls Tryz.prog 90 #[.pointer (some ⟨b, 0, none⟩), .int .i64 (tkA E i).kd] W fun e W' => e = .returned (.tuple #[]) /\ RS E z w0 W' b tv (i + 1) d v (L ++ lfN (tkA E i)) /\ Fr W W' b v v) := fun W v h => by
  rw [hkt]
  exact zcs h hlt hz
 have v16 : ((tkA E i).kd == 16) = false := by rw [hkt]; exact bF (by omega)
 have v19 : ((tkA E i).kd == 19) = false := by rw [hkt]; exact bF (by omega)
 have v21 : ((tkA E i).kd == 21) = false := by rw [hkt]; exact bF (by omega)
 have v23 : ((tkA E i).kd == 23) = false := by rw [hkt]; exact bF (by omega)
 have v25 : ((tkA E i).kd == 25) = false := by rw [hkt]; exact bF (by omega)
 clear h ht hk hta hkd hb hE HV hkt hmem hv
 generalize lfN (tkA E i) = M at *
 generalize tkA E i = t at *
 go_enter Tryz.func186, Tryz.ntmps186
 go_wp2_with fail
 refine (HB.out ()).mono ?_
 rintro e w1 ⟨rfl, hb⟩
 have H1 := hO (H.out.later hb)
 have HF1 : Hid (Fr W w1 b v v) := Fr.below b v hb
 clear hb HB H
 go_wp2_with fail
 refine (HH.out _ H1.out).mono ?_
 rintro e w2 ⟨rfl, hb⟩
 have H2 : Hid (RS E z w0 (w2.alloc (.cells #[.int .i64 t.kd, .int .i64 t.nn, .int .i64 t.fr, .int .i64 t.en, .string t.tx, .int .u64 t.s0, .int .u64 t.s1, .int .u64 t.s2, .int .u64 t.s3] 115)) b tv i d v L) := (H1.out.later hb).later (zaa _ _)
 have HF2 : Hid (Fr W (w2.alloc (.cells #[.int .i64 t.kd, .int .i64 t.nn, .int .i64 t.fr, .int .i64 t.en, .string t.tx, .int .u64 t.s0, .int .u64 t.s1, .int .u64 t.s2, .int .u64 t.s3] 115)) b v v) := HF1.out.trans ((Fr.below b v hb).trans (Fr.below b v (zaa _ _)))
 have HT2 : Hid (TX (w2.alloc (.cells #[.int .i64 t.kd, .int .i64 t.nn, .int .i64 t.fr, .int .i64 t.en, .string t.tx, .int .u64 t.s0, .int .u64 t.s1, .int .u64 t.s2, .int .u64 t.s3] 115)) w2.heap.size t) := ⟨heap_alloc_new w2 _⟩
 have HN2 : Hid (w2.heap.size ≠ b /\ v.ownBlock ≠ some w2.heap.size) := (H1.out.later hb).new
 clear hb HH H1 HF1
 go_wp2_with fail
 refine (HLf.out _ (HVB.out _ H2.out.bl)).mono ?_
 rintro e w3 ⟨⟨u, rfl, ho⟩, hb3⟩
 obtain ⟨q, c, rfl, _, _⟩ := ho.form hM
 have H3 := hO (H2.out.later hb3)
 have HF3 : Hid (Fr W w3 b v v) := HF2.out.trans (Fr.below b v hb3)
 have HT3 := hO (HT2.out.below hb3)
 have HQ : Hid (∀ j u, (T.ndc M)[j]? = some u -> w3.cell? ((⟨q, 0, none⟩ : Addr).add j) = some u) := ho.cells rfl
 clear ho hb3 H2 HF2 HT2 HLf
 go_wp2_with fail
 refine (HPu.out _ _ _ H3.out HQ.out).mono ?_
 rintro e w4 ⟨rfl, v4, h4, hf4⟩
 have H4 := hO h4
 have HF4 : Hid (Fr W w4 b v v4) := HF3.out.trans hf4
 have HT4 := hO (zhx HT3.out hf4 HN2.out.1 HN2.out.2)
 clear h4 hf4 H3 HF3 HT3 HPu HQ
 obtain ⟨c0, c1, c2, c3, c4, c5, c6, c7, c8⟩ := HT4.out.cells
 go_wp2_with fail
 refine (HPs.out _ _ H4.out).mono ?_
 rintro e w5 ⟨rfl, h5, hf5⟩
 have H5 : Hid (∃ v', RS E z w0 w5 b tv (i + 1) d v' (L ++ M) /\ Fr W w5 b v v') := ⟨v4, h5, HF4.out.trans hf5⟩
 clear h5 hf5 H4 HF4 HT4 HPs c0 c1 c2 c3 c4 c5 c6 c7 c8
 go_wp2_with fail
 go_end0
 exact ⟨rfl, H5.out⟩
theorem zii {E : PE} (hE : OkE E) {z : Nat} {w0 : World} {b : Nat} {tv : Value} {i d : Nat} (hv : R.VB w0) (HX0 : i < E.l.length -> Ct 89 E z w0 b tv (i + 1) (d + 1) (gN E 0 (i + 1) (d + 1))) : Ct 186 E z w0 b tv i d (gP E i d) := by
 intro W v L h hL
 unfold gP
 cases hb : bgP E i with
 | false => exact zpC hE hb W v L h
 | true =>
  have hlt := zof hb
  rw [if_pos rfl]
  have hbb := hb
  unfold bgP prK at hbb
  simp only [Bool.or_eq_true, Bool.and_eq_true, beq_iff_eq] at hbb
  rcases hbb with (((((((((((q | q) | q) | q) | q) | q) | q) | q) | q) | q) | q) | q) | ⟨q, _⟩
  ·exact zcG hE hv hb (by omega) W v L h hL
  ·exact zcG hE hv hb (by omega) W v L h hL
  ·exact zcG hE hv hb (by omega) W v L h hL
  ·exact zcG hE hv hb (by omega) W v L h hL
  ·exact zcG hE hv hb (by omega) W v L h hL
  ·exact zcG hE hv hb (by omega) W v L h hL
  ·exact zcG hE hv hb (by omega) W v L h hL
  ·exact zpD hE hb q (HX0 hlt) W v L h hL
  ·exact zpH hE hb q (HX0 hlt) W v L h hL
  ·exact zpE hE hb q (HX0 hlt) W v L h hL
  ·exact zpF hE hb q (HX0 hlt) W v L h hL
  ·exact zpG hE hb q (HX0 hlt) W v L h hL
  ·exact zcG hE hv hb (by omega) W v L h hL
theorem zpI {E : PE} (hE : OkE E) {z : Nat} {w0 : World} (hv : R.VB w0) {b : Nat} {tv : Value} : ∀ (n i : Nat), E.l.length - i <= n -> i <= E.l.length -> ∀ d, Ct 89 E z w0 b tv i d (gN E 0 i d) /\ Ct 118 E z w0 b tv i d (gN E 2 i d) /\ Ct 145 E z w0 b tv i d (gN E 4 i d) := by
 intro n
 induction n with
 | zero =>
  intro i h1 h2 d
  have hP : ∀ a, i <= a -> a <= E.l.length -> Ct 145 E z w0 b tv a d (gN E 4 a d) := fun a ha1 ha2 => zkn hE (fun q => by omega) (zkp hE (zii hE hv (fun q => by omega)))
  have hS : ∀ a, i <= a -> a <= E.l.length -> Ct 118 E z w0 b tv a d (gN E 2 a d) := fun a ha1 ha2 => zkm hE (fun a2 q1 q2 => hP a2 (by omega) q2)
  exact ⟨zkl hE hS, hS i (Nat.le_refl _) h2, hP i (Nat.le_refl _) h2⟩
 | succ n ih =>
  intro i h1 h2 d
  have hP : ∀ a, i <= a -> a <= E.l.length -> Ct 145 E z w0 b tv a d (gN E 4 a d) := fun a ha1 ha2 => zkn hE (fun q => (ih (a + 1) (by omega) (by omega) (d + 1)).2.2) (zkp hE (zii hE hv (fun q => (ih (a + 1) (by omega) (by omega) (d + 1)).1)))
  have hS : ∀ a, i <= a -> a <= E.l.length -> Ct 118 E z w0 b tv a d (gN E 2 a d) := fun a ha1 ha2 => zkm hE (fun a2 q1 q2 => hP a2 (by omega) q2)
  exact ⟨zkl hE hS, hS i (Nat.le_refl _) h2, hP i (Nat.le_refl _) h2⟩
theorem zkt {E : PE} (hE : OkE E) {z : Nat} {w0 : World} (hv : R.VB w0) {b : Nat} {tv : Value} {i d : Nat} (hi : i <= E.l.length) : Ct 89 E z w0 b tv i d (gN E 0 i d) := (zpI hE hv _ i (Nat.le_refl _) hi d).1
end Go.Proofs.YtnpifgcgjgddoaaGreatDoor.N
