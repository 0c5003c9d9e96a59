/- DERIVED. Plain mathematics and walks, laid together (8). -/
import Derived.WalkKit
import Derived.Lib.Builder
import Derived.Lib.UnsafeStr
import Derived.Lib.AppendStr
import Derived.Lib.ConvBytes
import Derived.Lib.AtoiErrMem
import Derived.Test.YtnpifgcgjgddoaaGreatDoorPb07
set_option maxRecDepth 100000
set_option maxHeartbeats 8000000
namespace Go.Proofs.YtnpifgcgjgddoaaGreatDoor.N
open Go.RowKit
theorem zkn {E : PE} (hE : OkE E) {i d a : Nat} {c : Int} {ms : List Nd} (hc : ¬ c = 0) (hlt : i < E.l.length) (h : rW E i d c = .inl (a, ms)) : i < a /\ a <= E.l.length /\ ms.length <= 10027010 * (a - i) := by
 unfold rW at h
 split at h
 ·cases h
 ·obtain ⟨a1, ns, h1, h2⟩ := zaB h
  have h3 := zdN (i := i + 1) (by omega) (by omega) h1
  have h4 := (zdn hE.rl (i := i + 1) (by omega) (by omega) h1).2
  split at h2
  ·next hk =>
   have := zbi (E := E) (i := a1) (by omega)
   cases h2
   exact ⟨by omega, by omega, by omega⟩
  ·cases h2
theorem zko {E : PE} {i d : Nat} (hi : i < E.l.length) {c : Int} {post : List Nd} (h : za2 E i = .inr (c, post)) : gN E 5 i d = bnd (rW E i d c) fun a ms => .inl (a, ms ++ post) := by
 rw [g5 E i d hi, h]
 unfold rW
 dsimp only
 by_cases hd : 240 <= d
 ·rw [if_pos hd, if_pos hd]; rfl
 ·rw [if_neg hd, if_neg hd]
  cases gN E 0 (i + 1) (d + 1) with
  | inr q => rfl
  | inl p =>
   show (if kdA E p.1 = c then (.inl (p.1 + 1, p.2 ++ post) : PR) else .inr (p.1, 60)) = bnd (if kdA E p.1 = c then .inl (p.1 + 1, p.2) else .inr (p.1, 60)) _
   split <;> rfl
def brR (E : PE) (i d : Nat) : PR := if kdA E (i + 1) = 20 then .inl (i + 2, [nd0 17]) else bnd (rW E i d 20) fun a ms => .inl (a, ms ++ [nd0 18])
theorem g5_br {E : PE} {i d : Nat} (hi : i < E.l.length) (hk : kdA E i = 19) : gN E 5 i d = brR E i d := by
 have ht : (tkA E i).kd = 19 := by
  unfold tkA
  unfold kdA at hk
  rw [List.getElem?_eq_getElem hi] at hk ⊢
  exact hk
 unfold brR
 by_cases h : kdA E (i + 1) = 20
 ·rw [if_pos h, g5 E i d hi]
  have : za2 E i = .inl ([nd0 17], 2) := by unfold za2 zbg; rw [ht, h]; rfl
  rw [this]
 ·rw [if_neg h]
  exact zko hi (by unfold za2 zbg; rw [ht, if_neg (by decide), if_neg (by decide), if_neg (by decide), if_neg (by decide), if_neg (by decide), if_neg (by decide), if_neg (by decide), if_neg (by decide), if_pos rfl, if_neg h])
theorem zeQ {E : PE} {i : Nat} (hi : i < E.l.length) : (tkA E i).kd = kdA E i := by
 unfold tkA kdA
 rw [List.getElem?_eq_getElem hi]
 rfl
theorem zmL (ss : List R.za8) (h : ∀ s ∈ ss, 1 <= s.length) : 0 < (R.zjB ss).length := by
 unfold R.zjB
 split
 ·decide
 ·next h0 =>
  cases ss with
  | nil => exact absurd rfl h0
  | cons s l =>
   have h1 := h s (List.mem_cons_self)
   have key : ∀ k, 0 < (R.zfA (s :: l) (k + 1)).length := by
    intro k
    induction k with
    | zero =>
     rw [R.zdm, List.length_append]
     have : 0 < (R.ptI (s :: l) 0).length := by
      unfold R.ptI
      show 0 < (R.zd5 s s.length ++ _).length
      rw [List.length_append]
      have : 0 < (R.zd5 s s.length).length := by
       cases s with
       | nil => exact absurd h1 (by decide)
       | cons p r =>
        have key2 : ∀ k, 0 < (R.zd5 (p :: r) (k + 1)).length := by
         intro k
         induction k with
         | zero => rw [R.zdl, List.length_append]; unfold R.ndI; show 0 < _ + (_ :: _ : List R.Nd).length; rw [List.length_cons]; omega
         | succ k ih => rw [R.zdl, List.length_append]; omega
        exact key2 r.length
      omega
     omega
    | succ k ih => rw [R.zdm, List.length_append]; omega
   exact key l.length
theorem zpp (t : Tk) : 0 < (lfN t).length := by
 unfold lfN
 split
 ·split <;> simp
 ·split
  ·simp
  ·split
   ·unfold rnP; rw [List.length_map]; exact zmL _ fun s hs => (R.zet _ _ s hs).2.1
   ·split
    ·simp
    ·split
     ·simp
     ·split <;> simp
theorem zpq (t : Tk) : (lfN t).length + 1 <= 10027010 := by
 unfold lfN
 split
 ·split <;> simp
 ·split
  ·simp
  ·split
   ·exact zkh _ _
   ·split
    ·simp
    ·split
     ·simp
     ·split <;> simp
theorem zmM {t : Tk} {k2 : Int} (hk : t.kd = 2 ∨ t.kd = 3 ∨ t.kd = 28 ∨ t.kd = 5 ∨ t.kd = 18 ∨ t.kd = 29 ∨ t.kd = 30 ∨ t.kd = 1) : zbg rnP t k2 = .inl (lfN t, 1) := by
 unfold zbg lfN
 rcases hk with h | h | h | h | h | h | h | h <;> rw [h] <;> rfl
theorem zkp {E : PE} (hE : OkE E) {z : Nat} {w0 : World} {b : Nat} {tv : Value} {i d : Nat} (hk : kdA E i = 19) (HX0 : Ct 89 E z w0 b tv (i + 1) (d + 1) (gN E 0 (i + 1) (d + 1))) : Ct 202 E z w0 b tv i d (brR E i d) := by
 intro W v L h hL
 have hlen := hE.len
 have hz := hE.z
 have hlt := zbi (E := E) (i := i) (by omega)
 have H := hO h
 have HE := hO hE
 have HB : Hid (∀ _ : Unit, Calls Tryz.prog 65 #[.pointer (some ⟨b, 0, none⟩)] W fun e W' => e = .returned (.int .i64 (kdA E (i + 1))) /\ Below W.heap.size W W') := fun _ => ze9 h hlt hz
 unfold brR
 by_cases h20 : kdA E (i + 1) = 20
 ·have hlt2 := zbi (E := E) (i := i + 1) (by omega)
  have HP1 : Hid (∀ W v, RS E z w0 W b tv i d v L -> Calls Tryz.prog 90 #[.pointer (some ⟨b, 0, none⟩), .int .i64 19] W fun e W' => e = .returned (.tuple #[]) /\ RS E z w0 W' b tv (i + 1) d v L /\ Fr W W' b v v) := fun W v h => by
   have := zcp h hlt hz
   rw [hk] at this
   exact this
  have HP2 : Hid (∀ W v, RS E z w0 W b tv (i + 1) d v L -> Calls Tryz.prog 90 #[.pointer (some ⟨b, 0, none⟩), .int .i64 20] W fun e W' => e = .returned (.tuple #[]) /\ RS E z w0 W' b tv ((i + 1) + 1) d v L /\ Fr W W' b v v) := fun W v h => by
   have := zcp h hlt2 hz
   rw [h20] at this
   exact this
  have HPu : Hid (∀ W v q, W.heap.size = q -> RS E z w0 W b tv (i + 1 + 1) d v L -> Calls Tryz.prog 119 #[.pointer (some ⟨b, 0, none⟩), .slice (some ⟨q, 0, none⟩) 1 1] (W.alloc (.cells #[.int .i64 17, .int .i64 0, .string ⟨#[]⟩, .int .u64 0, .int .u64 0, .int .u64 0, .int .u64 0] 51)) fun e W' => e = .returned (.tuple #[]) /\ ∃ v', RS E z w0 W' b tv (i + 1 + 1) d v' (L ++ [⟨17, 0, ⟨#[]⟩, 0, 0, 0, 0⟩]) /\ Fr W W' b v v') := fun W v q hq h => zgn h (nd0 17) q hq (by omega)
  rw [if_pos h20]
  rw [h20] at HB
  clear h hk h20 HX0 hE
  go_enter Tryz.func202, Tryz.ntmps202
  go_wp2_with fail
  refine (HB.out ()).mono ?_
  rintro e w1 ⟨rfl, hb⟩
  have H1 := hO (H.out.later hb)
  have HF1 : Hid (Fr W w1 b v v) := Fr.below b v hb
  clear hb HB H
  go_wp2_with fail
  refine (HP1.out _ _ H1.out).mono ?_
  rintro e w2 ⟨rfl, h2, hf2⟩
  have H2 := hO h2
  have HF2 : Hid (Fr W w2 b v v) := HF1.out.trans hf2
  clear h2 hf2 H1 HF1 HP1
  go_wp2_with fail
  refine (HP2.out _ _ H2.out).mono ?_
  rintro e w3 ⟨rfl, h3, hf3⟩
  have H3 := hO h3
  have HF3 : Hid (Fr W w3 b v v) := HF2.out.trans hf3
  clear h3 hf3 H2 HF2 HP2
  go_wp2_with fail
  refine (HPu.out _ _ _ rfl H3.out).mono ?_
  rintro e w4 ⟨rfl, v4, h4, hf4⟩
  have H4 : Hid (∃ v', RS E z w0 w4 b tv (i + 2) d v' (L ++ [nd0 17]) /\ Fr W w4 b v v') := ⟨v4, h4, HF3.out.trans hf4⟩
  clear h4 hf4 H3 HF3 HPu
  go_wp2_with fail
  first | go_end0 | refine bodyPost_ret (results_none rfl _ _ _) rfl ?_
  exact ⟨rfl, H4.out⟩
 ·have t1 : (kdA E (i + 1) == 20) = false := bF h20
  have HWi : Hid (∀ W v, RS E z w0 W b tv i d v L -> Calls Tryz.prog 201 #[.pointer (some ⟨b, 0, none⟩), .int .i64 20] W fun e W' => PoR E z w0 b tv d W v L (rW E i d 20) e W') := fun W v h => zcg hE 20 (by omega) hlt HX0 W v L h hL
  have HBd := (show Hid _ from fun a ms => zkn (a := a) (ms := ms) hE (i := i) (d := d) (c := 20) (by omega) hlt)
  rw [if_neg h20]
  generalize rW E i d 20 = r at *
  generalize kdA E (i + 1) = k2 at *
  clear h hk h20 HX0 hE
  cases r with
  | inr q =>
   show Calls Tryz.prog 202 _ _ fun e W' => PoR E z w0 b tv d W v L (.inr q) e W'
   go_enter Tryz.func202, Tryz.ntmps202
   go_wp2_with fail
   refine (HB.out ()).mono ?_
   rintro e w1 ⟨rfl, hb⟩
   have H1 := hO (H.out.later hb)
   clear hb HB H
   go_wp2_with fail
   refine (HWi.out _ _ H1.out).mono ?_
   rintro e w2 ⟨rfl, hb⟩
   exact zac rfl ⟨rfl, hb⟩
  | inl p =>
   obtain ⟨a, ms⟩ := p
   obtain ⟨b1, b2, b3⟩ := HBd.out a ms rfl
   show Calls Tryz.prog 202 _ _ fun e W' => PoR E z w0 b tv d W v L (.inl (a, ms ++ [nd0 18])) e W'
   have HPu : Hid (∀ W v q, W.heap.size = q -> RS E z w0 W b tv a d v (L ++ ms) -> Calls Tryz.prog 119 #[.pointer (some ⟨b, 0, none⟩), .slice (some ⟨q, 0, none⟩) 1 1] (W.alloc (.cells #[.int .i64 18, .int .i64 0, .string ⟨#[]⟩, .int .u64 0, .int .u64 0, .int .u64 0, .int .u64 0] 51)) fun e W' => e = .returned (.tuple #[]) /\ ∃ v', RS E z w0 W' b tv a d v' ((L ++ ms) ++ [⟨18, 0, ⟨#[]⟩, 0, 0, 0, 0⟩]) /\ Fr W W' b v v') := fun W v q hq h => zgn h (nd0 18) q hq (by rw [List.length_append]; omega)
   clear HBd
   go_enter Tryz.func202, Tryz.ntmps202
   go_wp2_with fail
   refine (HB.out ()).mono ?_
   rintro e w1 ⟨rfl, hb⟩
   have H1 := hO (H.out.later hb)
   have HF1 : Hid (Fr W w1 b v v) := Fr.below b v hb
   clear hb HB H
   go_wp2_with fail
   refine (HWi.out _ _ H1.out).mono ?_
   rintro e w2 ⟨rfl, v2, h2, hf2⟩
   have H2 := hO h2
   have HF2 : Hid (Fr W w2 b v v2) := HF1.out.trans hf2
   clear h2 hf2 H1 HF1 HWi
   go_wp2_with fail
   refine (HPu.out _ _ _ rfl H2.out).mono ?_
   rintro e w4 ⟨rfl, v4, h4, hf4⟩
   have H4 : Hid (∃ v', RS E z w0 w4 b tv a d v' (L ++ (ms ++ [nd0 18])) /\ Fr W w4 b v v') := ⟨v4, by rw [<- List.append_assoc]; exact h4, HF2.out.trans hf4⟩
   clear h4 hf4 H2 HF2 HPu
   go_wp2_with fail
   go_end0
   exact ⟨rfl, H4.out⟩
theorem zpr {E : PE} (hE : OkE E) {z : Nat} {w0 : World} {b : Nat} {tv : Value} {i d : Nat} (hb : bgP E i = false) (W : World) (v : Value) (L : List Nd) (h : RS E z w0 W b tv i d v L) : Calls Tryz.prog 186 #[.pointer (some ⟨b, 0, none⟩)] W fun e W' => PoR E z w0 b tv d W v L (.inr (i, 60)) e W' := by
 have HB : Hid (∀ _ : Unit, Calls Tryz.prog 164 #[.pointer (some ⟨b, 0, none⟩)] W fun e W' => e = .returned (.bool false) /\ Below W.heap.size W W') := fun _ => by
  have := zaF h hE.z
  rw [hb] at this
  exact this
 have HRf : Hid (∀ W, RS E z w0 W b tv i d v L -> Calls Tryz.prog 64 #[.pointer (some ⟨b, 0, none⟩), .int .i64 60] W fun e W' => e = pnc (plA E z i) 60 /\ Below W.heap.size W W') := fun W h => zbx h 60
 have H := hO h
 clear h hb hE
 go_enter Tryz.func186, Tryz.ntmps186
 go_wp2_with fail
 refine (HB.out ()).mono ?_
 rintro e w1 ⟨rfl, hb⟩
 have H1 := hO (H.out.later hb)
 clear hb HB H
 go_wp2_with fail
 refine (HRf.out _ H1.out).mono ?_
 rintro e w3 ⟨rfl, hb⟩
 exact zac rfl ⟨rfl, H1.out.bl.trans (hb.mono H1.out.bl.size)⟩
theorem zps {E : PE} (hE : OkE E) {z : Nat} {w0 : World} {b : Nat} {tv : Value} {i d : Nat} (hb : bgP E i = true) (h16 : kdA E i = 16) (HX0 : Ct 89 E z w0 b tv (i + 1) (d + 1) (gN E 0 (i + 1) (d + 1))) (W : World) (v : Value) (L : List Nd) (h : RS E z w0 W b tv i d v L) (hL : L.length <= 10027010 * i) : Calls Tryz.prog 186 #[.pointer (some ⟨b, 0, none⟩)] W fun e W' => PoR E z w0 b tv d W v L (gN E 5 i d) e W' := by
 have hlen := hE.len
 have hz := hE.z
 have hlt := zbi (E := E) (i := i) (by omega)
 obtain ⟨t, ht, hk, hpl, hta⟩ := zam E z h.hi
 clear hpl
 obtain rfl : t = tkA E i := hta hlt
 have HB : Hid (∀ _ : Unit, Calls Tryz.prog 164 #[.pointer (some ⟨b, 0, none⟩)] W fun e W' => e = .returned (.bool true) /\ Below W.heap.size W W') := fun _ => by
  have := zaF h hz
  rw [hb] at this
  exact this
 have HH : Hid (∀ W, RS E z w0 W b tv i d v L -> Calls Tryz.prog 62 #[.pointer (some ⟨b, 0, none⟩)] W fun e W' => e = .returned (.agg #[.int .i64 (tkA E i).kd, .int .i64 (tkA E i).nn, .int .i64 (tkA E i).fr, .int .i64 (tkA E i).en, .string (tkA E i).tx, .int .u64 (tkA E i).s0, .int .u64 (tkA E i).s1, .int .u64 (tkA E i).s2, .int .u64 (tkA E i).s3]) /\ Below W.heap.size W W') := fun W h => zaq h _ ht
 have H := hO h
 have HE := hO hE
 have HV : Hid (gN E 5 i d = bnd (rW E i d 17) fun a ms => .inl (a, ms ++ [])) := zko hlt (by unfold za2 zbg; rw [zeQ hlt, h16]; rfl)
 have HWi : Hid (∀ W v, RS E z w0 W b tv i d v L -> Calls Tryz.prog 201 #[.pointer (some ⟨b, 0, none⟩), .int .i64 17] W fun e W' => PoR E z w0 b tv d W v L (rW E i d 17) e W') := fun W v h => zcg hE 17 (by omega) hlt HX0 W v L h hL
 have HBd := (show Hid _ from fun a ms => zkn (a := a) (ms := ms) hE (i := i) (d := d) (c := 17) (by omega) hlt)
 rw [HV.out]
 rw [zeQ hlt, h16] at HH
 generalize rW E i d 17 = r at *
 clear h ht hk hta h16 hb HX0 hE HV
 generalize tkA E i = t at *
 cases r with
 | inr q =>
  show Calls Tryz.prog 186 _ _ fun e W' => PoR E z w0 b tv d W v L (.inr q) e W'
  go_enter Tryz.func186, Tryz.ntmps186
  go_wp2_with fail
  refine (HB.out ()).mono ?_
  rintro e w1 ⟨rfl, hb⟩
  have H1 := hO (H.out.later hb)
  have HF1 : Hid (Fr W w1 b v v) := Fr.below b v hb
  clear hb HB H
  go_wp2_with fail
  refine (HH.out _ H1.out).mono ?_
  rintro e w2 ⟨rfl, hb⟩
  have H2 : Hid (RS E z w0 (w2.alloc (.cells #[.int .i64 16, .int .i64 t.nn, .int .i64 t.fr, .int .i64 t.en, .string t.tx, .int .u64 t.s0, .int .u64 t.s1, .int .u64 t.s2, .int .u64 t.s3] 115)) b tv i d v L) := (H1.out.later hb).later (zaa _ _)
  have HF2 : Hid (Fr W (w2.alloc (.cells #[.int .i64 16, .int .i64 t.nn, .int .i64 t.fr, .int .i64 t.en, .string t.tx, .int .u64 t.s0, .int .u64 t.s1, .int .u64 t.s2, .int .u64 t.s3] 115)) b v v) := HF1.out.trans ((Fr.below b v hb).trans (Fr.below b v (zaa _ _)))
  have HT2 : Hid (TX (w2.alloc (.cells #[.int .i64 16, .int .i64 t.nn, .int .i64 t.fr, .int .i64 t.en, .string t.tx, .int .u64 t.s0, .int .u64 t.s1, .int .u64 t.s2, .int .u64 t.s3] 115)) w2.heap.size ⟨16, t.nn, t.fr, t.en, t.tx, t.s0, t.s1, t.s2, t.s3⟩) := ⟨heap_alloc_new w2 _⟩
  have HN2 : Hid (w2.heap.size ≠ b /\ v.ownBlock ≠ some w2.heap.size) := (H1.out.later hb).new
  clear hb HH H1 HF1
  go_wp2_with fail
  refine (HWi.out _ _ H2.out).mono ?_
  rintro e w3 ⟨rfl, hb⟩
  exact zac rfl ⟨rfl, hb⟩
 | inl p =>
  obtain ⟨a, ms⟩ := p
  obtain ⟨b1, b2, b3⟩ := HBd.out a ms rfl
  show Calls Tryz.prog 186 _ _ fun e W' => PoR E z w0 b tv d W v L (.inl (a, ms ++ [])) e W'
  rw [List.append_nil]
  clear HBd
  go_enter Tryz.func186, Tryz.ntmps186
  go_wp2_with fail
  refine (HB.out ()).mono ?_
  rintro e w1 ⟨rfl, hb⟩
  have H1 := hO (H.out.later hb)
  have HF1 : Hid (Fr W w1 b v v) := Fr.below b v hb
  clear hb HB H
  go_wp2_with fail
  refine (HH.out _ H1.out).mono ?_
  rintro e w2 ⟨rfl, hb⟩
  have H2 : Hid (RS E z w0 (w2.alloc (.cells #[.int .i64 16, .int .i64 t.nn, .int .i64 t.fr, .int .i64 t.en, .string t.tx, .int .u64 t.s0, .int .u64 t.s1, .int .u64 t.s2, .int .u64 t.s3] 115)) b tv i d v L) := (H1.out.later hb).later (zaa _ _)
  have HF2 : Hid (Fr W (w2.alloc (.cells #[.int .i64 16, .int .i64 t.nn, .int .i64 t.fr, .int .i64 t.en, .string t.tx, .int .u64 t.s0, .int .u64 t.s1, .int .u64 t.s2, .int .u64 t.s3] 115)) b v v) := HF1.out.trans ((Fr.below b v hb).trans (Fr.below b v (zaa _ _)))
  have HT2 : Hid (TX (w2.alloc (.cells #[.int .i64 16, .int .i64 t.nn, .int .i64 t.fr, .int .i64 t.en, .string t.tx, .int .u64 t.s0, .int .u64 t.s1, .int .u64 t.s2, .int .u64 t.s3] 115)) w2.heap.size ⟨16, t.nn, t.fr, t.en, t.tx, t.s0, t.s1, t.s2, t.s3⟩) := ⟨heap_alloc_new w2 _⟩
  have HN2 : Hid (w2.heap.size ≠ b /\ v.ownBlock ≠ some w2.heap.size) := (H1.out.later hb).new
  clear hb HH H1 HF1
  go_wp2_with fail
  refine (HWi.out _ _ H2.out).mono ?_
  rintro e w3 ⟨rfl, v3, h3, hf3⟩
  have H4 : Hid (∃ v', RS E z w0 w3 b tv a d v' (L ++ ms) /\ Fr W w3 b v v') := ⟨v3, h3, HF2.out.trans hf3⟩
  clear h3 hf3 H2 HF2 HWi HT2
  go_wp2_with fail
  go_end0
  exact ⟨rfl, H4.out⟩
theorem zpt {E : PE} (hE : OkE E) {z : Nat} {w0 : World} {b : Nat} {tv : Value} {i d : Nat} (hb : bgP E i = true) (h21 : kdA E i = 21) (HX0 : Ct 89 E z w0 b tv (i + 1) (d + 1) (gN E 0 (i + 1) (d + 1))) (W : World) (v : Value) (L : List Nd) (h : RS E z w0 W b tv i d v L) (hL : L.length <= 10027010 * i) : Calls Tryz.prog 186 #[.pointer (some ⟨b, 0, none⟩)] W fun e W' => PoR E z w0 b tv d W v L (gN E 5 i d) e W' := by
 have hlen := hE.len
 have hz := hE.z
 have hlt := zbi (E := E) (i := i) (by omega)
 obtain ⟨t, ht, hk, hpl, hta⟩ := zam E z h.hi
 clear hpl
 obtain rfl : t = tkA E i := hta hlt
 have HB : Hid (∀ _ : Unit, Calls Tryz.prog 164 #[.pointer (some ⟨b, 0, none⟩)] W fun e W' => e = .returned (.bool true) /\ Below W.heap.size W W') := fun _ => by
  have := zaF h hz
  rw [hb] at this
  exact this
 have HH : Hid (∀ W, RS E z w0 W b tv i d v L -> Calls Tryz.prog 62 #[.pointer (some ⟨b, 0, none⟩)] W fun e W' => e = .returned (.agg #[.int .i64 (tkA E i).kd, .int .i64 (tkA E i).nn, .int .i64 (tkA E i).fr, .int .i64 (tkA E i).en, .string (tkA E i).tx, .int .u64 (tkA E i).s0, .int .u64 (tkA E i).s1, .int .u64 (tkA E i).s2, .int .u64 (tkA E i).s3]) /\ Below W.heap.size W W') := fun W h => zaq h _ ht
 have H := hO h
 have HE := hO hE
 have HV : Hid (gN E 5 i d = bnd (rW E i d 22) fun a ms => .inl (a, ms ++ [⟨19, 0, (tkA E i).tx, 0, 0, 0, 0⟩])) := zko hlt (by unfold za2 zbg; rw [zeQ hlt, h21]; rfl)
 have HWi : Hid (∀ W v, RS E z w0 W b tv i d v L -> Calls Tryz.prog 201 #[.pointer (some ⟨b, 0, none⟩), .int .i64 22] W fun e W' => PoR E z w0 b tv d W v L (rW E i d 22) e W') := fun W v h => zcg hE 22 (by omega) hlt HX0 W v L h hL
 have HBd := (show Hid _ from fun a ms => zkn (a := a) (ms := ms) hE (i := i) (d := d) (c := 22) (by omega) hlt)
 rw [HV.out]
 rw [zeQ hlt, h21] at HH
 generalize rW E i d 22 = r at *
 clear h ht hk hta h21 hb HX0 hE HV
 generalize tkA E i = t at *
 cases r with
 | inr q =>
  show Calls Tryz.prog 186 _ _ fun e W' => PoR E z w0 b tv d W v L (.inr q) e W'
  go_enter Tryz.func186, Tryz.ntmps186
  go_wp2_with fail
  refine (HB.out ()).mono ?_
  rintro e w1 ⟨rfl, hb⟩
  have H1 := hO (H.out.later hb)
  have HF1 : Hid (Fr W w1 b v v) := Fr.below b v hb
  clear hb HB H
  go_wp2_with fail
  refine (HH.out _ H1.out).mono ?_
  rintro e w2 ⟨rfl, hb⟩
  have H2 : Hid (RS E z w0 (w2.alloc (.cells #[.int .i64 21, .int .i64 t.nn, .int .i64 t.fr, .int .i64 t.en, .string t.tx, .int .u64 t.s0, .int .u64 t.s1, .int .u64 t.s2, .int .u64 t.s3] 115)) b tv i d v L) := (H1.out.later hb).later (zaa _ _)
  have HF2 : Hid (Fr W (w2.alloc (.cells #[.int .i64 21, .int .i64 t.nn, .int .i64 t.fr, .int .i64 t.en, .string t.tx, .int .u64 t.s0, .int .u64 t.s1, .int .u64 t.s2, .int .u64 t.s3] 115)) b v v) := HF1.out.trans ((Fr.below b v hb).trans (Fr.below b v (zaa _ _)))
  have HT2 : Hid (TX (w2.alloc (.cells #[.int .i64 21, .int .i64 t.nn, .int .i64 t.fr, .int .i64 t.en, .string t.tx, .int .u64 t.s0, .int .u64 t.s1, .int .u64 t.s2, .int .u64 t.s3] 115)) w2.heap.size ⟨21, t.nn, t.fr, t.en, t.tx, t.s0, t.s1, t.s2, t.s3⟩) := ⟨heap_alloc_new w2 _⟩
  have HN2 : Hid (w2.heap.size ≠ b /\ v.ownBlock ≠ some w2.heap.size) := (H1.out.later hb).new
  clear hb HH H1 HF1
  go_wp2_with fail
  refine (HWi.out _ _ H2.out).mono ?_
  rintro e w3 ⟨rfl, hb⟩
  exact zac rfl ⟨rfl, hb⟩
 | inl p =>
  obtain ⟨a, ms⟩ := p
  obtain ⟨b1, b2, b3⟩ := HBd.out a ms rfl
  show Calls Tryz.prog 186 _ _ fun e W' => PoR E z w0 b tv d W v L (.inl (a, ms ++ [⟨19, 0, t.tx, 0, 0, 0, 0⟩])) e W'
  have HPu : Hid (∀ W v q, W.heap.size = q -> RS E z w0 W b tv a d v (L ++ ms) -> Calls Tryz.prog 119 #[.pointer (some ⟨b, 0, none⟩), .slice (some ⟨q, 0, none⟩) 1 1] (W.alloc (.cells #[.int .i64 19, .int .i64 0, .string t.tx, .int .u64 0, .int .u64 0, .int .u64 0, .int .u64 0] 51)) fun e W' => e = .returned (.tuple #[]) /\ ∃ v', RS E z w0 W' b tv a d v' ((L ++ ms) ++ [⟨19, 0, t.tx, 0, 0, 0, 0⟩]) /\ Fr W W' b v v') := fun W v q hq h => zgn h ⟨19, 0, t.tx, 0, 0, 0, 0⟩ q hq (by rw [List.length_append]; omega)
  clear HBd
  go_enter Tryz.func186, Tryz.ntmps186
  go_wp2_with fail
  refine (HB.out ()).mono ?_
  rintro e w1 ⟨rfl, hb⟩
  have H1 := hO (H.out.later hb)
  have HF1 : Hid (Fr W w1 b v v) := Fr.below b v hb
  clear hb HB H
  go_wp2_with fail
  refine (HH.out _ H1.out).mono ?_
  rintro e w2 ⟨rfl, hb⟩
  have H2 : Hid (RS E z w0 (w2.alloc (.cells #[.int .i64 21, .int .i64 t.nn, .int .i64 t.fr, .int .i64 t.en, .string t.tx, .int .u64 t.s0, .int .u64 t.s1, .int .u64 t.s2, .int .u64 t.s3] 115)) b tv i d v L) := (H1.out.later hb).later (zaa _ _)
  have HF2 : Hid (Fr W (w2.alloc (.cells #[.int .i64 21, .int .i64 t.nn, .int .i64 t.fr, .int .i64 t.en, .string t.tx, .int .u64 t.s0, .int .u64 t.s1, .int .u64 t.s2, .int .u64 t.s3] 115)) b v v) := HF1.out.trans ((Fr.below b v hb).trans (Fr.below b v (zaa _ _)))
  have HT2 : Hid (TX (w2.alloc (.cells #[.int .i64 21, .int .i64 t.nn, .int .i64 t.fr, .int .i64 t.en, .string t.tx, .int .u64 t.s0, .int .u64 t.s1, .int .u64 t.s2, .int .u64 t.s3] 115)) w2.heap.size ⟨21, t.nn, t.fr, t.en, t.tx, t.s0, t.s1, t.s2, t.s3⟩) := ⟨heap_alloc_new w2 _⟩
  have HN2 : Hid (w2.heap.size ≠ b /\ v.ownBlock ≠ some w2.heap.size) := (H1.out.later hb).new
  clear hb HH H1 HF1
  go_wp2_with fail
  refine (HWi.out _ _ H2.out).mono ?_
  rintro e w3 ⟨rfl, v3, h3, hf3⟩
  have H3 := hO h3
  have HF3 : Hid (Fr W w3 b v v3) := HF2.out.trans hf3
  have HT3 := hO (zeu HT2.out hf3 HN2.out.1 HN2.out.2)
  clear h3 hf3 H2 HF2 HT2 HWi
  obtain ⟨c0, c1, c2, c3, c4, c5, c6, c7, c8⟩ := HT3.out.cells
  go_wp2_with fail
  refine (HPu.out _ _ _ rfl H3.out).mono ?_
  rintro e w4 ⟨rfl, v4, h4, hf4⟩
  have H4 : Hid (∃ v', RS E z w0 w4 b tv a d v' (L ++ (ms ++ [⟨19, 0, t.tx, 0, 0, 0, 0⟩])) /\ Fr W w4 b v v') := ⟨v4, by rw [<- List.append_assoc]; exact h4, HF3.out.trans hf4⟩
  clear h4 hf4 H3 HF3 HT3 HPu c0 c1 c2 c3 c4 c5 c6 c7 c8
  go_wp2_with fail
  go_end0
  exact ⟨rfl, H4.out⟩
theorem zpu {E : PE} (hE : OkE E) {z : Nat} {w0 : World} {b : Nat} {tv : Value} {i d : Nat} (hb : bgP E i = true) (h23 : kdA E i = 23) (HX0 : Ct 89 E z w0 b tv (i + 1) (d + 1) (gN E 0 (i + 1) (d + 1))) (W : World) (v : Value) (L : List Nd) (h : RS E z w0 W b tv i d v L) (hL : L.length <= 10027010 * i) : Calls Tryz.prog 186 #[.pointer (some ⟨b, 0, none⟩)] W fun e W' => PoR E z w0 b tv d W v L (gN E 5 i d) e W' := by
 have hlen := hE.len
 have hz := hE.z
 have hlt := zbi (E := E) (i := i) (by omega)
 obtain ⟨t, ht, hk, hpl, hta⟩ := zam E z h.hi
 clear hpl
 obtain rfl : t = tkA E i := hta hlt
 have HB : Hid (∀ _ : Unit, Calls Tryz.prog 164 #[.pointer (some ⟨b, 0, none⟩)] W fun e W' => e = .returned (.bool true) /\ Below W.heap.size W W') := fun _ => by
  have := zaF h hz
  rw [hb] at this
  exact this
 have HH : Hid (∀ W, RS E z w0 W b tv i d v L -> Calls Tryz.prog 62 #[.pointer (some ⟨b, 0, none⟩)] W fun e W' => e = .returned (.agg #[.int .i64 (tkA E i).kd, .int .i64 (tkA E i).nn, .int .i64 (tkA E i).fr, .int .i64 (tkA E i).en, .string (tkA E i).tx, .int .u64 (tkA E i).s0, .int .u64 (tkA E i).s1, .int .u64 (tkA E i).s2, .int .u64 (tkA E i).s3]) /\ Below W.heap.size W W') := fun W h => zaq h _ ht
 have H := hO h
 have HE := hO hE
 have HV : Hid (gN E 5 i d = bnd (rW E i d 24) fun a ms => .inl (a, ms ++ [⟨20, 0, ⟨#[]⟩, 0, 0, 0, 0⟩])) := zko hlt (by unfold za2 zbg; rw [zeQ hlt, h23]; rfl)
 have HWi : Hid (∀ W v, RS E z w0 W b tv i d v L -> Calls Tryz.prog 201 #[.pointer (some ⟨b, 0, none⟩), .int .i64 24] W fun e W' => PoR E z w0 b tv d W v L (rW E i d 24) e W') := fun W v h => zcg hE 24 (by omega) hlt HX0 W v L h hL
 have HBd := (show Hid _ from fun a ms => zkn (a := a) (ms := ms) hE (i := i) (d := d) (c := 24) (by omega) hlt)
 rw [HV.out]
 rw [zeQ hlt, h23] at HH
 generalize rW E i d 24 = r at *
 clear h ht hk hta h23 hb HX0 hE HV
 generalize tkA E i = t at *
 cases r with
 | inr q =>
  show Calls Tryz.prog 186 _ _ fun e W' => PoR E z w0 b tv d W v L (.inr q) e W'
  go_enter Tryz.func186, Tryz.ntmps186
  go_wp2_with fail
  refine (HB.out ()).mono ?_
  rintro e w1 ⟨rfl, hb⟩
  have H1 := hO (H.out.later hb)
  have HF1 : Hid (Fr W w1 b v v) := Fr.below b v hb
  clear hb HB H
  go_wp2_with fail
  refine (HH.out _ H1.out).mono ?_
  rintro e w2 ⟨rfl, hb⟩
  have H2 : Hid (RS E z w0 (w2.alloc (.cells #[.int .i64 23, .int .i64 t.nn, .int .i64 t.fr, .int .i64 t.en, .string t.tx, .int .u64 t.s0, .int .u64 t.s1, .int .u64 t.s2, .int .u64 t.s3] 115)) b tv i d v L) := (H1.out.later hb).later (zaa _ _)
  have HF2 : Hid (Fr W (w2.alloc (.cells #[.int .i64 23, .int .i64 t.nn, .int .i64 t.fr, .int .i64 t.en, .string t.tx, .int .u64 t.s0, .int .u64 t.s1, .int .u64 t.s2, .int .u64 t.s3] 115)) b v v) := HF1.out.trans ((Fr.below b v hb).trans (Fr.below b v (zaa _ _)))
  have HT2 : Hid (TX (w2.alloc (.cells #[.int .i64 23, .int .i64 t.nn, .int .i64 t.fr, .int .i64 t.en, .string t.tx, .int .u64 t.s0, .int .u64 t.s1, .int .u64 t.s2, .int .u64 t.s3] 115)) w2.heap.size ⟨23, t.nn, t.fr, t.en, t.tx, t.s0, t.s1, t.s2, t.s3⟩) := ⟨heap_alloc_new w2 _⟩
  have HN2 : Hid (w2.heap.size ≠ b /\ v.ownBlock ≠ some w2.heap.size) := (H1.out.later hb).new
  clear hb HH H1 HF1
  go_wp2_with fail
  refine (HWi.out _ _ H2.out).mono ?_
  rintro e w3 ⟨rfl, hb⟩
  exact zac rfl ⟨rfl, hb⟩
 | inl p =>
  obtain ⟨a, ms⟩ := p
  obtain ⟨b1, b2, b3⟩ := HBd.out a ms rfl
  show Calls Tryz.prog 186 _ _ fun e W' => PoR E z w0 b tv d W v L (.inl (a, ms ++ [⟨20, 0, ⟨#[]⟩, 0, 0, 0, 0⟩])) e W'
  have HPu : Hid (∀ W v q, W.heap.size = q -> RS E z w0 W b tv a d v (L ++ ms) -> Calls Tryz.prog 119 #[.pointer (some ⟨b, 0, none⟩), .slice (some ⟨q, 0, none⟩) 1 1] (W.alloc (.cells #[.int .i64 20, .int .i64 0, .string ⟨#[]⟩, .int .u64 0, .int .u64 0, .int .u64 0, .int .u64 0] 51)) fun e W' => e = .returned (.tuple #[]) /\ ∃ v', RS E z w0 W' b tv a d v' ((L ++ ms) ++ [⟨20, 0, ⟨#[]⟩, 0, 0, 0, 0⟩]) /\ Fr W W' b v v') := fun W v q hq h => zgn h ⟨20, 0, ⟨#[]⟩, 0, 0, 0, 0⟩ q hq (by rw [List.length_append]; omega)
  clear HBd
  go_enter Tryz.func186, Tryz.ntmps186
  go_wp2_with fail
  refine (HB.out ()).mono ?_
  rintro e w1 ⟨rfl, hb⟩
  have H1 := hO (H.out.later hb)
  have HF1 : Hid (Fr W w1 b v v) := Fr.below b v hb
  clear hb HB H
  go_wp2_with fail
  refine (HH.out _ H1.out).mono ?_
  rintro e w2 ⟨rfl, hb⟩
  have H2 : Hid (RS E z w0 (w2.alloc (.cells #[.int .i64 23, .int .i64 t.nn, .int .i64 t.fr, .int .i64 t.en, .string t.tx, .int .u64 t.s0, .int .u64 t.s1, .int .u64 t.s2, .int .u64 t.s3] 115)) b tv i d v L) := (H1.out.later hb).later (zaa _ _)
  have HF2 : Hid (Fr W (w2.alloc (.cells #[.int .i64 23, .int .i64 t.nn, .int .i64 t.fr, .int .i64 t.en, .string t.tx, .int .u64 t.s0, .int .u64 t.s1, .int .u64 t.s2, .int .u64 t.s3] 115)) b v v) := HF1.out.trans ((Fr.below b v hb).trans (Fr.below b v (zaa _ _)))
  have HT2 : Hid (TX (w2.alloc (.cells #[.int .i64 23, .int .i64 t.nn, .int .i64 t.fr, .int .i64 t.en, .string t.tx, .int .u64 t.s0, .int .u64 t.s1, .int .u64 t.s2, .int .u64 t.s3] 115)) w2.heap.size ⟨23, t.nn, t.fr, t.en, t.tx, t.s0, t.s1, t.s2, t.s3⟩) := ⟨heap_alloc_new w2 _⟩
  have HN2 : Hid (w2.heap.size ≠ b /\ v.ownBlock ≠ some w2.heap.size) := (H1.out.later hb).new
  clear hb HH H1 HF1
  go_wp2_with fail
  refine (HWi.out _ _ H2.out).mono ?_
  rintro e w3 ⟨rfl, v3, h3, hf3⟩
  have H3 := hO h3
  have HF3 : Hid (Fr W w3 b v v3) := HF2.out.trans hf3
  have HT3 := hO (zeu HT2.out hf3 HN2.out.1 HN2.out.2)
  clear h3 hf3 H2 HF2 HT2 HWi
  obtain ⟨c0, c1, c2, c3, c4, c5, c6, c7, c8⟩ := HT3.out.cells
  go_wp2_with fail
  refine (HPu.out _ _ _ rfl H3.out).mono ?_
  rintro e w4 ⟨rfl, v4, h4, hf4⟩
  have H4 : Hid (∃ v', RS E z w0 w4 b tv a d v' (L ++ (ms ++ [⟨20, 0, ⟨#[]⟩, 0, 0, 0, 0⟩])) /\ Fr W w4 b v v') := ⟨v4, by rw [<- List.append_assoc]; exact h4, HF3.out.trans hf4⟩
  clear h4 hf4 H3 HF3 HT3 HPu c0 c1 c2 c3 c4 c5 c6 c7 c8
  go_wp2_with fail
  go_end0
  exact ⟨rfl, H4.out⟩
theorem zpv {E : PE} (hE : OkE E) {z : Nat} {w0 : World} {b : Nat} {tv : Value} {i d : Nat} (hb : bgP E i = true) (h25 : kdA E i = 25) (HX0 : Ct 89 E z w0 b tv (i + 1) (d + 1) (gN E 0 (i + 1) (d + 1))) (W : World) (v : Value) (L : List Nd) (h : RS E z w0 W b tv i d v L) (hL : L.length <= 10027010 * i) : Calls Tryz.prog 186 #[.pointer (some ⟨b, 0, none⟩)] W fun e W' => PoR E z w0 b tv d W v L (gN E 5 i d) e W' := by
 have hlen := hE.len
 have hz := hE.z
 have hlt := zbi (E := E) (i := i) (by omega)
 obtain ⟨t, ht, hk, hpl, hta⟩ := zam E z h.hi
 clear hpl
 obtain rfl : t = tkA E i := hta hlt
 have HB : Hid (∀ _ : Unit, Calls Tryz.prog 164 #[.pointer (some ⟨b, 0, none⟩)] W fun e W' => e = .returned (.bool true) /\ Below W.heap.size W W') := fun _ => by
  have := zaF h hz
  rw [hb] at this
  exact this
 have HH : Hid (∀ W, RS E z w0 W b tv i d v L -> Calls Tryz.prog 62 #[.pointer (some ⟨b, 0, none⟩)] W fun e W' => e = .returned (.agg #[.int .i64 (tkA E i).kd, .int .i64 (tkA E i).nn, .int .i64 (tkA E i).fr, .int .i64 (tkA E i).en, .string (tkA E i).tx, .int .u64 (tkA E i).s0, .int .u64 (tkA E i).s1, .int .u64 (tkA E i).s2, .int .u64 (tkA E i).s3]) /\ Below W.heap.size W W') := fun W h => zaq h _ ht
 have H := hO h
 have HE := hO hE
 have HV : Hid (gN E 5 i d = bnd (rW E i d 26) fun a ms => .inl (a, ms ++ [⟨21, 0, ⟨#[]⟩, 0, 0, 0, 0⟩])) := zko hlt (by unfold za2 zbg; rw [zeQ hlt, h25]; rfl)
 have HWi : Hid (∀ W v, RS E z w0 W b tv i d v L -> Calls Tryz.prog 201 #[.pointer (some ⟨b, 0, none⟩), .int .i64 26] W fun e W' => PoR E z w0 b tv d W v L (rW E i d 26) e W') := fun W v h => zcg hE 26 (by omega) hlt HX0 W v L h hL
 have HBd := (show Hid _ from fun a ms => zkn (a := a) (ms := ms) hE (i := i) (d := d) (c := 26) (by omega) hlt)
 rw [HV.out]
 rw [zeQ hlt, h25] at HH
 generalize rW E i d 26 = r at *
 clear h ht hk hta h25 hb HX0 hE HV
 generalize tkA E i = t at *
 cases r with
 | inr q =>
  show Calls Tryz.prog 186 _ _ fun e W' => PoR E z w0 b tv d W v L (.inr q) e W'
  go_enter Tryz.func186, Tryz.ntmps186
  go_wp2_with fail
  refine (HB.out ()).mono ?_
  rintro e w1 ⟨rfl, hb⟩
  have H1 := hO (H.out.later hb)
  have HF1 : Hid (Fr W w1 b v v) := Fr.below b v hb
  clear hb HB H
  go_wp2_with fail
  refine (HH.out _ H1.out).mono ?_
  rintro e w2 ⟨rfl, hb⟩
  have H2 : Hid (RS E z w0 (w2.alloc (.cells #[.int .i64 25, .int .i64 t.nn, .int .i64 t.fr, .int .i64 t.en, .string t.tx, .int .u64 t.s0, .int .u64 t.s1, .int .u64 t.s2, .int .u64 t.s3] 115)) b tv i d v L) := (H1.out.later hb).later (zaa _ _)
  have HF2 : Hid (Fr W (w2.alloc (.cells #[.int .i64 25, .int .i64 t.nn, .int .i64 t.fr, .int .i64 t.en, .string t.tx, .int .u64 t.s0, .int .u64 t.s1, .int .u64 t.s2, .int .u64 t.s3] 115)) b v v) := HF1.out.trans ((Fr.below b v hb).trans (Fr.below b v (zaa _ _)))
  have HT2 : Hid (TX (w2.alloc (.cells #[.int .i64 25, .int .i64 t.nn, .int .i64 t.fr, .int .i64 t.en, .string t.tx, .int .u64 t.s0, .int .u64 t.s1, .int .u64 t.s2, .int .u64 t.s3] 115)) w2.heap.size ⟨25, t.nn, t.fr, t.en, t.tx, t.s0, t.s1, t.s2, t.s3⟩) := ⟨heap_alloc_new w2 _⟩
  have HN2 : Hid (w2.heap.size ≠ b /\ v.ownBlock ≠ some w2.heap.size) := (H1.out.later hb).new
  clear hb HH H1 HF1
  go_wp2_with fail
  refine (HWi.out _ _ H2.out).mono ?_
  rintro e w3 ⟨rfl, hb⟩
  exact zac rfl ⟨rfl, hb⟩
 | inl p =>
  obtain ⟨a, ms⟩ := p
  obtain ⟨b1, b2, b3⟩ := HBd.out a ms rfl
  show Calls Tryz.prog 186 _ _ fun e W' => PoR E z w0 b tv d W v L (.inl (a, ms ++ [⟨21, 0, ⟨#[]⟩, 0, 0, 0, 0⟩])) e W'
  have HPu : Hid (∀ W v q, W.heap.size = q -> RS E z w0 W b tv a d v (L ++ ms) -> Calls Tryz.prog 119 #[.pointer (some ⟨b, 0, none⟩), .slice (some ⟨q, 0, none⟩) 1 1] (W.alloc (.cells #[.int .i64 21, .int .i64 0, .string ⟨#[]⟩, .int .u64 0, .int .u64 0, .int .u64 0, .int .u64 0] 51)) fun e W' => e = .returned (.tuple #[]) /\ ∃ v', RS E z w0 W' b tv a d v' ((L ++ ms) ++ [⟨21, 0, ⟨#[]⟩, 0, 0, 0, 0⟩]) /\ Fr W W' b v v') := fun W v q hq h => zgn h ⟨21, 0, ⟨#[]⟩, 0, 0, 0, 0⟩ q hq (by rw [List.length_append]; omega)
  clear HBd
  go_enter Tryz.func186, Tryz.ntmps186
  go_wp2_with fail
  refine (HB.out ()).mono ?_
  rintro e w1 ⟨rfl, hb⟩
  have H1 := hO (H.out.later hb)
  have HF1 : Hid (Fr W w1 b v v) := Fr.below b v hb
  clear hb HB H
  go_wp2_with fail
  refine (HH.out _ H1.out).mono ?_
  rintro e w2 ⟨rfl, hb⟩
  have H2 : Hid (RS E z w0 (w2.alloc (.cells #[.int .i64 25, .int .i64 t.nn, .int .i64 t.fr, .int .i64 t.en, .string t.tx, .int .u64 t.s0, .int .u64 t.s1, .int .u64 t.s2, .int .u64 t.s3] 115)) b tv i d v L) := (H1.out.later hb).later (zaa _ _)
  have HF2 : Hid (Fr W (w2.alloc (.cells #[.int .i64 25, .int .i64 t.nn, .int .i64 t.fr, .int .i64 t.en, .string t.tx, .int .u64 t.s0, .int .u64 t.s1, .int .u64 t.s2, .int .u64 t.s3] 115)) b v v) := HF1.out.trans ((Fr.below b v hb).trans (Fr.below b v (zaa _ _)))
  have HT2 : Hid (TX (w2.alloc (.cells #[.int .i64 25, .int .i64 t.nn, .int .i64 t.fr, .int .i64 t.en, .string t.tx, .int .u64 t.s0, .int .u64 t.s1, .int .u64 t.s2, .int .u64 t.s3] 115)) w2.heap.size ⟨25, t.nn, t.fr, t.en, t.tx, t.s0, t.s1, t.s2, t.s3⟩) := ⟨heap_alloc_new w2 _⟩
  have HN2 : Hid (w2.heap.size ≠ b /\ v.ownBlock ≠ some w2.heap.size) := (H1.out.later hb).new
  clear hb HH H1 HF1
  go_wp2_with fail
  refine (HWi.out _ _ H2.out).mono ?_
  rintro e w3 ⟨rfl, v3, h3, hf3⟩
  have H3 := hO h3
  have HF3 : Hid (Fr W w3 b v v3) := HF2.out.trans hf3
  have HT3 := hO (zeu HT2.out hf3 HN2.out.1 HN2.out.2)
  clear h3 hf3 H2 HF2 HT2 HWi
  obtain ⟨c0, c1, c2, c3, c4, c5, c6, c7, c8⟩ := HT3.out.cells
  go_wp2_with fail
  refine (HPu.out _ _ _ rfl H3.out).mono ?_
  rintro e w4 ⟨rfl, v4, h4, hf4⟩
  have H4 : Hid (∃ v', RS E z w0 w4 b tv a d v' (L ++ (ms ++ [⟨21, 0, ⟨#[]⟩, 0, 0, 0, 0⟩])) /\ Fr W w4 b v v') := ⟨v4, by rw [<- List.append_assoc]; exact h4, HF3.out.trans hf4⟩
  clear h4 hf4 H3 HF3 HT3 HPu c0 c1 c2 c3 c4 c5 c6 c7 c8
  go_wp2_with fail
  go_end0
  exact ⟨rfl, H4.out⟩
theorem zpw {E : PE} (hE : OkE E) {z : Nat} {w0 : World} {b : Nat} {tv : Value} {i d : Nat} (hb : bgP E i = true) (h19 : kdA E i = 19) (HX0 : Ct 89 E z w0 b tv (i + 1) (d + 1) (gN E 0 (i + 1) (d + 1))) (W : World) (v : Value) (L : List Nd) (h : RS E z w0 W b tv i d v L) (hL : L.length <= 10027010 * i) : Calls Tryz.prog 186 #[.pointer (some ⟨b, 0, none⟩)] W fun e W' => PoR E z w0 b tv d W v L (gN E 5 i d) e W' := by
 have hlen := hE.len
 have hz := hE.z
 have hlt := zbi (E := E) (i := i) (by omega)
 obtain ⟨t, ht, hk, hpl, hta⟩ := zam E z h.hi
 clear hpl
 obtain rfl : t = tkA E i := hta hlt
 have HB : Hid (∀ _ : Unit, Calls Tryz.prog 164 #[.pointer (some ⟨b, 0, none⟩)] W fun e W' => e = .returned (.bool true) /\ Below W.heap.size W W') := fun _ => by
  have := zaF h hz
  rw [hb] at this
  exact this
 have HH : Hid (∀ W, RS E z w0 W b tv i d v L -> Calls Tryz.prog 62 #[.pointer (some ⟨b, 0, none⟩)] W fun e W' => e = .returned (.agg #[.int .i64 (tkA E i).kd, .int .i64 (tkA E i).nn, .int .i64 (tkA E i).fr, .int .i64 (tkA E i).en, .string (tkA E i).tx, .int .u64 (tkA E i).s0, .int .u64 (tkA E i).s1, .int .u64 (tkA E i).s2, .int .u64 (tkA E i).s3]) /\ Below W.heap.size W W') := fun W h => zaq h _ ht
 have H := hO h
 have HE := hO hE
 have HV : Hid (gN E 5 i d = brR E i d) := g5_br hlt h19
 have HWi : Hid (∀ W v, RS E z w0 W b tv i d v L -> Calls Tryz.prog 202 #[.pointer (some ⟨b, 0, none⟩)] W fun e W' => PoR E z w0 b tv d W v L (brR E i d) e W') := fun W v h => zkp hE h19 HX0 W v L h hL
 rw [HV.out]
 rw [zeQ hlt, h19] at HH
 generalize brR E i d = r at *
 clear h ht hk hta h19 hb HX0 hE HV
 generalize tkA E i = t at *
 cases r with
 | inr q =>
  go_enter Tryz.func186, Tryz.ntmps186
  go_wp2_with fail
  refine (HB.out ()).mono ?_
  rintro e w1 ⟨rfl, hb⟩
  have H1 := hO (H.out.later hb)
  have HF1 : Hid (Fr W w1 b v v) := Fr.below b v hb
  clear hb HB H
  go_wp2_with fail
  refine (HH.out _ H1.out).mono ?_
  rintro e w2 ⟨rfl, hb⟩
  have H2 : Hid (RS E z w0 (w2.alloc (.cells #[.int .i64 19, .int .i64 t.nn, .int .i64 t.fr, .int .i64 t.en, .string t.tx, .int .u64 t.s0, .int .u64 t.s1, .int .u64 t.s2, .int .u64 t.s3] 115)) b tv i d v L) := (H1.out.later hb).later (zaa _ _)
  have HF2 : Hid (Fr W (w2.alloc (.cells #[.int .i64 19, .int .i64 t.nn, .int .i64 t.fr, .int .i64 t.en, .string t.tx, .int .u64 t.s0, .int .u64 t.s1, .int .u64 t.s2, .int .u64 t.s3] 115)) b v v) := HF1.out.trans ((Fr.below b v hb).trans (Fr.below b v (zaa _ _)))
  have HT2 : Hid (TX (w2.alloc (.cells #[.int .i64 19, .int .i64 t.nn, .int .i64 t.fr, .int .i64 t.en, .string t.tx, .int .u64 t.s0, .int .u64 t.s1, .int .u64 t.s2, .int .u64 t.s3] 115)) w2.heap.size ⟨19, t.nn, t.fr, t.en, t.tx, t.s0, t.s1, t.s2, t.s3⟩) := ⟨heap_alloc_new w2 _⟩
  have HN2 : Hid (w2.heap.size ≠ b /\ v.ownBlock ≠ some w2.heap.size) := (H1.out.later hb).new
  clear hb HH H1 HF1
  go_wp2_with fail
  refine (HWi.out _ _ H2.out).mono ?_
  rintro e w3 ⟨rfl, hb⟩
  exact zac rfl ⟨rfl, hb⟩
 | inl p =>
  go_enter Tryz.func186, Tryz.ntmps186
  go_wp2_with fail
  refine (HB.out ()).mono ?_
  rintro e w1 ⟨rfl, hb⟩
  have H1 := hO (H.out.later hb)
  have HF1 : Hid (Fr W w1 b v v) := Fr.below b v hb
  clear hb HB H
  go_wp2_with fail
  refine (HH.out _ H1.out).mono ?_
  rintro e w2 ⟨rfl, hb⟩
  have H2 : Hid (RS E z w0 (w2.alloc (.cells #[.int .i64 19, .int .i64 t.nn, .int .i64 t.fr, .int .i64 t.en, .string t.tx, .int .u64 t.s0, .int .u64 t.s1, .int .u64 t.s2, .int .u64 t.s3] 115)) b tv i d v L) := (H1.out.later hb).later (zaa _ _)
  have HF2 : Hid (Fr W (w2.alloc (.cells #[.int .i64 19, .int .i64 t.nn, .int .i64 t.fr, .int .i64 t.en, .string t.tx, .int .u64 t.s0, .int .u64 t.s1, .int .u64 t.s2, .int .u64 t.s3] 115)) b v v) := HF1.out.trans ((Fr.below b v hb).trans (Fr.below b v (zaa _ _)))
  have HT2 : Hid (TX (w2.alloc (.cells #[.int .i64 19, .int .i64 t.nn, .int .i64 t.fr, .int .i64 t.en, .string t.tx, .int .u64 t.s0, .int .u64 t.s1, .int .u64 t.s2, .int .u64 t.s3] 115)) w2.heap.size ⟨19, t.nn, t.fr, t.en, t.tx, t.s0, t.s1, t.s2, t.s3⟩) := ⟨heap_alloc_new w2 _⟩
  have HN2 : Hid (w2.heap.size ≠ b /\ v.ownBlock ≠ some w2.heap.size) := (H1.out.later hb).new
  clear hb HH H1 HF1
  go_wp2_with fail
  refine (HWi.out _ _ H2.out).mono ?_
  rintro e w3 ⟨rfl, v3, h3, hf3⟩
  have H4 : Hid (∃ v', RS E z w0 w3 b tv p.1 d v' (L ++ p.2) /\ Fr W w3 b v v') := ⟨v3, h3, HF2.out.trans hf3⟩
  clear h3 hf3 H2 HF2 HWi HT2
  go_wp2_with fail
  go_end0
  exact ⟨rfl, H4.out⟩
theorem zcD {E : PE} (hE : OkE E) {z : Nat} {w0 : World} {b : Nat} {tv : Value} {i d : Nat} (hv : R.VB w0) (hb : bgP E i = true) (hkd : kdA E i = 2 ∨ kdA E i = 3 ∨ kdA E i = 28 ∨ kdA E i = 5 ∨ kdA E i = 18 ∨ kdA E i = 29 ∨ kdA E i = 30 ∨ kdA E i = 1) (W : World) (v : Value) (L : List Nd) (h : RS E z w0 W b tv i d v L) (hL : L.length <= 10027010 * i) : Calls Tryz.prog 186 #[.pointer (some ⟨b, 0, none⟩)] W fun e W' => PoR E z w0 b tv d W v L (gN E 5 i d) e W' := by
 have hlen := hE.len
 have hz := hE.z
 have hlt := zbi (E := E) (i := i) (by omega)
 obtain ⟨t, ht, hk, hpl, hta⟩ := zam E z h.hi
 clear hpl
 obtain rfl : t = tkA E i := hta hlt
 have HB : Hid (∀ _ : Unit, Calls Tryz.prog 164 #[.pointer (some ⟨b, 0, none⟩)] W fun e W' => e = .returned (.bool true) /\ Below W.heap.size W W') := fun _ => by
  have := zaF h hz
  rw [hb] at this
  exact this
 have HH : Hid (∀ W, RS E z w0 W b tv i d v L -> Calls Tryz.prog 62 #[.pointer (some ⟨b, 0, none⟩)] W fun e W' => e = .returned (.agg #[.int .i64 (tkA E i).kd, .int .i64 (tkA E i).nn, .int .i64 (tkA E i).fr, .int .i64 (tkA E i).en, .string (tkA E i).tx, .int .u64 (tkA E i).s0, .int .u64 (tkA E i).s1, .int .u64 (tkA E i).s2, .int .u64 (tkA E i).s3]) /\ Below W.heap.size W W') := fun W h => zaq h _ ht
 have H := hO h
 have HE := hO hE
 have hkt := zeQ hlt
 have hmem : tkA E i ∈ E.l := by unfold tkA; rw [List.getElem?_eq_getElem hlt]; exact List.getElem_mem hlt
 have HV : Hid (gN E 5 i d = .inl (i + 1, lfN (tkA E i))) := by
  show gN E 5 i d = _
  rw [g5 E i d hlt, show za2 E i = .inl (lfN (tkA E i), 1) from by unfold za2; rw [hE.rn]; exact zmM (by rw [hkt]; exact hkd)]
 rw [HV.out]
 have HLf : Hid (∀ W, R.VB W -> Calls Tryz.prog 203 #[(.agg #[.int .i64 (tkA E i).kd, .int .i64 (tkA E i).nn, .int .i64 (tkA E i).fr, .int .i64 (tkA E i).en, .string (tkA E i).tx, .int .u64 (tkA E i).s0, .int .u64 (tkA E i).s1, .int .u64 (tkA E i).s2, .int .u64 (tkA E i).s3])] W fun e w' => LfV W w' (lfN (tkA E i)) e /\ Below W.heap.size W w') := fun W hw => zmK (tkA E i) (by rw [hkt]; exact hkd) (hE.rg _ hmem) W hw
 have HVB : Hid (∀ W, Below w0.heap.size w0 W -> R.VB W) := fun W hW => hv.below hW hv.lt
 have hM := zpp (tkA E i)
 have hM2 := zpq (tkA E i)
 have HPu : Hid (∀ W q c, RS E z w0 W b tv i d v L -> (∀ j u, (T.ndc (lfN (tkA E i)))[j]? = some u -> W.cell? ((⟨q, 0, none⟩ : Addr).add j) = some u) -> Calls Tryz.prog 119 #[.pointer (some ⟨b, 0, none⟩), .slice (some ⟨q, 0, none⟩) (lfN (tkA E i)).length c] W fun e W' => e = .returned (.tuple #[]) /\ ∃ v', RS E z w0 W' b tv i d v' (L ++ lfN (tkA E i)) /\ Fr W W' b v v') := fun W q c h hq => zj2 h _ q c hM (by omega) hq
 have HPs : Hid (∀ W v, RS E z w0 W b tv i d v (L ++ lfN (tkA E i)) -> Calls Tryz.prog 90 #[.pointer (some ⟨b, 0, none⟩), .int .i64 (tkA E i).kd] W fun e W' => e = .returned (.tuple #[]) /\ RS E z w0 W' b tv (i + 1) d v (L ++ lfN (tkA E i)) /\ Fr W W' b v v) := fun W v h => by
  rw [hkt]
  exact zcp h hlt hz
 have v16 : ((tkA E i).kd == 16) = false := by rw [hkt]; exact bF (by omega)
 have v19 : ((tkA E i).kd == 19) = false := by rw [hkt]; exact bF (by omega)
 have v21 : ((tkA E i).kd == 21) = false := by rw [hkt]; exact bF (by omega)
 have v23 : ((tkA E i).kd == 23) = false := by rw [hkt]; exact bF (by omega)
 have v25 : ((tkA E i).kd == 25) = false := by rw [hkt]; exact bF (by omega)
 clear h ht hk hta hkd hb hE HV hkt hmem hv
 generalize lfN (tkA E i) = M at *
 generalize tkA E i = t at *
 go_enter Tryz.func186, Tryz.ntmps186
 go_wp2_with fail
 refine (HB.out ()).mono ?_
 rintro e w1 ⟨rfl, hb⟩
 have H1 := hO (H.out.later hb)
 have HF1 : Hid (Fr W w1 b v v) := Fr.below b v hb
 clear hb HB H
 go_wp2_with fail
 refine (HH.out _ H1.out).mono ?_
 rintro e w2 ⟨rfl, hb⟩
 have H2 : Hid (RS E z w0 (w2.alloc (.cells #[.int .i64 t.kd, .int .i64 t.nn, .int .i64 t.fr, .int .i64 t.en, .string t.tx, .int .u64 t.s0, .int .u64 t.s1, .int .u64 t.s2, .int .u64 t.s3] 115)) b tv i d v L) := (H1.out.later hb).later (zaa _ _)
 have HF2 : Hid (Fr W (w2.alloc (.cells #[.int .i64 t.kd, .int .i64 t.nn, .int .i64 t.fr, .int .i64 t.en, .string t.tx, .int .u64 t.s0, .int .u64 t.s1, .int .u64 t.s2, .int .u64 t.s3] 115)) b v v) := HF1.out.trans ((Fr.below b v hb).trans (Fr.below b v (zaa _ _)))
 have HT2 : Hid (TX (w2.alloc (.cells #[.int .i64 t.kd, .int .i64 t.nn, .int .i64 t.fr, .int .i64 t.en, .string t.tx, .int .u64 t.s0, .int .u64 t.s1, .int .u64 t.s2, .int .u64 t.s3] 115)) w2.heap.size t) := ⟨heap_alloc_new w2 _⟩
 have HN2 : Hid (w2.heap.size ≠ b /\ v.ownBlock ≠ some w2.heap.size) := (H1.out.later hb).new
 clear hb HH H1 HF1
 go_wp2_with fail
 refine (HLf.out _ (HVB.out _ H2.out.bl)).mono ?_
 rintro e w3 ⟨⟨u, rfl, ho⟩, hb3⟩
 obtain ⟨q, c, rfl, _, _⟩ := ho.form hM
 have H3 := hO (H2.out.later hb3)
 have HF3 : Hid (Fr W w3 b v v) := HF2.out.trans (Fr.below b v hb3)
 have HT3 := hO (HT2.out.below hb3)
 have HQ : Hid (∀ j u, (T.ndc M)[j]? = some u -> w3.cell? ((⟨q, 0, none⟩ : Addr).add j) = some u) := ho.cells rfl
 clear ho hb3 H2 HF2 HT2 HLf
 go_wp2_with fail
 refine (HPu.out _ _ _ H3.out HQ.out).mono ?_
 rintro e w4 ⟨rfl, v4, h4, hf4⟩
 have H4 := hO h4
 have HF4 : Hid (Fr W w4 b v v4) := HF3.out.trans hf4
 have HT4 := hO (zeu HT3.out hf4 HN2.out.1 HN2.out.2)
 clear h4 hf4 H3 HF3 HT3 HPu HQ
 obtain ⟨c0, c1, c2, c3, c4, c5, c6, c7, c8⟩ := HT4.out.cells
 go_wp2_with fail
 refine (HPs.out _ _ H4.out).mono ?_
 rintro e w5 ⟨rfl, h5, hf5⟩
 have H5 : Hid (∃ v', RS E z w0 w5 b tv (i + 1) d v' (L ++ M) /\ Fr W w5 b v v') := ⟨v4, h5, HF4.out.trans hf5⟩
 clear h5 hf5 H4 HF4 HT4 HPs c0 c1 c2 c3 c4 c5 c6 c7 c8
 go_wp2_with fail
 go_end0
 exact ⟨rfl, H5.out⟩
theorem zh9 {E : PE} (hE : OkE E) {z : Nat} {w0 : World} {b : Nat} {tv : Value} {i d : Nat} (hv : R.VB w0) (HX0 : i < E.l.length -> Ct 89 E z w0 b tv (i + 1) (d + 1) (gN E 0 (i + 1) (d + 1))) : Ct 186 E z w0 b tv i d (gP E i d) := by
 intro W v L h hL
 unfold gP
 cases hb : bgP E i with
 | false => exact zpr hE hb W v L h
 | true =>
  have hlt := zoa hb
  rw [if_pos rfl]
  have hbb := hb
  unfold bgP prK at hbb
  simp only [Bool.or_eq_true, Bool.and_eq_true, beq_iff_eq] at hbb
  rcases hbb with (((((((((((q | q) | q) | q) | q) | q) | q) | q) | q) | q) | q) | q) | ⟨q, _⟩
  ·exact zcD hE hv hb (by omega) W v L h hL
  ·exact zcD hE hv hb (by omega) W v L h hL
  ·exact zcD hE hv hb (by omega) W v L h hL
  ·exact zcD hE hv hb (by omega) W v L h hL
  ·exact zcD hE hv hb (by omega) W v L h hL
  ·exact zcD hE hv hb (by omega) W v L h hL
  ·exact zcD hE hv hb (by omega) W v L h hL
  ·exact zps hE hb q (HX0 hlt) W v L h hL
  ·exact zpw hE hb q (HX0 hlt) W v L h hL
  ·exact zpt hE hb q (HX0 hlt) W v L h hL
  ·exact zpu hE hb q (HX0 hlt) W v L h hL
  ·exact zpv hE hb q (HX0 hlt) W v L h hL
  ·exact zcD hE hv hb (by omega) W v L h hL
theorem zpx {E : PE} (hE : OkE E) {z : Nat} {w0 : World} (hv : R.VB w0) {b : Nat} {tv : Value} : ∀ (n i : Nat), E.l.length - i <= n -> i <= E.l.length -> ∀ d, Ct 89 E z w0 b tv i d (gN E 0 i d) /\ Ct 118 E z w0 b tv i d (gN E 2 i d) /\ Ct 145 E z w0 b tv i d (gN E 4 i d) := by
 intro n
 induction n with
 | zero =>
  intro i h1 h2 d
  have hP : ∀ a, i <= a -> a <= E.l.length -> Ct 145 E z w0 b tv a d (gN E 4 a d) := fun a ha1 ha2 => zkk hE (fun q => by omega) (zkm hE (zh9 hE hv (fun q => by omega)))
  have hS : ∀ a, i <= a -> a <= E.l.length -> Ct 118 E z w0 b tv a d (gN E 2 a d) := fun a ha1 ha2 => zkj hE (fun a2 q1 q2 => hP a2 (by omega) q2)
  exact ⟨zki hE hS, hS i (Nat.le_refl _) h2, hP i (Nat.le_refl _) h2⟩
 | succ n ih =>
  intro i h1 h2 d
  have hP : ∀ a, i <= a -> a <= E.l.length -> Ct 145 E z w0 b tv a d (gN E 4 a d) := fun a ha1 ha2 => zkk hE (fun q => (ih (a + 1) (by omega) (by omega) (d + 1)).2.2) (zkm hE (zh9 hE hv (fun q => (ih (a + 1) (by omega) (by omega) (d + 1)).1)))
  have hS : ∀ a, i <= a -> a <= E.l.length -> Ct 118 E z w0 b tv a d (gN E 2 a d) := fun a ha1 ha2 => zkj hE (fun a2 q1 q2 => hP a2 (by omega) q2)
  exact ⟨zki hE hS, hS i (Nat.le_refl _) h2, hP i (Nat.le_refl _) h2⟩
theorem zkq {E : PE} (hE : OkE E) {z : Nat} {w0 : World} (hv : R.VB w0) {b : Nat} {tv : Value} {i d : Nat} (hi : i <= E.l.length) : Ct 89 E z w0 b tv i d (gN E 0 i d) := (zpx hE hv _ i (Nat.le_refl _) hi d).1
end Go.Proofs.YtnpifgcgjgddoaaGreatDoor.N
namespace Go.Proofs.YtnpifgcgjgddoaaGreatDoor.Q
open Go.RowKit
abbrev Rd (α : Type) := Sum α (Int × Int)
def chr (s : ByteArray) (i : Nat) : Int := if h : i < s.size then (s[i].toNat : Int) else -1
theorem zak {s : ByteArray} {i : Nat} (h : i < s.size) : chr s i = (s[i].toNat : Int) := by unfold chr; rw [dif_pos h]
theorem zau {s : ByteArray} {i : Nat} (h : ¬ i < s.size) : chr s i = -1 := by unfold chr; rw [dif_neg h]
theorem zdd (s : ByteArray) (i : Nat) : -1 <= chr s i /\ chr s i <= 255 := by
 unfold chr
 split
 ·have := s[i].toNat_lt; omega
 ·omega
theorem zaC {s : ByteArray} {i : Nat} (h : 0 <= chr s i) : i < s.size := by
 by_cases hi : i < s.size
 ·exact hi
 ·rw [zau hi] at h; omega
theorem zob {s : ByteArray} {i : Nat} (h : i < s.size) : 0 <= chr s i /\ chr s i <= 255 := by
 rw [zak h]; have := s[i].toNat_lt; omega
def zbd (c : Int) : Int := if 48 <= c /\ c <= 57 then c - 48 else if 97 <= c /\ c <= 102 then c - 87 else -1
theorem zbG (c : Int) : -1 <= zbd c /\ zbd c <= 15 := by unfold zbd; split <;> (try split) <;> omega
theorem zpy {c : Int} (h : 0 <= zbd c) : 0 <= c := by
 unfold zbd at h; split at h
 ·omega
 ·split at h <;> omega
def zaY (s : ByteArray) (i : Nat) : Option (Int × Nat) :=
 if 0 <= zbd (chr s (i + 2)) /\ 0 <= zbd (chr s (i + 3)) then some (16 * zbd (chr s (i + 2)) + zbd (chr s (i + 3)), i + 4) else none
def zap (s : ByteArray) (i : Nat) : Option (Int × Nat) :=
 if chr s (i + 1) = 110 then some (10, i + 2) else if chr s (i + 1) = 114 then some (13, i + 2) else if chr s (i + 1) = 116 then some (9, i + 2) else
 if chr s (i + 1) = 92 ∨ chr s (i + 1) = 39 ∨ chr s (i + 1) = 34 then some (chr s (i + 1), i + 2) else
 if chr s (i + 1) = 120 then zaY s i else none
def zaK (s : ByteArray) (i : Nat) : Rd (Int × Nat) :=
 if chr s i = 92 then (match zap s i with | none => .inr (i, 21) | some p => .inl p) else
 if chr s i < 32 ∨ chr s i = 127 then .inr (i, 22) else .inl (chr s i, i + 1)
def zaZ (s : ByteArray) (m : Int) : Nat -> Nat -> List Int -> Rd (List Int × Nat)
 | 0, i, _ => .inr (i, 22)
 | f + 1, i, l => if chr s i = m then .inl (l, i + 1) else if s.size <= i then .inr (s.size, 22) else
  match zaK s i with
  | .inr (a, c) => .inr (a, c)
  | .inl (b, n) => zaZ s m f n (l ++ [b])
def zbV (s : ByteArray) (i : Int) : Rd (List Int × Nat) :=
 if 65536 < s.size then .inr (0, 2) else
 if i < 0 ∨ (s.size : Int) < i then .inr (0, 1) else
 if chr s i.toNat = 39 ∨ chr s i.toNat = 34 then zaZ s (chr s i.toNat) (s.size + 1) (i.toNat + 1) [] else .inr (i, 20)
theorem zfo {s : ByteArray} {i : Nat} {b : Int} {n : Nat} (h : zaY s i = some (b, n)) : 0 <= b /\ b <= 255 /\ i < n /\ n <= s.size := by
 unfold zaY at h
 split at h
 ·next q =>
  cases h
  have h1 := zbG (chr s (i + 2)); have h2 := zbG (chr s (i + 3))
  have h3 := zaC (zpy q.2)
  exact ⟨by omega, by omega, by omega, by omega⟩
 ·cases h
theorem zfp {s : ByteArray} {i : Nat} {b : Int} {n : Nat} (h : zap s i = some (b, n)) : 0 <= b /\ b <= 255 /\ i < n /\ n <= s.size := by
 unfold zap at h
 have hb := zdd s (i + 1)
 split at h
 ·next q => cases h; have := zaC (s := s) (i := i + 1) (by omega); omega
 ·split at h
  ·next q => cases h; have := zaC (s := s) (i := i + 1) (by omega); omega
  ·split at h
   ·next q => cases h; have := zaC (s := s) (i := i + 1) (by omega); omega
   ·split at h
    ·next q => cases h; have := zaC (s := s) (i := i + 1) (by omega); omega
    ·split at h
     ·exact zfo h
     ·cases h
theorem zgo {s : ByteArray} {i : Nat} {b : Int} {n : Nat} (h : zaK s i = .inl (b, n)) : 0 <= b /\ b <= 255 /\ i < n /\ n <= s.size := by
 unfold zaK at h
 split at h
 ·split at h
  ·cases h
  ·next p hp => cases h; exact zfp hp
 ·split at h
  ·cases h
  ·next q => cases h; have := zdd s i; have := zaC (s := s) (i := i) (by omega); omega
theorem zi7 {s : ByteArray} {i : Nat} {a c : Int} (h : zaK s i = .inr (a, c)) : a = i /\ (c = 21 ∨ c = 22) := by
 unfold zaK at h
 split at h
 ·split at h
  ·cases h; exact ⟨rfl, .inl rfl⟩
  ·cases h
 ·split at h
  ·cases h; exact ⟨rfl, .inr rfl⟩
  ·cases h
theorem zfc {s : ByteArray} {m : Int} {f i : Nat} {l : List Int} (h : chr s i = m) : zaZ s m (f + 1) i l = .inl (l, i + 1) := by
 unfold zaZ; rw [if_pos h]
theorem zi8 {s : ByteArray} {m : Int} {f i : Nat} {l : List Int} (h : s.size <= i) (hm : 0 <= m) : zaZ s m (f + 1) i l = .inr (s.size, 22) := by
 unfold zaZ; rw [if_neg (by rw [zau (by omega)]; omega), if_pos h]
theorem zi9 {s : ByteArray} {m : Int} {f i : Nat} {l : List Int} {a c : Int} (h : chr s i ≠ m) (hi : i < s.size) (hb : zaK s i = .inr (a, c)) : zaZ s m (f + 1) i l = .inr (a, c) := by
 unfold zaZ; rw [if_neg h, if_neg (by omega), hb]
theorem zev {s : ByteArray} {m : Int} {f i : Nat} {l : List Int} {b : Int} {n : Nat} (h : chr s i ≠ m) (hi : i < s.size) (hb : zaK s i = .inl (b, n)) : zaZ s m (f + 1) i l = zaZ s m f n (l ++ [b]) := by
 rw [zaZ, if_neg h, if_neg (by omega), hb]
def zae (l : List Int) : ByteArray := l.foldl (fun r n => r.push (UInt8.ofNat n.toNat)) ByteArray.empty
theorem za4 (l : List Int) : (zae l).data.toList = l.map (fun n => UInt8.ofNat n.toNat) := by
 have key : ∀ (l : List Int) (s : ByteArray), (l.foldl (fun r n => r.push (UInt8.ofNat n.toNat)) s).data.toList = s.data.toList ++ l.map (fun n => UInt8.ofNat n.toNat) := by
  intro l
  induction l with
  | nil => intro s; simp
  | cons b l ih => intro s; rw [List.foldl_cons, ih]; simp [ByteArray.push]
 have := key l ByteArray.empty
 simpa [zae] using this
def byV : Rd (Int × Nat) -> Value
 | .inl (b, n) => .tuple #[.int .u8 b, .int .i64 n, .int .i64 0]
 | .inr (_, c) => .tuple #[.int .u8 0, .int .i64 0, .int .i64 c]
def esV : Option (Int × Nat) -> Value
 | some (b, n) => .tuple #[.int .u8 b, .int .i64 n, .int .i64 0]
 | none => .tuple #[.int .u8 0, .int .i64 0, .int .i64 21]
def cuV : Rd (List Int × Nat) -> Value
 | .inl (l, n) => .tuple #[.string (zae l), .int .i64 n, .agg #[.int .i64 0, .int .i64 0]]
 | .inr (a, c) => .tuple #[.string ⟨#[]⟩, .int .i64 0, .agg #[.int .i64 a, .int .i64 c]]
def zbZ (m : Int) : Int := if m < 10 then 48 + m else 87 + m
def shB (b : Int) : List Int :=
 if b = 10 then [92, 110] else if b = 13 then [92, 114] else if b = 9 then [92, 116] else if b = 39 ∨ b = 92 then [92, b] else
 if 32 <= b /\ b <= 126 then [b] else [92, 120, zbZ (b / 16), zbZ (b % 16)]
def byl (s : ByteArray) : List Int := s.data.toList.map fun c => (c.toNat : Int)
def qTo (s : ByteArray) (k : Nat) : List Int := 39 :: ((byl s).take k).flatMap shB
def qT (s : ByteArray) : List Int := 39 :: (byl s).flatMap shB ++ [39]
def By (l : List Int) : Prop := ∀ n ∈ l, 0 <= n /\ n <= 255
theorem By.append {a b : List Int} (h : By a) (k : By b) : By (a ++ b) := fun n hn => by
 rcases List.mem_append.1 hn with h1 | h1
 ·exact h n h1
 ·exact k n h1
theorem By.nil : By [] := fun n hn => by cases hn
theorem By.cons {x : Int} {l : List Int} (hx : 0 <= x /\ x <= 255) (h : By l) : By (x :: l) := fun n hn => by
 rcases List.mem_cons.1 hn with rfl | h1
 ·exact hx
 ·exact h n h1
theorem zkr {m : Int} (h0 : 0 <= m) (h1 : m < 16) : 48 <= zbZ m /\ zbZ m <= 102 := by unfold zbZ; split <;> omega
theorem zks {b : Int} (h0 : 0 <= b) (h1 : b <= 255) : By (shB b) := by
 have d1 := zkr (m := b / 16) (by omega) (by omega)
 have d2 := zkr (m := b % 16) (by omega) (by omega)
 unfold shB
 repeat' split
 all_goals
  intro n hn
  simp only [List.mem_cons, List.not_mem_nil, or_false] at hn
  omega
theorem zhb (b : Int) : 1 <= (shB b).length /\ (shB b).length <= 4 := by
 unfold shB
 repeat' split
 all_goals simp
theorem zoc (s : ByteArray) : By (byl s) := fun n hn => by
 unfold byl at hn
 obtain ⟨c, _, rfl⟩ := List.mem_map.1 hn
 have := c.toNat_lt
 omega
theorem zfE (s : ByteArray) : (byl s).length = s.size := by unfold byl; rw [List.length_map]; rfl
theorem zkt (s : ByteArray) (k : Nat) (h : k < s.size) : (byl s)[k]? = some (s[k].toNat : Int) := by
 unfold byl
 rw [List.getElem?_map, List.getElem?_eq_getElem (by simpa using h)]
 rfl
theorem zmN (s : ByteArray) (k : Nat) (h : k < s.size) : qTo s (k + 1) = qTo s k ++ shB (s[k].toNat : Int) := by
 unfold qTo
 have h2 := zkt s k h
 rw [List.take_add_one, h2, List.flatMap_append]
 simp
theorem zhc (s : ByteArray) (k : Nat) (h : s.size <= k) : qTo s k ++ [39] = qT s := by
 unfold qTo qT
 rw [List.take_of_length_le (by rw [zfE]; exact h)]
theorem zpz {l : List Int} (h : By l) : By (l.flatMap shB) := fun n hn => by
 obtain ⟨b, hb, h2⟩ := List.mem_flatMap.1 hn
 exact zks (h b hb).1 (h b hb).2 n h2
theorem zfz (l : List Int) : l.length <= (l.flatMap shB).length /\ (l.flatMap shB).length <= 4 * l.length := by
 induction l with
 | nil => simp
 | cons b l ih => rw [List.flatMap_cons, List.length_append, List.length_cons]; have := zhb b; omega
theorem zhd (s : ByteArray) (k : Nat) : (qTo s k).length <= 4 * k + 1 /\ 1 <= (qTo s k).length := by
 unfold qTo
 have h := zfz ((byl s).take k)
 have h2 : ((byl s).take k).length <= k := List.length_take_le _ _
 rw [List.length_cons]
 omega
theorem zpA (s : ByteArray) : By (qT s) := (By.cons (by omega) (zpz (zoc s))).append (By.cons (by omega) By.nil)
theorem zia {l : List Int} (h : By l) : Lib.byteCells (l.map fun n => UInt8.ofNat n.toNat) = l.map (Value.int .u8) := by
 unfold Lib.byteCells
 rw [List.map_map]
 refine List.map_congr_left fun n hn => ?_
 have := h n hn
 show Value.int .u8 ((UInt8.ofNat n.toNat).toNat : Int) = _
 rw [UInt8.toNat_ofNat', Nat.mod_eq_of_lt (by omega)]
 congr 1
 omega
theorem zce (l : List Int) : zae l = ⟨(l.map fun n => UInt8.ofNat n.toNat).toArray⟩ := by
 have h := za4 l
 cases ht : zae l with
 | mk d =>
  rw [ht] at h
  cases d with
  | mk x => simp at h; rw [h]
theorem zfF {l : List Int} (h : By l) : Lib.strCells (zae l) = l.map (Value.int .u8) := by
 rw [zce, <- zia h]; rfl
theorem zao (l : List Int) : (zae l).size = l.length := by
 rw [zce]; show (List.toArray _).size = _; simp
theorem zfd (s : ByteArray) : zae (byl s) = s := by
 rw [zce]
 unfold byl
 rw [List.map_map]
 have : (List.map ((fun n : Int => UInt8.ofNat n.toNat) ∘ fun c : UInt8 => (c.toNat : Int)) s.data.toList) = s.data.toList := by
  conv => rhs; rw [<- List.map_id s.data.toList]
  refine List.map_congr_left fun c _ => ?_
  simp
 rw [this]
def quV (s : ByteArray) : Value := if 65536 < s.size ∨ 65536 < (qT s).length then .tuple #[.string ⟨#[]⟩, .int .i64 2] else .tuple #[.string (zae (qT s)), .int .i64 0]
end Go.Proofs.YtnpifgcgjgddoaaGreatDoor.Q
namespace Go.Proofs.YtnpifgcgjgddoaaGreatDoor
open Go.RowKit
theorem zja (s : ByteArray) (w : World) : (convert 9 55 (.string s)).run Tryz.prog w = .ok (.slice (some ⟨w.heap.size, 0, none⟩) s.size (grownCap w s.size 0 5)) (Lib.bytesWorld w 5 s) :=
 Lib.run_convert_string_bytes w 9 55 5 s Tryz.underlying9 Tryz.underlying55 Tryz.underlying5
theorem zjb (s : ByteArray) (w : World) (c : Nat) : (convert 55 9 (.slice (some ⟨w.heap.size, 0, none⟩) s.size c)).run Tryz.prog (Lib.bytesWorld w 5 s) = .ok (.string s) (Lib.bytesWorld w 5 s) := by
 rw [run_convert_bytes_string _ 55 9 5 _ _ _ Tryz.underlying55 Tryz.underlying5 Tryz.underlying9]
 have h := run_bytesToString (P := Tryz.prog) (Lib.bytesWorld w 5 s) ⟨w.heap.size, 0, none⟩ s.size c (Q.byl s) ?_
 ·rw [h]; exact congrArg (fun x => Result.ok (Value.string x) _) (Q.zfd s)
 ·have h2 := run_loadCells_list (P := Tryz.prog) (w := Lib.bytesWorld w 5 s) ⟨w.heap.size, 0, none⟩ ((Q.byl s).map (Value.int .u8)) (fun j u hj => by
   rw [List.getElem?_map] at hj
   have hlt : j < s.size := by
    by_cases q : j < s.size
    ·exact q
    ·rw [List.getElem?_eq_none (by rw [Q.zfE]; omega)] at hj; cases hj
   rw [Q.zkt s j hlt] at hj
   cases hj
   have h3 := Lib.bytesWorld_cell w 5 s j hlt
   rw [Addr.add_lit, Nat.zero_add, h3]
   have : s.data.toList.getD j 0 = s[j] := by
    rw [List.getD_eq_getElem?_getD, List.getElem?_eq_getElem (by simpa using hlt)]; rfl
   rw [this])
  rwa [List.length_map, Q.zfE] at h2
theorem zfe (s : ByteArray) (w : World) : Calls Tryz.prog 136 #[.string s] w fun e w' => e = .returned (.string s) /\ Below w.heap.size w w' := by
 have hc1 := zja s
 have hc2 := zjb s
 go_enter Tryz.func136, Tryz.ntmps136
 go_wp2_with fail
 go_ret
 exact ⟨rfl, Lib.bytesWorld_below w 5 s⟩
def gtK (k : Int) : Int := if k = 4 then 999999 else if k = 13 ∨ k = 14 ∨ k = 15 then 50 else 0
theorem zdO (k : Int) (w : World) : Calls Tryz.prog 138 #[.int .i64 k] w fun e w' => e = .returned (.int .i64 (gtK k)) /\ w' = w := by
 by_cases h4 : k = 4
 ·subst h4; go_enter Tryz.func138, Tryz.ntmps138; go_wp2_with fail; go_ret; exact ⟨rfl, rfl⟩
 by_cases h13 : k = 13
 ·subst h13; go_enter Tryz.func138, Tryz.ntmps138; go_wp2_with fail; go_ret; exact ⟨rfl, rfl⟩
 by_cases h14 : k = 14
 ·subst h14; go_enter Tryz.func138, Tryz.ntmps138; go_wp2_with fail; go_ret; exact ⟨rfl, rfl⟩
 by_cases h15 : k = 15
 ·subst h15; go_enter Tryz.func138, Tryz.ntmps138; go_wp2_with fail; go_ret; exact ⟨rfl, rfl⟩
 have HE : Hid (gtK k = 0) := by show gtK k = 0; unfold gtK; rw [if_neg h4, if_neg (by omega)]
 have v4 : (k == 4) = false := bF h4
 have v13 : (k == 13) = false := bF h13
 have v14 : (k == 14) = false := bF h14
 have v15 : (k == 15) = false := bF h15
 clear h4 h13 h14 h15
 go_enter Tryz.func138, Tryz.ntmps138
 go_wp2_with fail
 go_ret
 exact ⟨by rw [HE.out]; rfl, rfl⟩
theorem zcE (s : ByteArray) (base : Int) (hb : 0 <= base /\ base <= 16) (hs : s.size <= 7) (w : World) : Calls Tryz.prog 137 #[.string s, .int .i64 base] w fun e w' => e = .returned (.int .i64 (zbj s 0 base s.size)) /\ w' = w := by
 have HX : Hid (∀ k (h : k < s.size) w, Calls Tryz.prog 153 #[.string ⟨#[48, 49, 50, 51, 52, 53, 54, 55, 56, 57, 97, 98, 99, 100, 101, 102]⟩, .int .u8 (s[k].toNat : Int)] w fun e w' => e = .returned (.int .i64 (zbd (chr s k))) /\ w' = w) := fun k h w => by
  rw [zak h]
  exact zcd s[k] w
 have HB : Hid (∀ k, k <= 7 -> -268435456 <= zbj s 0 base k /\ zbj s 0 base k <= 268435456) := fun k hk => by
  have h1 := zoU s 0 base hb k
  have h2 : (16 : Int) ^ k <= 16 ^ 7 := by
   have : (16 : Nat) ^ k <= 16 ^ 7 := Nat.pow_le_pow_right (by omega) hk
   exact_mod_cast this
  omega
 go_enter Tryz.func137, Tryz.ntmps137
 go_wp2_with fail
 go_loopw [5, 9] (fun v t wr => ∃ k : Nat, k <= s.size /\ t = .int .i64 k /\ v = .int .i64 (zbj s 0 base k) /\ wr = w) (fun _ t _ => s.size - (intOf t).toNat)
 case atStart => exact ⟨0, by omega, by go_num, rfl, rfl⟩
 case round =>
  obtain ⟨k, hk, rfl, rfl, rfl⟩ := hrel
  by_cases hlt : k < s.size
  ·have z0 : (0 : Int) <= (k : Int) := by omega
   have z1 : (k : Int) < (s.size : Int) := by omega
   have h1 := HB.out k (by omega)
   have h2 := HB.out (k + 1) (by omega)
   have HE : Hid (zbj s 0 base (k + 1) = base * zbj s 0 base k + zbd (chr s k)) := by show zbj s 0 base (k + 1) = _; rw [zbj, Nat.zero_add, Int.mul_comm]
   have hx := zbG (chr s k)
   have h3 : -4294967296 <= base * zbj s 0 base k /\ base * zbj s 0 base k <= 4294967296 := by
    rw [HE.out] at h2
    omega
   have u1 : IntKind.i64.wrap (base * zbj s 0 base k) = base * zbj s 0 base k := by rw [IntKind.wrap_i64]; omega
   have u2 : IntKind.i64.wrap (base * zbj s 0 base k + zbd (chr s k)) = zbj s 0 base (k + 1) := by rw [HE.out, IntKind.wrap_i64]; omega
   have HXk : Hid (∀ w, Calls Tryz.prog 153 #[.string ⟨#[48, 49, 50, 51, 52, 53, 54, 55, 56, 57, 97, 98, 99, 100, 101, 102]⟩, .int .u8 (s[k].toNat : Int)] w fun e w' => e = .returned (.int .i64 (zbd (chr s k))) /\ w' = w) := HX.out k hlt
   clear HX HB HE h1 h2 h3
   go_wp2_with fail
   refine (HXk.out _).mono ?_
   rintro e w ⟨rfl, rfl⟩
   clear HXk
   go_wp2_with fail
   go_roundw
   case rel => exact ⟨k + 1, by omega, by go_num, rfl, trivial⟩
   case measure => simp [intOf]; omega
  ·obtain rfl : k = s.size := by omega
   have z1 : ¬ (s.size : Int) < (s.size : Int) := by omega
   clear HX HB
   go_wp2_with fail
   go_ret
   exact ⟨rfl, rfl⟩
def zb0 (s : ByteArray) (b : Nat) : Sum Tk (Nat × Int) := if 32 < spN nmB s b - b then .inr (b, 2) else .inl ⟨1, 0, b, spN nmB s b, s.extract b (spN nmB s b), 0, 0, 0, 0⟩
theorem zcF (s : ByteArray) (b : Nat) (hs : s.size <= 140737488355000) (hb : b <= s.size) (w : World) : Calls Tryz.prog 111 #[.string s, .int .i64 b] w fun e w' => e = .returned (zaP (zb0 s b)) /\ Below w.heap.size w w' := by
 have HR : Hid (∀ w, Calls Tryz.prog 133 #[.string s, .int .i64 b, .func (.func 134) #[] #[]] w fun e w' => e = .returned (.int .i64 (spN nmB s b)) /\ w' = w) := fun w => zg1 s b (by omega) hb w
 have HF : Hid (∀ i e w, Calls Tryz.prog 135 #[.int .i64 i, .int .i64 e] w fun e' w' => e' = .returned (zaE tk0 i e) /\ Below w.heap.size w w') := fun i e w => zax i e w
 have HC : Hid (∀ t w, Calls Tryz.prog 136 #[.string t] w fun e w' => e = .returned (.string t) /\ Below w.heap.size w w') := fun t w => zfe t w
 have HX : Hid (BX w ((w.alloc (tkO tk0)).alloc (fxO 0 0)) tk0 0 0) := BX.new w
 have hge := zbo nmB s (by decide) b
 have hle := zbQ nmB s (by decide) b (by omega)
 have HU : Hid (zb0 s b = if 32 < spN nmB s b - b then .inr (b, 2) else .inl ⟨1, 0, b, spN nmB s b, s.extract b (spN nmB s b), 0, 0, 0, 0⟩) := rfl
 generalize spN nmB s b = n at *
 obtain ⟨m, hm⟩ : ∃ m, m = n - b := ⟨_, rfl⟩
 have u1 : IntKind.i64.wrap ((n : Int) - (b : Int)) = (m : Int) := by rw [IntKind.wrap_i64]; omega
 have z0 : (0 : Int) <= (b : Int) := by omega
 have z1 : (b : Int) <= (n : Int) := by omega
 have z2 : (n : Int) <= (s.size : Int) := by omega
 rw [<- hm] at HU
 clear hm
 by_cases h32 : 32 < m
 ·have HE : Hid (zb0 s b = .inr (b, 2)) := by show zb0 s b = _; rw [HU.out, if_pos h32]
  have t2 : decide (32 < m) = true := decide_eq_true h32
  clear HU HC
  go_enter Tryz.func111, Tryz.ntmps111
  go_wp2_with fail
  refine (HR.out _).mono ?_
  rintro e w2 ⟨rfl, rfl⟩
  clear HR
  go_wp2_with fail
  refine (HF.out _ _ _).mono ?_
  rintro e w3 ⟨rfl, b3⟩
  have HX3 : Hid (BX w w3 tk0 0 0) := HX.out.below b3
  clear b3 HX HF
  obtain ⟨f0, f1', f2', f3, f4, f5, f6, f7, f8, g0, g1⟩ := HX3.out.fz
  obtain ⟨c0, c1, c2, c3, c4, c5, c6, c7, c8, d0, d1⟩ := HX3.out.cells
  unfold zaE
  go_wp2_with fail
  have HP := HX3.out.put tk0 b 2
  exact zag rfl rfl rfl rfl HP ⟨by rw [HE.out]; rfl, HP.b⟩
 ·have HE : Hid (zb0 s b = .inl ⟨1, 0, b, n, s.extract b n, 0, 0, 0, 0⟩) := by show zb0 s b = _; rw [HU.out, if_neg h32]
  have t2 : decide (32 < m) = false := decide_eq_false h32
  clear HU HF
  go_enter Tryz.func111, Tryz.ntmps111
  go_wp2_with fail
  refine (HR.out _).mono ?_
  rintro e w2 ⟨rfl, rfl⟩
  clear HR
  go_wp2_with fail
  refine (HC.out _ _).mono ?_
  rintro e w3 ⟨rfl, b3⟩
  have HX3 : Hid (BX w w3 tk0 0 0) := HX.out.below b3
  clear b3 HX HC
  obtain ⟨f0, f1', f2', f3, f4, f5, f6, f7, f8, g0, g1⟩ := HX3.out.fz
  obtain ⟨c0, c1, c2, c3, c4, c5, c6, c7, c8, d0, d1⟩ := HX3.out.cells
  go_wp2_with fail
  have HP := HX3.out.put ⟨1, 0, b, n, s.extract b n, 0, 0, 0, 0⟩ 0 0
  exact zag rfl rfl rfl rfl HP ⟨by rw [HE.out]; rfl, HP.b⟩
end Go.Proofs.YtnpifgcgjgddoaaGreatDoor
