/- DERIVED. Plain mathematics and walks, laid together (11). -/
import Derived.WalkKit
import Derived.Test.YtkihfkcmcdiajaaGreatDoorPk10
namespace Go.Proofs.YtkihfkcmcdiajaaGreatDoor.N
open Go.RowKit
theorem rW_bd {E : PE} (hE : OkE E) {i d a : Nat} {c : Int} {ms : List Nd} (hc : ¬ c = 0) (hlt : i < E.l.length) (h : rW E i d c = .inl (a, ms)) : i < a ∧ a ≤ E.l.length ∧ ms.length ≤ 10027010 * (a - i) := by
  unfold rW at h
  split at h
  · cases h
  · obtain ⟨a1, ns, h1, h2⟩ := bnd_inl h
    have h3 := gN_adv (i := i + 1) (by omega) (by omega) h1
    have h4 := (gN_len hE.rl (i := i + 1) (by omega) (by omega) h1).2
    split at h2
    · next hk =>
      have := kd_lt (E := E) (i := a1) (by omega)
      cases h2
      exact ⟨by omega, by omega, by omega⟩
    · cases h2
theorem g5_in {E : PE} {i d : Nat} (hi : i < E.l.length) {c : Int} {post : List Nd} (h : primL E i = .inr (c, post)) : gN E 5 i d = bnd (rW E i d c) fun a ms => .inl (a, ms ++ post) := by
  rw [g5 E i d hi, h]
  unfold rW
  dsimp only
  by_cases hd : 240 ≤ d
  · rw [if_pos hd, if_pos hd]; rfl
  · rw [if_neg hd, if_neg hd]
    cases gN E 0 (i + 1) (d + 1) with
    | inr q => rfl
    | inl p =>
      show (if kdA E p.1 = c then (.inl (p.1 + 1, p.2 ++ post) : PR) else .inr (p.1, 60)) = bnd (if kdA E p.1 = c then .inl (p.1 + 1, p.2) else .inr (p.1, 60)) _
      split <;> rfl
/-- What a brace reads. -/
def brR (E : PE) (i d : Nat) : PR := if kdA E (i + 1) = 20 then .inl (i + 2, [nd0 17]) else bnd (rW E i d 20) fun a ms => .inl (a, ms ++ [nd0 18])
theorem g5_br {E : PE} {i d : Nat} (hi : i < E.l.length) (hk : kdA E i = 19) : gN E 5 i d = brR E i d := by
  have ht : (tkA E i).kd = 19 := by
    unfold tkA
    unfold kdA at hk
    rw [List.getElem?_eq_getElem hi] at hk ⊢
    exact hk
  unfold brR
  by_cases h : kdA E (i + 1) = 20
  · rw [if_pos h, g5 E i d hi]
    have : primL E i = .inl ([nd0 17], 2) := by unfold primL primK; rw [ht, h]; rfl
    rw [this]
  · rw [if_neg h]
    exact g5_in hi (by unfold primL primK; rw [ht, if_neg (by decide), if_neg (by decide), if_neg (by decide), if_neg (by decide), if_neg (by decide), if_neg (by decide), if_neg (by decide), if_neg (by decide), if_pos rfl, if_neg h])
theorem kd_tk {E : PE} {i : Nat} (hi : i < E.l.length) : (tkA E i).kd = kdA E i := by
  unfold tkA kdA
  rw [List.getElem?_eq_getElem hi]
  rfl
theorem patN_pos (ss : List R.Shape) (h : ∀ s ∈ ss, 1 ≤ s.length) : 0 < (R.patN ss).length := by
  unfold R.patN
  split
  · decide
  · next h0 =>
    cases ss with
    | nil => exact absurd rfl h0
    | cons s l =>
      have h1 := h s (List.mem_cons_self)
      have key : ∀ k, 0 < (R.ptTo (s :: l) (k + 1)).length := by
        intro k
        induction k with
        | zero =>
          rw [R.ptTo_succ, List.length_append]
          have : 0 < (R.ptI (s :: l) 0).length := by
            unfold R.ptI
            show 0 < (R.ndTo s s.length ++ _).length
            rw [List.length_append]
            have : 0 < (R.ndTo s s.length).length := by
              cases s with
              | nil => exact absurd h1 (by decide)
              | cons p r =>
                have key2 : ∀ k, 0 < (R.ndTo (p :: r) (k + 1)).length := by
                  intro k
                  induction k with
                  | zero => rw [R.ndTo_succ, List.length_append]; unfold R.ndI; show 0 < _ + (_ :: _ : List R.Nd).length; rw [List.length_cons]; omega
                  | succ k ih => rw [R.ndTo_succ, List.length_append]; omega
                exact key2 r.length
            omega
          omega
        | succ k ih => rw [R.ptTo_succ, List.length_append]; omega
      exact key l.length
theorem lfN_pos (t : Tk) : 0 < (lfN t).length := by
  unfold lfN
  split
  · split <;> simp
  · split
    · simp
    · split
      · unfold rnP; rw [List.length_map]; exact patN_pos _ fun s hs => (R.shAll_ord _ _ s hs).2.1
      · split
        · simp
        · split
          · simp
          · split <;> simp
theorem lfN_len (t : Tk) : (lfN t).length + 1 ≤ 10027010 := by
  unfold lfN
  split
  · split <;> simp
  · split
    · simp
    · split
      · exact rnP_len _ _
      · split
        · simp
        · split
          · simp
          · split <;> simp
theorem primK_lf {t : Tk} {k2 : Int} (hk : t.kd = 2 ∨ t.kd = 3 ∨ t.kd = 28 ∨ t.kd = 5 ∨ t.kd = 18 ∨ t.kd = 29 ∨ t.kd = 30 ∨ t.kd = 1) : primK rnP t k2 = .inl (lfN t, 1) := by
  unfold primK lfN
  rcases hk with h | h | h | h | h | h | h | h <;> rw [h] <;> rfl
set_option maxRecDepth 100000 in
set_option maxHeartbeats 8000000 in
theorem brace_any {E : PE} (hE : OkE E) {z : Nat} {w0 : World} {b : Nat} {tv : Value} {i d : Nat} (hk : kdA E i = 19) (HX0 : Ct 81 E z w0 b tv (i + 1) (d + 1) (gN E 0 (i + 1) (d + 1))) : Ct 183 E z w0 b tv i d (brR E i d) := by
  intro W v L h hL
  have hlen := hE.len
  have hz := hE.z
  have hlt := kd_lt (E := E) (i := i) (by omega)
  have H := (show Hid _ from h)
  have HE := (show Hid _ from hE)
  have HB : Hid (∀ _ : Unit, Calls Tryz.prog 47 #[.pointer (some ⟨b, 0, none⟩)] W fun e W' => e = .returned (.int .i64 (kdA E (i + 1))) ∧ Below W.heap.size W W') := fun _ => behind_any h hlt hz
  unfold brR
  by_cases h20 : kdA E (i + 1) = 20
  · have hlt2 := kd_lt (E := E) (i := i + 1) (by omega)
    have HP1 : Hid (∀ W v, RS E z w0 W b tv i d v L → Calls Tryz.prog 80 #[.pointer (some ⟨b, 0, none⟩), .int .i64 19] W fun e W' => e = .returned (.tuple #[]) ∧ RS E z w0 W' b tv (i + 1) d v L ∧ Fr W W' b v v) := fun W v h => by
      have := pass_ok h hlt hz
      rw [hk] at this
      exact this
    have HP2 : Hid (∀ W v, RS E z w0 W b tv (i + 1) d v L → Calls Tryz.prog 80 #[.pointer (some ⟨b, 0, none⟩), .int .i64 20] W fun e W' => e = .returned (.tuple #[]) ∧ RS E z w0 W' b tv ((i + 1) + 1) d v L ∧ Fr W W' b v v) := fun W v h => by
      have := pass_ok h hlt2 hz
      rw [h20] at this
      exact this
    have HPu : Hid (∀ W v q, W.heap.size = q → RS E z w0 W b tv (i + 1 + 1) d v L → Calls Tryz.prog 110 #[.pointer (some ⟨b, 0, none⟩), .slice (some ⟨q, 0, none⟩) 1 1] (W.alloc (.cells #[.int .i64 17, .int .i64 0, .string ⟨#[]⟩, .int .u64 0, .int .u64 0, .int .u64 0, .int .u64 0] 51)) fun e W' => e = .returned (.tuple #[]) ∧ ∃ v', RS E z w0 W' b tv (i + 1 + 1) d v' (L ++ [⟨17, 0, ⟨#[]⟩, 0, 0, 0, 0⟩]) ∧ Fr W W' b v v') := fun W v q hq h => put_q h (nd0 17) q hq (by omega)
    rw [if_pos h20]
    rw [h20] at HB
    clear h hk h20 HX0 hE
    go_enter Tryz.func183, Tryz.ntmps183
    go_wp2_with fail
    refine (HB.out ()).mono ?_
    rintro e w1 ⟨rfl, hb⟩
    have H1 := (show Hid _ from H.out.later hb)
    have HF1 := (show Hid (Fr W w1 b v v) from Fr.below b v hb)
    clear hb HB H
    go_wp2_with fail
    refine (HP1.out _ _ H1.out).mono ?_
    rintro e w2 ⟨rfl, h2, hf2⟩
    have H2 := (show Hid _ from h2)
    have HF2 := (show Hid (Fr W w2 b v v) from HF1.out.trans hf2)
    clear h2 hf2 H1 HF1 HP1
    go_wp2_with fail
    refine (HP2.out _ _ H2.out).mono ?_
    rintro e w3 ⟨rfl, h3, hf3⟩
    have H3 := (show Hid _ from h3)
    have HF3 := (show Hid (Fr W w3 b v v) from HF2.out.trans hf3)
    clear h3 hf3 H2 HF2 HP2
    go_wp2_with fail
    refine (HPu.out _ _ _ rfl H3.out).mono ?_
    rintro e w4 ⟨rfl, v4, h4, hf4⟩
    have H4 := (show Hid (∃ v', RS E z w0 w4 b tv (i + 2) d v' (L ++ [nd0 17]) ∧ Fr W w4 b v v') from ⟨v4, h4, HF3.out.trans hf4⟩)
    clear h4 hf4 H3 HF3 HPu
    go_wp2_with fail
    first | go_end0 | refine bodyPost_ret (results_none rfl _ _ _) rfl ?_
    exact ⟨rfl, H4.out⟩
  · have t1 : (kdA E (i + 1) == 20) = false := beq_eq_false_iff_ne.2 h20
    have HWi : Hid (∀ W v, RS E z w0 W b tv i d v L → Calls Tryz.prog 182 #[.pointer (some ⟨b, 0, none⟩), .int .i64 20] W fun e W' => PoR E z w0 b tv d W v L (rW E i d 20) e W') := fun W v h => within_any hE 20 (by omega) hlt HX0 W v L h hL
    have HBd := (show Hid _ from fun a ms => rW_bd (a := a) (ms := ms) hE (i := i) (d := d) (c := 20) (by omega) hlt)
    rw [if_neg h20]
    generalize rW E i d 20 = r at *
    generalize kdA E (i + 1) = k2 at *
    clear h hk h20 HX0 hE
    cases r with
    | inr q =>
      show Calls Tryz.prog 183 _ _ fun e W' => PoR E z w0 b tv d W v L (.inr q) e W'
      go_enter Tryz.func183, Tryz.ntmps183
      go_wp2_with fail
      refine (HB.out ()).mono ?_
      rintro e w1 ⟨rfl, hb⟩
      have H1 := (show Hid _ from H.out.later hb)
      clear hb HB H
      go_wp2_with fail
      refine (HWi.out _ _ H1.out).mono ?_
      rintro e w2 ⟨rfl, hb⟩
      exact post_panic rfl ⟨rfl, hb⟩
    | inl p =>
      obtain ⟨a, ms⟩ := p
      obtain ⟨b1, b2, b3⟩ := HBd.out a ms rfl
      show Calls Tryz.prog 183 _ _ fun e W' => PoR E z w0 b tv d W v L (.inl (a, ms ++ [nd0 18])) e W'
      have HPu : Hid (∀ W v q, W.heap.size = q → RS E z w0 W b tv a d v (L ++ ms) → Calls Tryz.prog 110 #[.pointer (some ⟨b, 0, none⟩), .slice (some ⟨q, 0, none⟩) 1 1] (W.alloc (.cells #[.int .i64 18, .int .i64 0, .string ⟨#[]⟩, .int .u64 0, .int .u64 0, .int .u64 0, .int .u64 0] 51)) fun e W' => e = .returned (.tuple #[]) ∧ ∃ v', RS E z w0 W' b tv a d v' ((L ++ ms) ++ [⟨18, 0, ⟨#[]⟩, 0, 0, 0, 0⟩]) ∧ Fr W W' b v v') := fun W v q hq h => put_q h (nd0 18) q hq (by rw [List.length_append]; omega)
      clear HBd
      go_enter Tryz.func183, Tryz.ntmps183
      go_wp2_with fail
      refine (HB.out ()).mono ?_
      rintro e w1 ⟨rfl, hb⟩
      have H1 := (show Hid _ from H.out.later hb)
      have HF1 := (show Hid (Fr W w1 b v v) from Fr.below b v hb)
      clear hb HB H
      go_wp2_with fail
      refine (HWi.out _ _ H1.out).mono ?_
      rintro e w2 ⟨rfl, v2, h2, hf2⟩
      have H2 := (show Hid _ from h2)
      have HF2 := (show Hid (Fr W w2 b v v2) from HF1.out.trans hf2)
      clear h2 hf2 H1 HF1 HWi
      go_wp2_with fail
      refine (HPu.out _ _ _ rfl H2.out).mono ?_
      rintro e w4 ⟨rfl, v4, h4, hf4⟩
      have H4 := (show Hid (∃ v', RS E z w0 w4 b tv a d v' (L ++ (ms ++ [nd0 18])) ∧ Fr W w4 b v v') from ⟨v4, by rw [← List.append_assoc]; exact h4, HF2.out.trans hf4⟩)
      clear h4 hf4 H2 HF2 HPu
      go_wp2_with fail
      go_end0
      exact ⟨rfl, H4.out⟩
set_option maxRecDepth 100000 in
set_option maxHeartbeats 8000000 in
theorem prim_no {E : PE} (hE : OkE E) {z : Nat} {w0 : World} {b : Nat} {tv : Value} {i d : Nat} (hb : bgP E i = false) (W : World) (v : Value) (L : List Nd) (h : RS E z w0 W b tv i d v L) : Calls Tryz.prog 171 #[.pointer (some ⟨b, 0, none⟩)] W fun e W' => PoR E z w0 b tv d W v L (.inr (i, 60)) e W' := by
  have HB : Hid (∀ _ : Unit, Calls Tryz.prog 156 #[.pointer (some ⟨b, 0, none⟩)] W fun e W' => e = .returned (.bool false) ∧ Below W.heap.size W W') := fun _ => by
    have := beginsPrim_any h hE.z
    rw [hb] at this
    exact this
  have HRf : Hid (∀ W, RS E z w0 W b tv i d v L → Calls Tryz.prog 50 #[.pointer (some ⟨b, 0, none⟩), .int .i64 60] W fun e W' => e = pnc (plA E z i) 60 ∧ Below W.heap.size W W') := fun W h => refuse_any h 60
  have H := (show Hid _ from h)
  clear h hb hE
  go_enter Tryz.func171, Tryz.ntmps171
  go_wp2_with fail
  refine (HB.out ()).mono ?_
  rintro e w1 ⟨rfl, hb⟩
  have H1 := (show Hid _ from H.out.later hb)
  clear hb HB H
  go_wp2_with fail
  refine (HRf.out _ H1.out).mono ?_
  rintro e w3 ⟨rfl, hb⟩
  exact post_panic rfl ⟨rfl, H1.out.bl.trans (hb.mono H1.out.bl.size)⟩
set_option maxRecDepth 100000 in
set_option maxHeartbeats 8000000 in
theorem prim_16 {E : PE} (hE : OkE E) {z : Nat} {w0 : World} {b : Nat} {tv : Value} {i d : Nat} (hb : bgP E i = true) (h16 : kdA E i = 16) (HX0 : Ct 81 E z w0 b tv (i + 1) (d + 1) (gN E 0 (i + 1) (d + 1))) (W : World) (v : Value) (L : List Nd) (h : RS E z w0 W b tv i d v L) (hL : L.length ≤ 10027010 * i) : Calls Tryz.prog 171 #[.pointer (some ⟨b, 0, none⟩)] W fun e W' => PoR E z w0 b tv d W v L (gN E 5 i d) e W' := by
  have hlen := hE.len
  have hz := hE.z
  have hlt := kd_lt (E := E) (i := i) (by omega)
  obtain ⟨t, ht, hk, hpl, hta⟩ := toks_get E z h.hi
  clear hpl
  obtain rfl : t = tkA E i := hta hlt
  have HB : Hid (∀ _ : Unit, Calls Tryz.prog 156 #[.pointer (some ⟨b, 0, none⟩)] W fun e W' => e = .returned (.bool true) ∧ Below W.heap.size W W') := fun _ => by
    have := beginsPrim_any h hz
    rw [hb] at this
    exact this
  have HH : Hid (∀ W, RS E z w0 W b tv i d v L → Calls Tryz.prog 46 #[.pointer (some ⟨b, 0, none⟩)] W fun e W' => e = .returned (.agg #[.int .i64 (tkA E i).kd, .int .i64 (tkA E i).nn, .int .i64 (tkA E i).fr, .int .i64 (tkA E i).en, .string (tkA E i).tx, .int .u64 (tkA E i).s0, .int .u64 (tkA E i).s1, .int .u64 (tkA E i).s2, .int .u64 (tkA E i).s3]) ∧ Below W.heap.size W W') := fun W h => here_any h _ ht
  have H := (show Hid _ from h)
  have HE := (show Hid _ from hE)
  have HV : Hid (gN E 5 i d = bnd (rW E i d 17) fun a ms => .inl (a, ms ++ [])) := g5_in hlt (by unfold primL primK; rw [kd_tk hlt, h16]; rfl)
  have HWi : Hid (∀ W v, RS E z w0 W b tv i d v L → Calls Tryz.prog 182 #[.pointer (some ⟨b, 0, none⟩), .int .i64 17] W fun e W' => PoR E z w0 b tv d W v L (rW E i d 17) e W') := fun W v h => within_any hE 17 (by omega) hlt HX0 W v L h hL
  have HBd := (show Hid _ from fun a ms => rW_bd (a := a) (ms := ms) hE (i := i) (d := d) (c := 17) (by omega) hlt)
  rw [HV.out]
  rw [kd_tk hlt, h16] at HH
  generalize rW E i d 17 = r at *
  clear h ht hk hta h16 hb HX0 hE HV
  generalize tkA E i = t at *
  cases r with
  | inr q =>
    show Calls Tryz.prog 171 _ _ fun e W' => PoR E z w0 b tv d W v L (.inr q) e W'
    go_enter Tryz.func171, Tryz.ntmps171
    go_wp2_with fail
    refine (HB.out ()).mono ?_
    rintro e w1 ⟨rfl, hb⟩
    have H1 := (show Hid _ from H.out.later hb)
    have HF1 := (show Hid (Fr W w1 b v v) from Fr.below b v hb)
    clear hb HB H
    go_wp2_with fail
    refine (HH.out _ H1.out).mono ?_
    rintro e w2 ⟨rfl, hb⟩
    have H2 := (show Hid (RS E z w0 (w2.alloc (.cells #[.int .i64 16, .int .i64 t.nn, .int .i64 t.fr, .int .i64 t.en, .string t.tx, .int .u64 t.s0, .int .u64 t.s1, .int .u64 t.s2, .int .u64 t.s3] 79)) b tv i d v L) from (H1.out.later hb).later (below_box _ _))
    have HF2 := (show Hid (Fr W (w2.alloc (.cells #[.int .i64 16, .int .i64 t.nn, .int .i64 t.fr, .int .i64 t.en, .string t.tx, .int .u64 t.s0, .int .u64 t.s1, .int .u64 t.s2, .int .u64 t.s3] 79)) b v v) from HF1.out.trans ((Fr.below b v hb).trans (Fr.below b v (below_box _ _))))
    have HT2 := (show Hid (TX (w2.alloc (.cells #[.int .i64 16, .int .i64 t.nn, .int .i64 t.fr, .int .i64 t.en, .string t.tx, .int .u64 t.s0, .int .u64 t.s1, .int .u64 t.s2, .int .u64 t.s3] 79)) w2.heap.size ⟨16, t.nn, t.fr, t.en, t.tx, t.s0, t.s1, t.s2, t.s3⟩) from ⟨heap_alloc_new w2 _⟩)
    have HN2 := (show Hid (w2.heap.size ≠ b ∧ v.ownBlock ≠ some w2.heap.size) from (H1.out.later hb).new)
    clear hb HH H1 HF1
    go_wp2_with fail
    refine (HWi.out _ _ H2.out).mono ?_
    rintro e w3 ⟨rfl, hb⟩
    exact post_panic rfl ⟨rfl, hb⟩
  | inl p =>
    obtain ⟨a, ms⟩ := p
    obtain ⟨b1, b2, b3⟩ := HBd.out a ms rfl
    show Calls Tryz.prog 171 _ _ fun e W' => PoR E z w0 b tv d W v L (.inl (a, ms ++ [])) e W'
    rw [List.append_nil]
    clear HBd
    go_enter Tryz.func171, Tryz.ntmps171
    go_wp2_with fail
    refine (HB.out ()).mono ?_
    rintro e w1 ⟨rfl, hb⟩
    have H1 := (show Hid _ from H.out.later hb)
    have HF1 := (show Hid (Fr W w1 b v v) from Fr.below b v hb)
    clear hb HB H
    go_wp2_with fail
    refine (HH.out _ H1.out).mono ?_
    rintro e w2 ⟨rfl, hb⟩
    have H2 := (show Hid (RS E z w0 (w2.alloc (.cells #[.int .i64 16, .int .i64 t.nn, .int .i64 t.fr, .int .i64 t.en, .string t.tx, .int .u64 t.s0, .int .u64 t.s1, .int .u64 t.s2, .int .u64 t.s3] 79)) b tv i d v L) from (H1.out.later hb).later (below_box _ _))
    have HF2 := (show Hid (Fr W (w2.alloc (.cells #[.int .i64 16, .int .i64 t.nn, .int .i64 t.fr, .int .i64 t.en, .string t.tx, .int .u64 t.s0, .int .u64 t.s1, .int .u64 t.s2, .int .u64 t.s3] 79)) b v v) from HF1.out.trans ((Fr.below b v hb).trans (Fr.below b v (below_box _ _))))
    have HT2 := (show Hid (TX (w2.alloc (.cells #[.int .i64 16, .int .i64 t.nn, .int .i64 t.fr, .int .i64 t.en, .string t.tx, .int .u64 t.s0, .int .u64 t.s1, .int .u64 t.s2, .int .u64 t.s3] 79)) w2.heap.size ⟨16, t.nn, t.fr, t.en, t.tx, t.s0, t.s1, t.s2, t.s3⟩) from ⟨heap_alloc_new w2 _⟩)
    have HN2 := (show Hid (w2.heap.size ≠ b ∧ v.ownBlock ≠ some w2.heap.size) from (H1.out.later hb).new)
    clear hb HH H1 HF1
    go_wp2_with fail
    refine (HWi.out _ _ H2.out).mono ?_
    rintro e w3 ⟨rfl, v3, h3, hf3⟩
    have H4 := (show Hid (∃ v', RS E z w0 w3 b tv a d v' (L ++ ms) ∧ Fr W w3 b v v') from ⟨v3, h3, HF2.out.trans hf3⟩)
    clear h3 hf3 H2 HF2 HWi HT2
    go_wp2_with fail
    go_end0
    exact ⟨rfl, H4.out⟩
set_option maxRecDepth 100000 in
set_option maxHeartbeats 8000000 in
theorem prim_21 {E : PE} (hE : OkE E) {z : Nat} {w0 : World} {b : Nat} {tv : Value} {i d : Nat} (hb : bgP E i = true) (h21 : kdA E i = 21) (HX0 : Ct 81 E z w0 b tv (i + 1) (d + 1) (gN E 0 (i + 1) (d + 1))) (W : World) (v : Value) (L : List Nd) (h : RS E z w0 W b tv i d v L) (hL : L.length ≤ 10027010 * i) : Calls Tryz.prog 171 #[.pointer (some ⟨b, 0, none⟩)] W fun e W' => PoR E z w0 b tv d W v L (gN E 5 i d) e W' := by
  have hlen := hE.len
  have hz := hE.z
  have hlt := kd_lt (E := E) (i := i) (by omega)
  obtain ⟨t, ht, hk, hpl, hta⟩ := toks_get E z h.hi
  clear hpl
  obtain rfl : t = tkA E i := hta hlt
  have HB : Hid (∀ _ : Unit, Calls Tryz.prog 156 #[.pointer (some ⟨b, 0, none⟩)] W fun e W' => e = .returned (.bool true) ∧ Below W.heap.size W W') := fun _ => by
    have := beginsPrim_any h hz
    rw [hb] at this
    exact this
  have HH : Hid (∀ W, RS E z w0 W b tv i d v L → Calls Tryz.prog 46 #[.pointer (some ⟨b, 0, none⟩)] W fun e W' => e = .returned (.agg #[.int .i64 (tkA E i).kd, .int .i64 (tkA E i).nn, .int .i64 (tkA E i).fr, .int .i64 (tkA E i).en, .string (tkA E i).tx, .int .u64 (tkA E i).s0, .int .u64 (tkA E i).s1, .int .u64 (tkA E i).s2, .int .u64 (tkA E i).s3]) ∧ Below W.heap.size W W') := fun W h => here_any h _ ht
  have H := (show Hid _ from h)
  have HE := (show Hid _ from hE)
  have HV : Hid (gN E 5 i d = bnd (rW E i d 22) fun a ms => .inl (a, ms ++ [⟨19, 0, (tkA E i).tx, 0, 0, 0, 0⟩])) := g5_in hlt (by unfold primL primK; rw [kd_tk hlt, h21]; rfl)
  have HWi : Hid (∀ W v, RS E z w0 W b tv i d v L → Calls Tryz.prog 182 #[.pointer (some ⟨b, 0, none⟩), .int .i64 22] W fun e W' => PoR E z w0 b tv d W v L (rW E i d 22) e W') := fun W v h => within_any hE 22 (by omega) hlt HX0 W v L h hL
  have HBd := (show Hid _ from fun a ms => rW_bd (a := a) (ms := ms) hE (i := i) (d := d) (c := 22) (by omega) hlt)
  rw [HV.out]
  rw [kd_tk hlt, h21] at HH
  generalize rW E i d 22 = r at *
  clear h ht hk hta h21 hb HX0 hE HV
  generalize tkA E i = t at *
  cases r with
  | inr q =>
    show Calls Tryz.prog 171 _ _ fun e W' => PoR E z w0 b tv d W v L (.inr q) e W'
    go_enter Tryz.func171, Tryz.ntmps171
    go_wp2_with fail
    refine (HB.out ()).mono ?_
    rintro e w1 ⟨rfl, hb⟩
    have H1 := (show Hid _ from H.out.later hb)
    have HF1 := (show Hid (Fr W w1 b v v) from Fr.below b v hb)
    clear hb HB H
    go_wp2_with fail
    refine (HH.out _ H1.out).mono ?_
    rintro e w2 ⟨rfl, hb⟩
    have H2 := (show Hid (RS E z w0 (w2.alloc (.cells #[.int .i64 21, .int .i64 t.nn, .int .i64 t.fr, .int .i64 t.en, .string t.tx, .int .u64 t.s0, .int .u64 t.s1, .int .u64 t.s2, .int .u64 t.s3] 79)) b tv i d v L) from (H1.out.later hb).later (below_box _ _))
    have HF2 := (show Hid (Fr W (w2.alloc (.cells #[.int .i64 21, .int .i64 t.nn, .int .i64 t.fr, .int .i64 t.en, .string t.tx, .int .u64 t.s0, .int .u64 t.s1, .int .u64 t.s2, .int .u64 t.s3] 79)) b v v) from HF1.out.trans ((Fr.below b v hb).trans (Fr.below b v (below_box _ _))))
    have HT2 := (show Hid (TX (w2.alloc (.cells #[.int .i64 21, .int .i64 t.nn, .int .i64 t.fr, .int .i64 t.en, .string t.tx, .int .u64 t.s0, .int .u64 t.s1, .int .u64 t.s2, .int .u64 t.s3] 79)) w2.heap.size ⟨21, t.nn, t.fr, t.en, t.tx, t.s0, t.s1, t.s2, t.s3⟩) from ⟨heap_alloc_new w2 _⟩)
    have HN2 := (show Hid (w2.heap.size ≠ b ∧ v.ownBlock ≠ some w2.heap.size) from (H1.out.later hb).new)
    clear hb HH H1 HF1
    go_wp2_with fail
    refine (HWi.out _ _ H2.out).mono ?_
    rintro e w3 ⟨rfl, hb⟩
    exact post_panic rfl ⟨rfl, hb⟩
  | inl p =>
    obtain ⟨a, ms⟩ := p
    obtain ⟨b1, b2, b3⟩ := HBd.out a ms rfl
    show Calls Tryz.prog 171 _ _ fun e W' => PoR E z w0 b tv d W v L (.inl (a, ms ++ [⟨19, 0, t.tx, 0, 0, 0, 0⟩])) e W'
    have HPu : Hid (∀ W v q, W.heap.size = q → RS E z w0 W b tv a d v (L ++ ms) → Calls Tryz.prog 110 #[.pointer (some ⟨b, 0, none⟩), .slice (some ⟨q, 0, none⟩) 1 1] (W.alloc (.cells #[.int .i64 19, .int .i64 0, .string t.tx, .int .u64 0, .int .u64 0, .int .u64 0, .int .u64 0] 51)) fun e W' => e = .returned (.tuple #[]) ∧ ∃ v', RS E z w0 W' b tv a d v' ((L ++ ms) ++ [⟨19, 0, t.tx, 0, 0, 0, 0⟩]) ∧ Fr W W' b v v') := fun W v q hq h => put_q h ⟨19, 0, t.tx, 0, 0, 0, 0⟩ q hq (by rw [List.length_append]; omega)
    clear HBd
    go_enter Tryz.func171, Tryz.ntmps171
    go_wp2_with fail
    refine (HB.out ()).mono ?_
    rintro e w1 ⟨rfl, hb⟩
    have H1 := (show Hid _ from H.out.later hb)
    have HF1 := (show Hid (Fr W w1 b v v) from Fr.below b v hb)
    clear hb HB H
    go_wp2_with fail
    refine (HH.out _ H1.out).mono ?_
    rintro e w2 ⟨rfl, hb⟩
    have H2 := (show Hid (RS E z w0 (w2.alloc (.cells #[.int .i64 21, .int .i64 t.nn, .int .i64 t.fr, .int .i64 t.en, .string t.tx, .int .u64 t.s0, .int .u64 t.s1, .int .u64 t.s2, .int .u64 t.s3] 79)) b tv i d v L) from (H1.out.later hb).later (below_box _ _))
    have HF2 := (show Hid (Fr W (w2.alloc (.cells #[.int .i64 21, .int .i64 t.nn, .int .i64 t.fr, .int .i64 t.en, .string t.tx, .int .u64 t.s0, .int .u64 t.s1, .int .u64 t.s2, .int .u64 t.s3] 79)) b v v) from HF1.out.trans ((Fr.below b v hb).trans (Fr.below b v (below_box _ _))))
    have HT2 := (show Hid (TX (w2.alloc (.cells #[.int .i64 21, .int .i64 t.nn, .int .i64 t.fr, .int .i64 t.en, .string t.tx, .int .u64 t.s0, .int .u64 t.s1, .int .u64 t.s2, .int .u64 t.s3] 79)) w2.heap.size ⟨21, t.nn, t.fr, t.en, t.tx, t.s0, t.s1, t.s2, t.s3⟩) from ⟨heap_alloc_new w2 _⟩)
    have HN2 := (show Hid (w2.heap.size ≠ b ∧ v.ownBlock ≠ some w2.heap.size) from (H1.out.later hb).new)
    clear hb HH H1 HF1
    go_wp2_with fail
    refine (HWi.out _ _ H2.out).mono ?_
    rintro e w3 ⟨rfl, v3, h3, hf3⟩
    have H3 := (show Hid _ from h3)
    have HF3 := (show Hid (Fr W w3 b v v3) from HF2.out.trans hf3)
    have HT3 := (show Hid _ from tx_fr HT2.out hf3 HN2.out.1 HN2.out.2)
    clear h3 hf3 H2 HF2 HT2 HWi
    obtain ⟨c0, c1, c2, c3, c4, c5, c6, c7, c8⟩ := HT3.out.cells
    go_wp2_with fail
    refine (HPu.out _ _ _ rfl H3.out).mono ?_
    rintro e w4 ⟨rfl, v4, h4, hf4⟩
    have H4 := (show Hid (∃ v', RS E z w0 w4 b tv a d v' (L ++ (ms ++ [⟨19, 0, t.tx, 0, 0, 0, 0⟩])) ∧ Fr W w4 b v v') from ⟨v4, by rw [← List.append_assoc]; exact h4, HF3.out.trans hf4⟩)
    clear h4 hf4 H3 HF3 HT3 HPu c0 c1 c2 c3 c4 c5 c6 c7 c8
    go_wp2_with fail
    go_end0
    exact ⟨rfl, H4.out⟩
set_option maxRecDepth 100000 in
set_option maxHeartbeats 8000000 in
theorem prim_23 {E : PE} (hE : OkE E) {z : Nat} {w0 : World} {b : Nat} {tv : Value} {i d : Nat} (hb : bgP E i = true) (h23 : kdA E i = 23) (HX0 : Ct 81 E z w0 b tv (i + 1) (d + 1) (gN E 0 (i + 1) (d + 1))) (W : World) (v : Value) (L : List Nd) (h : RS E z w0 W b tv i d v L) (hL : L.length ≤ 10027010 * i) : Calls Tryz.prog 171 #[.pointer (some ⟨b, 0, none⟩)] W fun e W' => PoR E z w0 b tv d W v L (gN E 5 i d) e W' := by
  have hlen := hE.len
  have hz := hE.z
  have hlt := kd_lt (E := E) (i := i) (by omega)
  obtain ⟨t, ht, hk, hpl, hta⟩ := toks_get E z h.hi
  clear hpl
  obtain rfl : t = tkA E i := hta hlt
  have HB : Hid (∀ _ : Unit, Calls Tryz.prog 156 #[.pointer (some ⟨b, 0, none⟩)] W fun e W' => e = .returned (.bool true) ∧ Below W.heap.size W W') := fun _ => by
    have := beginsPrim_any h hz
    rw [hb] at this
    exact this
  have HH : Hid (∀ W, RS E z w0 W b tv i d v L → Calls Tryz.prog 46 #[.pointer (some ⟨b, 0, none⟩)] W fun e W' => e = .returned (.agg #[.int .i64 (tkA E i).kd, .int .i64 (tkA E i).nn, .int .i64 (tkA E i).fr, .int .i64 (tkA E i).en, .string (tkA E i).tx, .int .u64 (tkA E i).s0, .int .u64 (tkA E i).s1, .int .u64 (tkA E i).s2, .int .u64 (tkA E i).s3]) ∧ Below W.heap.size W W') := fun W h => here_any h _ ht
  have H := (show Hid _ from h)
  have HE := (show Hid _ from hE)
  have HV : Hid (gN E 5 i d = bnd (rW E i d 24) fun a ms => .inl (a, ms ++ [⟨20, 0, ⟨#[]⟩, 0, 0, 0, 0⟩])) := g5_in hlt (by unfold primL primK; rw [kd_tk hlt, h23]; rfl)
  have HWi : Hid (∀ W v, RS E z w0 W b tv i d v L → Calls Tryz.prog 182 #[.pointer (some ⟨b, 0, none⟩), .int .i64 24] W fun e W' => PoR E z w0 b tv d W v L (rW E i d 24) e W') := fun W v h => within_any hE 24 (by omega) hlt HX0 W v L h hL
  have HBd := (show Hid _ from fun a ms => rW_bd (a := a) (ms := ms) hE (i := i) (d := d) (c := 24) (by omega) hlt)
  rw [HV.out]
  rw [kd_tk hlt, h23] at HH
  generalize rW E i d 24 = r at *
  clear h ht hk hta h23 hb HX0 hE HV
  generalize tkA E i = t at *
  cases r with
  | inr q =>
    show Calls Tryz.prog 171 _ _ fun e W' => PoR E z w0 b tv d W v L (.inr q) e W'
    go_enter Tryz.func171, Tryz.ntmps171
    go_wp2_with fail
    refine (HB.out ()).mono ?_
    rintro e w1 ⟨rfl, hb⟩
    have H1 := (show Hid _ from H.out.later hb)
    have HF1 := (show Hid (Fr W w1 b v v) from Fr.below b v hb)
    clear hb HB H
    go_wp2_with fail
    refine (HH.out _ H1.out).mono ?_
    rintro e w2 ⟨rfl, hb⟩
    have H2 := (show Hid (RS E z w0 (w2.alloc (.cells #[.int .i64 23, .int .i64 t.nn, .int .i64 t.fr, .int .i64 t.en, .string t.tx, .int .u64 t.s0, .int .u64 t.s1, .int .u64 t.s2, .int .u64 t.s3] 79)) b tv i d v L) from (H1.out.later hb).later (below_box _ _))
    have HF2 := (show Hid (Fr W (w2.alloc (.cells #[.int .i64 23, .int .i64 t.nn, .int .i64 t.fr, .int .i64 t.en, .string t.tx, .int .u64 t.s0, .int .u64 t.s1, .int .u64 t.s2, .int .u64 t.s3] 79)) b v v) from HF1.out.trans ((Fr.below b v hb).trans (Fr.below b v (below_box _ _))))
    have HT2 := (show Hid (TX (w2.alloc (.cells #[.int .i64 23, .int .i64 t.nn, .int .i64 t.fr, .int .i64 t.en, .string t.tx, .int .u64 t.s0, .int .u64 t.s1, .int .u64 t.s2, .int .u64 t.s3] 79)) w2.heap.size ⟨23, t.nn, t.fr, t.en, t.tx, t.s0, t.s1, t.s2, t.s3⟩) from ⟨heap_alloc_new w2 _⟩)
    have HN2 := (show Hid (w2.heap.size ≠ b ∧ v.ownBlock ≠ some w2.heap.size) from (H1.out.later hb).new)
    clear hb HH H1 HF1
    go_wp2_with fail
    refine (HWi.out _ _ H2.out).mono ?_
    rintro e w3 ⟨rfl, hb⟩
    exact post_panic rfl ⟨rfl, hb⟩
  | inl p =>
    obtain ⟨a, ms⟩ := p
    obtain ⟨b1, b2, b3⟩ := HBd.out a ms rfl
    show Calls Tryz.prog 171 _ _ fun e W' => PoR E z w0 b tv d W v L (.inl (a, ms ++ [⟨20, 0, ⟨#[]⟩, 0, 0, 0, 0⟩])) e W'
    have HPu : Hid (∀ W v q, W.heap.size = q → RS E z w0 W b tv a d v (L ++ ms) → Calls Tryz.prog 110 #[.pointer (some ⟨b, 0, none⟩), .slice (some ⟨q, 0, none⟩) 1 1] (W.alloc (.cells #[.int .i64 20, .int .i64 0, .string ⟨#[]⟩, .int .u64 0, .int .u64 0, .int .u64 0, .int .u64 0] 51)) fun e W' => e = .returned (.tuple #[]) ∧ ∃ v', RS E z w0 W' b tv a d v' ((L ++ ms) ++ [⟨20, 0, ⟨#[]⟩, 0, 0, 0, 0⟩]) ∧ Fr W W' b v v') := fun W v q hq h => put_q h ⟨20, 0, ⟨#[]⟩, 0, 0, 0, 0⟩ q hq (by rw [List.length_append]; omega)
    clear HBd
    go_enter Tryz.func171, Tryz.ntmps171
    go_wp2_with fail
    refine (HB.out ()).mono ?_
    rintro e w1 ⟨rfl, hb⟩
    have H1 := (show Hid _ from H.out.later hb)
    have HF1 := (show Hid (Fr W w1 b v v) from Fr.below b v hb)
    clear hb HB H
    go_wp2_with fail
    refine (HH.out _ H1.out).mono ?_
    rintro e w2 ⟨rfl, hb⟩
    have H2 := (show Hid (RS E z w0 (w2.alloc (.cells #[.int .i64 23, .int .i64 t.nn, .int .i64 t.fr, .int .i64 t.en, .string t.tx, .int .u64 t.s0, .int .u64 t.s1, .int .u64 t.s2, .int .u64 t.s3] 79)) b tv i d v L) from (H1.out.later hb).later (below_box _ _))
    have HF2 := (show Hid (Fr W (w2.alloc (.cells #[.int .i64 23, .int .i64 t.nn, .int .i64 t.fr, .int .i64 t.en, .string t.tx, .int .u64 t.s0, .int .u64 t.s1, .int .u64 t.s2, .int .u64 t.s3] 79)) b v v) from HF1.out.trans ((Fr.below b v hb).trans (Fr.below b v (below_box _ _))))
    have HT2 := (show Hid (TX (w2.alloc (.cells #[.int .i64 23, .int .i64 t.nn, .int .i64 t.fr, .int .i64 t.en, .string t.tx, .int .u64 t.s0, .int .u64 t.s1, .int .u64 t.s2, .int .u64 t.s3] 79)) w2.heap.size ⟨23, t.nn, t.fr, t.en, t.tx, t.s0, t.s1, t.s2, t.s3⟩) from ⟨heap_alloc_new w2 _⟩)
    have HN2 := (show Hid (w2.heap.size ≠ b ∧ v.ownBlock ≠ some w2.heap.size) from (H1.out.later hb).new)
    clear hb HH H1 HF1
    go_wp2_with fail
    refine (HWi.out _ _ H2.out).mono ?_
    rintro e w3 ⟨rfl, v3, h3, hf3⟩
    have H3 := (show Hid _ from h3)
    have HF3 := (show Hid (Fr W w3 b v v3) from HF2.out.trans hf3)
    have HT3 := (show Hid _ from tx_fr HT2.out hf3 HN2.out.1 HN2.out.2)
    clear h3 hf3 H2 HF2 HT2 HWi
    obtain ⟨c0, c1, c2, c3, c4, c5, c6, c7, c8⟩ := HT3.out.cells
    go_wp2_with fail
    refine (HPu.out _ _ _ rfl H3.out).mono ?_
    rintro e w4 ⟨rfl, v4, h4, hf4⟩
    have H4 := (show Hid (∃ v', RS E z w0 w4 b tv a d v' (L ++ (ms ++ [⟨20, 0, ⟨#[]⟩, 0, 0, 0, 0⟩])) ∧ Fr W w4 b v v') from ⟨v4, by rw [← List.append_assoc]; exact h4, HF3.out.trans hf4⟩)
    clear h4 hf4 H3 HF3 HT3 HPu c0 c1 c2 c3 c4 c5 c6 c7 c8
    go_wp2_with fail
    go_end0
    exact ⟨rfl, H4.out⟩
set_option maxRecDepth 100000 in
set_option maxHeartbeats 8000000 in
theorem prim_25 {E : PE} (hE : OkE E) {z : Nat} {w0 : World} {b : Nat} {tv : Value} {i d : Nat} (hb : bgP E i = true) (h25 : kdA E i = 25) (HX0 : Ct 81 E z w0 b tv (i + 1) (d + 1) (gN E 0 (i + 1) (d + 1))) (W : World) (v : Value) (L : List Nd) (h : RS E z w0 W b tv i d v L) (hL : L.length ≤ 10027010 * i) : Calls Tryz.prog 171 #[.pointer (some ⟨b, 0, none⟩)] W fun e W' => PoR E z w0 b tv d W v L (gN E 5 i d) e W' := by
  have hlen := hE.len
  have hz := hE.z
  have hlt := kd_lt (E := E) (i := i) (by omega)
  obtain ⟨t, ht, hk, hpl, hta⟩ := toks_get E z h.hi
  clear hpl
  obtain rfl : t = tkA E i := hta hlt
  have HB : Hid (∀ _ : Unit, Calls Tryz.prog 156 #[.pointer (some ⟨b, 0, none⟩)] W fun e W' => e = .returned (.bool true) ∧ Below W.heap.size W W') := fun _ => by
    have := beginsPrim_any h hz
    rw [hb] at this
    exact this
  have HH : Hid (∀ W, RS E z w0 W b tv i d v L → Calls Tryz.prog 46 #[.pointer (some ⟨b, 0, none⟩)] W fun e W' => e = .returned (.agg #[.int .i64 (tkA E i).kd, .int .i64 (tkA E i).nn, .int .i64 (tkA E i).fr, .int .i64 (tkA E i).en, .string (tkA E i).tx, .int .u64 (tkA E i).s0, .int .u64 (tkA E i).s1, .int .u64 (tkA E i).s2, .int .u64 (tkA E i).s3]) ∧ Below W.heap.size W W') := fun W h => here_any h _ ht
  have H := (show Hid _ from h)
  have HE := (show Hid _ from hE)
  have HV : Hid (gN E 5 i d = bnd (rW E i d 26) fun a ms => .inl (a, ms ++ [⟨21, 0, ⟨#[]⟩, 0, 0, 0, 0⟩])) := g5_in hlt (by unfold primL primK; rw [kd_tk hlt, h25]; rfl)
  have HWi : Hid (∀ W v, RS E z w0 W b tv i d v L → Calls Tryz.prog 182 #[.pointer (some ⟨b, 0, none⟩), .int .i64 26] W fun e W' => PoR E z w0 b tv d W v L (rW E i d 26) e W') := fun W v h => within_any hE 26 (by omega) hlt HX0 W v L h hL
  have HBd := (show Hid _ from fun a ms => rW_bd (a := a) (ms := ms) hE (i := i) (d := d) (c := 26) (by omega) hlt)
  rw [HV.out]
  rw [kd_tk hlt, h25] at HH
  generalize rW E i d 26 = r at *
  clear h ht hk hta h25 hb HX0 hE HV
  generalize tkA E i = t at *
  cases r with
  | inr q =>
    show Calls Tryz.prog 171 _ _ fun e W' => PoR E z w0 b tv d W v L (.inr q) e W'
    go_enter Tryz.func171, Tryz.ntmps171
    go_wp2_with fail
    refine (HB.out ()).mono ?_
    rintro e w1 ⟨rfl, hb⟩
    have H1 := (show Hid _ from H.out.later hb)
    have HF1 := (show Hid (Fr W w1 b v v) from Fr.below b v hb)
    clear hb HB H
    go_wp2_with fail
    refine (HH.out _ H1.out).mono ?_
    rintro e w2 ⟨rfl, hb⟩
    have H2 := (show Hid (RS E z w0 (w2.alloc (.cells #[.int .i64 25, .int .i64 t.nn, .int .i64 t.fr, .int .i64 t.en, .string t.tx, .int .u64 t.s0, .int .u64 t.s1, .int .u64 t.s2, .int .u64 t.s3] 79)) b tv i d v L) from (H1.out.later hb).later (below_box _ _))
    have HF2 := (show Hid (Fr W (w2.alloc (.cells #[.int .i64 25, .int .i64 t.nn, .int .i64 t.fr, .int .i64 t.en, .string t.tx, .int .u64 t.s0, .int .u64 t.s1, .int .u64 t.s2, .int .u64 t.s3] 79)) b v v) from HF1.out.trans ((Fr.below b v hb).trans (Fr.below b v (below_box _ _))))
    have HT2 := (show Hid (TX (w2.alloc (.cells #[.int .i64 25, .int .i64 t.nn, .int .i64 t.fr, .int .i64 t.en, .string t.tx, .int .u64 t.s0, .int .u64 t.s1, .int .u64 t.s2, .int .u64 t.s3] 79)) w2.heap.size ⟨25, t.nn, t.fr, t.en, t.tx, t.s0, t.s1, t.s2, t.s3⟩) from ⟨heap_alloc_new w2 _⟩)
    have HN2 := (show Hid (w2.heap.size ≠ b ∧ v.ownBlock ≠ some w2.heap.size) from (H1.out.later hb).new)
    clear hb HH H1 HF1
    go_wp2_with fail
    refine (HWi.out _ _ H2.out).mono ?_
    rintro e w3 ⟨rfl, hb⟩
    exact post_panic rfl ⟨rfl, hb⟩
  | inl p =>
    obtain ⟨a, ms⟩ := p
    obtain ⟨b1, b2, b3⟩ := HBd.out a ms rfl
    show Calls Tryz.prog 171 _ _ fun e W' => PoR E z w0 b tv d W v L (.inl (a, ms ++ [⟨21, 0, ⟨#[]⟩, 0, 0, 0, 0⟩])) e W'
    have HPu : Hid (∀ W v q, W.heap.size = q → RS E z w0 W b tv a d v (L ++ ms) → Calls Tryz.prog 110 #[.pointer (some ⟨b, 0, none⟩), .slice (some ⟨q, 0, none⟩) 1 1] (W.alloc (.cells #[.int .i64 21, .int .i64 0, .string ⟨#[]⟩, .int .u64 0, .int .u64 0, .int .u64 0, .int .u64 0] 51)) fun e W' => e = .returned (.tuple #[]) ∧ ∃ v', RS E z w0 W' b tv a d v' ((L ++ ms) ++ [⟨21, 0, ⟨#[]⟩, 0, 0, 0, 0⟩]) ∧ Fr W W' b v v') := fun W v q hq h => put_q h ⟨21, 0, ⟨#[]⟩, 0, 0, 0, 0⟩ q hq (by rw [List.length_append]; omega)
    clear HBd
    go_enter Tryz.func171, Tryz.ntmps171
    go_wp2_with fail
    refine (HB.out ()).mono ?_
    rintro e w1 ⟨rfl, hb⟩
    have H1 := (show Hid _ from H.out.later hb)
    have HF1 := (show Hid (Fr W w1 b v v) from Fr.below b v hb)
    clear hb HB H
    go_wp2_with fail
    refine (HH.out _ H1.out).mono ?_
    rintro e w2 ⟨rfl, hb⟩
    have H2 := (show Hid (RS E z w0 (w2.alloc (.cells #[.int .i64 25, .int .i64 t.nn, .int .i64 t.fr, .int .i64 t.en, .string t.tx, .int .u64 t.s0, .int .u64 t.s1, .int .u64 t.s2, .int .u64 t.s3] 79)) b tv i d v L) from (H1.out.later hb).later (below_box _ _))
    have HF2 := (show Hid (Fr W (w2.alloc (.cells #[.int .i64 25, .int .i64 t.nn, .int .i64 t.fr, .int .i64 t.en, .string t.tx, .int .u64 t.s0, .int .u64 t.s1, .int .u64 t.s2, .int .u64 t.s3] 79)) b v v) from HF1.out.trans ((Fr.below b v hb).trans (Fr.below b v (below_box _ _))))
    have HT2 := (show Hid (TX (w2.alloc (.cells #[.int .i64 25, .int .i64 t.nn, .int .i64 t.fr, .int .i64 t.en, .string t.tx, .int .u64 t.s0, .int .u64 t.s1, .int .u64 t.s2, .int .u64 t.s3] 79)) w2.heap.size ⟨25, t.nn, t.fr, t.en, t.tx, t.s0, t.s1, t.s2, t.s3⟩) from ⟨heap_alloc_new w2 _⟩)
    have HN2 := (show Hid (w2.heap.size ≠ b ∧ v.ownBlock ≠ some w2.heap.size) from (H1.out.later hb).new)
    clear hb HH H1 HF1
    go_wp2_with fail
    refine (HWi.out _ _ H2.out).mono ?_
    rintro e w3 ⟨rfl, v3, h3, hf3⟩
    have H3 := (show Hid _ from h3)
    have HF3 := (show Hid (Fr W w3 b v v3) from HF2.out.trans hf3)
    have HT3 := (show Hid _ from tx_fr HT2.out hf3 HN2.out.1 HN2.out.2)
    clear h3 hf3 H2 HF2 HT2 HWi
    obtain ⟨c0, c1, c2, c3, c4, c5, c6, c7, c8⟩ := HT3.out.cells
    go_wp2_with fail
    refine (HPu.out _ _ _ rfl H3.out).mono ?_
    rintro e w4 ⟨rfl, v4, h4, hf4⟩
    have H4 := (show Hid (∃ v', RS E z w0 w4 b tv a d v' (L ++ (ms ++ [⟨21, 0, ⟨#[]⟩, 0, 0, 0, 0⟩])) ∧ Fr W w4 b v v') from ⟨v4, by rw [← List.append_assoc]; exact h4, HF3.out.trans hf4⟩)
    clear h4 hf4 H3 HF3 HT3 HPu c0 c1 c2 c3 c4 c5 c6 c7 c8
    go_wp2_with fail
    go_end0
    exact ⟨rfl, H4.out⟩
set_option maxRecDepth 100000 in
set_option maxHeartbeats 8000000 in
theorem prim_19 {E : PE} (hE : OkE E) {z : Nat} {w0 : World} {b : Nat} {tv : Value} {i d : Nat} (hb : bgP E i = true) (h19 : kdA E i = 19) (HX0 : Ct 81 E z w0 b tv (i + 1) (d + 1) (gN E 0 (i + 1) (d + 1))) (W : World) (v : Value) (L : List Nd) (h : RS E z w0 W b tv i d v L) (hL : L.length ≤ 10027010 * i) : Calls Tryz.prog 171 #[.pointer (some ⟨b, 0, none⟩)] W fun e W' => PoR E z w0 b tv d W v L (gN E 5 i d) e W' := by
  have hlen := hE.len
  have hz := hE.z
  have hlt := kd_lt (E := E) (i := i) (by omega)
  obtain ⟨t, ht, hk, hpl, hta⟩ := toks_get E z h.hi
  clear hpl
  obtain rfl : t = tkA E i := hta hlt
  have HB : Hid (∀ _ : Unit, Calls Tryz.prog 156 #[.pointer (some ⟨b, 0, none⟩)] W fun e W' => e = .returned (.bool true) ∧ Below W.heap.size W W') := fun _ => by
    have := beginsPrim_any h hz
    rw [hb] at this
    exact this
  have HH : Hid (∀ W, RS E z w0 W b tv i d v L → Calls Tryz.prog 46 #[.pointer (some ⟨b, 0, none⟩)] W fun e W' => e = .returned (.agg #[.int .i64 (tkA E i).kd, .int .i64 (tkA E i).nn, .int .i64 (tkA E i).fr, .int .i64 (tkA E i).en, .string (tkA E i).tx, .int .u64 (tkA E i).s0, .int .u64 (tkA E i).s1, .int .u64 (tkA E i).s2, .int .u64 (tkA E i).s3]) ∧ Below W.heap.size W W') := fun W h => here_any h _ ht
  have H := (show Hid _ from h)
  have HE := (show Hid _ from hE)
  have HV : Hid (gN E 5 i d = brR E i d) := g5_br hlt h19
  have HWi : Hid (∀ W v, RS E z w0 W b tv i d v L → Calls Tryz.prog 183 #[.pointer (some ⟨b, 0, none⟩)] W fun e W' => PoR E z w0 b tv d W v L (brR E i d) e W') := fun W v h => brace_any hE h19 HX0 W v L h hL
  rw [HV.out]
  rw [kd_tk hlt, h19] at HH
  generalize brR E i d = r at *
  clear h ht hk hta h19 hb HX0 hE HV
  generalize tkA E i = t at *
  cases r with
  | inr q =>
    go_enter Tryz.func171, Tryz.ntmps171
    go_wp2_with fail
    refine (HB.out ()).mono ?_
    rintro e w1 ⟨rfl, hb⟩
    have H1 := (show Hid _ from H.out.later hb)
    have HF1 := (show Hid (Fr W w1 b v v) from Fr.below b v hb)
    clear hb HB H
    go_wp2_with fail
    refine (HH.out _ H1.out).mono ?_
    rintro e w2 ⟨rfl, hb⟩
    have H2 := (show Hid (RS E z w0 (w2.alloc (.cells #[.int .i64 19, .int .i64 t.nn, .int .i64 t.fr, .int .i64 t.en, .string t.tx, .int .u64 t.s0, .int .u64 t.s1, .int .u64 t.s2, .int .u64 t.s3] 79)) b tv i d v L) from (H1.out.later hb).later (below_box _ _))
    have HF2 := (show Hid (Fr W (w2.alloc (.cells #[.int .i64 19, .int .i64 t.nn, .int .i64 t.fr, .int .i64 t.en, .string t.tx, .int .u64 t.s0, .int .u64 t.s1, .int .u64 t.s2, .int .u64 t.s3] 79)) b v v) from HF1.out.trans ((Fr.below b v hb).trans (Fr.below b v (below_box _ _))))
    have HT2 := (show Hid (TX (w2.alloc (.cells #[.int .i64 19, .int .i64 t.nn, .int .i64 t.fr, .int .i64 t.en, .string t.tx, .int .u64 t.s0, .int .u64 t.s1, .int .u64 t.s2, .int .u64 t.s3] 79)) w2.heap.size ⟨19, t.nn, t.fr, t.en, t.tx, t.s0, t.s1, t.s2, t.s3⟩) from ⟨heap_alloc_new w2 _⟩)
    have HN2 := (show Hid (w2.heap.size ≠ b ∧ v.ownBlock ≠ some w2.heap.size) from (H1.out.later hb).new)
    clear hb HH H1 HF1
    go_wp2_with fail
    refine (HWi.out _ _ H2.out).mono ?_
    rintro e w3 ⟨rfl, hb⟩
    exact post_panic rfl ⟨rfl, hb⟩
  | inl p =>
    go_enter Tryz.func171, Tryz.ntmps171
    go_wp2_with fail
    refine (HB.out ()).mono ?_
    rintro e w1 ⟨rfl, hb⟩
    have H1 := (show Hid _ from H.out.later hb)
    have HF1 := (show Hid (Fr W w1 b v v) from Fr.below b v hb)
    clear hb HB H
    go_wp2_with fail
    refine (HH.out _ H1.out).mono ?_
    rintro e w2 ⟨rfl, hb⟩
    have H2 := (show Hid (RS E z w0 (w2.alloc (.cells #[.int .i64 19, .int .i64 t.nn, .int .i64 t.fr, .int .i64 t.en, .string t.tx, .int .u64 t.s0, .int .u64 t.s1, .int .u64 t.s2, .int .u64 t.s3] 79)) b tv i d v L) from (H1.out.later hb).later (below_box _ _))
    have HF2 := (show Hid (Fr W (w2.alloc (.cells #[.int .i64 19, .int .i64 t.nn, .int .i64 t.fr, .int .i64 t.en, .string t.tx, .int .u64 t.s0, .int .u64 t.s1, .int .u64 t.s2, .int .u64 t.s3] 79)) b v v) from HF1.out.trans ((Fr.below b v hb).trans (Fr.below b v (below_box _ _))))
    have HT2 := (show Hid (TX (w2.alloc (.cells #[.int .i64 19, .int .i64 t.nn, .int .i64 t.fr, .int .i64 t.en, .string t.tx, .int .u64 t.s0, .int .u64 t.s1, .int .u64 t.s2, .int .u64 t.s3] 79)) w2.heap.size ⟨19, t.nn, t.fr, t.en, t.tx, t.s0, t.s1, t.s2, t.s3⟩) from ⟨heap_alloc_new w2 _⟩)
    have HN2 := (show Hid (w2.heap.size ≠ b ∧ v.ownBlock ≠ some w2.heap.size) from (H1.out.later hb).new)
    clear hb HH H1 HF1
    go_wp2_with fail
    refine (HWi.out _ _ H2.out).mono ?_
    rintro e w3 ⟨rfl, v3, h3, hf3⟩
    have H4 := (show Hid (∃ v', RS E z w0 w3 b tv p.1 d v' (L ++ p.2) ∧ Fr W w3 b v v') from ⟨v3, h3, HF2.out.trans hf3⟩)
    clear h3 hf3 H2 HF2 HWi HT2
    go_wp2_with fail
    go_end0
    exact ⟨rfl, H4.out⟩
set_option maxRecDepth 100000 in
set_option maxHeartbeats 8000000 in
theorem prim_lf {E : PE} (hE : OkE E) {z : Nat} {w0 : World} {b : Nat} {tv : Value} {i d : Nat} (hv : R.VB w0) (hb : bgP E i = true) (hkd : kdA E i = 2 ∨ kdA E i = 3 ∨ kdA E i = 28 ∨ kdA E i = 5 ∨ kdA E i = 18 ∨ kdA E i = 29 ∨ kdA E i = 30 ∨ kdA E i = 1) (W : World) (v : Value) (L : List Nd) (h : RS E z w0 W b tv i d v L) (hL : L.length ≤ 10027010 * i) : Calls Tryz.prog 171 #[.pointer (some ⟨b, 0, none⟩)] W fun e W' => PoR E z w0 b tv d W v L (gN E 5 i d) e W' := by
  have hlen := hE.len
  have hz := hE.z
  have hlt := kd_lt (E := E) (i := i) (by omega)
  obtain ⟨t, ht, hk, hpl, hta⟩ := toks_get E z h.hi
  clear hpl
  obtain rfl : t = tkA E i := hta hlt
  have HB : Hid (∀ _ : Unit, Calls Tryz.prog 156 #[.pointer (some ⟨b, 0, none⟩)] W fun e W' => e = .returned (.bool true) ∧ Below W.heap.size W W') := fun _ => by
    have := beginsPrim_any h hz
    rw [hb] at this
    exact this
  have HH : Hid (∀ W, RS E z w0 W b tv i d v L → Calls Tryz.prog 46 #[.pointer (some ⟨b, 0, none⟩)] W fun e W' => e = .returned (.agg #[.int .i64 (tkA E i).kd, .int .i64 (tkA E i).nn, .int .i64 (tkA E i).fr, .int .i64 (tkA E i).en, .string (tkA E i).tx, .int .u64 (tkA E i).s0, .int .u64 (tkA E i).s1, .int .u64 (tkA E i).s2, .int .u64 (tkA E i).s3]) ∧ Below W.heap.size W W') := fun W h => here_any h _ ht
  have H := (show Hid _ from h)
  have HE := (show Hid _ from hE)
  have hkt := kd_tk hlt
  have hmem : tkA E i ∈ E.l := by unfold tkA; rw [List.getElem?_eq_getElem hlt]; exact List.getElem_mem hlt
  have HV : Hid (gN E 5 i d = .inl (i + 1, lfN (tkA E i))) := by
    show gN E 5 i d = _
    rw [g5 E i d hlt, show primL E i = .inl (lfN (tkA E i), 1) from by unfold primL; rw [hE.rn]; exact primK_lf (by rw [hkt]; exact hkd)]
  rw [HV.out]
  have HLf : Hid (∀ W, R.VB W → Calls Tryz.prog 184 #[(.agg #[.int .i64 (tkA E i).kd, .int .i64 (tkA E i).nn, .int .i64 (tkA E i).fr, .int .i64 (tkA E i).en, .string (tkA E i).tx, .int .u64 (tkA E i).s0, .int .u64 (tkA E i).s1, .int .u64 (tkA E i).s2, .int .u64 (tkA E i).s3])] W fun e w' => LfV W w' (lfN (tkA E i)) e ∧ Below W.heap.size W w') := fun W hw => leaf_any (tkA E i) (by rw [hkt]; exact hkd) (hE.rg _ hmem) W hw
  have HVB := (show Hid (∀ W, Below w0.heap.size w0 W → R.VB W) from fun W hW => hv.below hW hv.lt)
  have hM := lfN_pos (tkA E i)
  have hM2 := lfN_len (tkA E i)
  have HPu : Hid (∀ W q c, RS E z w0 W b tv i d v L → (∀ j u, (T.ndc (lfN (tkA E i)))[j]? = some u → W.cell? ((⟨q, 0, none⟩ : Addr).add j) = some u) → Calls Tryz.prog 110 #[.pointer (some ⟨b, 0, none⟩), .slice (some ⟨q, 0, none⟩) (lfN (tkA E i)).length c] W fun e W' => e = .returned (.tuple #[]) ∧ ∃ v', RS E z w0 W' b tv i d v' (L ++ lfN (tkA E i)) ∧ Fr W W' b v v') := fun W q c h hq => put_any h _ q c hM (by omega) hq
  have HPs : Hid (∀ W v, RS E z w0 W b tv i d v (L ++ lfN (tkA E i)) → Calls Tryz.prog 80 #[.pointer (some ⟨b, 0, none⟩), .int .i64 (tkA E i).kd] W fun e W' => e = .returned (.tuple #[]) ∧ RS E z w0 W' b tv (i + 1) d v (L ++ lfN (tkA E i)) ∧ Fr W W' b v v) := fun W v h => by
    rw [hkt]
    exact pass_ok h hlt hz
  have v16 : ((tkA E i).kd == 16) = false := by rw [hkt]; exact beq_eq_false_iff_ne.2 (by omega)
  have v19 : ((tkA E i).kd == 19) = false := by rw [hkt]; exact beq_eq_false_iff_ne.2 (by omega)
  have v21 : ((tkA E i).kd == 21) = false := by rw [hkt]; exact beq_eq_false_iff_ne.2 (by omega)
  have v23 : ((tkA E i).kd == 23) = false := by rw [hkt]; exact beq_eq_false_iff_ne.2 (by omega)
  have v25 : ((tkA E i).kd == 25) = false := by rw [hkt]; exact beq_eq_false_iff_ne.2 (by omega)
  clear h ht hk hta hkd hb hE HV hkt hmem hv
  generalize lfN (tkA E i) = M at *
  generalize tkA E i = t at *
  go_enter Tryz.func171, Tryz.ntmps171
  go_wp2_with fail
  refine (HB.out ()).mono ?_
  rintro e w1 ⟨rfl, hb⟩
  have H1 := (show Hid _ from H.out.later hb)
  have HF1 := (show Hid (Fr W w1 b v v) from Fr.below b v hb)
  clear hb HB H
  go_wp2_with fail
  refine (HH.out _ H1.out).mono ?_
  rintro e w2 ⟨rfl, hb⟩
  have H2 := (show Hid (RS E z w0 (w2.alloc (.cells #[.int .i64 t.kd, .int .i64 t.nn, .int .i64 t.fr, .int .i64 t.en, .string t.tx, .int .u64 t.s0, .int .u64 t.s1, .int .u64 t.s2, .int .u64 t.s3] 79)) b tv i d v L) from (H1.out.later hb).later (below_box _ _))
  have HF2 := (show Hid (Fr W (w2.alloc (.cells #[.int .i64 t.kd, .int .i64 t.nn, .int .i64 t.fr, .int .i64 t.en, .string t.tx, .int .u64 t.s0, .int .u64 t.s1, .int .u64 t.s2, .int .u64 t.s3] 79)) b v v) from HF1.out.trans ((Fr.below b v hb).trans (Fr.below b v (below_box _ _))))
  have HT2 := (show Hid (TX (w2.alloc (.cells #[.int .i64 t.kd, .int .i64 t.nn, .int .i64 t.fr, .int .i64 t.en, .string t.tx, .int .u64 t.s0, .int .u64 t.s1, .int .u64 t.s2, .int .u64 t.s3] 79)) w2.heap.size t) from ⟨heap_alloc_new w2 _⟩)
  have HN2 := (show Hid (w2.heap.size ≠ b ∧ v.ownBlock ≠ some w2.heap.size) from (H1.out.later hb).new)
  clear hb HH H1 HF1
  go_wp2_with fail
  refine (HLf.out _ (HVB.out _ H2.out.bl)).mono ?_
  rintro e w3 ⟨⟨u, rfl, ho⟩, hb3⟩
  obtain ⟨q, c, rfl, _, _⟩ := ho.form hM
  have H3 := (show Hid _ from H2.out.later hb3)
  have HF3 := (show Hid (Fr W w3 b v v) from HF2.out.trans (Fr.below b v hb3))
  have HT3 := (show Hid _ from HT2.out.below hb3)
  have HQ := (show Hid (∀ j u, (T.ndc M)[j]? = some u → w3.cell? ((⟨q, 0, none⟩ : Addr).add j) = some u) from ho.cells rfl)
  clear ho hb3 H2 HF2 HT2 HLf
  go_wp2_with fail
  refine (HPu.out _ _ _ H3.out HQ.out).mono ?_
  rintro e w4 ⟨rfl, v4, h4, hf4⟩
  have H4 := (show Hid _ from h4)
  have HF4 := (show Hid (Fr W w4 b v v4) from HF3.out.trans hf4)
  have HT4 := (show Hid _ from tx_fr HT3.out hf4 HN2.out.1 HN2.out.2)
  clear h4 hf4 H3 HF3 HT3 HPu HQ
  obtain ⟨c0, c1, c2, c3, c4, c5, c6, c7, c8⟩ := HT4.out.cells
  go_wp2_with fail
  refine (HPs.out _ _ H4.out).mono ?_
  rintro e w5 ⟨rfl, h5, hf5⟩
  have H5 := (show Hid (∃ v', RS E z w0 w5 b tv (i + 1) d v' (L ++ M) ∧ Fr W w5 b v v') from ⟨v4, h5, HF4.out.trans hf5⟩)
  clear h5 hf5 H4 HF4 HT4 HPs c0 c1 c2 c3 c4 c5 c6 c7 c8
  go_wp2_with fail
  go_end0
  exact ⟨rfl, H5.out⟩
theorem prim_any {E : PE} (hE : OkE E) {z : Nat} {w0 : World} {b : Nat} {tv : Value} {i d : Nat} (hv : R.VB w0) (HX0 : i < E.l.length → Ct 81 E z w0 b tv (i + 1) (d + 1) (gN E 0 (i + 1) (d + 1))) : Ct 171 E z w0 b tv i d (gP E i d) := by
  intro W v L h hL
  unfold gP
  cases hb : bgP E i with
  | false => exact prim_no hE hb W v L h
  | true =>
    have hlt := bgP_lt hb
    rw [if_pos rfl]
    have hbb := hb
    unfold bgP prK at hbb
    simp only [Bool.or_eq_true, Bool.and_eq_true, beq_iff_eq] at hbb
    rcases hbb with (((((((((((q | q) | q) | q) | q) | q) | q) | q) | q) | q) | q) | q) | ⟨q, _⟩
    · exact prim_lf hE hv hb (by omega) W v L h hL
    · exact prim_lf hE hv hb (by omega) W v L h hL
    · exact prim_lf hE hv hb (by omega) W v L h hL
    · exact prim_lf hE hv hb (by omega) W v L h hL
    · exact prim_lf hE hv hb (by omega) W v L h hL
    · exact prim_lf hE hv hb (by omega) W v L h hL
    · exact prim_lf hE hv hb (by omega) W v L h hL
    · exact prim_16 hE hb q (HX0 hlt) W v L h hL
    · exact prim_19 hE hb q (HX0 hlt) W v L h hL
    · exact prim_21 hE hb q (HX0 hlt) W v L h hL
    · exact prim_23 hE hb q (HX0 hlt) W v L h hL
    · exact prim_25 hE hb q (HX0 hlt) W v L h hL
    · exact prim_lf hE hv hb (by omega) W v L h hL
/-- The whole reader: from any token on. -/
theorem all_any {E : PE} (hE : OkE E) {z : Nat} {w0 : World} (hv : R.VB w0) {b : Nat} {tv : Value} : ∀ (n i : Nat), E.l.length - i ≤ n → i ≤ E.l.length → ∀ d, Ct 81 E z w0 b tv i d (gN E 0 i d) ∧ Ct 109 E z w0 b tv i d (gN E 2 i d) ∧ Ct 138 E z w0 b tv i d (gN E 4 i d) := by
  intro n
  induction n with
  | zero =>
    intro i h1 h2 d
    have hP : ∀ a, i ≤ a → a ≤ E.l.length → Ct 138 E z w0 b tv a d (gN E 4 a d) := fun a ha1 ha2 => pre_any hE (fun q => by omega) (suf_any hE (prim_any hE hv (fun q => by omega)))
    have hS : ∀ a, i ≤ a → a ≤ E.l.length → Ct 109 E z w0 b tv a d (gN E 2 a d) := fun a ha1 ha2 => seq_any hE (fun a2 q1 q2 => hP a2 (by omega) q2)
    exact ⟨exp_any hE hS, hS i (Nat.le_refl _) h2, hP i (Nat.le_refl _) h2⟩
  | succ n ih =>
    intro i h1 h2 d
    have hP : ∀ a, i ≤ a → a ≤ E.l.length → Ct 138 E z w0 b tv a d (gN E 4 a d) := fun a ha1 ha2 => pre_any hE (fun q => (ih (a + 1) (by omega) (by omega) (d + 1)).2.2) (suf_any hE (prim_any hE hv (fun q => (ih (a + 1) (by omega) (by omega) (d + 1)).1)))
    have hS : ∀ a, i ≤ a → a ≤ E.l.length → Ct 109 E z w0 b tv a d (gN E 2 a d) := fun a ha1 ha2 => seq_any hE (fun a2 q1 q2 => hP a2 (by omega) q2)
    exact ⟨exp_any hE hS, hS i (Nat.le_refl _) h2, hP i (Nat.le_refl _) h2⟩
theorem exp_all {E : PE} (hE : OkE E) {z : Nat} {w0 : World} (hv : R.VB w0) {b : Nat} {tv : Value} {i d : Nat} (hi : i ≤ E.l.length) : Ct 81 E z w0 b tv i d (gN E 0 i d) := (all_any hE hv _ i (Nat.le_refl _) hi d).1
end Go.Proofs.YtkihfkcmcdiajaaGreatDoor.N

namespace Go.Proofs.YtkihfkcmcdiajaaGreatDoor.Q
open Go.RowKit
/-- What a reading answers: a value, or a place and an error's number. -/
abbrev Rd (α : Type) := Sum α (Int × Int)

/-- The byte of a text at a place, or -1. -/
def chr (s : ByteArray) (i : Nat) : Int := if h : i < s.size then (s[i].toNat : Int) else -1
theorem chr_in {s : ByteArray} {i : Nat} (h : i < s.size) : chr s i = (s[i].toNat : Int) := by unfold chr; rw [dif_pos h]
theorem chr_out {s : ByteArray} {i : Nat} (h : ¬ i < s.size) : chr s i = -1 := by unfold chr; rw [dif_neg h]
theorem chr_le (s : ByteArray) (i : Nat) : -1 ≤ chr s i ∧ chr s i ≤ 255 := by
  unfold chr
  split
  · have := s[i].toNat_lt; omega
  · omega
theorem chr_lt {s : ByteArray} {i : Nat} (h : 0 ≤ chr s i) : i < s.size := by
  by_cases hi : i < s.size
  · exact hi
  · rw [chr_out hi] at h; omega
theorem chr_bd {s : ByteArray} {i : Nat} (h : i < s.size) : 0 ≤ chr s i ∧ chr s i ≤ 255 := by
  rw [chr_in h]; have := s[i].toNat_lt; omega

/-- What a digit is worth, or -1. -/
def hexV (c : Int) : Int := if 48 ≤ c ∧ c ≤ 57 then c - 48 else if 97 ≤ c ∧ c ≤ 102 then c - 87 else -1
theorem hexV_bd (c : Int) : -1 ≤ hexV c ∧ hexV c ≤ 15 := by unfold hexV; split <;> (try split) <;> omega
theorem hexV_lo {c : Int} (h : 0 ≤ hexV c) : 0 ≤ c := by
  unfold hexV at h; split at h
  · omega
  · split at h <;> omega
/-- A byte told by its number, behind a backslash. -/
def rdHex (s : ByteArray) (i : Nat) : Option (Int × Nat) :=
  if 0 ≤ hexV (chr s (i + 2)) ∧ 0 ≤ hexV (chr s (i + 3)) then some (16 * hexV (chr s (i + 2)) + hexV (chr s (i + 3)), i + 4) else none
def rdEsc (s : ByteArray) (i : Nat) : Option (Int × Nat) :=
  if chr s (i + 1) = 110 then some (10, i + 2) else if chr s (i + 1) = 114 then some (13, i + 2) else if chr s (i + 1) = 116 then some (9, i + 2) else
  if chr s (i + 1) = 92 ∨ chr s (i + 1) = 39 ∨ chr s (i + 1) = 34 then some (chr s (i + 1), i + 2) else
  if chr s (i + 1) = 120 then rdHex s i else none
/-- One byte of a literal, or an error's number. -/
def rdByte (s : ByteArray) (i : Nat) : Rd (Int × Nat) :=
  if chr s i = 92 then (match rdEsc s i with | none => .inr (i, 21) | some p => .inl p) else
  if chr s i < 32 ∨ chr s i = 127 then .inr (i, 22) else .inl (chr s i, i + 1)
/-- What stands behind a literal's first mark, its second one too. -/
def rdBody (s : ByteArray) (m : Int) : Nat → Nat → List Int → Rd (List Int × Nat)
  | 0, i, _ => .inr (i, 22)
  | f + 1, i, l => if chr s i = m then .inl (l, i + 1) else if s.size ≤ i then .inr (s.size, 22) else
    match rdByte s i with
    | .inr (a, c) => .inr (a, c)
    | .inl (b, n) => rdBody s m f n (l ++ [b])
/-- A literal that begins at a place. -/
def rdCut (s : ByteArray) (i : Int) : Rd (List Int × Nat) :=
  if 65536 < s.size then .inr (0, 2) else
  if i < 0 ∨ (s.size : Int) < i then .inr (0, 1) else
  if chr s i.toNat = 39 ∨ chr s i.toNat = 34 then rdBody s (chr s i.toNat) (s.size + 1) (i.toNat + 1) [] else .inr (i, 20)
theorem rdHex_bd {s : ByteArray} {i : Nat} {b : Int} {n : Nat} (h : rdHex s i = some (b, n)) : 0 ≤ b ∧ b ≤ 255 ∧ i < n ∧ n ≤ s.size := by
  unfold rdHex at h
  split at h
  · next q =>
    cases h
    have h1 := hexV_bd (chr s (i + 2)); have h2 := hexV_bd (chr s (i + 3))
    have h3 := chr_lt (hexV_lo q.2)
    exact ⟨by omega, by omega, by omega, by omega⟩
  · cases h
theorem rdEsc_bd {s : ByteArray} {i : Nat} {b : Int} {n : Nat} (h : rdEsc s i = some (b, n)) : 0 ≤ b ∧ b ≤ 255 ∧ i < n ∧ n ≤ s.size := by
  unfold rdEsc at h
  have hb := chr_le s (i + 1)
  split at h
  · next q => cases h; have := chr_lt (s := s) (i := i + 1) (by omega); omega
  · split at h
    · next q => cases h; have := chr_lt (s := s) (i := i + 1) (by omega); omega
    · split at h
      · next q => cases h; have := chr_lt (s := s) (i := i + 1) (by omega); omega
      · split at h
        · next q => cases h; have := chr_lt (s := s) (i := i + 1) (by omega); omega
        · split at h
          · exact rdHex_bd h
          · cases h
theorem rdByte_bd {s : ByteArray} {i : Nat} {b : Int} {n : Nat} (h : rdByte s i = .inl (b, n)) : 0 ≤ b ∧ b ≤ 255 ∧ i < n ∧ n ≤ s.size := by
  unfold rdByte at h
  split at h
  · split at h
    · cases h
    · next p hp => cases h; exact rdEsc_bd hp
  · split at h
    · cases h
    · next q => cases h; have := chr_le s i; have := chr_lt (s := s) (i := i) (by omega); omega
theorem rdByte_err {s : ByteArray} {i : Nat} {a c : Int} (h : rdByte s i = .inr (a, c)) : a = i ∧ (c = 21 ∨ c = 22) := by
  unfold rdByte at h
  split at h
  · split at h
    · cases h; exact ⟨rfl, .inl rfl⟩
    · cases h
  · split at h
    · cases h; exact ⟨rfl, .inr rfl⟩
    · cases h
theorem rdBody_end {s : ByteArray} {m : Int} {f i : Nat} {l : List Int} (h : chr s i = m) : rdBody s m (f + 1) i l = .inl (l, i + 1) := by
  unfold rdBody; rw [if_pos h]
theorem rdBody_out {s : ByteArray} {m : Int} {f i : Nat} {l : List Int} (h : s.size ≤ i) (hm : 0 ≤ m) : rdBody s m (f + 1) i l = .inr (s.size, 22) := by
  unfold rdBody; rw [if_neg (by rw [chr_out (by omega)]; omega), if_pos h]
theorem rdBody_err {s : ByteArray} {m : Int} {f i : Nat} {l : List Int} {a c : Int} (h : chr s i ≠ m) (hi : i < s.size) (hb : rdByte s i = .inr (a, c)) : rdBody s m (f + 1) i l = .inr (a, c) := by
  unfold rdBody; rw [if_neg h, if_neg (by omega), hb]
theorem rdBody_step {s : ByteArray} {m : Int} {f i : Nat} {l : List Int} {b : Int} {n : Nat} (h : chr s i ≠ m) (hi : i < s.size) (hb : rdByte s i = .inl (b, n)) : rdBody s m (f + 1) i l = rdBody s m f n (l ++ [b]) := by
  rw [rdBody, if_neg h, if_neg (by omega), hb]
/-- A list of numbers as a text. -/
def asText (l : List Int) : ByteArray := l.foldl (fun r n => r.push (UInt8.ofNat n.toNat)) ByteArray.empty
theorem asText_data (l : List Int) : (asText l).data.toList = l.map (fun n => UInt8.ofNat n.toNat) := by
  have key : ∀ (l : List Int) (s : ByteArray), (l.foldl (fun r n => r.push (UInt8.ofNat n.toNat)) s).data.toList = s.data.toList ++ l.map (fun n => UInt8.ofNat n.toNat) := by
    intro l
    induction l with
    | nil => intro s; simp
    | cons b l ih => intro s; rw [List.foldl_cons, ih]; simp [ByteArray.push]
  have := key l ByteArray.empty
  simpa [asText] using this

/-- The answers. -/
def byV : Rd (Int × Nat) → Value
  | .inl (b, n) => .tuple #[.int .u8 b, .int .i64 n, .int .i64 0]
  | .inr (_, c) => .tuple #[.int .u8 0, .int .i64 0, .int .i64 c]
def esV : Option (Int × Nat) → Value
  | some (b, n) => .tuple #[.int .u8 b, .int .i64 n, .int .i64 0]
  | none => .tuple #[.int .u8 0, .int .i64 0, .int .i64 21]
def cuV : Rd (List Int × Nat) → Value
  | .inl (l, n) => .tuple #[.string (asText l), .int .i64 n, .agg #[.int .i64 0, .int .i64 0]]
  | .inr (a, c) => .tuple #[.string ⟨#[]⟩, .int .i64 0, .agg #[.int .i64 a, .int .i64 c]]
end Go.Proofs.YtkihfkcmcdiajaaGreatDoor.Q
