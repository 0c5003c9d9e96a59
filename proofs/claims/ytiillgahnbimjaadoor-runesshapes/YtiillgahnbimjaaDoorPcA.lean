/- DERIVED. Walks: pieces, by the document. -/
import Derived.Test.YtiillgahnbimjaaDoorRrB
import Derived.Test.YtiillgahnbimjaaDoorRcD
namespace Go.Proofs.YtiillgahnbimjaaDoor
open Go.RowKit

/-- What pieces does. -/
def PcS (lo hi : Int) : Prop := ∀ w : World, Calls Tryd.prog 40 #[.int .i64 lo, .int .i64 hi] w fun e w' => (∃ v xs, e = .returned v ∧ RR w' w.heap.size v (shs lo hi) xs) ∧ Below w.heap.size w w'

structure AtE (w wr : World) (v : Value) (s : Shape) : Prop where
  o : wr.ownsRow w.heap.size 56 2 v s.length (spc s)
  b : Below w.heap.size w wr
theorem RR.one {W : World} {B : Nat} {y : Value} {s : Shape} (hB : B ≤ W.heap.size) (hy : W.ownsRow B 56 2 y s.length (spc s)) (hs : 0 < s.length) : RR (W.alloc (.cells #[y] 54)) B (.slice (some ⟨W.heap.size, 0, none⟩) 1 1) [s] [y] := by
  obtain ⟨g, cap, hg, _, hlt⟩ := hy.form hs
  refine ⟨⟨rfl, .inr ⟨W.heap.size, 1, #[y], rfl, hB, heap_alloc_new W _, Nat.le_refl _, by unfold maxLen; omega, rfl, rfl⟩⟩, rfl, ?_, ?_⟩
  · intro i x t hx ht
    match i, hx, ht with
    | 0, hx, ht =>
      cases hx
      cases ht
      refine ⟨hy.alloc _, by rw [hg]; simp [Value.ownBlock], ?_⟩
      rw [hg]
      intro e
      have e2 : g = W.heap.size := Option.some.inj e
      omega
  · intro i j x z hx hz hij
    match i, j, hx, hz with
    | 0, 0, _, _ => exact absurd rfl hij

set_option maxRecDepth 100000 in
set_option maxHeartbeats 8000000 in
theorem pieces_step (lo hi : Int) (h : Blk lo hi) (hc : ∀ c, seam lo hi = some c → PcS lo (c - 1) ∧ PcS c hi) : PcS lo hi := by
  intro w
  obtain ⟨i0, hinf, hz0, hz1, hz2⟩ := info_parts Tryd.info56
  have h0 := h.cpl.2.2.2.1
  have h1 := h.cpl.2.2.2.2.1
  have h2 := h.cpl.2.2.2.2.2
  have HSz : Hid (∀ w, Calls Tryd.prog 45 #[.int .i64 lo] w fun e w' => e = .returned (.int .i64 (szI lo : Int)) ∧ w' = w) := fun w => sizeR_any lo w
  have hsz := szI_bd lo
  have HC1 : Hid (∀ w, Calls Tryd.prog 37 #[.int .i64 lo] w fun e w' => e = .returned (.string (Utf8.encode lo)) ∧ Below w.heap.size w w') := fun w => codeR_any lo h.cpl.1 w
  have HC2 : Hid (∀ w, Calls Tryd.prog 37 #[.int .i64 hi] w fun e w' => e = .returned (.string (Utf8.encode hi)) ∧ Below w.heap.size w w') := fun w => codeR_any hi h.cpl.2.1 w
  have HG := (show Hid (∀ k, k < szI lo → (shp (lo, hi)).take (k + 1) = (shp (lo, hi)).take k ++ [(chr (Utf8.encode lo) k, chr (Utf8.encode hi) k)]) from fun k hk => shp_take h k hk)
  have HL := (show Hid ((shp (lo, hi)).length = szI lo) from shp_len h)
  have HX := (show Hid ((Utf8.encode lo).size = szI lo ∧ (Utf8.encode hi).size = szI lo) from ⟨enc_size h.cpl.1, by rw [enc_size h.cpl.2.1, ← h.cpl.2.2.1]⟩)
  have HN := (show Hid (seam lo hi = none → shs lo hi = [shp (lo, hi)]) from fun e => shs_none e)
  have HS := (show Hid (∀ c, seam lo hi = some c → (lo < c ∧ c ≤ hi) ∧ shs lo hi = shs lo (c - 1) ++ shs c hi ∧ PcS lo (c - 1) ∧ PcS c hi) from fun c e => ⟨seam_bd h0 h1 e, shs_some h0 h1 e, hc c e⟩)
  generalize hR : seam lo hi = R at *
  have HR := (show Hid (seamK lo hi (szI lo - 1) 1 = R) from hR)
  generalize szI lo = K at *
  generalize Utf8.encode lo = X at *
  generalize Utf8.encode hi = Y at *
  generalize shp (lo, hi) = S at *
  clear hR h hc
  have hnl : decide (hi < lo) = false := decide_eq_false (by omega)
  go_enter Tryd.func40, Tryd.ntmps40
  go_wp2_with fail
  go_loopw [5, 6] (fun t u wr => ∃ k : Nat, ∃ m : Int, t = .int .i64 m ∧ u = .int .i64 k ∧ (1 ≤ k ∧ k ≤ K) ∧ Hid ((k = 1 ∧ m = 1) ∨ (k = 2 ∧ m = 64) ∨ (k = 3 ∧ m = 4096) ∨ k = 4) ∧ Hid (seamK lo hi (K - k) m = R) ∧ Hid (Below w.heap.size w wr)) (fun _ u _ => 5 - (intOf u).toNat)
  case atStart => exact ⟨1, 1, rfl, rfl, by omega, .inl ⟨rfl, rfl⟩, HR, Below.refl _ _⟩
  case round =>
    obtain ⟨k, m, rfl, rfl, ⟨hk1, hk2⟩, HM, HK, HW⟩ := hrel
    clear HR
    by_cases hlt : k < K
    · have hlt2 : (k : Int) < (K : Int) := by omega
      obtain ⟨m', hm', hmm⟩ : ∃ m' : Int, m' = m * 64 ∧ (m' = 64 ∨ m' = 4096 ∨ m' = 262144) := ⟨_, rfl, by have e := HM.out; omega⟩
      have HM2 := (show Hid ((k + 1 = 1 ∧ m' = 1) ∨ (k + 1 = 2 ∧ m' = 64) ∨ (k + 1 = 3 ∧ m' = 4096) ∨ k + 1 = 4) from (by show _ ∨ _; have e := HM.out; omega))
      have hwm : IntKind.i64.wrap (m * 64) = m' := by rw [← hm', IntKind.wrap_i64]; rcases hmm with rfl | rfl | rfl <;> rfl
      have HKn := (show Hid (seamAt lo hi m' = none → seamK lo hi (K - (k + 1)) m' = R) from fun e => by
        have e2 := HK.out
        rw [hm'] at e
        rw [show K - k = (K - (k + 1)) + 1 from by omega, seamK_none e, ← hm'] at e2
        exact e2)
      have HKs := (show Hid (∀ c, seamAt lo hi m' = some c → (lo < c ∧ c ≤ hi) ∧ shs lo hi = shs lo (c - 1) ++ shs c hi ∧ PcS lo (c - 1) ∧ PcS c hi) from fun c e => by
        have e2 := HK.out
        rw [hm'] at e
        rw [show K - k = (K - (k + 1)) + 1 from by omega, seamK_some e] at e2
        exact HS.out c e2.symm)
      have hpos : 0 < m' ∧ m' ≤ 262144 := by omega
      have hm0 : m' ≠ 0 := by omega
      have q1 : lo.tdiv m' = lo / m' := Int.tdiv_eq_ediv_of_nonneg h0
      have q2 : hi.tdiv m' = hi / m' := Int.tdiv_eq_ediv_of_nonneg (by omega)
      have q3 : lo.tmod m' = lo % m' := Int.tmod_eq_emod_of_nonneg h0
      have q4 : (hi + 1).tmod m' = (hi + 1) % m' := Int.tmod_eq_emod_of_nonneg (by omega)
      have b1 : 0 ≤ lo / m' ∧ lo / m' ≤ lo := by rcases hmm with rfl | rfl | rfl <;> omega
      have b2 : 0 ≤ hi / m' ∧ hi / m' ≤ hi := by rcases hmm with rfl | rfl | rfl <;> omega
      have b3 : 0 ≤ lo % m' ∧ lo % m' < m' := by rcases hmm with rfl | rfl | rfl <;> omega
      have b4 : 0 ≤ (hi + 1) % m' ∧ (hi + 1) % m' < m' := by rcases hmm with rfl | rfl | rfl <;> omega
      have HSq := (show Hid (seamAt lo hi m' = if lo / m' = hi / m' then none else if lo % m' ≠ 0 then some ((lo / m' + 1) * m') else if (hi + 1) % m' ≠ 0 then some (hi / m' * m') else none) from rfl)
      clear hm' HK HM hmm HS HN HG HL HX HC1 HC2
      generalize lo / m' = a at *
      generalize hi / m' = b at *
      generalize lo % m' = x at *
      generalize (hi + 1) % m' = y at *
      go_wp2_with fail
      refine (HSz.out _).mono ?_
      rintro e w0 ⟨rfl, rfl⟩
      go_wp2_with fail
      go_quiet (fail)
      have HW1 := (show Hid (Below w.heap.size w (w0.drewN nq)) from HW.out.trans (below_drewN (Below.refl _ _) _))
      generalize w0.drewN nq = w1 at *
      clear HW HSz
      by_cases hab : a = b
      · have HN := (show Hid _ from HKn.out (by rw [HSq.out, if_pos hab]))
        clear HKn HKs HSq
        subst hab
        go_wp2
        go_roundw
        case rel => exact ⟨k + 1, m', by go_num, by go_num, by omega, HM2, HN, HW1⟩
        case measure => simp [intOf]; omega
      · have eab : (a == b) = false := beq_eq_false_iff_ne.2 hab
        by_cases hx : x = 0
        · have ex : (x != 0) = false := by rw [hx]; rfl
          by_cases hy : y = 0
          · have HN := (show Hid _ from HKn.out (by rw [HSq.out, if_neg hab, if_neg (by omega), if_neg (by omega)]))
            have ey : (y != 0) = false := by rw [hy]; rfl
            clear HKn HKs HSq hab hx hy
            go_wp2
            go_roundw
            case rel => exact ⟨k + 1, m', by go_num, by go_num, by omega, HM2, HN, HW1⟩
            case measure => simp [intOf]; omega
          · obtain ⟨⟨hb1, hb2⟩, hE, hP1, hP2⟩ := HKs.out (b * m') (by rw [HSq.out, if_neg hab, if_neg (by omega), if_pos hy])
            have ey : (y != 0) = true := bne_iff_ne.2 hy
            have HE := (show Hid _ from hE)
            have HP1 := (show Hid _ from hP1)
            have HP2 := (show Hid _ from hP2)
            have v1 : IntKind.i64.wrap (b * m') = b * m' := by rw [IntKind.wrap_i64]; omega
            have v2 : IntKind.i64.wrap (b * m' - 1) = b * m' - 1 := by rw [IntKind.wrap_i64]; omega
            have hll1 := shs_len (lo := lo) (hi := b * m' - 1) h0 (by omega)
            have hll2 := shs_len (lo := b * m') (hi := hi) (by omega) hb2
            have HLL := (show Hid ((shs lo (b * m' - 1)).length + (shs (b * m') hi).length ≤ 4000000) from (by show _ ≤ _; omega))
            clear HKn HKs HSq hab hx hy hE hP1 hP2 hll1 hll2
            go_wp2_with fail
            refine (HP1.out _).mono ?_
            rintro e w2 ⟨⟨u1, xs1, rfl, hR1⟩, hb2'⟩
            have HR1 := (show Hid _ from hR1)
            have HB2 := (show Hid _ from hb2')
            clear hR1 hb2' HP1
            go_wp2_with fail
            refine (HP2.out _).mono ?_
            rintro e w3 ⟨⟨u2, xs2, rfl, hR2⟩, hb3⟩
            have hR3 := HR1.out.below hb3
            have hU := HR1.out.under
            have HB3 := (show Hid (Below w.heap.size w w3) from HW1.out.trans ((HB2.out.mono HW1.out.size).trans (hb3.mono (Nat.le_trans HW1.out.size HB2.out.size))))
            have hz3 := hb3.size
            have hz2 := HB2.out.size
            have hz1 := HW1.out.size
            clear hb3 HB2 HP2
            go_wp2_with (at_builtin; refine wpList_append_RR rfl _ _ rfl rfl rfl hR3 hU hR2 hz2 hz3 HLL.out ?_)
            intro v' w4 hR4 hg4 hk4
            have HR4 := (show Hid (RR w4 w.heap.size v' (shs lo hi) (xs1 ++ xs2)) from (by rw [HE.out]; exact hR4.base hz1))
            have HB4 := (show Hid (Below w.heap.size w w4) from HB3.out.grown hg4 (by omega) (fun j e => by have := (HR1.out.o.lt j e).1; omega))
            clear hR4 hg4 hk4 hR2 hR3 hU HR1 HB3
            go_wp2
            go_ret
            exact ⟨⟨_, _, rfl, HR4.out⟩, HB4.out⟩
        · obtain ⟨⟨hb1, hb2⟩, hE, hP1, hP2⟩ := HKs.out ((a + 1) * m') (by rw [HSq.out, if_neg hab, if_pos hx])
          have ex : (x != 0) = true := bne_iff_ne.2 hx
          have HE := (show Hid _ from hE)
          have HP1 := (show Hid _ from hP1)
          have HP2 := (show Hid _ from hP2)
          have v1 : IntKind.i64.wrap ((a + 1) * m') = (a + 1) * m' := by rw [IntKind.wrap_i64]; omega
          have v2 : IntKind.i64.wrap ((a + 1) * m' - 1) = (a + 1) * m' - 1 := by rw [IntKind.wrap_i64]; omega
          have hll1 := shs_len (lo := lo) (hi := (a + 1) * m' - 1) h0 (by omega)
          have hll2 := shs_len (lo := (a + 1) * m') (hi := hi) (by omega) hb2
          have HLL := (show Hid ((shs lo ((a + 1) * m' - 1)).length + (shs ((a + 1) * m') hi).length ≤ 4000000) from (by show _ ≤ _; omega))
          clear HKn HKs HSq hab hx hE hP1 hP2 hll1 hll2
          go_wp2_with fail
          refine (HP1.out _).mono ?_
          rintro e w2 ⟨⟨u1, xs1, rfl, hR1⟩, hb2'⟩
          have HR1 := (show Hid _ from hR1)
          have HB2 := (show Hid _ from hb2')
          clear hR1 hb2' HP1
          go_wp2_with fail
          refine (HP2.out _).mono ?_
          rintro e w3 ⟨⟨u2, xs2, rfl, hR2⟩, hb3⟩
          have hR3 := HR1.out.below hb3
          have hU := HR1.out.under
          have HB3 := (show Hid (Below w.heap.size w w3) from HW1.out.trans ((HB2.out.mono HW1.out.size).trans (hb3.mono (Nat.le_trans HW1.out.size HB2.out.size))))
          have hz3 := hb3.size
          have hz2 := HB2.out.size
          have hz1 := HW1.out.size
          clear hb3 HB2 HP2
          go_wp2_with (at_builtin; refine wpList_append_RR rfl _ _ rfl rfl rfl hR3 hU hR2 hz2 hz3 HLL.out ?_)
          intro v' w4 hR4 hg4 hk4
          have HR4 := (show Hid (RR w4 w.heap.size v' (shs lo hi) (xs1 ++ xs2)) from (by rw [HE.out]; exact hR4.base hz1))
          have HB4 := (show Hid (Below w.heap.size w w4) from HB3.out.grown hg4 (by omega) (fun j e => by have := (HR1.out.o.lt j e).1; omega))
          clear hR4 hg4 hk4 hR2 hR3 hU HR1 HB3
          go_wp2
          go_ret
          exact ⟨⟨_, _, rfl, HR4.out⟩, HB4.out⟩
    · have HE := (show Hid _ from HN.out (by have e := HK.out; rw [show K - k = 0 from by omega] at e; exact e.symm))
      obtain rfl : k = K := by omega
      clear HK HM HS HN
      have hX1 := HX.out.1
      have hX2 := HX.out.2
      clear HX
      have hXi : (X.size : Int) = (k : Int) := by omega
      go_wp2_with fail
      refine (HSz.out _).mono ?_
      rintro e w0 ⟨rfl, rfl⟩
      go_wp2_with fail
      refine (HC1.out _).mono ?_
      rintro e w1 ⟨rfl, hb1⟩
      have HB1 := (show Hid (Below w.heap.size w w1) from HW.out.trans (hb1.mono HW.out.size))
      clear hb1 HW HC1 HSz
      go_wp2_with fail
      refine (HC2.out _).mono ?_
      rintro e w2 ⟨rfl, hb2⟩
      have HB2 := (show Hid (Below w.heap.size w w2) from HB1.out.trans (hb2.mono HB1.out.size))
      clear hb2 HB1 HC2
      go_wp2_with fail
      go_loopw [11, 12] (fun v t wr => ∃ j : Nat, j ≤ k ∧ t = .int .i64 j ∧ Hid (AtE w wr v (S.take j))) (fun _ t _ => 5 - (intOf t).toNat)
      case atStart => exact ⟨0, by omega, by go_num, ⟨World.ownsRow_nil _ _ _ _, HB2.out⟩⟩
      case round =>
        obtain ⟨j, hj, rfl, HW⟩ := hrel
        clear HB2
        by_cases hlt2 : j < k
        · have z0 : (0 : Int) ≤ (j : Int) := by omega
          have z1 : (j : Int) < (X.size : Int) := by omega
          have z2 : (j : Int) < (Y.size : Int) := by omega
          have z3 : (j : Int) < (k : Int) := by omega
          have hxk : j < X.size := by omega
          have hyk : j < Y.size := by omega
          have HT := (show Hid _ from HG.out j hlt2)
          have e1 := chr_in hxk
          have e2 := chr_in hyk
          rw [e1, e2] at HT
          clear e1 e2
          have hO := HW.out.o
          have hbs := HW.out.b.size
          have HTl := (show Hid ((S.take j).length ≤ 4) from (by show _ ≤ _; have := List.length_take_le j S; omega))
          have wa : IntKind.i64.wrap (X[j].toNat : Int) = (X[j].toNat : Int) := by have := X[j].toNat_lt; rw [IntKind.wrap_i64]; omega
          have wb : IntKind.i64.wrap (Y[j].toNat : Int) = (Y[j].toNat : Int) := by have := Y[j].toNat_lt; rw [IntKind.wrap_i64]; omega
          generalize hxx : (X[j].toNat : Int) = a at *
          generalize hyy : (Y[j].toNat : Int) = b at *
          generalize S.take j = T at *
          go_wp2_with fail
          go_region_held3 (fun _ => True) (trivial) ((refine step_append_lies _ (by rfl) _ _ _ (by rfl) w.heap.size 56 i0 _ 2 16 Tryd.underlying54 hinf hz0 hz1 hz2 rfl (by omega) _ _ (spc T) (by rfl) ((hO.alloc _).drew) ⟨wr.heap.size, 0, none⟩ 1 1 [.int .i64 a, .int .i64 b] (by rfl) (by rfl) (World.news_of_block (cs := #[.int .i64 a, .int .i64 b]) (t := 56) (fr := (0, 0)) (heap_alloc_new wr _)) (by simp [Value.oneCell']) (by omega) (by have := HTl.out; unfold maxLen; omega) (by have := HTl.out; omega) (by simp; omega) (wr.heap.size + 1) (by simp) ?_; intro g cap w3 hown1 hgrow hat hltg))
          all_goals
            have hle := fun j e => (hO.lt j e).1
            have HW2 := (show Hid (AtE w w3 (.slice (some ⟨g, 0, none⟩) (T.length + 1) cap) (S.take (j + 1))) from (by
              rw [HT.out]
              refine ⟨?_, ((HW.out.b.alloc (by omega) (.cells #[.int .i64 a, .int .i64 b] 56)).drew).grown hgrow (by simp; omega) (fun j e => by have := hle j e; omega)⟩
              rw [List.length_append, spc_append]; exact hown1))
            clear hown1 hgrow hat hltg hO HT HTl HW hle hxx hyy wa wb
            go_wp2
            go_roundw
            case rel => exact ⟨j + 1, by omega, by go_num, HW2⟩
            case measure => simp [intOf]; omega
        · obtain rfl : j = k := by omega
          have HEq := (show Hid (S.take j = S) from List.take_of_length_le (by have := HL.out; omega))
          rw [HEq.out] at HW
          obtain ⟨g0, cy, rfl, _, _⟩ := World.ownsRow.form HW.out.o (show 0 < S.length by have := HL.out; omega)
          have HRR := (show Hid (RR (wr.alloc (.cells #[.slice (some ⟨g0, 0, none⟩) S.length cy] 54)) w.heap.size (.slice (some ⟨wr.heap.size, 0, none⟩) 1 1) [S] [.slice (some ⟨g0, 0, none⟩) S.length cy]) from RR.one HW.out.b.size HW.out.o (by have := HL.out; omega))
          have HB := (show Hid (Below w.heap.size w (wr.alloc (.cells #[.slice (some ⟨g0, 0, none⟩) S.length cy] 54))) from HW.out.b.alloc HW.out.b.size _)
          clear HG HL HEq HW
          go_wp2
          go_ret
          exact ⟨⟨_, _, rfl, by rw [HE.out]; exact HRR.out⟩, HB.out⟩

theorem pieces_any : ∀ (f : Nat) (lo hi : Int), Blk lo hi → (hi - lo).toNat ≤ f → PcS lo hi
  | 0, lo, hi, h, hf => pieces_step lo hi h fun c hs => by
    have := seam_bd h.cpl.2.2.2.1 h.cpl.2.2.2.2.1 hs; omega
  | f + 1, lo, hi, h, hf => pieces_step lo hi h fun c hs => by
    have := seam_bd h.cpl.2.2.2.1 h.cpl.2.2.2.2.1 hs
    exact ⟨pieces_any f lo (c - 1) (h.cut hs).1 (by omega), pieces_any f c hi (h.cut hs).2 (by omega)⟩

set_option maxRecDepth 100000 in
set_option maxHeartbeats 1000000 in
theorem pieces_none (lo hi : Int) (h : hi < lo) (w : World) : Calls Tryd.prog 40 #[.int .i64 lo, .int .i64 hi] w fun e w' => e = .returned (.slice none 0 0) ∧ w' = w := by
  go_enter Tryd.func40, Tryd.ntmps40
  go_wp2
  go_ret
  exact ⟨rfl, rfl⟩
end Go.Proofs.YtiillgahnbimjaaDoor
