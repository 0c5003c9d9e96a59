/- DERIVED. Plain mathematics and walks, laid together (14). -/
import Derived.Deep.WholeRow
import Derived.Test.YtnpifgcgjgddoaaGreatDoorPp13
namespace Go.Proofs.YtnpifgcgjgddoaaGreatDoor.N
open Go.RowKit
set_option maxRecDepth 100000 in
set_option maxHeartbeats 4000000 in
theorem nodeD_22 {L : List Nd} {B tb gp op cp g1 c1 k : Nat} {nn : Int} {tx : ByteArray} {a b c d : Int} (hn : L[k]? = some ⟨22, nn, tx, a, b, c, d⟩) (hL : L.length ≤ 2048) (he : ∀ i, i < L.length → T.er L i = 0) (hw : NdW ⟨22, nn, tx, a, b, c, d⟩) (hc : ∀ j ∈ kds L k, ∀ d, DPar L B tb gp op cp g1 c1 j d) : DNod L B tb gp op cp g1 c1 k := by
  intro W x v hD hF
  have hk : k < L.length := (List.getElem?_eq_some_iff.1 hn).1
  have hal := (T.er_ok hn (he k hk)).al
  obtain ⟨m, hm, hm2⟩ := nn_of hal
  dsimp only at hm
  subst hm
  obtain ⟨fa, fb, fc⟩ := fr22 (n := ⟨22, (m : Int), tx, a, b, c, d⟩) rfl
  obtain ⟨hT, hks, hk1⟩ := en_1 hn he rfl
  obtain ⟨kk, hkk⟩ : ∃ kk, kk = k - 1 := ⟨_, rfl⟩
  rw [← hkk] at hT hks
  have HKK := (show Hid ((k : Int) = (kk : Int) + 1) from by show (k : Int) = (kk : Int) + 1; omega)
  clear hkk hk1
  rw [fa, fc] at hT
  have hfl := fld_len hal
  rw [fdx22 rfl] at hT hfl
  replace hT : itT (enX L k).2 = itT (partI 3 (enX L kk)) ++ (⟨#[32, 45, 62, 32]⟩ ++ Q.asText (Q.qT tx) : ByteArray).data.toList := hT
  have HLi : Hid (∀ w, Calls Tryz.prog 80 #[.string tx] w fun e w' => e = .returned (.string (Q.asText (Q.qT tx))) ∧ Below w.heap.size w w') := fun w => literal_any tx (tx22 hal rfl) w
  obtain ⟨Y, hY⟩ : ∃ Y : ByteArray, Y = Q.asText (Q.qT tx) := ⟨_, rfl⟩
  rw [← hY] at hT hfl HLi
  clear hY
  have HAd := (show Hid (∀ (w' : World) (y : Option (List UInt8)) (vv : Value), Dt w' B tb L gp op cp g1 c1 y → Bf w' B y vv → Calls Tryz.prog 55 #[.pointer (some ⟨tb, 0, none⟩), vv, .string (⟨#[32, 45, 62, 32]⟩ ++ Y)] w' fun e W' => ∃ v', e = .returned v' ∧ Dq w' W' B tb L gp op cp g1 c1 (adT y (⟨#[32, 45, 62, 32]⟩ ++ Y : ByteArray).data.toList) v') from fun w' y vv hd hf => addD_any _ (by rw [ByteArray.size_append]; show 4 + _ ≤ _; omega) hd hf)
  obtain ⟨TX, hTX⟩ : ∃ TX, TX = (⟨#[32, 45, 62, 32]⟩ ++ Y : ByteArray).data.toList := ⟨_, rfl⟩
  rw [← hTX] at hT
  simp only [← hTX] at HAd
  clear hTX
  rw [hT]
  have a0 := hD.c0
  have a1 := hD.c1
  obtain ⟨c0, c1', c2, c3, c4, c5, c6⟩ := hD.n k _ hn
  have z0 : (0 : Int) ≤ (k : Int) := by omega
  have z1 : (k : Int) < (L.length : Int) := by omega
  obtain ⟨w0, hw0⟩ : ∃ w0, w0 = W.alloc (.cells (T.ndV ⟨22, (m : Int), tx, a, b, c, d⟩).toArray 51) := ⟨_, rfl⟩
  have hb0 : Below W.heap.size W w0 := by rw [hw0]; exact below_box W _
  have HE0 := (show Hid (W.alloc (.cells #[.int .i64 22, .int .i64 (m : Int), .string tx, .int .u64 a, .int .u64 b, .int .u64 c, .int .u64 d] 51) = w0) from hw0.symm)
  have HK : Hid (∀ _ : Unit, Calls Tryz.prog 57 #[.slice (some ⟨gp, op, none⟩) L.length cp, .slice (some ⟨g1, 0, none⟩) L.length c1, .int .i64 k] w0.drew fun e W'' => (∃ u, e = .returned u ∧ Nz W W'' B tb L gp op cp g1 c1 x v W.heap.size ⟨22, (m : Int), tx, a, b, c, d⟩ u (kds L k)) ∧ Below w0.heap.size w0 W'') := fun _ => by
    refine (kidsD_any hL hk he hD (hb0.drew)).mono ?_
    rintro e W'' ⟨⟨u, rfl, hu⟩, bl⟩
    have bl2 : Below w0.heap.size w0 W'' := ((Below.refl _ w0).drew).trans bl
    exact ⟨⟨u, rfl, Nz.mk1 hD hF hw0 bl2 hu⟩, bl2⟩
  have d0 : w0.cell? ⟨tb, 0, none⟩ = some (.slice (some ⟨gp, op, none⟩) L.length cp) := (hD.later hb0).c0
  have d1 : w0.cell? ⟨tb, 1, none⟩ = some (.slice (some ⟨g1, 0, none⟩) L.length c1) := (hD.later hb0).c1
  have HWh : Hid (∀ w, Calls Tryz.prog 82 #[.int .i64 m, .int .i64 10] w fun e w' => e = .returned (.string ⟨(dgT 10 m).toArray⟩) ∧ w' = w) := fun w => whole10_any m (by omega) w
  have HC := (show Hid _ from hc)
  rw [hks] at HK HC
  obtain ⟨A0, n0, k0, rfl, hn0⟩ := hF.n
  have HYs := (show Hid (Y.size ≤ 3000) from hfl)
  clear hfl
  clear hT hks hc hD hF hal fa fb fc hw0 hb0 hw he hn
  go_enter Tryz.func77, Tryz.ntmps77
  go_wp2_with (rw [HE0.out])
  go_region_held3 (fun W' => W'.cell? ⟨tb, 0, none⟩ = some (.slice (some ⟨gp, op, none⟩) L.length cp) ∧ W'.cell? ⟨tb, 1, none⟩ = some (.slice (some ⟨g1, 0, none⟩) L.length c1)) (first | go_keep | exact ⟨hz.q.d.c0, hz.q.d.c1⟩ | exact ⟨d0, d1⟩) ((with_reducible refine (HK.out ()).mono ?_; rintro e wA ⟨⟨u, rfl, hz⟩, _⟩))
  have HZ := (show Hid _ from hz)
  rename_i hHeld
  clear hHeld hz HK HE0 d0 d1 a0 a1 c0 c1' c2 c3 c4 c5 c6
  have e0 : wA.cell? ⟨W.heap.size, 0, none⟩ = some (.int .i64 22) := HZ.out.nd.cell 0
  have e1 : wA.cell? ⟨W.heap.size, 1, none⟩ = some (.int .i64 m) := HZ.out.nd.cell 1
  have e2 : wA.cell? ⟨W.heap.size, 2, none⟩ = some (.string tx) := HZ.out.nd.cell 2
  go_wp2_with fail
  refine (HWh.out _).mono ?_
  rintro e w1 ⟨rfl, rfl⟩
  clear HWh
  obtain ⟨Au, cu, rfl, hu⟩ := HZ.out.kd
  obtain ⟨gu, cuu, rfl, hfu, hcu⟩ := hu (by simp)
  have HKa := (show Hid (∀ W' y vv, Nz W W' B tb L gp op cp g1 c1 y vv W.heap.size ⟨22, (m : Int), tx, a, b, c, d⟩ (.slice (some ⟨gu, 0, none⟩) 1 cu) [kk] → W'.cell? ⟨gu, 0, none⟩ = some (.int .i64 ((kk : Nat) : Int))) from fun W' y vv hz => by
    obtain ⟨A', c', eq, h⟩ := hz.kd
    obtain ⟨g', cuu', eg, h1, h2⟩ := h (by simp)
    rw [eg] at eq
    injection eq with e1 e2
    injection e1 with e1
    injection e1 with e1
    subst e1
    exact (h1.cell 0).trans (h2 0 _ rfl))
  have e3 := HKa.out _ _ _ HZ.out
  clear hu hfu hcu
  have HCc := (show Hid _ from HC.out kk (List.mem_singleton.2 rfl) 3)
  clear HC
  have hys := HYs.out
  have hq : ¬ 9223372036854775807 < 4 + Y.size := by omega
  clear HYs
  have hzd := (show Hid (Nz W w1.drew B tb L gp op cp g1 c1 x (.slice A0 n0 k0) W.heap.size ⟨22, (m : Int), tx, a, b, c, d⟩ (.slice (some ⟨gu, 0, none⟩) 1 cu) [kk]) from HZ.out.later ((Below.refl _ w1).drew))
  have HKb := (show Hid (∀ W' y vv, Nz W W' B tb L gp op cp g1 c1 y vv W.heap.size ⟨22, (m : Int), tx, a, b, c, d⟩ (.slice (some ⟨gu, 0, none⟩) 1 cu) [kk] → W'.cell? ⟨gu, 0, none⟩ = some (.int .i64 (kk : Int)) ∧ W'.cell? ⟨W.heap.size, 2, none⟩ = some (.string tx)) from fun W' y vv hz => ⟨HKa.out _ _ _ hz, hz.nd.cell 2⟩)
  have HPa : Hid (∀ (w' : World), Hid (Nz W w' B tb L gp op cp g1 c1 x (.slice A0 n0 k0) W.heap.size ⟨22, (m : Int), tx, a, b, c, d⟩ (.slice (some ⟨gu, 0, none⟩) 1 cu) [kk]) → Calls Tryz.prog 53 #[.pointer (some ⟨tb, 0, none⟩), .slice A0 n0 k0, .int .i64 kk, .int .i64 3] w' fun e W' => ∃ v', e = .returned v' ∧ Hid (Nz W W' B tb L gp op cp g1 c1 (adT x (itT (partI 3 (enX L kk)))) v' W.heap.size ⟨22, (m : Int), tx, a, b, c, d⟩ (.slice (some ⟨gu, 0, none⟩) 1 cu) [kk])) := fun w' hz => by
    refine (HCc.out _ _ _ hz.out.q.d hz.out.q.f).mono ?_
    rintro e W' ⟨v', rfl, q'⟩
    exact ⟨v', rfl, hz.out.next q'⟩
  have HPb : Hid (∀ (w' : World) (vv : Value), Hid (Nz W w' B tb L gp op cp g1 c1 (adT x (itT (partI 3 (enX L kk)))) vv W.heap.size ⟨22, (m : Int), tx, a, b, c, d⟩ (.slice (some ⟨gu, 0, none⟩) 1 cu) [kk]) → Calls Tryz.prog 55 #[.pointer (some ⟨tb, 0, none⟩), vv, .string (⟨#[32, 45, 62, 32]⟩ ++ Y)] w' fun e W' => ∃ v', e = .returned v' ∧ Hid (Nz W W' B tb L gp op cp g1 c1 (adT x (itT (partI 3 (enX L kk)) ++ TX)) v' W.heap.size ⟨22, (m : Int), tx, a, b, c, d⟩ (.slice (some ⟨gu, 0, none⟩) 1 cu) [kk])) := fun w' vv hz => by
    refine (HAd.out _ _ _ hz.out.q.d hz.out.q.f).mono ?_
    rintro e W' ⟨v', rfl, q'⟩
    rw [adT_app] at q'
    exact ⟨v', rfl, hz.out.next q'⟩
  have HLa : Hid (∀ (w' w2 : World) y vv, Hid (Nz W w' B tb L gp op cp g1 c1 y vv W.heap.size ⟨22, (m : Int), tx, a, b, c, d⟩ (.slice (some ⟨gu, 0, none⟩) 1 cu) [kk]) → Below w'.heap.size w' w2 → Hid (Nz W w2 B tb L gp op cp g1 c1 y vv W.heap.size ⟨22, (m : Int), tx, a, b, c, d⟩ (.slice (some ⟨gu, 0, none⟩) 1 cu) [kk])) := fun w' w2 y vv hz hb => hz.out.later hb
  clear HZ HCc HAd
  go_wp2_with fail
  go_region_held3 (fun W' => W'.cell? ⟨gu, 0, none⟩ = some (.int .i64 (kk : Int)) ∧ W'.cell? ⟨W.heap.size, 2, none⟩ = some (.string tx)) (first | go_keep | exact HKb.out _ _ _ hzC | exact HKb.out _ _ _ (HLa.out _ _ _ _ hzA hbB) | exact HKb.out _ _ _ hzA | exact HKb.out _ _ _ (HLa.out _ _ _ _ hzd hbB) | exact HKb.out _ _ _ hzd) (first | (go_at_call 53; with_reducible refine (HPa.out _ hzd).mono ?_; rintro e wA ⟨v2, rfl, hzA⟩) | (go_at_call 53; with_reducible refine (HPa.out _ (HLa.out _ _ _ _ hzd hbB)).mono ?_; rintro e wA ⟨v2, rfl, hzA⟩) | (go_at_call 80; with_reducible refine (HLi.out _).mono ?_; rintro e wB ⟨rfl, hbB⟩) | (go_at_call 55; with_reducible refine (HPb.out _ _ hzA).mono ?_; rintro e wC ⟨v4, rfl, hzC⟩) | (go_at_call 55; with_reducible refine (HPb.out _ _ (HLa.out _ _ _ _ hzA hbB)).mono ?_; rintro e wC ⟨v4, rfl, hzC⟩))
  all_goals
    have HQ := (show Hid (Dq W wC B tb L gp op cp g1 c1 (adT x (itT (partI 3 (enX L kk)) ++ TX)) v4) from hzC.out.q)
    clear hzA hzC hbB hzd HKa HKb HPa HPb HLi HLa e3
    obtain ⟨A9, n9, k9, rfl, hn9⟩ := HQ.out.f.n
    go_wp2_with fail
    go_ret
    exact ⟨_, rfl, HQ.out⟩
end Go.Proofs.YtnpifgcgjgddoaaGreatDoor.N

namespace Go.Proofs.YtnpifgcgjgddoaaGreatDoor.N
open Go.RowKit
set_option maxRecDepth 100000 in
set_option maxHeartbeats 4000000 in
theorem nodeD_7 {L : List Nd} {B tb gp op cp g1 c1 k : Nat} {nn : Int} {tx : ByteArray} {a b c d : Int} (hn : L[k]? = some ⟨7, nn, tx, a, b, c, d⟩) (hL : L.length ≤ 2048) (he : ∀ i, i < L.length → T.er L i = 0) (hw : NdW ⟨7, nn, tx, a, b, c, d⟩) (hc : ∀ j ∈ kds L k, ∀ d, DPar L B tb gp op cp g1 c1 j d) : DNod L B tb gp op cp g1 c1 k := by
  intro W x v hD hF
  have hk : k < L.length := (List.getElem?_eq_some_iff.1 hn).1
  have hal := (T.er_ok hn (he k hk)).al
  obtain ⟨m, hm, hm2⟩ := nn_of hal
  dsimp only at hm
  subst hm
  obtain ⟨fa, fb, fc⟩ := fr7 (n := ⟨7, (m : Int), tx, a, b, c, d⟩) rfl
  obtain ⟨i, j, hT, hks⟩ := en_2 hn he rfl
  rw [fa, fc, fb] at hT
  replace hT : itT (enX L k).2 = itT (partI 1 (enX L i)) ++ ((⟨#[32]⟩ : ByteArray).data.toList ++ itT (partI 2 (enX L j))) := by rw [hT]; show [] ++ ((_ ++ _) ++ []) = _; rw [List.append_nil]; rfl
  rw [hT]
  have a0 := hD.c0
  have a1 := hD.c1
  obtain ⟨c0, c1', c2, c3, c4, c5, c6⟩ := hD.n k _ hn
  have z0 : (0 : Int) ≤ (k : Int) := by omega
  have z1 : (k : Int) < (L.length : Int) := by omega
  obtain ⟨w0, hw0⟩ : ∃ w0, w0 = W.alloc (.cells (T.ndV ⟨7, (m : Int), tx, a, b, c, d⟩).toArray 51) := ⟨_, rfl⟩
  have hb0 : Below W.heap.size W w0 := by rw [hw0]; exact below_box W _
  have HE0 := (show Hid (W.alloc (.cells #[.int .i64 7, .int .i64 (m : Int), .string tx, .int .u64 a, .int .u64 b, .int .u64 c, .int .u64 d] 51) = w0) from hw0.symm)
  have HK : Hid (∀ _ : Unit, Calls Tryz.prog 57 #[.slice (some ⟨gp, op, none⟩) L.length cp, .slice (some ⟨g1, 0, none⟩) L.length c1, .int .i64 k] w0.drew fun e W'' => (∃ u, e = .returned u ∧ Nz W W'' B tb L gp op cp g1 c1 x v W.heap.size ⟨7, (m : Int), tx, a, b, c, d⟩ u (kds L k)) ∧ Below w0.heap.size w0 W'') := fun _ => by
    refine (kidsD_any hL hk he hD (hb0.drew)).mono ?_
    rintro e W'' ⟨⟨u, rfl, hu⟩, bl⟩
    have bl2 : Below w0.heap.size w0 W'' := ((Below.refl _ w0).drew).trans bl
    exact ⟨⟨u, rfl, Nz.mk1 hD hF hw0 bl2 hu⟩, bl2⟩
  have d0 : w0.cell? ⟨tb, 0, none⟩ = some (.slice (some ⟨gp, op, none⟩) L.length cp) := (hD.later hb0).c0
  have d1 : w0.cell? ⟨tb, 1, none⟩ = some (.slice (some ⟨g1, 0, none⟩) L.length c1) := (hD.later hb0).c1
  have HWh : Hid (∀ w, Calls Tryz.prog 82 #[.int .i64 m, .int .i64 10] w fun e w' => e = .returned (.string ⟨(dgT 10 m).toArray⟩) ∧ w' = w) := fun w => whole10_any m (by omega) w
  have HC := (show Hid _ from hc)
  rw [hks] at HK HC
  obtain ⟨A0, n0, k0, rfl, hn0⟩ := hF.n
  clear hT hks hc hD hF hal fa fb fc hw0 hb0 hw he hn
  go_enter Tryz.func77, Tryz.ntmps77
  go_wp2_with (rw [HE0.out])
  go_region_held3 (fun W' => W'.cell? ⟨tb, 0, none⟩ = some (.slice (some ⟨gp, op, none⟩) L.length cp) ∧ W'.cell? ⟨tb, 1, none⟩ = some (.slice (some ⟨g1, 0, none⟩) L.length c1)) (first | go_keep | exact ⟨hz.q.d.c0, hz.q.d.c1⟩ | exact ⟨d0, d1⟩) ((with_reducible refine (HK.out ()).mono ?_; rintro e wA ⟨⟨u, rfl, hz⟩, _⟩))
  have HZ := (show Hid _ from hz)
  rename_i hHeld
  clear hHeld hz HK HE0 d0 d1 a0 a1 c0 c1' c2 c3 c4 c5 c6
  have e0 : wA.cell? ⟨W.heap.size, 0, none⟩ = some (.int .i64 7) := HZ.out.nd.cell 0
  have e1 : wA.cell? ⟨W.heap.size, 1, none⟩ = some (.int .i64 m) := HZ.out.nd.cell 1
  have e2 : wA.cell? ⟨W.heap.size, 2, none⟩ = some (.string tx) := HZ.out.nd.cell 2
  go_wp2_with fail
  refine (HWh.out _).mono ?_
  rintro e w1 ⟨rfl, rfl⟩
  clear HWh
  obtain ⟨Au, cu, rfl, hu⟩ := HZ.out.kd
  obtain ⟨gu, cuu, rfl, hfu, hcu⟩ := hu (by simp)
  have HKa := (show Hid (∀ W' y vv, Nz W W' B tb L gp op cp g1 c1 y vv W.heap.size ⟨7, (m : Int), tx, a, b, c, d⟩ (.slice (some ⟨gu, 0, none⟩) 2 cu) [i, j] → W'.cell? ⟨gu, 0, none⟩ = some (.int .i64 ((i : Nat) : Int))) from fun W' y vv hz => by
    obtain ⟨A', c', eq, h⟩ := hz.kd
    obtain ⟨g', cuu', eg, h1, h2⟩ := h (by simp)
    rw [eg] at eq
    injection eq with e1 e2
    injection e1 with e1
    injection e1 with e1
    subst e1
    exact (h1.cell 0).trans (h2 0 _ rfl))
  have HKb := (show Hid (∀ W' y vv, Nz W W' B tb L gp op cp g1 c1 y vv W.heap.size ⟨7, (m : Int), tx, a, b, c, d⟩ (.slice (some ⟨gu, 0, none⟩) 2 cu) [i, j] → W'.cell? ⟨gu, 1, none⟩ = some (.int .i64 ((j : Nat) : Int))) from fun W' y vv hz => by
    obtain ⟨A', c', eq, h⟩ := hz.kd
    obtain ⟨g', cuu', eg, h1, h2⟩ := h (by simp)
    rw [eg] at eq
    injection eq with e1 e2
    injection e1 with e1
    injection e1 with e1
    subst e1
    exact (h1.cell 1).trans (h2 1 _ rfl))
  have e3 := HKa.out _ _ _ HZ.out
  have e4 := HKb.out _ _ _ HZ.out
  clear hu hfu hcu
  have HPa : Hid (∀ _ : Unit, Calls Tryz.prog 53 #[.pointer (some ⟨tb, 0, none⟩), .slice A0 n0 k0, .int .i64 i, .int .i64 1] w1.drew fun e W' => ∃ v', e = .returned v' ∧ Nz W W' B tb L gp op cp g1 c1 (adT x (itT (partI 1 (enX L i)))) v' W.heap.size ⟨7, (m : Int), tx, a, b, c, d⟩ (.slice (some ⟨gu, 0, none⟩) 2 cu) [i, j]) := fun _ => by
    have hz := HZ.out.later ((Below.refl _ w1).drew)
    refine (HC.out i (by simp) 1 _ _ _ hz.q.d hz.q.f).mono ?_
    rintro e W' ⟨v', rfl, q'⟩
    exact ⟨v', rfl, hz.next q'⟩
  have HPb : Hid (∀ (w' : World) (vv : Value), Nz W w' B tb L gp op cp g1 c1 (adT x (itT (partI 1 (enX L i)))) vv W.heap.size ⟨7, (m : Int), tx, a, b, c, d⟩ (.slice (some ⟨gu, 0, none⟩) 2 cu) [i, j] → Calls Tryz.prog 55 #[.pointer (some ⟨tb, 0, none⟩), vv, .string ⟨#[32]⟩] w' fun e W' => ∃ v', e = .returned v' ∧ Nz W W' B tb L gp op cp g1 c1 (adT x (itT (partI 1 (enX L i)) ++ (⟨#[32]⟩ : ByteArray).data.toList)) v' W.heap.size ⟨7, (m : Int), tx, a, b, c, d⟩ (.slice (some ⟨gu, 0, none⟩) 2 cu) [i, j]) := fun w' vv hz => by
    refine (addD_any ⟨#[32]⟩ (by decide) hz.q.d hz.q.f).mono ?_
    rintro e W' ⟨v', rfl, q'⟩
    rw [adT_app] at q'
    exact ⟨v', rfl, hz.next q'⟩
  have HPc : Hid (∀ (w' : World) (vv : Value), Nz W w' B tb L gp op cp g1 c1 (adT x (itT (partI 1 (enX L i)) ++ (⟨#[32]⟩ : ByteArray).data.toList)) vv W.heap.size ⟨7, (m : Int), tx, a, b, c, d⟩ (.slice (some ⟨gu, 0, none⟩) 2 cu) [i, j] → Calls Tryz.prog 53 #[.pointer (some ⟨tb, 0, none⟩), vv, .int .i64 j, .int .i64 2] w' fun e W' => ∃ v', e = .returned v' ∧ Nz W W' B tb L gp op cp g1 c1 (adT x ((itT (partI 1 (enX L i)) ++ (⟨#[32]⟩ : ByteArray).data.toList) ++ itT (partI 2 (enX L j)))) v' W.heap.size ⟨7, (m : Int), tx, a, b, c, d⟩ (.slice (some ⟨gu, 0, none⟩) 2 cu) [i, j]) := fun w' vv hz => by
    refine (HC.out j (by simp) 2 _ _ _ hz.q.d hz.q.f).mono ?_
    rintro e W' ⟨v', rfl, q'⟩
    rw [adT_app] at q'
    exact ⟨v', rfl, hz.next q'⟩
  clear HZ HC
  go_wp2_with fail
  go_region_held3 (fun W' => W'.cell? ⟨gu, 0, none⟩ = some (.int .i64 (i : Int)) ∧ W'.cell? ⟨gu, 1, none⟩ = some (.int .i64 (j : Int))) (first | go_keep | exact ⟨HKa.out _ _ _ hzC, HKb.out _ _ _ hzC⟩ | exact ⟨HKa.out _ _ _ hzB, HKb.out _ _ _ hzB⟩ | exact ⟨HKa.out _ _ _ hzA, HKb.out _ _ _ hzA⟩) (first | (go_at_call 53; with_reducible refine (HPa.out ()).mono ?_; rintro e wA ⟨v2, rfl, hzA⟩) | (go_at_call 55; with_reducible refine (HPb.out _ _ hzA).mono ?_; rintro e wB ⟨v3, rfl, hzB⟩) | (go_at_call 53; with_reducible refine (HPc.out _ _ hzB).mono ?_; rintro e wC ⟨v4, rfl, hzC⟩))
  rename_i hHeld
  have HQ := (show Hid (Dq W wC B tb L gp op cp g1 c1 (adT x (itT (partI 1 (enX L i)) ++ ((⟨#[32]⟩ : ByteArray).data.toList ++ itT (partI 2 (enX L j))))) v4) from by
    have h := hzC.q
    rw [List.append_assoc] at h
    exact h)
  clear hHeld hzA hzB hzC HKa HKb HPa HPb HPc e3 e4
  obtain ⟨A9, n9, k9, rfl, hn9⟩ := HQ.out.f.n
  go_wp2_with fail
  go_ret
  exact ⟨_, rfl, HQ.out⟩
set_option maxRecDepth 100000 in
set_option maxHeartbeats 4000000 in
theorem nodeD_8 {L : List Nd} {B tb gp op cp g1 c1 k : Nat} {nn : Int} {tx : ByteArray} {a b c d : Int} (hn : L[k]? = some ⟨8, nn, tx, a, b, c, d⟩) (hL : L.length ≤ 2048) (he : ∀ i, i < L.length → T.er L i = 0) (hw : NdW ⟨8, nn, tx, a, b, c, d⟩) (hc : ∀ j ∈ kds L k, ∀ d, DPar L B tb gp op cp g1 c1 j d) : DNod L B tb gp op cp g1 c1 k := by
  intro W x v hD hF
  have hk : k < L.length := (List.getElem?_eq_some_iff.1 hn).1
  have hal := (T.er_ok hn (he k hk)).al
  obtain ⟨m, hm, hm2⟩ := nn_of hal
  dsimp only at hm
  subst hm
  obtain ⟨fa, fb, fc⟩ := fr8 (n := ⟨8, (m : Int), tx, a, b, c, d⟩) rfl
  obtain ⟨i, j, hT, hks⟩ := en_2 hn he rfl
  rw [fa, fc, fb] at hT
  replace hT : itT (enX L k).2 = itT (partI 0 (enX L i)) ++ ((⟨#[32, 47, 32]⟩ : ByteArray).data.toList ++ itT (partI 1 (enX L j))) := by rw [hT]; show [] ++ ((_ ++ _) ++ []) = _; rw [List.append_nil]; rfl
  rw [hT]
  have a0 := hD.c0
  have a1 := hD.c1
  obtain ⟨c0, c1', c2, c3, c4, c5, c6⟩ := hD.n k _ hn
  have z0 : (0 : Int) ≤ (k : Int) := by omega
  have z1 : (k : Int) < (L.length : Int) := by omega
  obtain ⟨w0, hw0⟩ : ∃ w0, w0 = W.alloc (.cells (T.ndV ⟨8, (m : Int), tx, a, b, c, d⟩).toArray 51) := ⟨_, rfl⟩
  have hb0 : Below W.heap.size W w0 := by rw [hw0]; exact below_box W _
  have HE0 := (show Hid (W.alloc (.cells #[.int .i64 8, .int .i64 (m : Int), .string tx, .int .u64 a, .int .u64 b, .int .u64 c, .int .u64 d] 51) = w0) from hw0.symm)
  have HK : Hid (∀ _ : Unit, Calls Tryz.prog 57 #[.slice (some ⟨gp, op, none⟩) L.length cp, .slice (some ⟨g1, 0, none⟩) L.length c1, .int .i64 k] w0.drew fun e W'' => (∃ u, e = .returned u ∧ Nz W W'' B tb L gp op cp g1 c1 x v W.heap.size ⟨8, (m : Int), tx, a, b, c, d⟩ u (kds L k)) ∧ Below w0.heap.size w0 W'') := fun _ => by
    refine (kidsD_any hL hk he hD (hb0.drew)).mono ?_
    rintro e W'' ⟨⟨u, rfl, hu⟩, bl⟩
    have bl2 : Below w0.heap.size w0 W'' := ((Below.refl _ w0).drew).trans bl
    exact ⟨⟨u, rfl, Nz.mk1 hD hF hw0 bl2 hu⟩, bl2⟩
  have d0 : w0.cell? ⟨tb, 0, none⟩ = some (.slice (some ⟨gp, op, none⟩) L.length cp) := (hD.later hb0).c0
  have d1 : w0.cell? ⟨tb, 1, none⟩ = some (.slice (some ⟨g1, 0, none⟩) L.length c1) := (hD.later hb0).c1
  have HWh : Hid (∀ w, Calls Tryz.prog 82 #[.int .i64 m, .int .i64 10] w fun e w' => e = .returned (.string ⟨(dgT 10 m).toArray⟩) ∧ w' = w) := fun w => whole10_any m (by omega) w
  have HC := (show Hid _ from hc)
  rw [hks] at HK HC
  obtain ⟨A0, n0, k0, rfl, hn0⟩ := hF.n
  clear hT hks hc hD hF hal fa fb fc hw0 hb0 hw he hn
  go_enter Tryz.func77, Tryz.ntmps77
  go_wp2_with (rw [HE0.out])
  go_region_held3 (fun W' => W'.cell? ⟨tb, 0, none⟩ = some (.slice (some ⟨gp, op, none⟩) L.length cp) ∧ W'.cell? ⟨tb, 1, none⟩ = some (.slice (some ⟨g1, 0, none⟩) L.length c1)) (first | go_keep | exact ⟨hz.q.d.c0, hz.q.d.c1⟩ | exact ⟨d0, d1⟩) ((with_reducible refine (HK.out ()).mono ?_; rintro e wA ⟨⟨u, rfl, hz⟩, _⟩))
  have HZ := (show Hid _ from hz)
  rename_i hHeld
  clear hHeld hz HK HE0 d0 d1 a0 a1 c0 c1' c2 c3 c4 c5 c6
  have e0 : wA.cell? ⟨W.heap.size, 0, none⟩ = some (.int .i64 8) := HZ.out.nd.cell 0
  have e1 : wA.cell? ⟨W.heap.size, 1, none⟩ = some (.int .i64 m) := HZ.out.nd.cell 1
  have e2 : wA.cell? ⟨W.heap.size, 2, none⟩ = some (.string tx) := HZ.out.nd.cell 2
  go_wp2_with fail
  refine (HWh.out _).mono ?_
  rintro e w1 ⟨rfl, rfl⟩
  clear HWh
  obtain ⟨Au, cu, rfl, hu⟩ := HZ.out.kd
  obtain ⟨gu, cuu, rfl, hfu, hcu⟩ := hu (by simp)
  have HKa := (show Hid (∀ W' y vv, Nz W W' B tb L gp op cp g1 c1 y vv W.heap.size ⟨8, (m : Int), tx, a, b, c, d⟩ (.slice (some ⟨gu, 0, none⟩) 2 cu) [i, j] → W'.cell? ⟨gu, 0, none⟩ = some (.int .i64 ((i : Nat) : Int))) from fun W' y vv hz => by
    obtain ⟨A', c', eq, h⟩ := hz.kd
    obtain ⟨g', cuu', eg, h1, h2⟩ := h (by simp)
    rw [eg] at eq
    injection eq with e1 e2
    injection e1 with e1
    injection e1 with e1
    subst e1
    exact (h1.cell 0).trans (h2 0 _ rfl))
  have HKb := (show Hid (∀ W' y vv, Nz W W' B tb L gp op cp g1 c1 y vv W.heap.size ⟨8, (m : Int), tx, a, b, c, d⟩ (.slice (some ⟨gu, 0, none⟩) 2 cu) [i, j] → W'.cell? ⟨gu, 1, none⟩ = some (.int .i64 ((j : Nat) : Int))) from fun W' y vv hz => by
    obtain ⟨A', c', eq, h⟩ := hz.kd
    obtain ⟨g', cuu', eg, h1, h2⟩ := h (by simp)
    rw [eg] at eq
    injection eq with e1 e2
    injection e1 with e1
    injection e1 with e1
    subst e1
    exact (h1.cell 1).trans (h2 1 _ rfl))
  have e3 := HKa.out _ _ _ HZ.out
  have e4 := HKb.out _ _ _ HZ.out
  clear hu hfu hcu
  have HPa : Hid (∀ _ : Unit, Calls Tryz.prog 53 #[.pointer (some ⟨tb, 0, none⟩), .slice A0 n0 k0, .int .i64 i, .int .i64 0] w1.drew fun e W' => ∃ v', e = .returned v' ∧ Nz W W' B tb L gp op cp g1 c1 (adT x (itT (partI 0 (enX L i)))) v' W.heap.size ⟨8, (m : Int), tx, a, b, c, d⟩ (.slice (some ⟨gu, 0, none⟩) 2 cu) [i, j]) := fun _ => by
    have hz := HZ.out.later ((Below.refl _ w1).drew)
    refine (HC.out i (by simp) 0 _ _ _ hz.q.d hz.q.f).mono ?_
    rintro e W' ⟨v', rfl, q'⟩
    exact ⟨v', rfl, hz.next q'⟩
  have HPb : Hid (∀ (w' : World) (vv : Value), Nz W w' B tb L gp op cp g1 c1 (adT x (itT (partI 0 (enX L i)))) vv W.heap.size ⟨8, (m : Int), tx, a, b, c, d⟩ (.slice (some ⟨gu, 0, none⟩) 2 cu) [i, j] → Calls Tryz.prog 55 #[.pointer (some ⟨tb, 0, none⟩), vv, .string ⟨#[32, 47, 32]⟩] w' fun e W' => ∃ v', e = .returned v' ∧ Nz W W' B tb L gp op cp g1 c1 (adT x (itT (partI 0 (enX L i)) ++ (⟨#[32, 47, 32]⟩ : ByteArray).data.toList)) v' W.heap.size ⟨8, (m : Int), tx, a, b, c, d⟩ (.slice (some ⟨gu, 0, none⟩) 2 cu) [i, j]) := fun w' vv hz => by
    refine (addD_any ⟨#[32, 47, 32]⟩ (by decide) hz.q.d hz.q.f).mono ?_
    rintro e W' ⟨v', rfl, q'⟩
    rw [adT_app] at q'
    exact ⟨v', rfl, hz.next q'⟩
  have HPc : Hid (∀ (w' : World) (vv : Value), Nz W w' B tb L gp op cp g1 c1 (adT x (itT (partI 0 (enX L i)) ++ (⟨#[32, 47, 32]⟩ : ByteArray).data.toList)) vv W.heap.size ⟨8, (m : Int), tx, a, b, c, d⟩ (.slice (some ⟨gu, 0, none⟩) 2 cu) [i, j] → Calls Tryz.prog 53 #[.pointer (some ⟨tb, 0, none⟩), vv, .int .i64 j, .int .i64 1] w' fun e W' => ∃ v', e = .returned v' ∧ Nz W W' B tb L gp op cp g1 c1 (adT x ((itT (partI 0 (enX L i)) ++ (⟨#[32, 47, 32]⟩ : ByteArray).data.toList) ++ itT (partI 1 (enX L j)))) v' W.heap.size ⟨8, (m : Int), tx, a, b, c, d⟩ (.slice (some ⟨gu, 0, none⟩) 2 cu) [i, j]) := fun w' vv hz => by
    refine (HC.out j (by simp) 1 _ _ _ hz.q.d hz.q.f).mono ?_
    rintro e W' ⟨v', rfl, q'⟩
    rw [adT_app] at q'
    exact ⟨v', rfl, hz.next q'⟩
  clear HZ HC
  go_wp2_with fail
  go_region_held3 (fun W' => W'.cell? ⟨gu, 0, none⟩ = some (.int .i64 (i : Int)) ∧ W'.cell? ⟨gu, 1, none⟩ = some (.int .i64 (j : Int))) (first | go_keep | exact ⟨HKa.out _ _ _ hzC, HKb.out _ _ _ hzC⟩ | exact ⟨HKa.out _ _ _ hzB, HKb.out _ _ _ hzB⟩ | exact ⟨HKa.out _ _ _ hzA, HKb.out _ _ _ hzA⟩) (first | (go_at_call 53; with_reducible refine (HPa.out ()).mono ?_; rintro e wA ⟨v2, rfl, hzA⟩) | (go_at_call 55; with_reducible refine (HPb.out _ _ hzA).mono ?_; rintro e wB ⟨v3, rfl, hzB⟩) | (go_at_call 53; with_reducible refine (HPc.out _ _ hzB).mono ?_; rintro e wC ⟨v4, rfl, hzC⟩))
  rename_i hHeld
  have HQ := (show Hid (Dq W wC B tb L gp op cp g1 c1 (adT x (itT (partI 0 (enX L i)) ++ ((⟨#[32, 47, 32]⟩ : ByteArray).data.toList ++ itT (partI 1 (enX L j))))) v4) from by
    have h := hzC.q
    rw [List.append_assoc] at h
    exact h)
  clear hHeld hzA hzB hzC HKa HKb HPa HPb HPc e3 e4
  obtain ⟨A9, n9, k9, rfl, hn9⟩ := HQ.out.f.n
  go_wp2_with fail
  go_ret
  exact ⟨_, rfl, HQ.out⟩
end Go.Proofs.YtnpifgcgjgddoaaGreatDoor.N

namespace Go.Proofs.YtnpifgcgjgddoaaGreatDoor.N
open Go.RowKit
theorem nodeD_any {L : List Nd} {B tb gp op cp g1 c1 k : Nat} {n : Nd} (hn : L[k]? = some n) (hL : L.length ≤ 2048) (he : ∀ i, i < L.length → T.er L i = 0) (hw : NdW n) (hc : ∀ j ∈ kds L k, ∀ d, DPar L B tb gp op cp g1 c1 j d) : DNod L B tb gp op cp g1 c1 k := by
  have hk : k < L.length := (List.getElem?_eq_some_iff.1 hn).1
  have hr := op_rng (T.er_ok hn (he k hk)).al
  obtain ⟨o, nn, tx, a, b, c, d⟩ := n
  dsimp only at hr
  obtain ⟨m, rfl, h1, h2⟩ : ∃ m : Nat, o = (m : Int) ∧ 1 ≤ m ∧ m ≤ 23 := ⟨o.toNat, by omega, by omega, by omega⟩
  match m, h1, h2 with
  | 1, _, _ => exact nodeD_1 hn hL he hw hc
  | 2, _, _ => exact nodeD_2 hn hL he hw hc
  | 3, _, _ => exact nodeD_3 hn hL he hw hc
  | 4, _, _ => exact nodeD_4 hn hL he hw hc
  | 5, _, _ => exact nodeD_5 hn hL he hw hc
  | 6, _, _ => exact nodeD_6 hn hL he hw hc
  | 7, _, _ => exact nodeD_7 hn hL he hw hc
  | 8, _, _ => exact nodeD_8 hn hL he hw hc
  | 9, _, _ => exact nodeD_9 hn hL he hw hc
  | 10, _, _ => exact nodeD_10 hn hL he hw hc
  | 11, _, _ => exact nodeD_11 hn hL he hw hc
  | 12, _, _ => exact nodeD_12 hn hL he hw hc
  | 13, _, _ => exact nodeD_13 hn hL he hw hc
  | 14, _, _ => exact nodeD_14 hn hL he hw hc
  | 15, _, _ => exact nodeD_15 hn hL he hw hc
  | 16, _, _ => exact nodeD_16 hn hL he hw hc
  | 17, _, _ => exact nodeD_17 hn hL he hw hc
  | 18, _, _ => exact nodeD_18 hn hL he hw hc
  | 19, _, _ =>
    by_cases h0 : tx.size = 0
    · exact nodeD_19e hn hL he h0 hw hc
    · exact nodeD_19 hn hL he h0 hw hc
  | 20, _, _ => exact nodeD_20 hn hL he hw hc
  | 21, _, _ => exact nodeD_21 hn hL he hw hc
  | 22, _, _ => exact nodeD_22 hn hL he hw hc
  | 23, _, _ => exact nodeD_23 hn hL he hw hc
  | m + 24, _, h => omega
theorem partD_all {L : List Nd} {B tb gp op cp g1 c1 : Nat} (he : ∀ j, j < L.length → T.er L j = 0) (hw : ∀ n ∈ L, NdW n) (hL : L.length ≤ 2048) : ∀ m k, k < m → k < L.length → ∀ d, DPar L B tb gp op cp g1 c1 k d := by
  intro m
  induction m with
  | zero => intro k h; omega
  | succ m ih =>
    intro k h1 h2 d
    have hn : L[k]? = some L[k] := List.getElem?_eq_getElem h2
    refine partD_of hn (fun j hj => he j (by omega)) (nodeD_any hn hL he (hw _ (List.getElem_mem h2)) (fun j hj d => ?_)) d
    have := kds_lt hn (fun j hj => he j (by omega)) j hj
    exact ih j (by omega) (by omega) d
end Go.Proofs.YtnpifgcgjgddoaaGreatDoor.N

namespace Go.Proofs.YtnpifgcgjgddoaaGreatDoor
open Go.RowKit
theorem text_bytes {w : World} {base : Nat} {v : Value} {l : List UInt8} (h : w.ownsRow base 5 1 v l.length (Lib.byteCells l)) : (convert 55 9 v).run Tryz.prog w = .ok (.string (txO l)) w := by
  have e : Lib.byteCells l = (l.map fun x => (x.toNat : Int)).map (Value.int .u8) := by unfold Lib.byteCells; rw [List.map_map]; rfl
  have h2 := text_own (l := l.map fun x => (x.toNat : Int)) (by rw [List.length_map, ← e]; exact h)
  rw [asT_nat] at h2
  exact h2
end Go.Proofs.YtnpifgcgjgddoaaGreatDoor

namespace Go.Proofs.YtnpifgcgjgddoaaGreatDoor.N
open Go.RowKit
theorem tel_new {L : List Nd} {B gp op cp g1 c1 : Nat} {cur : Array Value} {W w1 : World} {l : List UInt8} {v : Value} (hn : T.NdL W gp op L) (lp : gp < B) (hB : B ≤ W.heap.size) (hf : Bf W B (some l) v) (q1 : W.heap.size ≤ g1) (q2 : w1.heap[g1]? = some (.cells cur 3 (0, 0))) (q3 : ∀ i, i < L.length → cur[i]? = some (.int .i64 (T.pt L i).1)) (b1 : Below W.heap.size W w1) :
    Dt (w1.alloc (.cells #[.slice (some ⟨gp, op, none⟩) L.length cp, .slice (some ⟨g1, 0, none⟩) L.length c1, .bool false] 70)) B w1.heap.size L gp op cp g1 c1 (some l) ∧ Bf (w1.alloc (.cells #[.slice (some ⟨gp, op, none⟩) L.length cp, .slice (some ⟨g1, 0, none⟩) L.length c1, .bool false] 70)) B (some l) v ∧ Below W.heap.size W (w1.alloc (.cells #[.slice (some ⟨gp, op, none⟩) L.length cp, .slice (some ⟨g1, 0, none⟩) L.length c1, .bool false] 70)) := by
  have hs := b1.size
  have hb : Below W.heap.size W (w1.alloc (.cells #[.slice (some ⟨gp, op, none⟩) L.length cp, .slice (some ⟨g1, 0, none⟩) L.length c1, .bool false] 70)) := b1.alloc b1.size _
  have hg : g1 < w1.heap.size := (Array.getElem?_eq_some_iff.1 q2).1
  exact ⟨⟨heap_alloc_new w1 _, ⟨cur, ⟨⟨_, ((below_box w1 _).block g1 hg).trans q2⟩, by omega, by decide⟩, q3⟩, hn.same (hb.block gp (by omega)), lp, by omega⟩, hf.later hb, hb⟩
set_option maxRecDepth 100000 in
set_option maxHeartbeats 4000000 in
theorem beginsD_any (L : List Nd) (gp op cp : Nat) (hL : L.length ≤ 2048) (hT : ∀ n ∈ L, n.tx.size ≤ 140737488355328) (he : ∀ j, j < L.length → T.er L j = 0) (h0 : 0 < L.length) (w : World) (hp : T.RdN w (some ⟨gp, op, none⟩) L) :
    Calls Tryz.prog 33 #[.slice (some ⟨gp, op, none⟩) L.length cp] w fun e w' => (∃ g1 c1 cur, e = .returned (.slice (some ⟨g1, 0, none⟩) L.length c1) ∧ w.heap.size ≤ g1 ∧ w'.heap[g1]? = some (.cells cur 3 (0, 0)) ∧ ∀ i, i < L.length → cur[i]? = some (.int .i64 (T.pt L i).1)) ∧ Below w.heap.size w w' := by
  have HF : Hid (∀ _ : Unit, Calls Tryz.prog 52 #[.slice (some ⟨gp, op, none⟩) L.length cp] w fun e w' => (∃ g1 c1 cur v2, e = .returned (.tuple #[.slice (some ⟨g1, 0, none⟩) L.length c1, v2, .int .i64 0, .int .i64 0]) ∧ w.heap.size ≤ g1 ∧ w'.heap[g1]? = some (.cells cur 3 (0, 0)) ∧ ∀ i, i < L.length → cur[i]? = some (.int .i64 (T.pt L i).1)) ∧ Below w.heap.size w w') := fun _ => by
    refine (T.from_any L _ cp hL hT w hp).mono ?_
    rintro e w' ⟨h, hb⟩
    refine ⟨?_, hb⟩
    rcases h with ⟨k, hk, _, hne, _⟩ | ⟨_, v1, v2, rfl, hA⟩
    · exact absurd (he k hk) hne
    · rcases hA.o1.2 with ⟨_, q⟩ | ⟨g, cap, cur, rfl, q1, q2, _, _, _, q6⟩
      · omega
      · refine ⟨g, cap, cur, v2, rfl, q1, q2, fun i hi => ?_⟩
        have e1 := T.bgc_get (L := L) hi
        rw [← q6, Nat.mul_one, List.getElem?_take, if_pos hi, Array.getElem?_toList] at e1
        exact e1
  clear he hT hp h0
  go_enter Tryz.func33, Tryz.ntmps33
  go_wp2_with fail
  refine (HF.out ()).mono ?_
  rintro e w1 ⟨⟨g1, c1, cur, v2, rfl, q1, q2, q3⟩, b1⟩
  have HQ := (show Hid ((w.heap.size ≤ g1 ∧ w1.heap[g1]? = some (.cells cur 3 (0, 0)) ∧ ∀ i, i < L.length → cur[i]? = some (.int .i64 (T.pt L i).1)) ∧ Below w.heap.size w w1) from ⟨⟨q1, q2, q3⟩, b1⟩)
  clear q1 q2 q3 b1 HF
  go_wp2_with fail
  go_ret
  exact ⟨⟨g1, c1, cur, rfl, HQ.out.1⟩, HQ.out.2⟩
theorem KeepT.over {a b : Nat} {W W1 W2 : World} (h : Below W.heap.size W W1) (k : KeepT b W1 W2) (hb : W.heap.size ≤ b) : KeepT a W W2 :=
  ⟨Nat.le_trans h.size k.size, fun j hj _ ht => by
    have e := h.block j hj
    exact (k.block j (Nat.lt_of_lt_of_le hj h.size) (by omega) (fun c fr => by rw [e]; exact ht c fr)).trans e⟩
set_option maxRecDepth 100000 in
set_option maxHeartbeats 4000000 in
theorem putD_any {L : List Nd} {B gp op cp : Nat} (hr : T.Rt L) (hT : ∀ n ∈ L, n.tx.size ≤ 140737488355328) (hw : ∀ n ∈ L, NdW n) (W : World) (l : List UInt8) (v : Value) (hn : T.NdL W gp op L) (lp : gp < B) (hB : B ≤ W.heap.size) (hf : Bf W B (some l) v) :
    Calls Tryz.prog 31 #[v, .slice (some ⟨gp, op, none⟩) L.length cp] W fun e W' => ∃ v', e = .returned (.tuple #[v', .bool (adT (some l) (itT (shI L))).isSome]) ∧ Bf W' B (adT (some l) (itT (shI L))) v' ∧ Below B W W' ∧ KeepT W.heap.size W W' := by
  have hL : L.length ≤ 2048 := by have := hr.len; omega
  have h0 := rt_pos hr
  obtain ⟨k, hk⟩ : ∃ k, k + 1 = L.length := ⟨L.length - 1, by omega⟩
  have ek : L.length - 1 = k := by omega
  have es : (L.length : Int) - 1 = (k : Int) := by omega
  obtain ⟨A, n, c, rfl, hnn⟩ := hf.n
  have HBg : Hid (∀ _ : Unit, Calls Tryz.prog 33 #[.slice (some ⟨gp, op, none⟩) L.length cp] W fun e w' => (∃ g1 c1 cur, e = .returned (.slice (some ⟨g1, 0, none⟩) L.length c1) ∧ W.heap.size ≤ g1 ∧ w'.heap[g1]? = some (.cells cur 3 (0, 0)) ∧ ∀ i, i < L.length → cur[i]? = some (.int .i64 (T.pt L i).1)) ∧ Below W.heap.size W w') := fun _ => beginsD_any L gp op cp hL hT hr.each h0 W (fun _ => ⟨gp, op, rfl, Nat.lt_of_lt_of_le lp hB, hn⟩)
  have HPart := (show Hid (∀ (W' : World) (tb g1 c1 : Nat), Dt W' B tb L gp op cp g1 c1 (some l) → Bf W' B (some l) (.slice A n c) → Calls Tryz.prog 53 #[.pointer (some ⟨tb, 0, none⟩), .slice A n c, .int .i64 k, .int .i64 0] W' fun e W'' => ∃ v', e = .returned v' ∧ Dq W' W'' B tb L gp op cp g1 c1 (adT (some l) (itT (shI L))) v') from fun W' tb g1 c1 hd hff => by
    have h := partD_all (B := B) (tb := tb) (gp := gp) (op := op) (cp := cp) (g1 := g1) (c1 := c1) hr.each hw hL (k + 1) k (by omega) (by omega) 0 W' (some l) (.slice A n c) hd hff
    rw [part_zero] at h
    rw [sh_last h0, ek]
    exact h)
  have HN := (show Hid (T.NdL W gp op L ∧ Bf W B (some l) (.slice A n c)) from ⟨hn, hf⟩)
  clear hn hf hr hT hw ek h0
  generalize adT (some l) (itT (shI L)) = y at *
  go_enter Tryz.func31, Tryz.ntmps31
  go_wp2_with fail
  refine (HBg.out ()).mono ?_
  rintro e w1 ⟨⟨g1, c1, cur, rfl, q1, q2, q3⟩, b1⟩
  have HD := (show Hid _ from tel_new (cp := cp) (c1 := c1) HN.out.1 lp hB HN.out.2 q1 q2 q3 b1)
  have hs1 := b1.size
  clear q1 q2 q3 b1 HBg HN
  go_wp2_with fail
  refine (HPart.out _ _ _ _ HD.out.1 HD.out.2.1).mono ?_
  rintro e w2 ⟨v', rfl, q⟩
  have e2 := q.d.c2
  have HQ := (show Hid (Bf w2 B y v' ∧ Below B W w2 ∧ KeepT W.heap.size W w2) from ⟨q.f, (HD.out.2.2.mono hB).trans q.bl, KeepT.over HD.out.2.2 q.k hs1⟩)
  obtain ⟨A', n', c', rfl, _⟩ := q.f.n
  clear q HD HPart
  go_wp2_with fail
  go_quiet (fail)
  have HQ2 := (show Hid _ from And.intro (HQ.out.1.later (T.below_drewN (Below.refl _ _) nq)) (And.intro (T.below_drewN HQ.out.2.1 nq) (KeepT.trans HQ.out.2.2 (KeepT.below (T.below_drewN (Below.refl _ _) nq)))))
  generalize w2.drewN nq = w3 at *
  clear HQ e2
  go_wp2_with fail
  go_ret2
  exact ⟨_, rfl, HQ2.out⟩
set_option maxRecDepth 100000 in
set_option maxHeartbeats 4000000 in
theorem patD_any (L : List Nd) (Ap : Option Addr) (cp : Nat) (hL : L.length ≤ 140737488355328) (hT : ∀ n ∈ L, n.tx.size ≤ 140737488355328) (hw : ∀ n ∈ L, NdW n) (w : World) (hp : T.RdN w Ap L) :
    Calls Tryz.prog 10 #[.slice Ap L.length cp] w fun e w' => e = .returned (.tuple #[.string (shR L).1, .int .i64 (shR L).2]) ∧ Below w.heap.size w w' := by
  have HC : Hid (∀ _ : Unit, Calls Tryz.prog 30 #[.slice Ap L.length cp] w fun e w' => e = .returned (.tuple #[.int .i64 (T.ck L).1, .int .i64 (T.ck L).2]) ∧ Below w.heap.size w w') := fun _ => T.checkR_any L Ap cp hL hT w hp
  by_cases hc : (T.ck L).2 = 0
  · have hr := T.rt_of hc
    have t0 : ((T.ck L).2 != 0) = false := by rw [hc]; rfl
    obtain ⟨gp, op, rfl, lp, hn⟩ := hp (by rintro rfl; have := rt_pos hr; simp at this)
    have HPut : Hid (∀ w1, Below w.heap.size w w1 → Calls Tryz.prog 31 #[.slice none 0 0, .slice (some ⟨gp, op, none⟩) L.length cp] w1 fun e W' => ∃ v', e = .returned (.tuple #[v', .bool (adT (some []) (itT (shI L))).isSome]) ∧ Bf W' w1.heap.size (adT (some []) (itT (shI L))) v' ∧ Below w.heap.size w W') := fun w1 hb => by
      refine (putD_any hr hT hw w1 [] (.slice none 0 0) (hn.same (hb.block gp lp)) (Nat.lt_of_lt_of_le lp hb.size) (Nat.le_refl _) ⟨fun l hl => by cases hl; exact ⟨World.ownsRow_nil _ _ _ _, by decide⟩, ⟨none, 0, 0, rfl, by decide⟩, [], World.ownsRow_nil _ _ _ _, by decide⟩).mono ?_
      rintro e W' ⟨v', rfl, h1, h2, _⟩
      exact ⟨v', rfl, h1, hb.trans (h2.mono hb.size)⟩
    have HE := (show Hid (shR L = lnR (itT (shI L))) from by show shR L = _; unfold shR; rw [if_pos hc])
    clear hr hw hp hc hT hn
    generalize (T.ck L).2 = cc at *
    generalize (T.ck L).1 = c1 at *
    generalize itT (shI L) = X at *
    by_cases hx : 65536 < X.length
    · have HA := (show Hid (adT (some []) X = none ∧ lnR X = (⟨#[]⟩, 2)) from ⟨adT_long (by show 65536 < 0 + _; omega), by unfold lnR; rw [if_pos hx]⟩)
      rw [HA.out.1] at HPut
      clear hx
      go_enter Tryz.func10, Tryz.ntmps10
      go_wp2_with fail
      refine (HC.out ()).mono ?_
      rintro e w1 ⟨rfl, b1⟩
      have HB1 := (show Hid (Below w.heap.size w w1) from b1)
      clear b1 HC
      go_wp2_with fail
      refine (HPut.out w1 HB1.out).mono ?_
      rintro e w2 ⟨v', rfl, hf, b2⟩
      obtain ⟨A', n', c', rfl, _⟩ := hf.n
      have HB2 := (show Hid _ from b2)
      clear b2 hf HPut HB1
      go_wp2_with fail
      go_ret2
      exact ⟨by rw [HE.out, HA.out.2]; rfl, HB2.out⟩
    · have HA := (show Hid (adT (some []) X = some X ∧ lnR X = (txO X, 0)) from ⟨adT_ok (by show ¬ 65536 < 0 + _; omega), by unfold lnR; rw [if_neg hx]⟩)
      rw [HA.out.1] at HPut
      have hsz : (txO X).size ≤ 65536 := by rw [← dlen]; show X.toArray.toList.length ≤ _; rw [List.toList_toArray]; omega
      clear hx
      go_enter Tryz.func10, Tryz.ntmps10
      go_wp2_with fail
      refine (HC.out ()).mono ?_
      rintro e w1 ⟨rfl, b1⟩
      have HB1 := (show Hid (Below w.heap.size w w1) from b1)
      clear b1 HC
      go_wp2_with fail
      refine (HPut.out w1 HB1.out).mono ?_
      rintro e w2 ⟨v', rfl, hf, b2⟩
      have hct := text_bytes (hf.s X rfl).1
      obtain ⟨A', n', c', rfl, _⟩ := hf.n
      have HB2 := (show Hid _ from b2)
      clear b2 hf HPut HB1
      generalize txO X = Y at *
      go_wp2_with fail
      go_ret2
      exact ⟨by rw [HE.out, HA.out.2]; rfl, HB2.out⟩
  · have t0 : ((T.ck L).2 != 0) = true := by rw [bne, beq_eq_false_iff_ne.2 hc]; rfl
    have HE := (show Hid (shR L = (⟨#[]⟩, (T.ck L).2)) from by show shR L = _; unfold shR; rw [if_neg hc])
    clear hp hT hw hc
    generalize (T.ck L).2 = cc at *
    generalize (T.ck L).1 = c1 at *
    go_enter Tryz.func10, Tryz.ntmps10
    go_wp2_with fail
    refine (HC.out ()).mono ?_
    rintro e w1 ⟨rfl, b1⟩
    have HB1 := (show Hid _ from b1)
    clear b1 HC
    go_wp2_with fail
    go_ret2
    exact ⟨by rw [HE.out]; rfl, HB1.out⟩
end Go.Proofs.YtnpifgcgjgddoaaGreatDoor.N

namespace Go.Proofs.YtnpifgcgjgddoaaGreatDoor.N
open Go.RowKit
/-- The document's words, in an array of their own. -/
def wdA : Array Value := #[.string ⟨#[]⟩, .string ⟨#[101, 109, 112, 116, 121]⟩, .string ⟨#[102, 97, 105, 108]⟩, .string ⟨#[97, 110, 121]⟩, .string ⟨#[116, 101, 120, 116]⟩, .string ⟨#[115, 101, 116]⟩, .string ⟨#[99, 97, 108, 108]⟩, .string ⟨#[115, 101, 113]⟩, .string ⟨#[99, 104, 111, 105, 99, 101]⟩, .string ⟨#[115, 116, 97, 114]⟩, .string ⟨#[112, 108, 117, 115]⟩, .string ⟨#[111, 112, 116]⟩, .string ⟨#[97, 110, 100]⟩, .string ⟨#[110, 111, 116]⟩, .string ⟨#[116, 105, 109, 101, 115]⟩, .string ⟨#[108, 101, 97, 115, 116]⟩, .string ⟨#[109, 111, 115, 116]⟩, .string ⟨#[112, 108, 97, 99, 101]⟩, .string ⟨#[115, 117, 98]⟩, .string ⟨#[103, 114, 111, 117, 112]⟩, .string ⟨#[108, 105, 115, 116]⟩, .string ⟨#[115, 117, 98, 115, 116]⟩, .string ⟨#[115, 116, 114, 105, 110, 103]⟩, .string ⟨#[112, 105, 99, 107]⟩]
def wdO : Array (Nat × Operand) := #[(0, .const (.string ⟨#[]⟩)), (1, .const (.string ⟨#[101, 109, 112, 116, 121]⟩)), (2, .const (.string ⟨#[102, 97, 105, 108]⟩)), (3, .const (.string ⟨#[97, 110, 121]⟩)), (4, .const (.string ⟨#[116, 101, 120, 116]⟩)), (5, .const (.string ⟨#[115, 101, 116]⟩)), (6, .const (.string ⟨#[99, 97, 108, 108]⟩)), (7, .const (.string ⟨#[115, 101, 113]⟩)), (8, .const (.string ⟨#[99, 104, 111, 105, 99, 101]⟩)), (9, .const (.string ⟨#[115, 116, 97, 114]⟩)), (10, .const (.string ⟨#[112, 108, 117, 115]⟩)), (11, .const (.string ⟨#[111, 112, 116]⟩)), (12, .const (.string ⟨#[97, 110, 100]⟩)), (13, .const (.string ⟨#[110, 111, 116]⟩)), (14, .const (.string ⟨#[116, 105, 109, 101, 115]⟩)), (15, .const (.string ⟨#[108, 101, 97, 115, 116]⟩)), (16, .const (.string ⟨#[109, 111, 115, 116]⟩)), (17, .const (.string ⟨#[112, 108, 97, 99, 101]⟩)), (18, .const (.string ⟨#[115, 117, 98]⟩)), (19, .const (.string ⟨#[103, 114, 111, 117, 112]⟩)), (20, .const (.string ⟨#[108, 105, 115, 116]⟩)), (21, .const (.string ⟨#[115, 117, 98, 115, 116]⟩)), (22, .const (.string ⟨#[115, 116, 114, 105, 110, 103]⟩)), (23, .const (.string ⟨#[112, 105, 99, 107]⟩))]
theorem wd_build (a : Act) (w : World) : (Instr.build 131 (wdO.map fun (i, x) => (i, a.eval x))).run Tryz.prog w = .ok (.agg wdA) w := by kernel_rfl
theorem wd_alloc (w : World) : (Instr.alloc 131 true (.tuple #[])).run Tryz.prog w = .ok (.pointer (some ⟨w.heap.size, 0, none⟩)) (w.alloc (.cells (Array.replicate 24 (.string ⟨#[]⟩)) 131)) := by kernel_rfl
theorem wd_store (w : World) : (Instr.storeAt 131 (.pointer (some ⟨w.heap.size, 0, none⟩)) (.agg wdA)).run Tryz.prog (w.alloc (.cells (Array.replicate 24 (.string ⟨#[]⟩)) 131)) = .ok () (w.alloc (.cells wdA 131)) := run_storeAt_new w 131 _ wdA (by kernel_rfl) rfl (by kernel_rfl)
theorem wpList_wdb {ops : Array Oper} {rest : List Oper} {op : Oper} {a : Act} {w : World} {Q : Exit → Act → World → Prop} (hgd : op.guard = none) (ho : op.op = .build 131 wdO)
    (h : wpList Tryz.prog ops Q rest (a.put op.dst (.agg wdA)) w) : wpList Tryz.prog ops Q (op :: rest) a w :=
  wpList_plain hgd fun K hK => by
    unfold Oper.wp execOp
    simp only [ho, Sem.run_bind, wd_build, Result.andThen_ok]
    exact hK _ _ h
theorem wpList_wda {ops : Array Oper} {rest : List Oper} {op : Oper} {a : Act} {w : World} {Q : Exit → Act → World → Prop} (hgd : op.guard = none) (ho : op.op = .alloc 131)
    (h : wpList Tryz.prog ops Q rest (a.put op.dst (.pointer (some ⟨w.heap.size, 0, none⟩))) (w.alloc (.cells (Array.replicate 24 (.string ⟨#[]⟩)) 131))) : wpList Tryz.prog ops Q (op :: rest) a w :=
  wpList_plain hgd fun K hK => by
    unfold Oper.wp execOp
    simp only [ho, Sem.run_bind, wd_alloc, Result.andThen_ok]
    exact hK _ _ h
theorem wpList_wds {ops : Array Oper} {rest : List Oper} {op : Oper} {a : Act} {w : World} {Q : Exit → Act → World → Prop} (hgd : op.guard = none) (x y : Operand) (ho : op.op = .store 131 x y)
    (hx : a.eval x = .pointer (some ⟨w.heap.size, 0, none⟩)) (hy : a.eval y = .agg wdA)
    (h : wpList Tryz.prog ops Q rest (a.put op.dst undef) (w.alloc (.cells wdA 131))) : wpList Tryz.prog ops Q (op :: rest) a (w.alloc (.cells (Array.replicate 24 (.string ⟨#[]⟩)) 131)) :=
  wpList_plain hgd fun K hK => by
    unfold Oper.wp execOp
    simp only [ho, hx, hy, Sem.run_bind, wd_store, Result.andThen_ok]
    exact hK _ _ h
theorem wd_get (k : Nat) (h1 : 1 ≤ k) (h2 : k ≤ 23) : wdA[k]? = some (.string (txO (wdT k))) := by
  match k, h1, h2 with
  | 1, _, _ => rfl
  | 2, _, _ => rfl
  | 3, _, _ => rfl
  | 4, _, _ => rfl
  | 5, _, _ => rfl
  | 6, _, _ => rfl
  | 7, _, _ => rfl
  | 8, _, _ => rfl
  | 9, _, _ => rfl
  | 10, _, _ => rfl
  | 11, _, _ => rfl
  | 12, _, _ => rfl
  | 13, _, _ => rfl
  | 14, _, _ => rfl
  | 15, _, _ => rfl
  | 16, _, _ => rfl
  | 17, _, _ => rfl
  | 18, _, _ => rfl
  | 19, _, _ => rfl
  | 20, _, _ => rfl
  | 21, _, _ => rfl
  | 22, _, _ => rfl
  | 23, _, _ => rfl
  | n + 24, _, h => omega
set_option maxRecDepth 100000 in
set_option maxHeartbeats 4000000 in
theorem word_any (k : Nat) (h1 : 1 ≤ k) (h2 : k ≤ 23) (w : World) : Calls Tryz.prog 79 #[.int .i64 k] w fun e w' => e = .returned (.string (txO (wdT k))) ∧ Below w.heap.size w w' := by
  obtain ⟨w1, hw1⟩ : ∃ w1, w1 = w.alloc (.cells wdA 131) := ⟨_, rfl⟩
  have hc : w1.cell? ⟨w.heap.size, k, none⟩ = some (.string (txO (wdT k))) := by
    rw [hw1, cell_of_row _ w.heap.size k _ 131 (0, 0) (heap_alloc_new w _)]
    exact wd_get k h1 h2
  have HB := (show Hid (Below w.heap.size w w1) from by rw [hw1]; exact below_box _ _)
  have HE := (show Hid (w.alloc (.cells wdA 131) = w1) from hw1.symm)
  have z0 : (0 : Int) ≤ (k : Int) := by omega
  have z1 : (k : Int) < 24 := by omega
  clear h1 h2 hw1
  generalize txO (wdT k) = tx at *
  go_enter Tryz.func79, Tryz.ntmps79
  go_wp2_with (first | refine wpList_wdb rfl rfl ?_ | refine wpList_wda rfl rfl ?_ | (refine wpList_wds rfl _ _ rfl rfl rfl ?_; rw [HE.out]))
  go_ret
  exact ⟨rfl, HB.out⟩
set_option maxRecDepth 100000 in
set_option maxHeartbeats 4000000 in
theorem lnD_1 (nn : Int) (tx : ByteArray) (a b c d : Int) (D : ByteArray) (_hDs : D.size ≤ 100) (hD : ∀ w, Calls Tryz.prog 79 #[.int .i64 1] w fun e w' => e = .returned (.string D) ∧ Below w.heap.size w w') (w : World) : Calls Tryz.prog 56 #[.agg #[.int .i64 1, .int .i64 nn, .string tx, .int .u64 a, .int .u64 b, .int .u64 c, .int .u64 d]] w fun e w' => e = .returned (.string D) ∧ Below w.heap.size w w' := by
  have HW : Hid (∀ w, Calls Tryz.prog 79 #[.int .i64 1] w fun e w' => e = .returned (.string D) ∧ Below w.heap.size w w') := fun w => hD w
  have HB := (show Hid _ from below_box w (.cells #[.int .i64 1, .int .i64 nn, .string tx, .int .u64 a, .int .u64 b, .int .u64 c, .int .u64 d] 51))
  obtain ⟨w0, hw0⟩ : ∃ w0, w0 = w.alloc (.cells #[.int .i64 1, .int .i64 nn, .string tx, .int .u64 a, .int .u64 b, .int .u64 c, .int .u64 d] 51) := ⟨_, rfl⟩
  have HE0 := (show Hid (w.alloc (.cells #[.int .i64 1, .int .i64 nn, .string tx, .int .u64 a, .int .u64 b, .int .u64 c, .int .u64 d] 51) = w0) from hw0.symm)
  have HX := (show Hid (∀ W', Below w0.heap.size w0 W' → ∀ j, W'.cell? ⟨w.heap.size, j, none⟩ = (#[.int .i64 1, .int .i64 nn, .string tx, .int .u64 a, .int .u64 b, .int .u64 c, .int .u64 d] : Array Value)[j]?) from fun W' hb j => by
    rw [cell_of_row W' w.heap.size j _ 51 (0, 0) ((hb.block _ (by rw [hw0, World.size_alloc]; omega)).trans (by rw [hw0]; exact heap_alloc_new w _))])
  rw [hw0.symm] at HB
  have x0 : w0.cell? ⟨w.heap.size, 0, none⟩ = some (.int .i64 1) := HX.out w0 (Below.refl _ _) 0
  clear hD hw0
  go_enter Tryz.func56, Tryz.ntmps56
  go_wp2_with (rw [HE0.out])
  refine (HW.out _).mono ?_
  rintro e w1 ⟨rfl, b1⟩
  have HB1 := (show Hid _ from b1)
  have g0 : w1.cell? ⟨w.heap.size, 0, none⟩ = some (.int .i64 1) := HX.out w1 b1 0
  have g1 : w1.cell? ⟨w.heap.size, 1, none⟩ = some (.int .i64 nn) := HX.out w1 b1 1
  have g2 : w1.cell? ⟨w.heap.size, 2, none⟩ = some (.string tx) := HX.out w1 b1 2
  have g3 : w1.cell? ⟨w.heap.size, 3, none⟩ = some (.int .u64 a) := HX.out w1 b1 3
  have g4 : w1.cell? ⟨w.heap.size, 4, none⟩ = some (.int .u64 b) := HX.out w1 b1 4
  have g5 : w1.cell? ⟨w.heap.size, 5, none⟩ = some (.int .u64 c) := HX.out w1 b1 5
  have g6 : w1.cell? ⟨w.heap.size, 6, none⟩ = some (.int .u64 d) := HX.out w1 b1 6
  clear b1 HX HE0 HW x0
  go_wp2_with fail
  go_ret
  exact ⟨rfl, HB.out.trans (HB1.out.mono HB.out.size)⟩
set_option maxRecDepth 100000 in
set_option maxHeartbeats 4000000 in
theorem lnD_2 (nn : Int) (tx : ByteArray) (a b c d : Int) (D : ByteArray) (_hDs : D.size ≤ 100) (hD : ∀ w, Calls Tryz.prog 79 #[.int .i64 2] w fun e w' => e = .returned (.string D) ∧ Below w.heap.size w w') (w : World) : Calls Tryz.prog 56 #[.agg #[.int .i64 2, .int .i64 nn, .string tx, .int .u64 a, .int .u64 b, .int .u64 c, .int .u64 d]] w fun e w' => e = .returned (.string D) ∧ Below w.heap.size w w' := by
  have HW : Hid (∀ w, Calls Tryz.prog 79 #[.int .i64 2] w fun e w' => e = .returned (.string D) ∧ Below w.heap.size w w') := fun w => hD w
  have HB := (show Hid _ from below_box w (.cells #[.int .i64 2, .int .i64 nn, .string tx, .int .u64 a, .int .u64 b, .int .u64 c, .int .u64 d] 51))
  obtain ⟨w0, hw0⟩ : ∃ w0, w0 = w.alloc (.cells #[.int .i64 2, .int .i64 nn, .string tx, .int .u64 a, .int .u64 b, .int .u64 c, .int .u64 d] 51) := ⟨_, rfl⟩
  have HE0 := (show Hid (w.alloc (.cells #[.int .i64 2, .int .i64 nn, .string tx, .int .u64 a, .int .u64 b, .int .u64 c, .int .u64 d] 51) = w0) from hw0.symm)
  have HX := (show Hid (∀ W', Below w0.heap.size w0 W' → ∀ j, W'.cell? ⟨w.heap.size, j, none⟩ = (#[.int .i64 2, .int .i64 nn, .string tx, .int .u64 a, .int .u64 b, .int .u64 c, .int .u64 d] : Array Value)[j]?) from fun W' hb j => by
    rw [cell_of_row W' w.heap.size j _ 51 (0, 0) ((hb.block _ (by rw [hw0, World.size_alloc]; omega)).trans (by rw [hw0]; exact heap_alloc_new w _))])
  rw [hw0.symm] at HB
  have x0 : w0.cell? ⟨w.heap.size, 0, none⟩ = some (.int .i64 2) := HX.out w0 (Below.refl _ _) 0
  clear hD hw0
  go_enter Tryz.func56, Tryz.ntmps56
  go_wp2_with (rw [HE0.out])
  refine (HW.out _).mono ?_
  rintro e w1 ⟨rfl, b1⟩
  have HB1 := (show Hid _ from b1)
  have g0 : w1.cell? ⟨w.heap.size, 0, none⟩ = some (.int .i64 2) := HX.out w1 b1 0
  have g1 : w1.cell? ⟨w.heap.size, 1, none⟩ = some (.int .i64 nn) := HX.out w1 b1 1
  have g2 : w1.cell? ⟨w.heap.size, 2, none⟩ = some (.string tx) := HX.out w1 b1 2
  have g3 : w1.cell? ⟨w.heap.size, 3, none⟩ = some (.int .u64 a) := HX.out w1 b1 3
  have g4 : w1.cell? ⟨w.heap.size, 4, none⟩ = some (.int .u64 b) := HX.out w1 b1 4
  have g5 : w1.cell? ⟨w.heap.size, 5, none⟩ = some (.int .u64 c) := HX.out w1 b1 5
  have g6 : w1.cell? ⟨w.heap.size, 6, none⟩ = some (.int .u64 d) := HX.out w1 b1 6
  clear b1 HX HE0 HW x0
  go_wp2_with fail
  go_ret
  exact ⟨rfl, HB.out.trans (HB1.out.mono HB.out.size)⟩
set_option maxRecDepth 100000 in
set_option maxHeartbeats 4000000 in
theorem lnD_3 (nn : Int) (tx : ByteArray) (a b c d : Int) (D : ByteArray) (_hDs : D.size ≤ 100) (hD : ∀ w, Calls Tryz.prog 79 #[.int .i64 3] w fun e w' => e = .returned (.string D) ∧ Below w.heap.size w w') (w : World) : Calls Tryz.prog 56 #[.agg #[.int .i64 3, .int .i64 nn, .string tx, .int .u64 a, .int .u64 b, .int .u64 c, .int .u64 d]] w fun e w' => e = .returned (.string D) ∧ Below w.heap.size w w' := by
  have HW : Hid (∀ w, Calls Tryz.prog 79 #[.int .i64 3] w fun e w' => e = .returned (.string D) ∧ Below w.heap.size w w') := fun w => hD w
  have HB := (show Hid _ from below_box w (.cells #[.int .i64 3, .int .i64 nn, .string tx, .int .u64 a, .int .u64 b, .int .u64 c, .int .u64 d] 51))
  obtain ⟨w0, hw0⟩ : ∃ w0, w0 = w.alloc (.cells #[.int .i64 3, .int .i64 nn, .string tx, .int .u64 a, .int .u64 b, .int .u64 c, .int .u64 d] 51) := ⟨_, rfl⟩
  have HE0 := (show Hid (w.alloc (.cells #[.int .i64 3, .int .i64 nn, .string tx, .int .u64 a, .int .u64 b, .int .u64 c, .int .u64 d] 51) = w0) from hw0.symm)
  have HX := (show Hid (∀ W', Below w0.heap.size w0 W' → ∀ j, W'.cell? ⟨w.heap.size, j, none⟩ = (#[.int .i64 3, .int .i64 nn, .string tx, .int .u64 a, .int .u64 b, .int .u64 c, .int .u64 d] : Array Value)[j]?) from fun W' hb j => by
    rw [cell_of_row W' w.heap.size j _ 51 (0, 0) ((hb.block _ (by rw [hw0, World.size_alloc]; omega)).trans (by rw [hw0]; exact heap_alloc_new w _))])
  rw [hw0.symm] at HB
  have x0 : w0.cell? ⟨w.heap.size, 0, none⟩ = some (.int .i64 3) := HX.out w0 (Below.refl _ _) 0
  clear hD hw0
  go_enter Tryz.func56, Tryz.ntmps56
  go_wp2_with (rw [HE0.out])
  refine (HW.out _).mono ?_
  rintro e w1 ⟨rfl, b1⟩
  have HB1 := (show Hid _ from b1)
  have g0 : w1.cell? ⟨w.heap.size, 0, none⟩ = some (.int .i64 3) := HX.out w1 b1 0
  have g1 : w1.cell? ⟨w.heap.size, 1, none⟩ = some (.int .i64 nn) := HX.out w1 b1 1
  have g2 : w1.cell? ⟨w.heap.size, 2, none⟩ = some (.string tx) := HX.out w1 b1 2
  have g3 : w1.cell? ⟨w.heap.size, 3, none⟩ = some (.int .u64 a) := HX.out w1 b1 3
  have g4 : w1.cell? ⟨w.heap.size, 4, none⟩ = some (.int .u64 b) := HX.out w1 b1 4
  have g5 : w1.cell? ⟨w.heap.size, 5, none⟩ = some (.int .u64 c) := HX.out w1 b1 5
  have g6 : w1.cell? ⟨w.heap.size, 6, none⟩ = some (.int .u64 d) := HX.out w1 b1 6
  clear b1 HX HE0 HW x0
  go_wp2_with fail
  go_ret
  exact ⟨rfl, HB.out.trans (HB1.out.mono HB.out.size)⟩
set_option maxRecDepth 100000 in
set_option maxHeartbeats 4000000 in
theorem lnD_4 (nn : Int) (tx : ByteArray) (a b c d : Int) (D : ByteArray) (hDs : D.size ≤ 100) (hD : ∀ w, Calls Tryz.prog 79 #[.int .i64 4] w fun e w' => e = .returned (.string D) ∧ Below w.heap.size w w') (Y : ByteArray) (hYs : Y.size ≤ 3000) (hY : ∀ w, Calls Tryz.prog 80 #[.string tx] w fun e w' => e = .returned (.string Y) ∧ Below w.heap.size w w') (w : World) : Calls Tryz.prog 56 #[.agg #[.int .i64 4, .int .i64 nn, .string tx, .int .u64 a, .int .u64 b, .int .u64 c, .int .u64 d]] w fun e w' => e = .returned (.string (D ++ ⟨#[32]⟩ ++ Y)) ∧ Below w.heap.size w w' := by
  have HY := (show Hid _ from hY)
  have q1 : ¬ 9223372036854775807 < D.size + 1 := by omega
  have q2 : ¬ 9223372036854775807 < D.size + 1 + Y.size := by omega
  clear hY hYs hDs
  have HW : Hid (∀ w, Calls Tryz.prog 79 #[.int .i64 4] w fun e w' => e = .returned (.string D) ∧ Below w.heap.size w w') := fun w => hD w
  have HB := (show Hid _ from below_box w (.cells #[.int .i64 4, .int .i64 nn, .string tx, .int .u64 a, .int .u64 b, .int .u64 c, .int .u64 d] 51))
  obtain ⟨w0, hw0⟩ : ∃ w0, w0 = w.alloc (.cells #[.int .i64 4, .int .i64 nn, .string tx, .int .u64 a, .int .u64 b, .int .u64 c, .int .u64 d] 51) := ⟨_, rfl⟩
  have HE0 := (show Hid (w.alloc (.cells #[.int .i64 4, .int .i64 nn, .string tx, .int .u64 a, .int .u64 b, .int .u64 c, .int .u64 d] 51) = w0) from hw0.symm)
  have HX := (show Hid (∀ W', Below w0.heap.size w0 W' → ∀ j, W'.cell? ⟨w.heap.size, j, none⟩ = (#[.int .i64 4, .int .i64 nn, .string tx, .int .u64 a, .int .u64 b, .int .u64 c, .int .u64 d] : Array Value)[j]?) from fun W' hb j => by
    rw [cell_of_row W' w.heap.size j _ 51 (0, 0) ((hb.block _ (by rw [hw0, World.size_alloc]; omega)).trans (by rw [hw0]; exact heap_alloc_new w _))])
  rw [hw0.symm] at HB
  have x0 : w0.cell? ⟨w.heap.size, 0, none⟩ = some (.int .i64 4) := HX.out w0 (Below.refl _ _) 0
  clear hD hw0
  go_enter Tryz.func56, Tryz.ntmps56
  go_wp2_with (rw [HE0.out])
  refine (HW.out _).mono ?_
  rintro e w1 ⟨rfl, b1⟩
  have HB1 := (show Hid _ from b1)
  have g0 : w1.cell? ⟨w.heap.size, 0, none⟩ = some (.int .i64 4) := HX.out w1 b1 0
  have g1 : w1.cell? ⟨w.heap.size, 1, none⟩ = some (.int .i64 nn) := HX.out w1 b1 1
  have g2 : w1.cell? ⟨w.heap.size, 2, none⟩ = some (.string tx) := HX.out w1 b1 2
  have g3 : w1.cell? ⟨w.heap.size, 3, none⟩ = some (.int .u64 a) := HX.out w1 b1 3
  have g4 : w1.cell? ⟨w.heap.size, 4, none⟩ = some (.int .u64 b) := HX.out w1 b1 4
  have g5 : w1.cell? ⟨w.heap.size, 5, none⟩ = some (.int .u64 c) := HX.out w1 b1 5
  have g6 : w1.cell? ⟨w.heap.size, 6, none⟩ = some (.int .u64 d) := HX.out w1 b1 6
  clear b1 HX HE0 HW x0
  go_wp2_with fail
  refine (HY.out _).mono ?_
  rintro e w2 ⟨rfl, b2⟩
  have HB2 := (show Hid _ from HB1.out.trans (b2.mono HB1.out.size))
  clear b2 HY HB1 g0 g1 g2 g3 g4 g5 g6
  go_wp2_with fail
  go_ret
  exact ⟨rfl, HB.out.trans (HB2.out.mono HB.out.size)⟩
set_option maxRecDepth 100000 in
set_option maxHeartbeats 4000000 in
theorem lnD_5 (nn : Int) (tx : ByteArray) (a b c d : Int) (D : ByteArray) (hDs : D.size ≤ 100) (hD : ∀ w, Calls Tryz.prog 79 #[.int .i64 5] w fun e w' => e = .returned (.string D) ∧ Below w.heap.size w w') (Y : ByteArray) (hYs : Y.size ≤ 3000) (hY : ∀ w, Calls Tryz.prog 81 #[.agg #[.int .u64 a, .int .u64 b, .int .u64 c, .int .u64 d]] w fun e w' => e = .returned (.string Y) ∧ Below w.heap.size w w') (w : World) : Calls Tryz.prog 56 #[.agg #[.int .i64 5, .int .i64 nn, .string tx, .int .u64 a, .int .u64 b, .int .u64 c, .int .u64 d]] w fun e w' => e = .returned (.string (D ++ ⟨#[32]⟩ ++ Y)) ∧ Below w.heap.size w w' := by
  have HY := (show Hid _ from hY)
  have q1 : ¬ 9223372036854775807 < D.size + 1 := by omega
  have q2 : ¬ 9223372036854775807 < D.size + 1 + Y.size := by omega
  clear hY hYs hDs
  have HW : Hid (∀ w, Calls Tryz.prog 79 #[.int .i64 5] w fun e w' => e = .returned (.string D) ∧ Below w.heap.size w w') := fun w => hD w
  have HB := (show Hid _ from below_box w (.cells #[.int .i64 5, .int .i64 nn, .string tx, .int .u64 a, .int .u64 b, .int .u64 c, .int .u64 d] 51))
  obtain ⟨w0, hw0⟩ : ∃ w0, w0 = w.alloc (.cells #[.int .i64 5, .int .i64 nn, .string tx, .int .u64 a, .int .u64 b, .int .u64 c, .int .u64 d] 51) := ⟨_, rfl⟩
  have HE0 := (show Hid (w.alloc (.cells #[.int .i64 5, .int .i64 nn, .string tx, .int .u64 a, .int .u64 b, .int .u64 c, .int .u64 d] 51) = w0) from hw0.symm)
  have HX := (show Hid (∀ W', Below w0.heap.size w0 W' → ∀ j, W'.cell? ⟨w.heap.size, j, none⟩ = (#[.int .i64 5, .int .i64 nn, .string tx, .int .u64 a, .int .u64 b, .int .u64 c, .int .u64 d] : Array Value)[j]?) from fun W' hb j => by
    rw [cell_of_row W' w.heap.size j _ 51 (0, 0) ((hb.block _ (by rw [hw0, World.size_alloc]; omega)).trans (by rw [hw0]; exact heap_alloc_new w _))])
  rw [hw0.symm] at HB
  have x0 : w0.cell? ⟨w.heap.size, 0, none⟩ = some (.int .i64 5) := HX.out w0 (Below.refl _ _) 0
  clear hD hw0
  go_enter Tryz.func56, Tryz.ntmps56
  go_wp2_with (rw [HE0.out])
  refine (HW.out _).mono ?_
  rintro e w1 ⟨rfl, b1⟩
  have HB1 := (show Hid _ from b1)
  have g0 : w1.cell? ⟨w.heap.size, 0, none⟩ = some (.int .i64 5) := HX.out w1 b1 0
  have g1 : w1.cell? ⟨w.heap.size, 1, none⟩ = some (.int .i64 nn) := HX.out w1 b1 1
  have g2 : w1.cell? ⟨w.heap.size, 2, none⟩ = some (.string tx) := HX.out w1 b1 2
  have g3 : w1.cell? ⟨w.heap.size, 3, none⟩ = some (.int .u64 a) := HX.out w1 b1 3
  have g4 : w1.cell? ⟨w.heap.size, 4, none⟩ = some (.int .u64 b) := HX.out w1 b1 4
  have g5 : w1.cell? ⟨w.heap.size, 5, none⟩ = some (.int .u64 c) := HX.out w1 b1 5
  have g6 : w1.cell? ⟨w.heap.size, 6, none⟩ = some (.int .u64 d) := HX.out w1 b1 6
  clear b1 HX HE0 HW x0
  go_wp2_with fail
  refine (HY.out _).mono ?_
  rintro e w2 ⟨rfl, b2⟩
  have HB2 := (show Hid _ from HB1.out.trans (b2.mono HB1.out.size))
  clear b2 HY HB1 g0 g1 g2 g3 g4 g5 g6
  go_wp2_with fail
  go_ret
  exact ⟨rfl, HB.out.trans (HB2.out.mono HB.out.size)⟩
set_option maxRecDepth 100000 in
set_option maxHeartbeats 4000000 in
theorem lnD_6 (nn : Int) (tx : ByteArray) (a b c d : Int) (D : ByteArray) (hDs : D.size ≤ 100) (hD : ∀ w, Calls Tryz.prog 79 #[.int .i64 6] w fun e w' => e = .returned (.string D) ∧ Below w.heap.size w w') (hY : tx.size ≤ 32) (w : World) : Calls Tryz.prog 56 #[.agg #[.int .i64 6, .int .i64 nn, .string tx, .int .u64 a, .int .u64 b, .int .u64 c, .int .u64 d]] w fun e w' => e = .returned (.string (D ++ ⟨#[32]⟩ ++ tx)) ∧ Below w.heap.size w w' := by
  have q1 : ¬ 9223372036854775807 < D.size + 1 := by omega
  have q2 : ¬ 9223372036854775807 < D.size + 1 + tx.size := by omega
  clear hY hDs
  have HW : Hid (∀ w, Calls Tryz.prog 79 #[.int .i64 6] w fun e w' => e = .returned (.string D) ∧ Below w.heap.size w w') := fun w => hD w
  have HB := (show Hid _ from below_box w (.cells #[.int .i64 6, .int .i64 nn, .string tx, .int .u64 a, .int .u64 b, .int .u64 c, .int .u64 d] 51))
  obtain ⟨w0, hw0⟩ : ∃ w0, w0 = w.alloc (.cells #[.int .i64 6, .int .i64 nn, .string tx, .int .u64 a, .int .u64 b, .int .u64 c, .int .u64 d] 51) := ⟨_, rfl⟩
  have HE0 := (show Hid (w.alloc (.cells #[.int .i64 6, .int .i64 nn, .string tx, .int .u64 a, .int .u64 b, .int .u64 c, .int .u64 d] 51) = w0) from hw0.symm)
  have HX := (show Hid (∀ W', Below w0.heap.size w0 W' → ∀ j, W'.cell? ⟨w.heap.size, j, none⟩ = (#[.int .i64 6, .int .i64 nn, .string tx, .int .u64 a, .int .u64 b, .int .u64 c, .int .u64 d] : Array Value)[j]?) from fun W' hb j => by
    rw [cell_of_row W' w.heap.size j _ 51 (0, 0) ((hb.block _ (by rw [hw0, World.size_alloc]; omega)).trans (by rw [hw0]; exact heap_alloc_new w _))])
  rw [hw0.symm] at HB
  have x0 : w0.cell? ⟨w.heap.size, 0, none⟩ = some (.int .i64 6) := HX.out w0 (Below.refl _ _) 0
  clear hD hw0
  go_enter Tryz.func56, Tryz.ntmps56
  go_wp2_with (rw [HE0.out])
  refine (HW.out _).mono ?_
  rintro e w1 ⟨rfl, b1⟩
  have HB1 := (show Hid _ from b1)
  have g0 : w1.cell? ⟨w.heap.size, 0, none⟩ = some (.int .i64 6) := HX.out w1 b1 0
  have g1 : w1.cell? ⟨w.heap.size, 1, none⟩ = some (.int .i64 nn) := HX.out w1 b1 1
  have g2 : w1.cell? ⟨w.heap.size, 2, none⟩ = some (.string tx) := HX.out w1 b1 2
  have g3 : w1.cell? ⟨w.heap.size, 3, none⟩ = some (.int .u64 a) := HX.out w1 b1 3
  have g4 : w1.cell? ⟨w.heap.size, 4, none⟩ = some (.int .u64 b) := HX.out w1 b1 4
  have g5 : w1.cell? ⟨w.heap.size, 5, none⟩ = some (.int .u64 c) := HX.out w1 b1 5
  have g6 : w1.cell? ⟨w.heap.size, 6, none⟩ = some (.int .u64 d) := HX.out w1 b1 6
  clear b1 HX HE0 HW x0
  go_wp2_with fail
  go_ret
  exact ⟨rfl, HB.out.trans (HB1.out.mono HB.out.size)⟩
set_option maxRecDepth 100000 in
set_option maxHeartbeats 4000000 in
theorem lnD_7 (nn : Int) (tx : ByteArray) (a b c d : Int) (D : ByteArray) (_hDs : D.size ≤ 100) (hD : ∀ w, Calls Tryz.prog 79 #[.int .i64 7] w fun e w' => e = .returned (.string D) ∧ Below w.heap.size w w') (w : World) : Calls Tryz.prog 56 #[.agg #[.int .i64 7, .int .i64 nn, .string tx, .int .u64 a, .int .u64 b, .int .u64 c, .int .u64 d]] w fun e w' => e = .returned (.string D) ∧ Below w.heap.size w w' := by
  have HW : Hid (∀ w, Calls Tryz.prog 79 #[.int .i64 7] w fun e w' => e = .returned (.string D) ∧ Below w.heap.size w w') := fun w => hD w
  have HB := (show Hid _ from below_box w (.cells #[.int .i64 7, .int .i64 nn, .string tx, .int .u64 a, .int .u64 b, .int .u64 c, .int .u64 d] 51))
  obtain ⟨w0, hw0⟩ : ∃ w0, w0 = w.alloc (.cells #[.int .i64 7, .int .i64 nn, .string tx, .int .u64 a, .int .u64 b, .int .u64 c, .int .u64 d] 51) := ⟨_, rfl⟩
  have HE0 := (show Hid (w.alloc (.cells #[.int .i64 7, .int .i64 nn, .string tx, .int .u64 a, .int .u64 b, .int .u64 c, .int .u64 d] 51) = w0) from hw0.symm)
  have HX := (show Hid (∀ W', Below w0.heap.size w0 W' → ∀ j, W'.cell? ⟨w.heap.size, j, none⟩ = (#[.int .i64 7, .int .i64 nn, .string tx, .int .u64 a, .int .u64 b, .int .u64 c, .int .u64 d] : Array Value)[j]?) from fun W' hb j => by
    rw [cell_of_row W' w.heap.size j _ 51 (0, 0) ((hb.block _ (by rw [hw0, World.size_alloc]; omega)).trans (by rw [hw0]; exact heap_alloc_new w _))])
  rw [hw0.symm] at HB
  have x0 : w0.cell? ⟨w.heap.size, 0, none⟩ = some (.int .i64 7) := HX.out w0 (Below.refl _ _) 0
  clear hD hw0
  go_enter Tryz.func56, Tryz.ntmps56
  go_wp2_with (rw [HE0.out])
  refine (HW.out _).mono ?_
  rintro e w1 ⟨rfl, b1⟩
  have HB1 := (show Hid _ from b1)
  have g0 : w1.cell? ⟨w.heap.size, 0, none⟩ = some (.int .i64 7) := HX.out w1 b1 0
  have g1 : w1.cell? ⟨w.heap.size, 1, none⟩ = some (.int .i64 nn) := HX.out w1 b1 1
  have g2 : w1.cell? ⟨w.heap.size, 2, none⟩ = some (.string tx) := HX.out w1 b1 2
  have g3 : w1.cell? ⟨w.heap.size, 3, none⟩ = some (.int .u64 a) := HX.out w1 b1 3
  have g4 : w1.cell? ⟨w.heap.size, 4, none⟩ = some (.int .u64 b) := HX.out w1 b1 4
  have g5 : w1.cell? ⟨w.heap.size, 5, none⟩ = some (.int .u64 c) := HX.out w1 b1 5
  have g6 : w1.cell? ⟨w.heap.size, 6, none⟩ = some (.int .u64 d) := HX.out w1 b1 6
  clear b1 HX HE0 HW x0
  go_wp2_with fail
  go_ret
  exact ⟨rfl, HB.out.trans (HB1.out.mono HB.out.size)⟩
set_option maxRecDepth 100000 in
set_option maxHeartbeats 4000000 in
theorem lnD_8 (nn : Int) (tx : ByteArray) (a b c d : Int) (D : ByteArray) (_hDs : D.size ≤ 100) (hD : ∀ w, Calls Tryz.prog 79 #[.int .i64 8] w fun e w' => e = .returned (.string D) ∧ Below w.heap.size w w') (w : World) : Calls Tryz.prog 56 #[.agg #[.int .i64 8, .int .i64 nn, .string tx, .int .u64 a, .int .u64 b, .int .u64 c, .int .u64 d]] w fun e w' => e = .returned (.string D) ∧ Below w.heap.size w w' := by
  have HW : Hid (∀ w, Calls Tryz.prog 79 #[.int .i64 8] w fun e w' => e = .returned (.string D) ∧ Below w.heap.size w w') := fun w => hD w
  have HB := (show Hid _ from below_box w (.cells #[.int .i64 8, .int .i64 nn, .string tx, .int .u64 a, .int .u64 b, .int .u64 c, .int .u64 d] 51))
  obtain ⟨w0, hw0⟩ : ∃ w0, w0 = w.alloc (.cells #[.int .i64 8, .int .i64 nn, .string tx, .int .u64 a, .int .u64 b, .int .u64 c, .int .u64 d] 51) := ⟨_, rfl⟩
  have HE0 := (show Hid (w.alloc (.cells #[.int .i64 8, .int .i64 nn, .string tx, .int .u64 a, .int .u64 b, .int .u64 c, .int .u64 d] 51) = w0) from hw0.symm)
  have HX := (show Hid (∀ W', Below w0.heap.size w0 W' → ∀ j, W'.cell? ⟨w.heap.size, j, none⟩ = (#[.int .i64 8, .int .i64 nn, .string tx, .int .u64 a, .int .u64 b, .int .u64 c, .int .u64 d] : Array Value)[j]?) from fun W' hb j => by
    rw [cell_of_row W' w.heap.size j _ 51 (0, 0) ((hb.block _ (by rw [hw0, World.size_alloc]; omega)).trans (by rw [hw0]; exact heap_alloc_new w _))])
  rw [hw0.symm] at HB
  have x0 : w0.cell? ⟨w.heap.size, 0, none⟩ = some (.int .i64 8) := HX.out w0 (Below.refl _ _) 0
  clear hD hw0
  go_enter Tryz.func56, Tryz.ntmps56
  go_wp2_with (rw [HE0.out])
  refine (HW.out _).mono ?_
  rintro e w1 ⟨rfl, b1⟩
  have HB1 := (show Hid _ from b1)
  have g0 : w1.cell? ⟨w.heap.size, 0, none⟩ = some (.int .i64 8) := HX.out w1 b1 0
  have g1 : w1.cell? ⟨w.heap.size, 1, none⟩ = some (.int .i64 nn) := HX.out w1 b1 1
  have g2 : w1.cell? ⟨w.heap.size, 2, none⟩ = some (.string tx) := HX.out w1 b1 2
  have g3 : w1.cell? ⟨w.heap.size, 3, none⟩ = some (.int .u64 a) := HX.out w1 b1 3
  have g4 : w1.cell? ⟨w.heap.size, 4, none⟩ = some (.int .u64 b) := HX.out w1 b1 4
  have g5 : w1.cell? ⟨w.heap.size, 5, none⟩ = some (.int .u64 c) := HX.out w1 b1 5
  have g6 : w1.cell? ⟨w.heap.size, 6, none⟩ = some (.int .u64 d) := HX.out w1 b1 6
  clear b1 HX HE0 HW x0
  go_wp2_with fail
  go_ret
  exact ⟨rfl, HB.out.trans (HB1.out.mono HB.out.size)⟩
set_option maxRecDepth 100000 in
set_option maxHeartbeats 4000000 in
theorem lnD_9 (nn : Int) (tx : ByteArray) (a b c d : Int) (D : ByteArray) (_hDs : D.size ≤ 100) (hD : ∀ w, Calls Tryz.prog 79 #[.int .i64 9] w fun e w' => e = .returned (.string D) ∧ Below w.heap.size w w') (w : World) : Calls Tryz.prog 56 #[.agg #[.int .i64 9, .int .i64 nn, .string tx, .int .u64 a, .int .u64 b, .int .u64 c, .int .u64 d]] w fun e w' => e = .returned (.string D) ∧ Below w.heap.size w w' := by
  have HW : Hid (∀ w, Calls Tryz.prog 79 #[.int .i64 9] w fun e w' => e = .returned (.string D) ∧ Below w.heap.size w w') := fun w => hD w
  have HB := (show Hid _ from below_box w (.cells #[.int .i64 9, .int .i64 nn, .string tx, .int .u64 a, .int .u64 b, .int .u64 c, .int .u64 d] 51))
  obtain ⟨w0, hw0⟩ : ∃ w0, w0 = w.alloc (.cells #[.int .i64 9, .int .i64 nn, .string tx, .int .u64 a, .int .u64 b, .int .u64 c, .int .u64 d] 51) := ⟨_, rfl⟩
  have HE0 := (show Hid (w.alloc (.cells #[.int .i64 9, .int .i64 nn, .string tx, .int .u64 a, .int .u64 b, .int .u64 c, .int .u64 d] 51) = w0) from hw0.symm)
  have HX := (show Hid (∀ W', Below w0.heap.size w0 W' → ∀ j, W'.cell? ⟨w.heap.size, j, none⟩ = (#[.int .i64 9, .int .i64 nn, .string tx, .int .u64 a, .int .u64 b, .int .u64 c, .int .u64 d] : Array Value)[j]?) from fun W' hb j => by
    rw [cell_of_row W' w.heap.size j _ 51 (0, 0) ((hb.block _ (by rw [hw0, World.size_alloc]; omega)).trans (by rw [hw0]; exact heap_alloc_new w _))])
  rw [hw0.symm] at HB
  have x0 : w0.cell? ⟨w.heap.size, 0, none⟩ = some (.int .i64 9) := HX.out w0 (Below.refl _ _) 0
  clear hD hw0
  go_enter Tryz.func56, Tryz.ntmps56
  go_wp2_with (rw [HE0.out])
  refine (HW.out _).mono ?_
  rintro e w1 ⟨rfl, b1⟩
  have HB1 := (show Hid _ from b1)
  have g0 : w1.cell? ⟨w.heap.size, 0, none⟩ = some (.int .i64 9) := HX.out w1 b1 0
  have g1 : w1.cell? ⟨w.heap.size, 1, none⟩ = some (.int .i64 nn) := HX.out w1 b1 1
  have g2 : w1.cell? ⟨w.heap.size, 2, none⟩ = some (.string tx) := HX.out w1 b1 2
  have g3 : w1.cell? ⟨w.heap.size, 3, none⟩ = some (.int .u64 a) := HX.out w1 b1 3
  have g4 : w1.cell? ⟨w.heap.size, 4, none⟩ = some (.int .u64 b) := HX.out w1 b1 4
  have g5 : w1.cell? ⟨w.heap.size, 5, none⟩ = some (.int .u64 c) := HX.out w1 b1 5
  have g6 : w1.cell? ⟨w.heap.size, 6, none⟩ = some (.int .u64 d) := HX.out w1 b1 6
  clear b1 HX HE0 HW x0
  go_wp2_with fail
  go_ret
  exact ⟨rfl, HB.out.trans (HB1.out.mono HB.out.size)⟩
set_option maxRecDepth 100000 in
set_option maxHeartbeats 4000000 in
theorem lnD_10 (nn : Int) (tx : ByteArray) (a b c d : Int) (D : ByteArray) (_hDs : D.size ≤ 100) (hD : ∀ w, Calls Tryz.prog 79 #[.int .i64 10] w fun e w' => e = .returned (.string D) ∧ Below w.heap.size w w') (w : World) : Calls Tryz.prog 56 #[.agg #[.int .i64 10, .int .i64 nn, .string tx, .int .u64 a, .int .u64 b, .int .u64 c, .int .u64 d]] w fun e w' => e = .returned (.string D) ∧ Below w.heap.size w w' := by
  have HW : Hid (∀ w, Calls Tryz.prog 79 #[.int .i64 10] w fun e w' => e = .returned (.string D) ∧ Below w.heap.size w w') := fun w => hD w
  have HB := (show Hid _ from below_box w (.cells #[.int .i64 10, .int .i64 nn, .string tx, .int .u64 a, .int .u64 b, .int .u64 c, .int .u64 d] 51))
  obtain ⟨w0, hw0⟩ : ∃ w0, w0 = w.alloc (.cells #[.int .i64 10, .int .i64 nn, .string tx, .int .u64 a, .int .u64 b, .int .u64 c, .int .u64 d] 51) := ⟨_, rfl⟩
  have HE0 := (show Hid (w.alloc (.cells #[.int .i64 10, .int .i64 nn, .string tx, .int .u64 a, .int .u64 b, .int .u64 c, .int .u64 d] 51) = w0) from hw0.symm)
  have HX := (show Hid (∀ W', Below w0.heap.size w0 W' → ∀ j, W'.cell? ⟨w.heap.size, j, none⟩ = (#[.int .i64 10, .int .i64 nn, .string tx, .int .u64 a, .int .u64 b, .int .u64 c, .int .u64 d] : Array Value)[j]?) from fun W' hb j => by
    rw [cell_of_row W' w.heap.size j _ 51 (0, 0) ((hb.block _ (by rw [hw0, World.size_alloc]; omega)).trans (by rw [hw0]; exact heap_alloc_new w _))])
  rw [hw0.symm] at HB
  have x0 : w0.cell? ⟨w.heap.size, 0, none⟩ = some (.int .i64 10) := HX.out w0 (Below.refl _ _) 0
  clear hD hw0
  go_enter Tryz.func56, Tryz.ntmps56
  go_wp2_with (rw [HE0.out])
  refine (HW.out _).mono ?_
  rintro e w1 ⟨rfl, b1⟩
  have HB1 := (show Hid _ from b1)
  have g0 : w1.cell? ⟨w.heap.size, 0, none⟩ = some (.int .i64 10) := HX.out w1 b1 0
  have g1 : w1.cell? ⟨w.heap.size, 1, none⟩ = some (.int .i64 nn) := HX.out w1 b1 1
  have g2 : w1.cell? ⟨w.heap.size, 2, none⟩ = some (.string tx) := HX.out w1 b1 2
  have g3 : w1.cell? ⟨w.heap.size, 3, none⟩ = some (.int .u64 a) := HX.out w1 b1 3
  have g4 : w1.cell? ⟨w.heap.size, 4, none⟩ = some (.int .u64 b) := HX.out w1 b1 4
  have g5 : w1.cell? ⟨w.heap.size, 5, none⟩ = some (.int .u64 c) := HX.out w1 b1 5
  have g6 : w1.cell? ⟨w.heap.size, 6, none⟩ = some (.int .u64 d) := HX.out w1 b1 6
  clear b1 HX HE0 HW x0
  go_wp2_with fail
  go_ret
  exact ⟨rfl, HB.out.trans (HB1.out.mono HB.out.size)⟩
set_option maxRecDepth 100000 in
set_option maxHeartbeats 4000000 in
theorem lnD_11 (nn : Int) (tx : ByteArray) (a b c d : Int) (D : ByteArray) (_hDs : D.size ≤ 100) (hD : ∀ w, Calls Tryz.prog 79 #[.int .i64 11] w fun e w' => e = .returned (.string D) ∧ Below w.heap.size w w') (w : World) : Calls Tryz.prog 56 #[.agg #[.int .i64 11, .int .i64 nn, .string tx, .int .u64 a, .int .u64 b, .int .u64 c, .int .u64 d]] w fun e w' => e = .returned (.string D) ∧ Below w.heap.size w w' := by
  have HW : Hid (∀ w, Calls Tryz.prog 79 #[.int .i64 11] w fun e w' => e = .returned (.string D) ∧ Below w.heap.size w w') := fun w => hD w
  have HB := (show Hid _ from below_box w (.cells #[.int .i64 11, .int .i64 nn, .string tx, .int .u64 a, .int .u64 b, .int .u64 c, .int .u64 d] 51))
  obtain ⟨w0, hw0⟩ : ∃ w0, w0 = w.alloc (.cells #[.int .i64 11, .int .i64 nn, .string tx, .int .u64 a, .int .u64 b, .int .u64 c, .int .u64 d] 51) := ⟨_, rfl⟩
  have HE0 := (show Hid (w.alloc (.cells #[.int .i64 11, .int .i64 nn, .string tx, .int .u64 a, .int .u64 b, .int .u64 c, .int .u64 d] 51) = w0) from hw0.symm)
  have HX := (show Hid (∀ W', Below w0.heap.size w0 W' → ∀ j, W'.cell? ⟨w.heap.size, j, none⟩ = (#[.int .i64 11, .int .i64 nn, .string tx, .int .u64 a, .int .u64 b, .int .u64 c, .int .u64 d] : Array Value)[j]?) from fun W' hb j => by
    rw [cell_of_row W' w.heap.size j _ 51 (0, 0) ((hb.block _ (by rw [hw0, World.size_alloc]; omega)).trans (by rw [hw0]; exact heap_alloc_new w _))])
  rw [hw0.symm] at HB
  have x0 : w0.cell? ⟨w.heap.size, 0, none⟩ = some (.int .i64 11) := HX.out w0 (Below.refl _ _) 0
  clear hD hw0
  go_enter Tryz.func56, Tryz.ntmps56
  go_wp2_with (rw [HE0.out])
  refine (HW.out _).mono ?_
  rintro e w1 ⟨rfl, b1⟩
  have HB1 := (show Hid _ from b1)
  have g0 : w1.cell? ⟨w.heap.size, 0, none⟩ = some (.int .i64 11) := HX.out w1 b1 0
  have g1 : w1.cell? ⟨w.heap.size, 1, none⟩ = some (.int .i64 nn) := HX.out w1 b1 1
  have g2 : w1.cell? ⟨w.heap.size, 2, none⟩ = some (.string tx) := HX.out w1 b1 2
  have g3 : w1.cell? ⟨w.heap.size, 3, none⟩ = some (.int .u64 a) := HX.out w1 b1 3
  have g4 : w1.cell? ⟨w.heap.size, 4, none⟩ = some (.int .u64 b) := HX.out w1 b1 4
  have g5 : w1.cell? ⟨w.heap.size, 5, none⟩ = some (.int .u64 c) := HX.out w1 b1 5
  have g6 : w1.cell? ⟨w.heap.size, 6, none⟩ = some (.int .u64 d) := HX.out w1 b1 6
  clear b1 HX HE0 HW x0
  go_wp2_with fail
  go_ret
  exact ⟨rfl, HB.out.trans (HB1.out.mono HB.out.size)⟩
set_option maxRecDepth 100000 in
set_option maxHeartbeats 4000000 in
theorem lnD_12 (nn : Int) (tx : ByteArray) (a b c d : Int) (D : ByteArray) (_hDs : D.size ≤ 100) (hD : ∀ w, Calls Tryz.prog 79 #[.int .i64 12] w fun e w' => e = .returned (.string D) ∧ Below w.heap.size w w') (w : World) : Calls Tryz.prog 56 #[.agg #[.int .i64 12, .int .i64 nn, .string tx, .int .u64 a, .int .u64 b, .int .u64 c, .int .u64 d]] w fun e w' => e = .returned (.string D) ∧ Below w.heap.size w w' := by
  have HW : Hid (∀ w, Calls Tryz.prog 79 #[.int .i64 12] w fun e w' => e = .returned (.string D) ∧ Below w.heap.size w w') := fun w => hD w
  have HB := (show Hid _ from below_box w (.cells #[.int .i64 12, .int .i64 nn, .string tx, .int .u64 a, .int .u64 b, .int .u64 c, .int .u64 d] 51))
  obtain ⟨w0, hw0⟩ : ∃ w0, w0 = w.alloc (.cells #[.int .i64 12, .int .i64 nn, .string tx, .int .u64 a, .int .u64 b, .int .u64 c, .int .u64 d] 51) := ⟨_, rfl⟩
  have HE0 := (show Hid (w.alloc (.cells #[.int .i64 12, .int .i64 nn, .string tx, .int .u64 a, .int .u64 b, .int .u64 c, .int .u64 d] 51) = w0) from hw0.symm)
  have HX := (show Hid (∀ W', Below w0.heap.size w0 W' → ∀ j, W'.cell? ⟨w.heap.size, j, none⟩ = (#[.int .i64 12, .int .i64 nn, .string tx, .int .u64 a, .int .u64 b, .int .u64 c, .int .u64 d] : Array Value)[j]?) from fun W' hb j => by
    rw [cell_of_row W' w.heap.size j _ 51 (0, 0) ((hb.block _ (by rw [hw0, World.size_alloc]; omega)).trans (by rw [hw0]; exact heap_alloc_new w _))])
  rw [hw0.symm] at HB
  have x0 : w0.cell? ⟨w.heap.size, 0, none⟩ = some (.int .i64 12) := HX.out w0 (Below.refl _ _) 0
  clear hD hw0
  go_enter Tryz.func56, Tryz.ntmps56
  go_wp2_with (rw [HE0.out])
  refine (HW.out _).mono ?_
  rintro e w1 ⟨rfl, b1⟩
  have HB1 := (show Hid _ from b1)
  have g0 : w1.cell? ⟨w.heap.size, 0, none⟩ = some (.int .i64 12) := HX.out w1 b1 0
  have g1 : w1.cell? ⟨w.heap.size, 1, none⟩ = some (.int .i64 nn) := HX.out w1 b1 1
  have g2 : w1.cell? ⟨w.heap.size, 2, none⟩ = some (.string tx) := HX.out w1 b1 2
  have g3 : w1.cell? ⟨w.heap.size, 3, none⟩ = some (.int .u64 a) := HX.out w1 b1 3
  have g4 : w1.cell? ⟨w.heap.size, 4, none⟩ = some (.int .u64 b) := HX.out w1 b1 4
  have g5 : w1.cell? ⟨w.heap.size, 5, none⟩ = some (.int .u64 c) := HX.out w1 b1 5
  have g6 : w1.cell? ⟨w.heap.size, 6, none⟩ = some (.int .u64 d) := HX.out w1 b1 6
  clear b1 HX HE0 HW x0
  go_wp2_with fail
  go_ret
  exact ⟨rfl, HB.out.trans (HB1.out.mono HB.out.size)⟩
end Go.Proofs.YtnpifgcgjgddoaaGreatDoor.N
