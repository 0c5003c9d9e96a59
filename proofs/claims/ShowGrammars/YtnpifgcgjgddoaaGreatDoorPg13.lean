/- DERIVED. Plain mathematics and walks, laid together (13). -/
import Derived.Deep.RegionLaw
import Derived.Test.YtnpifgcgjgddoaaGreatDoorPg12
namespace Go.Proofs.YtnpifgcgjgddoaaGreatDoor.N
open Go.RowKit
set_option maxRecDepth 100000 in
set_option maxHeartbeats 4000000 in
theorem nodeD_22 {L : List Nd} {B tb gp op cp g1 c1 k : Nat} {nn : Int} {tx : ByteArray} {a b c d : Int} (hn : L[k]? = some ⟨22, nn, tx, a, b, c, d⟩) (hL : L.length ≤ 2048) (he : ∀ i, i < L.length → T.er L i = 0) (hw : NdW ⟨22, nn, tx, a, b, c, d⟩) (hc : ∀ j ∈ kds L k, ∀ d, DPar L B tb gp op cp g1 c1 j d) : DNod L B tb gp op cp g1 c1 k := by
  intro W x v hD hF
  have hk : k < L.length := (List.getElem?_eq_some_iff.1 hn).1
  have hal := (T.er_ok hn (he k hk)).al
  obtain ⟨m, hm, hm2⟩ := nn_of hal
  dsimp only at hm
  subst hm
  obtain ⟨fa, fb, fc⟩ := fr22 (n := ⟨22, (m : Int), tx, a, b, c, d⟩) rfl
  obtain ⟨hT, hks, hk1⟩ := en_1 hn he rfl
  obtain ⟨kk, hkk⟩ : ∃ kk, kk = k - 1 := ⟨_, rfl⟩
  rw [← hkk] at hT hks
  have HKK := (show Hid ((k : Int) = (kk : Int) + 1) from by show (k : Int) = (kk : Int) + 1; omega)
  clear hkk hk1
  rw [fa, fc] at hT
  have hfl := fld_len hal
  rw [fdx22 rfl] at hT hfl
  replace hT : itT (enX L k).2 = itT (partI 3 (enX L kk)) ++ (⟨#[32, 45, 62, 32]⟩ ++ Q.asText (Q.qT tx) : ByteArray).data.toList := hT
  have HLi : Hid (∀ w, Calls Tryz.prog 80 #[.string tx] w fun e w' => e = .returned (.string (Q.asText (Q.qT tx))) ∧ Below w.heap.size w w') := fun w => literal_any tx (tx22 hal rfl) w
  obtain ⟨Y, hY⟩ : ∃ Y : ByteArray, Y = Q.asText (Q.qT tx) := ⟨_, rfl⟩
  rw [← hY] at hT hfl HLi
  clear hY
  have HAd := (show Hid (∀ (w' : World) (y : Option (List UInt8)) (vv : Value), Dt w' B tb L gp op cp g1 c1 y → Bf w' B y vv → Calls Tryz.prog 55 #[.pointer (some ⟨tb, 0, none⟩), vv, .string (⟨#[32, 45, 62, 32]⟩ ++ Y)] w' fun e W' => ∃ v', e = .returned v' ∧ Dq w' W' B tb L gp op cp g1 c1 (adT y (⟨#[32, 45, 62, 32]⟩ ++ Y : ByteArray).data.toList) v') from fun w' y vv hd hf => addD_any _ (by rw [ByteArray.size_append]; show 4 + _ ≤ _; omega) hd hf)
  obtain ⟨TX, hTX⟩ : ∃ TX, TX = (⟨#[32, 45, 62, 32]⟩ ++ Y : ByteArray).data.toList := ⟨_, rfl⟩
  rw [← hTX] at hT
  simp only [← hTX] at HAd
  clear hTX
  rw [hT]
  have a0 := hD.c0
  have a1 := hD.c1
  obtain ⟨c0, c1', c2, c3, c4, c5, c6⟩ := hD.n k _ hn
  have z0 : (0 : Int) ≤ (k : Int) := by omega
  have z1 : (k : Int) < (L.length : Int) := by omega
  obtain ⟨w0, hw0⟩ : ∃ w0, w0 = W.alloc (.cells (T.ndV ⟨22, (m : Int), tx, a, b, c, d⟩).toArray 51) := ⟨_, rfl⟩
  have hb0 : Below W.heap.size W w0 := by rw [hw0]; exact below_box W _
  have HE0 := (show Hid (W.alloc (.cells #[.int .i64 22, .int .i64 (m : Int), .string tx, .int .u64 a, .int .u64 b, .int .u64 c, .int .u64 d] 51) = w0) from hw0.symm)
  have HK : Hid (∀ _ : Unit, Calls Tryz.prog 57 #[.slice (some ⟨gp, op, none⟩) L.length cp, .slice (some ⟨g1, 0, none⟩) L.length c1, .int .i64 k] w0.drew fun e W'' => (∃ u, e = .returned u ∧ Nz W W'' B tb L gp op cp g1 c1 x v W.heap.size ⟨22, (m : Int), tx, a, b, c, d⟩ u (kds L k)) ∧ Below w0.heap.size w0 W'') := fun _ => by
    refine (kidsD_any hL hk he hD (hb0.drew)).mono ?_
    rintro e W'' ⟨⟨u, rfl, hu⟩, bl⟩
    have bl2 : Below w0.heap.size w0 W'' := ((Below.refl _ w0).drew).trans bl
    exact ⟨⟨u, rfl, Nz.mk1 hD hF hw0 bl2 hu⟩, bl2⟩
  have d0 : w0.cell? ⟨tb, 0, none⟩ = some (.slice (some ⟨gp, op, none⟩) L.length cp) := (hD.later hb0).c0
  have d1 : w0.cell? ⟨tb, 1, none⟩ = some (.slice (some ⟨g1, 0, none⟩) L.length c1) := (hD.later hb0).c1
  have HWh : Hid (∀ w, Calls Tryz.prog 82 #[.int .i64 m, .int .i64 10] w fun e w' => e = .returned (.string ⟨(dgT 10 m).toArray⟩) ∧ w' = w) := fun w => whole10_any m (by omega) w
  have HC := (show Hid _ from hc)
  rw [hks] at HK HC
  obtain ⟨A0, n0, k0, rfl, hn0⟩ := hF.n
  have HYs := (show Hid (Y.size ≤ 3000) from hfl)
  clear hfl
  clear hT hks hc hD hF hal fa fb fc hw0 hb0 hw he hn
  go_enter Tryz.func77, Tryz.ntmps77
  go_wp2_with (rw [HE0.out])
  go_region_held3 (fun W' => W'.cell? ⟨tb, 0, none⟩ = some (.slice (some ⟨gp, op, none⟩) L.length cp) ∧ W'.cell? ⟨tb, 1, none⟩ = some (.slice (some ⟨g1, 0, none⟩) L.length c1)) (first | go_keep | exact ⟨hz.q.d.c0, hz.q.d.c1⟩ | exact ⟨d0, d1⟩) ((with_reducible refine (HK.out ()).mono ?_; rintro e wA ⟨⟨u, rfl, hz⟩, _⟩))
  have HZ := (show Hid _ from hz)
  rename_i hHeld
  clear hHeld hz HK HE0 d0 d1 a0 a1 c0 c1' c2 c3 c4 c5 c6
  have e0 : wA.cell? ⟨W.heap.size, 0, none⟩ = some (.int .i64 22) := HZ.out.nd.cell 0
  have e1 : wA.cell? ⟨W.heap.size, 1, none⟩ = some (.int .i64 m) := HZ.out.nd.cell 1
  have e2 : wA.cell? ⟨W.heap.size, 2, none⟩ = some (.string tx) := HZ.out.nd.cell 2
  go_wp2_with fail
  refine (HWh.out _).mono ?_
  rintro e w1 ⟨rfl, rfl⟩
  clear HWh
  obtain ⟨Au, cu, rfl, hu⟩ := HZ.out.kd
  obtain ⟨gu, cuu, rfl, hfu, hcu⟩ := hu (by simp)
  have HKa := (show Hid (∀ W' y vv, Nz W W' B tb L gp op cp g1 c1 y vv W.heap.size ⟨22, (m : Int), tx, a, b, c, d⟩ (.slice (some ⟨gu, 0, none⟩) 1 cu) [kk] → W'.cell? ⟨gu, 0, none⟩ = some (.int .i64 ((kk : Nat) : Int))) from fun W' y vv hz => by
    obtain ⟨A', c', eq, h⟩ := hz.kd
    obtain ⟨g', cuu', eg, h1, h2⟩ := h (by simp)
    rw [eg] at eq
    injection eq with e1 e2
    injection e1 with e1
    injection e1 with e1
    subst e1
    exact (h1.cell 0).trans (h2 0 _ rfl))
  have e3 := HKa.out _ _ _ HZ.out
  clear hu hfu hcu
  have HCc := (show Hid _ from HC.out kk (List.mem_singleton.2 rfl) 3)
  clear HC
  have hys := HYs.out
  have hq : ¬ 9223372036854775807 < 4 + Y.size := by omega
  clear HYs
  have hzd := (show Hid (Nz W w1.drew B tb L gp op cp g1 c1 x (.slice A0 n0 k0) W.heap.size ⟨22, (m : Int), tx, a, b, c, d⟩ (.slice (some ⟨gu, 0, none⟩) 1 cu) [kk]) from HZ.out.later ((Below.refl _ w1).drew))
  have HKb := (show Hid (∀ W' y vv, Nz W W' B tb L gp op cp g1 c1 y vv W.heap.size ⟨22, (m : Int), tx, a, b, c, d⟩ (.slice (some ⟨gu, 0, none⟩) 1 cu) [kk] → W'.cell? ⟨gu, 0, none⟩ = some (.int .i64 (kk : Int)) ∧ W'.cell? ⟨W.heap.size, 2, none⟩ = some (.string tx)) from fun W' y vv hz => ⟨HKa.out _ _ _ hz, hz.nd.cell 2⟩)
  have HPa : Hid (∀ (w' : World), Hid (Nz W w' B tb L gp op cp g1 c1 x (.slice A0 n0 k0) W.heap.size ⟨22, (m : Int), tx, a, b, c, d⟩ (.slice (some ⟨gu, 0, none⟩) 1 cu) [kk]) → Calls Tryz.prog 53 #[.pointer (some ⟨tb, 0, none⟩), .slice A0 n0 k0, .int .i64 kk, .int .i64 3] w' fun e W' => ∃ v', e = .returned v' ∧ Hid (Nz W W' B tb L gp op cp g1 c1 (adT x (itT (partI 3 (enX L kk)))) v' W.heap.size ⟨22, (m : Int), tx, a, b, c, d⟩ (.slice (some ⟨gu, 0, none⟩) 1 cu) [kk])) := fun w' hz => by
    refine (HCc.out _ _ _ hz.out.q.d hz.out.q.f).mono ?_
    rintro e W' ⟨v', rfl, q'⟩
    exact ⟨v', rfl, hz.out.next q'⟩
  have HPb : Hid (∀ (w' : World) (vv : Value), Hid (Nz W w' B tb L gp op cp g1 c1 (adT x (itT (partI 3 (enX L kk)))) vv W.heap.size ⟨22, (m : Int), tx, a, b, c, d⟩ (.slice (some ⟨gu, 0, none⟩) 1 cu) [kk]) → Calls Tryz.prog 55 #[.pointer (some ⟨tb, 0, none⟩), vv, .string (⟨#[32, 45, 62, 32]⟩ ++ Y)] w' fun e W' => ∃ v', e = .returned v' ∧ Hid (Nz W W' B tb L gp op cp g1 c1 (adT x (itT (partI 3 (enX L kk)) ++ TX)) v' W.heap.size ⟨22, (m : Int), tx, a, b, c, d⟩ (.slice (some ⟨gu, 0, none⟩) 1 cu) [kk])) := fun w' vv hz => by
    refine (HAd.out _ _ _ hz.out.q.d hz.out.q.f).mono ?_
    rintro e W' ⟨v', rfl, q'⟩
    rw [adT_app] at q'
    exact ⟨v', rfl, hz.out.next q'⟩
  have HLa : Hid (∀ (w' w2 : World) y vv, Hid (Nz W w' B tb L gp op cp g1 c1 y vv W.heap.size ⟨22, (m : Int), tx, a, b, c, d⟩ (.slice (some ⟨gu, 0, none⟩) 1 cu) [kk]) → Below w'.heap.size w' w2 → Hid (Nz W w2 B tb L gp op cp g1 c1 y vv W.heap.size ⟨22, (m : Int), tx, a, b, c, d⟩ (.slice (some ⟨gu, 0, none⟩) 1 cu) [kk])) := fun w' w2 y vv hz hb => hz.out.later hb
  clear HZ HCc HAd
  go_wp2_with fail
  go_region_held3 (fun W' => W'.cell? ⟨gu, 0, none⟩ = some (.int .i64 (kk : Int)) ∧ W'.cell? ⟨W.heap.size, 2, none⟩ = some (.string tx)) (first | go_keep | exact HKb.out _ _ _ hzC | exact HKb.out _ _ _ (HLa.out _ _ _ _ hzA hbB) | exact HKb.out _ _ _ hzA | exact HKb.out _ _ _ (HLa.out _ _ _ _ hzd hbB) | exact HKb.out _ _ _ hzd) (first | (go_at_call 53; with_reducible refine (HPa.out _ hzd).mono ?_; rintro e wA ⟨v2, rfl, hzA⟩) | (go_at_call 53; with_reducible refine (HPa.out _ (HLa.out _ _ _ _ hzd hbB)).mono ?_; rintro e wA ⟨v2, rfl, hzA⟩) | (go_at_call 80; with_reducible refine (HLi.out _).mono ?_; rintro e wB ⟨rfl, hbB⟩) | (go_at_call 55; with_reducible refine (HPb.out _ _ hzA).mono ?_; rintro e wC ⟨v4, rfl, hzC⟩) | (go_at_call 55; with_reducible refine (HPb.out _ _ (HLa.out _ _ _ _ hzA hbB)).mono ?_; rintro e wC ⟨v4, rfl, hzC⟩))
  all_goals
    have HQ := (show Hid (Dq W wC B tb L gp op cp g1 c1 (adT x (itT (partI 3 (enX L kk)) ++ TX)) v4) from hzC.out.q)
    clear hzA hzC hbB hzd HKa HKb HPa HPb HLi HLa e3
    obtain ⟨A9, n9, k9, rfl, hn9⟩ := HQ.out.f.n
    go_wp2_with fail
    go_ret
    exact ⟨_, rfl, HQ.out⟩
end Go.Proofs.YtnpifgcgjgddoaaGreatDoor.N

namespace Go.Proofs.YtnpifgcgjgddoaaGreatDoor.N
open Go.RowKit
set_option maxRecDepth 100000 in
set_option maxHeartbeats 4000000 in
theorem nodeD_7 {L : List Nd} {B tb gp op cp g1 c1 k : Nat} {nn : Int} {tx : ByteArray} {a b c d : Int} (hn : L[k]? = some ⟨7, nn, tx, a, b, c, d⟩) (hL : L.length ≤ 2048) (he : ∀ i, i < L.length → T.er L i = 0) (hw : NdW ⟨7, nn, tx, a, b, c, d⟩) (hc : ∀ j ∈ kds L k, ∀ d, DPar L B tb gp op cp g1 c1 j d) : DNod L B tb gp op cp g1 c1 k := by
  intro W x v hD hF
  have hk : k < L.length := (List.getElem?_eq_some_iff.1 hn).1
  have hal := (T.er_ok hn (he k hk)).al
  obtain ⟨m, hm, hm2⟩ := nn_of hal
  dsimp only at hm
  subst hm
  obtain ⟨fa, fb, fc⟩ := fr7 (n := ⟨7, (m : Int), tx, a, b, c, d⟩) rfl
  obtain ⟨i, j, hT, hks⟩ := en_2 hn he rfl
  rw [fa, fc, fb] at hT
  replace hT : itT (enX L k).2 = itT (partI 1 (enX L i)) ++ ((⟨#[32]⟩ : ByteArray).data.toList ++ itT (partI 2 (enX L j))) := by rw [hT]; show [] ++ ((_ ++ _) ++ []) = _; rw [List.append_nil]; rfl
  rw [hT]
  have a0 := hD.c0
  have a1 := hD.c1
  obtain ⟨c0, c1', c2, c3, c4, c5, c6⟩ := hD.n k _ hn
  have z0 : (0 : Int) ≤ (k : Int) := by omega
  have z1 : (k : Int) < (L.length : Int) := by omega
  obtain ⟨w0, hw0⟩ : ∃ w0, w0 = W.alloc (.cells (T.ndV ⟨7, (m : Int), tx, a, b, c, d⟩).toArray 51) := ⟨_, rfl⟩
  have hb0 : Below W.heap.size W w0 := by rw [hw0]; exact below_box W _
  have HE0 := (show Hid (W.alloc (.cells #[.int .i64 7, .int .i64 (m : Int), .string tx, .int .u64 a, .int .u64 b, .int .u64 c, .int .u64 d] 51) = w0) from hw0.symm)
  have HK : Hid (∀ _ : Unit, Calls Tryz.prog 57 #[.slice (some ⟨gp, op, none⟩) L.length cp, .slice (some ⟨g1, 0, none⟩) L.length c1, .int .i64 k] w0.drew fun e W'' => (∃ u, e = .returned u ∧ Nz W W'' B tb L gp op cp g1 c1 x v W.heap.size ⟨7, (m : Int), tx, a, b, c, d⟩ u (kds L k)) ∧ Below w0.heap.size w0 W'') := fun _ => by
    refine (kidsD_any hL hk he hD (hb0.drew)).mono ?_
    rintro e W'' ⟨⟨u, rfl, hu⟩, bl⟩
    have bl2 : Below w0.heap.size w0 W'' := ((Below.refl _ w0).drew).trans bl
    exact ⟨⟨u, rfl, Nz.mk1 hD hF hw0 bl2 hu⟩, bl2⟩
  have d0 : w0.cell? ⟨tb, 0, none⟩ = some (.slice (some ⟨gp, op, none⟩) L.length cp) := (hD.later hb0).c0
  have d1 : w0.cell? ⟨tb, 1, none⟩ = some (.slice (some ⟨g1, 0, none⟩) L.length c1) := (hD.later hb0).c1
  have HWh : Hid (∀ w, Calls Tryz.prog 82 #[.int .i64 m, .int .i64 10] w fun e w' => e = .returned (.string ⟨(dgT 10 m).toArray⟩) ∧ w' = w) := fun w => whole10_any m (by omega) w
  have HC := (show Hid _ from hc)
  rw [hks] at HK HC
  obtain ⟨A0, n0, k0, rfl, hn0⟩ := hF.n
  clear hT hks hc hD hF hal fa fb fc hw0 hb0 hw he hn
  go_enter Tryz.func77, Tryz.ntmps77
  go_wp2_with (rw [HE0.out])
  go_region_held3 (fun W' => W'.cell? ⟨tb, 0, none⟩ = some (.slice (some ⟨gp, op, none⟩) L.length cp) ∧ W'.cell? ⟨tb, 1, none⟩ = some (.slice (some ⟨g1, 0, none⟩) L.length c1)) (first | go_keep | exact ⟨hz.q.d.c0, hz.q.d.c1⟩ | exact ⟨d0, d1⟩) ((with_reducible refine (HK.out ()).mono ?_; rintro e wA ⟨⟨u, rfl, hz⟩, _⟩))
  have HZ := (show Hid _ from hz)
  rename_i hHeld
  clear hHeld hz HK HE0 d0 d1 a0 a1 c0 c1' c2 c3 c4 c5 c6
  have e0 : wA.cell? ⟨W.heap.size, 0, none⟩ = some (.int .i64 7) := HZ.out.nd.cell 0
  have e1 : wA.cell? ⟨W.heap.size, 1, none⟩ = some (.int .i64 m) := HZ.out.nd.cell 1
  have e2 : wA.cell? ⟨W.heap.size, 2, none⟩ = some (.string tx) := HZ.out.nd.cell 2
  go_wp2_with fail
  refine (HWh.out _).mono ?_
  rintro e w1 ⟨rfl, rfl⟩
  clear HWh
  obtain ⟨Au, cu, rfl, hu⟩ := HZ.out.kd
  obtain ⟨gu, cuu, rfl, hfu, hcu⟩ := hu (by simp)
  have HKa := (show Hid (∀ W' y vv, Nz W W' B tb L gp op cp g1 c1 y vv W.heap.size ⟨7, (m : Int), tx, a, b, c, d⟩ (.slice (some ⟨gu, 0, none⟩) 2 cu) [i, j] → W'.cell? ⟨gu, 0, none⟩ = some (.int .i64 ((i : Nat) : Int))) from fun W' y vv hz => by
    obtain ⟨A', c', eq, h⟩ := hz.kd
    obtain ⟨g', cuu', eg, h1, h2⟩ := h (by simp)
    rw [eg] at eq
    injection eq with e1 e2
    injection e1 with e1
    injection e1 with e1
    subst e1
    exact (h1.cell 0).trans (h2 0 _ rfl))
  have HKb := (show Hid (∀ W' y vv, Nz W W' B tb L gp op cp g1 c1 y vv W.heap.size ⟨7, (m : Int), tx, a, b, c, d⟩ (.slice (some ⟨gu, 0, none⟩) 2 cu) [i, j] → W'.cell? ⟨gu, 1, none⟩ = some (.int .i64 ((j : Nat) : Int))) from fun W' y vv hz => by
    obtain ⟨A', c', eq, h⟩ := hz.kd
    obtain ⟨g', cuu', eg, h1, h2⟩ := h (by simp)
    rw [eg] at eq
    injection eq with e1 e2
    injection e1 with e1
    injection e1 with e1
    subst e1
    exact (h1.cell 1).trans (h2 1 _ rfl))
  have e3 := HKa.out _ _ _ HZ.out
  have e4 := HKb.out _ _ _ HZ.out
  clear hu hfu hcu
  have HPa : Hid (∀ _ : Unit, Calls Tryz.prog 53 #[.pointer (some ⟨tb, 0, none⟩), .slice A0 n0 k0, .int .i64 i, .int .i64 1] w1.drew fun e W' => ∃ v', e = .returned v' ∧ Nz W W' B tb L gp op cp g1 c1 (adT x (itT (partI 1 (enX L i)))) v' W.heap.size ⟨7, (m : Int), tx, a, b, c, d⟩ (.slice (some ⟨gu, 0, none⟩) 2 cu) [i, j]) := fun _ => by
    have hz := HZ.out.later ((Below.refl _ w1).drew)
    refine (HC.out i (by simp) 1 _ _ _ hz.q.d hz.q.f).mono ?_
    rintro e W' ⟨v', rfl, q'⟩
    exact ⟨v', rfl, hz.next q'⟩
  have HPb : Hid (∀ (w' : World) (vv : Value), Nz W w' B tb L gp op cp g1 c1 (adT x (itT (partI 1 (enX L i)))) vv W.heap.size ⟨7, (m : Int), tx, a, b, c, d⟩ (.slice (some ⟨gu, 0, none⟩) 2 cu) [i, j] → Calls Tryz.prog 55 #[.pointer (some ⟨tb, 0, none⟩), vv, .string ⟨#[32]⟩] w' fun e W' => ∃ v', e = .returned v' ∧ Nz W W' B tb L gp op cp g1 c1 (adT x (itT (partI 1 (enX L i)) ++ (⟨#[32]⟩ : ByteArray).data.toList)) v' W.heap.size ⟨7, (m : Int), tx, a, b, c, d⟩ (.slice (some ⟨gu, 0, none⟩) 2 cu) [i, j]) := fun w' vv hz => by
    refine (addD_any ⟨#[32]⟩ (by decide) hz.q.d hz.q.f).mono ?_
    rintro e W' ⟨v', rfl, q'⟩
    rw [adT_app] at q'
    exact ⟨v', rfl, hz.next q'⟩
  have HPc : Hid (∀ (w' : World) (vv : Value), Nz W w' B tb L gp op cp g1 c1 (adT x (itT (partI 1 (enX L i)) ++ (⟨#[32]⟩ : ByteArray).data.toList)) vv W.heap.size ⟨7, (m : Int), tx, a, b, c, d⟩ (.slice (some ⟨gu, 0, none⟩) 2 cu) [i, j] → Calls Tryz.prog 53 #[.pointer (some ⟨tb, 0, none⟩), vv, .int .i64 j, .int .i64 2] w' fun e W' => ∃ v', e = .returned v' ∧ Nz W W' B tb L gp op cp g1 c1 (adT x ((itT (partI 1 (enX L i)) ++ (⟨#[32]⟩ : ByteArray).data.toList) ++ itT (partI 2 (enX L j)))) v' W.heap.size ⟨7, (m : Int), tx, a, b, c, d⟩ (.slice (some ⟨gu, 0, none⟩) 2 cu) [i, j]) := fun w' vv hz => by
    refine (HC.out j (by simp) 2 _ _ _ hz.q.d hz.q.f).mono ?_
    rintro e W' ⟨v', rfl, q'⟩
    rw [adT_app] at q'
    exact ⟨v', rfl, hz.next q'⟩
  clear HZ HC
  go_wp2_with fail
  go_region_held3 (fun W' => W'.cell? ⟨gu, 0, none⟩ = some (.int .i64 (i : Int)) ∧ W'.cell? ⟨gu, 1, none⟩ = some (.int .i64 (j : Int))) (first | go_keep | exact ⟨HKa.out _ _ _ hzC, HKb.out _ _ _ hzC⟩ | exact ⟨HKa.out _ _ _ hzB, HKb.out _ _ _ hzB⟩ | exact ⟨HKa.out _ _ _ hzA, HKb.out _ _ _ hzA⟩) (first | (go_at_call 53; with_reducible refine (HPa.out ()).mono ?_; rintro e wA ⟨v2, rfl, hzA⟩) | (go_at_call 55; with_reducible refine (HPb.out _ _ hzA).mono ?_; rintro e wB ⟨v3, rfl, hzB⟩) | (go_at_call 53; with_reducible refine (HPc.out _ _ hzB).mono ?_; rintro e wC ⟨v4, rfl, hzC⟩))
  rename_i hHeld
  have HQ := (show Hid (Dq W wC B tb L gp op cp g1 c1 (adT x (itT (partI 1 (enX L i)) ++ ((⟨#[32]⟩ : ByteArray).data.toList ++ itT (partI 2 (enX L j))))) v4) from by
    have h := hzC.q
    rw [List.append_assoc] at h
    exact h)
  clear hHeld hzA hzB hzC HKa HKb HPa HPb HPc e3 e4
  obtain ⟨A9, n9, k9, rfl, hn9⟩ := HQ.out.f.n
  go_wp2_with fail
  go_ret
  exact ⟨_, rfl, HQ.out⟩
set_option maxRecDepth 100000 in
set_option maxHeartbeats 4000000 in
theorem nodeD_8 {L : List Nd} {B tb gp op cp g1 c1 k : Nat} {nn : Int} {tx : ByteArray} {a b c d : Int} (hn : L[k]? = some ⟨8, nn, tx, a, b, c, d⟩) (hL : L.length ≤ 2048) (he : ∀ i, i < L.length → T.er L i = 0) (hw : NdW ⟨8, nn, tx, a, b, c, d⟩) (hc : ∀ j ∈ kds L k, ∀ d, DPar L B tb gp op cp g1 c1 j d) : DNod L B tb gp op cp g1 c1 k := by
  intro W x v hD hF
  have hk : k < L.length := (List.getElem?_eq_some_iff.1 hn).1
  have hal := (T.er_ok hn (he k hk)).al
  obtain ⟨m, hm, hm2⟩ := nn_of hal
  dsimp only at hm
  subst hm
  obtain ⟨fa, fb, fc⟩ := fr8 (n := ⟨8, (m : Int), tx, a, b, c, d⟩) rfl
  obtain ⟨i, j, hT, hks⟩ := en_2 hn he rfl
  rw [fa, fc, fb] at hT
  replace hT : itT (enX L k).2 = itT (partI 0 (enX L i)) ++ ((⟨#[32, 47, 32]⟩ : ByteArray).data.toList ++ itT (partI 1 (enX L j))) := by rw [hT]; show [] ++ ((_ ++ _) ++ []) = _; rw [List.append_nil]; rfl
  rw [hT]
  have a0 := hD.c0
  have a1 := hD.c1
  obtain ⟨c0, c1', c2, c3, c4, c5, c6⟩ := hD.n k _ hn
  have z0 : (0 : Int) ≤ (k : Int) := by omega
  have z1 : (k : Int) < (L.length : Int) := by omega
  obtain ⟨w0, hw0⟩ : ∃ w0, w0 = W.alloc (.cells (T.ndV ⟨8, (m : Int), tx, a, b, c, d⟩).toArray 51) := ⟨_, rfl⟩
  have hb0 : Below W.heap.size W w0 := by rw [hw0]; exact below_box W _
  have HE0 := (show Hid (W.alloc (.cells #[.int .i64 8, .int .i64 (m : Int), .string tx, .int .u64 a, .int .u64 b, .int .u64 c, .int .u64 d] 51) = w0) from hw0.symm)
  have HK : Hid (∀ _ : Unit, Calls Tryz.prog 57 #[.slice (some ⟨gp, op, none⟩) L.length cp, .slice (some ⟨g1, 0, none⟩) L.length c1, .int .i64 k] w0.drew fun e W'' => (∃ u, e = .returned u ∧ Nz W W'' B tb L gp op cp g1 c1 x v W.heap.size ⟨8, (m : Int), tx, a, b, c, d⟩ u (kds L k)) ∧ Below w0.heap.size w0 W'') := fun _ => by
    refine (kidsD_any hL hk he hD (hb0.drew)).mono ?_
    rintro e W'' ⟨⟨u, rfl, hu⟩, bl⟩
    have bl2 : Below w0.heap.size w0 W'' := ((Below.refl _ w0).drew).trans bl
    exact ⟨⟨u, rfl, Nz.mk1 hD hF hw0 bl2 hu⟩, bl2⟩
  have d0 : w0.cell? ⟨tb, 0, none⟩ = some (.slice (some ⟨gp, op, none⟩) L.length cp) := (hD.later hb0).c0
  have d1 : w0.cell? ⟨tb, 1, none⟩ = some (.slice (some ⟨g1, 0, none⟩) L.length c1) := (hD.later hb0).c1
  have HWh : Hid (∀ w, Calls Tryz.prog 82 #[.int .i64 m, .int .i64 10] w fun e w' => e = .returned (.string ⟨(dgT 10 m).toArray⟩) ∧ w' = w) := fun w => whole10_any m (by omega) w
  have HC := (show Hid _ from hc)
  rw [hks] at HK HC
  obtain ⟨A0, n0, k0, rfl, hn0⟩ := hF.n
  clear hT hks hc hD hF hal fa fb fc hw0 hb0 hw he hn
  go_enter Tryz.func77, Tryz.ntmps77
  go_wp2_with (rw [HE0.out])
  go_region_held3 (fun W' => W'.cell? ⟨tb, 0, none⟩ = some (.slice (some ⟨gp, op, none⟩) L.length cp) ∧ W'.cell? ⟨tb, 1, none⟩ = some (.slice (some ⟨g1, 0, none⟩) L.length c1)) (first | go_keep | exact ⟨hz.q.d.c0, hz.q.d.c1⟩ | exact ⟨d0, d1⟩) ((with_reducible refine (HK.out ()).mono ?_; rintro e wA ⟨⟨u, rfl, hz⟩, _⟩))
  have HZ := (show Hid _ from hz)
  rename_i hHeld
  clear hHeld hz HK HE0 d0 d1 a0 a1 c0 c1' c2 c3 c4 c5 c6
  have e0 : wA.cell? ⟨W.heap.size, 0, none⟩ = some (.int .i64 8) := HZ.out.nd.cell 0
  have e1 : wA.cell? ⟨W.heap.size, 1, none⟩ = some (.int .i64 m) := HZ.out.nd.cell 1
  have e2 : wA.cell? ⟨W.heap.size, 2, none⟩ = some (.string tx) := HZ.out.nd.cell 2
  go_wp2_with fail
  refine (HWh.out _).mono ?_
  rintro e w1 ⟨rfl, rfl⟩
  clear HWh
  obtain ⟨Au, cu, rfl, hu⟩ := HZ.out.kd
  obtain ⟨gu, cuu, rfl, hfu, hcu⟩ := hu (by simp)
  have HKa := (show Hid (∀ W' y vv, Nz W W' B tb L gp op cp g1 c1 y vv W.heap.size ⟨8, (m : Int), tx, a, b, c, d⟩ (.slice (some ⟨gu, 0, none⟩) 2 cu) [i, j] → W'.cell? ⟨gu, 0, none⟩ = some (.int .i64 ((i : Nat) : Int))) from fun W' y vv hz => by
    obtain ⟨A', c', eq, h⟩ := hz.kd
    obtain ⟨g', cuu', eg, h1, h2⟩ := h (by simp)
    rw [eg] at eq
    injection eq with e1 e2
    injection e1 with e1
    injection e1 with e1
    subst e1
    exact (h1.cell 0).trans (h2 0 _ rfl))
  have HKb := (show Hid (∀ W' y vv, Nz W W' B tb L gp op cp g1 c1 y vv W.heap.size ⟨8, (m : Int), tx, a, b, c, d⟩ (.slice (some ⟨gu, 0, none⟩) 2 cu) [i, j] → W'.cell? ⟨gu, 1, none⟩ = some (.int .i64 ((j : Nat) : Int))) from fun W' y vv hz => by
    obtain ⟨A', c', eq, h⟩ := hz.kd
    obtain ⟨g', cuu', eg, h1, h2⟩ := h (by simp)
    rw [eg] at eq
    injection eq with e1 e2
    injection e1 with e1
    injection e1 with e1
    subst e1
    exact (h1.cell 1).trans (h2 1 _ rfl))
  have e3 := HKa.out _ _ _ HZ.out
  have e4 := HKb.out _ _ _ HZ.out
  clear hu hfu hcu
  have HPa : Hid (∀ _ : Unit, Calls Tryz.prog 53 #[.pointer (some ⟨tb, 0, none⟩), .slice A0 n0 k0, .int .i64 i, .int .i64 0] w1.drew fun e W' => ∃ v', e = .returned v' ∧ Nz W W' B tb L gp op cp g1 c1 (adT x (itT (partI 0 (enX L i)))) v' W.heap.size ⟨8, (m : Int), tx, a, b, c, d⟩ (.slice (some ⟨gu, 0, none⟩) 2 cu) [i, j]) := fun _ => by
    have hz := HZ.out.later ((Below.refl _ w1).drew)
    refine (HC.out i (by simp) 0 _ _ _ hz.q.d hz.q.f).mono ?_
    rintro e W' ⟨v', rfl, q'⟩
    exact ⟨v', rfl, hz.next q'⟩
  have HPb : Hid (∀ (w' : World) (vv : Value), Nz W w' B tb L gp op cp g1 c1 (adT x (itT (partI 0 (enX L i)))) vv W.heap.size ⟨8, (m : Int), tx, a, b, c, d⟩ (.slice (some ⟨gu, 0, none⟩) 2 cu) [i, j] → Calls Tryz.prog 55 #[.pointer (some ⟨tb, 0, none⟩), vv, .string ⟨#[32, 47, 32]⟩] w' fun e W' => ∃ v', e = .returned v' ∧ Nz W W' B tb L gp op cp g1 c1 (adT x (itT (partI 0 (enX L i)) ++ (⟨#[32, 47, 32]⟩ : ByteArray).data.toList)) v' W.heap.size ⟨8, (m : Int), tx, a, b, c, d⟩ (.slice (some ⟨gu, 0, none⟩) 2 cu) [i, j]) := fun w' vv hz => by
    refine (addD_any ⟨#[32, 47, 32]⟩ (by decide) hz.q.d hz.q.f).mono ?_
    rintro e W' ⟨v', rfl, q'⟩
    rw [adT_app] at q'
    exact ⟨v', rfl, hz.next q'⟩
  have HPc : Hid (∀ (w' : World) (vv : Value), Nz W w' B tb L gp op cp g1 c1 (adT x (itT (partI 0 (enX L i)) ++ (⟨#[32, 47, 32]⟩ : ByteArray).data.toList)) vv W.heap.size ⟨8, (m : Int), tx, a, b, c, d⟩ (.slice (some ⟨gu, 0, none⟩) 2 cu) [i, j] → Calls Tryz.prog 53 #[.pointer (some ⟨tb, 0, none⟩), vv, .int .i64 j, .int .i64 1] w' fun e W' => ∃ v', e = .returned v' ∧ Nz W W' B tb L gp op cp g1 c1 (adT x ((itT (partI 0 (enX L i)) ++ (⟨#[32, 47, 32]⟩ : ByteArray).data.toList) ++ itT (partI 1 (enX L j)))) v' W.heap.size ⟨8, (m : Int), tx, a, b, c, d⟩ (.slice (some ⟨gu, 0, none⟩) 2 cu) [i, j]) := fun w' vv hz => by
    refine (HC.out j (by simp) 1 _ _ _ hz.q.d hz.q.f).mono ?_
    rintro e W' ⟨v', rfl, q'⟩
    rw [adT_app] at q'
    exact ⟨v', rfl, hz.next q'⟩
  clear HZ HC
  go_wp2_with fail
  go_region_held3 (fun W' => W'.cell? ⟨gu, 0, none⟩ = some (.int .i64 (i : Int)) ∧ W'.cell? ⟨gu, 1, none⟩ = some (.int .i64 (j : Int))) (first | go_keep | exact ⟨HKa.out _ _ _ hzC, HKb.out _ _ _ hzC⟩ | exact ⟨HKa.out _ _ _ hzB, HKb.out _ _ _ hzB⟩ | exact ⟨HKa.out _ _ _ hzA, HKb.out _ _ _ hzA⟩) (first | (go_at_call 53; with_reducible refine (HPa.out ()).mono ?_; rintro e wA ⟨v2, rfl, hzA⟩) | (go_at_call 55; with_reducible refine (HPb.out _ _ hzA).mono ?_; rintro e wB ⟨v3, rfl, hzB⟩) | (go_at_call 53; with_reducible refine (HPc.out _ _ hzB).mono ?_; rintro e wC ⟨v4, rfl, hzC⟩))
  rename_i hHeld
  have HQ := (show Hid (Dq W wC B tb L gp op cp g1 c1 (adT x (itT (partI 0 (enX L i)) ++ ((⟨#[32, 47, 32]⟩ : ByteArray).data.toList ++ itT (partI 1 (enX L j))))) v4) from by
    have h := hzC.q
    rw [List.append_assoc] at h
    exact h)
  clear hHeld hzA hzB hzC HKa HKb HPa HPb HPc e3 e4
  obtain ⟨A9, n9, k9, rfl, hn9⟩ := HQ.out.f.n
  go_wp2_with fail
  go_ret
  exact ⟨_, rfl, HQ.out⟩
end Go.Proofs.YtnpifgcgjgddoaaGreatDoor.N

namespace Go.Proofs.YtnpifgcgjgddoaaGreatDoor.N
open Go.RowKit
theorem nodeD_any {L : List Nd} {B tb gp op cp g1 c1 k : Nat} {n : Nd} (hn : L[k]? = some n) (hL : L.length ≤ 2048) (he : ∀ i, i < L.length → T.er L i = 0) (hw : NdW n) (hc : ∀ j ∈ kds L k, ∀ d, DPar L B tb gp op cp g1 c1 j d) : DNod L B tb gp op cp g1 c1 k := by
  have hk : k < L.length := (List.getElem?_eq_some_iff.1 hn).1
  have hr := op_rng (T.er_ok hn (he k hk)).al
  obtain ⟨o, nn, tx, a, b, c, d⟩ := n
  dsimp only at hr
  obtain ⟨m, rfl, h1, h2⟩ : ∃ m : Nat, o = (m : Int) ∧ 1 ≤ m ∧ m ≤ 23 := ⟨o.toNat, by omega, by omega, by omega⟩
  match m, h1, h2 with
  | 1, _, _ => exact nodeD_1 hn hL he hw hc
  | 2, _, _ => exact nodeD_2 hn hL he hw hc
  | 3, _, _ => exact nodeD_3 hn hL he hw hc
  | 4, _, _ => exact nodeD_4 hn hL he hw hc
  | 5, _, _ => exact nodeD_5 hn hL he hw hc
  | 6, _, _ => exact nodeD_6 hn hL he hw hc
  | 7, _, _ => exact nodeD_7 hn hL he hw hc
  | 8, _, _ => exact nodeD_8 hn hL he hw hc
  | 9, _, _ => exact nodeD_9 hn hL he hw hc
  | 10, _, _ => exact nodeD_10 hn hL he hw hc
  | 11, _, _ => exact nodeD_11 hn hL he hw hc
  | 12, _, _ => exact nodeD_12 hn hL he hw hc
  | 13, _, _ => exact nodeD_13 hn hL he hw hc
  | 14, _, _ => exact nodeD_14 hn hL he hw hc
  | 15, _, _ => exact nodeD_15 hn hL he hw hc
  | 16, _, _ => exact nodeD_16 hn hL he hw hc
  | 17, _, _ => exact nodeD_17 hn hL he hw hc
  | 18, _, _ => exact nodeD_18 hn hL he hw hc
  | 19, _, _ =>
    by_cases h0 : tx.size = 0
    · exact nodeD_19e hn hL he h0 hw hc
    · exact nodeD_19 hn hL he h0 hw hc
  | 20, _, _ => exact nodeD_20 hn hL he hw hc
  | 21, _, _ => exact nodeD_21 hn hL he hw hc
  | 22, _, _ => exact nodeD_22 hn hL he hw hc
  | 23, _, _ => exact nodeD_23 hn hL he hw hc
  | m + 24, _, h => omega
theorem partD_all {L : List Nd} {B tb gp op cp g1 c1 : Nat} (he : ∀ j, j < L.length → T.er L j = 0) (hw : ∀ n ∈ L, NdW n) (hL : L.length ≤ 2048) : ∀ m k, k < m → k < L.length → ∀ d, DPar L B tb gp op cp g1 c1 k d := by
  intro m
  induction m with
  | zero => intro k h; omega
  | succ m ih =>
    intro k h1 h2 d
    have hn : L[k]? = some L[k] := List.getElem?_eq_getElem h2
    refine partD_of hn (fun j hj => he j (by omega)) (nodeD_any hn hL he (hw _ (List.getElem_mem h2)) (fun j hj d => ?_)) d
    have := kds_lt hn (fun j hj => he j (by omega)) j hj
    exact ih j (by omega) (by omega) d
end Go.Proofs.YtnpifgcgjgddoaaGreatDoor.N

namespace Go.Proofs.YtnpifgcgjgddoaaGreatDoor
open Go.RowKit
theorem text_bytes {w : World} {base : Nat} {v : Value} {l : List UInt8} (h : w.ownsRow base 5 1 v l.length (Lib.byteCells l)) : (convert 55 9 v).run Tryz.prog w = .ok (.string (txO l)) w := by
  have e : Lib.byteCells l = (l.map fun x => (x.toNat : Int)).map (Value.int .u8) := by unfold Lib.byteCells; rw [List.map_map]; rfl
  have h2 := text_own (l := l.map fun x => (x.toNat : Int)) (by rw [List.length_map, ← e]; exact h)
  rw [asT_nat] at h2
  exact h2
end Go.Proofs.YtnpifgcgjgddoaaGreatDoor

namespace Go.Proofs.YtnpifgcgjgddoaaGreatDoor.N
open Go.RowKit
theorem tel_new {L : List Nd} {B gp op cp g1 c1 : Nat} {cur : Array Value} {W w1 : World} {l : List UInt8} {v : Value} (hn : T.NdL W gp op L) (lp : gp < B) (hB : B ≤ W.heap.size) (hf : Bf W B (some l) v) (q1 : W.heap.size ≤ g1) (q2 : w1.heap[g1]? = some (.cells cur 3 (0, 0))) (q3 : ∀ i, i < L.length → cur[i]? = some (.int .i64 (T.pt L i).1)) (b1 : Below W.heap.size W w1) :
    Dt (w1.alloc (.cells #[.slice (some ⟨gp, op, none⟩) L.length cp, .slice (some ⟨g1, 0, none⟩) L.length c1, .bool false] 70)) B w1.heap.size L gp op cp g1 c1 (some l) ∧ Bf (w1.alloc (.cells #[.slice (some ⟨gp, op, none⟩) L.length cp, .slice (some ⟨g1, 0, none⟩) L.length c1, .bool false] 70)) B (some l) v ∧ Below W.heap.size W (w1.alloc (.cells #[.slice (some ⟨gp, op, none⟩) L.length cp, .slice (some ⟨g1, 0, none⟩) L.length c1, .bool false] 70)) := by
  have hs := b1.size
  have hb : Below W.heap.size W (w1.alloc (.cells #[.slice (some ⟨gp, op, none⟩) L.length cp, .slice (some ⟨g1, 0, none⟩) L.length c1, .bool false] 70)) := b1.alloc b1.size _
  have hg : g1 < w1.heap.size := (Array.getElem?_eq_some_iff.1 q2).1
  exact ⟨⟨heap_alloc_new w1 _, ⟨cur, ⟨⟨_, ((below_box w1 _).block g1 hg).trans q2⟩, by omega, by decide⟩, q3⟩, hn.same (hb.block gp (by omega)), lp, by omega⟩, hf.later hb, hb⟩
set_option maxRecDepth 100000 in
set_option maxHeartbeats 4000000 in
theorem beginsD_any (L : List Nd) (gp op cp : Nat) (hL : L.length ≤ 2048) (hT : ∀ n ∈ L, n.tx.size ≤ 140737488355328) (he : ∀ j, j < L.length → T.er L j = 0) (h0 : 0 < L.length) (w : World) (hp : T.RdN w (some ⟨gp, op, none⟩) L) :
    Calls Tryz.prog 33 #[.slice (some ⟨gp, op, none⟩) L.length cp] w fun e w' => (∃ g1 c1 cur, e = .returned (.slice (some ⟨g1, 0, none⟩) L.length c1) ∧ w.heap.size ≤ g1 ∧ w'.heap[g1]? = some (.cells cur 3 (0, 0)) ∧ ∀ i, i < L.length → cur[i]? = some (.int .i64 (T.pt L i).1)) ∧ Below w.heap.size w w' := by
  have HF : Hid (∀ _ : Unit, Calls Tryz.prog 52 #[.slice (some ⟨gp, op, none⟩) L.length cp] w fun e w' => (∃ g1 c1 cur v2, e = .returned (.tuple #[.slice (some ⟨g1, 0, none⟩) L.length c1, v2, .int .i64 0, .int .i64 0]) ∧ w.heap.size ≤ g1 ∧ w'.heap[g1]? = some (.cells cur 3 (0, 0)) ∧ ∀ i, i < L.length → cur[i]? = some (.int .i64 (T.pt L i).1)) ∧ Below w.heap.size w w') := fun _ => by
    refine (T.from_any L _ cp hL hT w hp).mono ?_
    rintro e w' ⟨h, hb⟩
    refine ⟨?_, hb⟩
    rcases h with ⟨k, hk, _, hne, _⟩ | ⟨_, v1, v2, rfl, hA⟩
    · exact absurd (he k hk) hne
    · rcases hA.o1.2 with ⟨_, q⟩ | ⟨g, cap, cur, rfl, q1, q2, _, _, _, q6⟩
      · omega
      · refine ⟨g, cap, cur, v2, rfl, q1, q2, fun i hi => ?_⟩
        have e1 := T.bgc_get (L := L) hi
        rw [← q6, Nat.mul_one, List.getElem?_take, if_pos hi, Array.getElem?_toList] at e1
        exact e1
  clear he hT hp h0
  go_enter Tryz.func33, Tryz.ntmps33
  go_wp2_with fail
  refine (HF.out ()).mono ?_
  rintro e w1 ⟨⟨g1, c1, cur, v2, rfl, q1, q2, q3⟩, b1⟩
  have HQ := (show Hid ((w.heap.size ≤ g1 ∧ w1.heap[g1]? = some (.cells cur 3 (0, 0)) ∧ ∀ i, i < L.length → cur[i]? = some (.int .i64 (T.pt L i).1)) ∧ Below w.heap.size w w1) from ⟨⟨q1, q2, q3⟩, b1⟩)
  clear q1 q2 q3 b1 HF
  go_wp2_with fail
  go_ret
  exact ⟨⟨g1, c1, cur, rfl, HQ.out.1⟩, HQ.out.2⟩
theorem KeepT.over {a b : Nat} {W W1 W2 : World} (h : Below W.heap.size W W1) (k : KeepT b W1 W2) (hb : W.heap.size ≤ b) : KeepT a W W2 :=
  ⟨Nat.le_trans h.size k.size, fun j hj _ ht => by
    have e := h.block j hj
    exact (k.block j (Nat.lt_of_lt_of_le hj h.size) (by omega) (fun c fr => by rw [e]; exact ht c fr)).trans e⟩
set_option maxRecDepth 100000 in
set_option maxHeartbeats 4000000 in
theorem putD_any {L : List Nd} {B gp op cp : Nat} (hr : T.Rt L) (hT : ∀ n ∈ L, n.tx.size ≤ 140737488355328) (hw : ∀ n ∈ L, NdW n) (W : World) (l : List UInt8) (v : Value) (hn : T.NdL W gp op L) (lp : gp < B) (hB : B ≤ W.heap.size) (hf : Bf W B (some l) v) :
    Calls Tryz.prog 31 #[v, .slice (some ⟨gp, op, none⟩) L.length cp] W fun e W' => ∃ v', e = .returned (.tuple #[v', .bool (adT (some l) (itT (shI L))).isSome]) ∧ Bf W' B (adT (some l) (itT (shI L))) v' ∧ Below B W W' ∧ KeepT W.heap.size W W' := by
  have hL : L.length ≤ 2048 := by have := hr.len; omega
  have h0 := rt_pos hr
  obtain ⟨k, hk⟩ : ∃ k, k + 1 = L.length := ⟨L.length - 1, by omega⟩
  have ek : L.length - 1 = k := by omega
  have es : (L.length : Int) - 1 = (k : Int) := by omega
  obtain ⟨A, n, c, rfl, hnn⟩ := hf.n
  have HBg : Hid (∀ _ : Unit, Calls Tryz.prog 33 #[.slice (some ⟨gp, op, none⟩) L.length cp] W fun e w' => (∃ g1 c1 cur, e = .returned (.slice (some ⟨g1, 0, none⟩) L.length c1) ∧ W.heap.size ≤ g1 ∧ w'.heap[g1]? = some (.cells cur 3 (0, 0)) ∧ ∀ i, i < L.length → cur[i]? = some (.int .i64 (T.pt L i).1)) ∧ Below W.heap.size W w') := fun _ => beginsD_any L gp op cp hL hT hr.each h0 W (fun _ => ⟨gp, op, rfl, Nat.lt_of_lt_of_le lp hB, hn⟩)
  have HPart := (show Hid (∀ (W' : World) (tb g1 c1 : Nat), Dt W' B tb L gp op cp g1 c1 (some l) → Bf W' B (some l) (.slice A n c) → Calls Tryz.prog 53 #[.pointer (some ⟨tb, 0, none⟩), .slice A n c, .int .i64 k, .int .i64 0] W' fun e W'' => ∃ v', e = .returned v' ∧ Dq W' W'' B tb L gp op cp g1 c1 (adT (some l) (itT (shI L))) v') from fun W' tb g1 c1 hd hff => by
    have h := partD_all (B := B) (tb := tb) (gp := gp) (op := op) (cp := cp) (g1 := g1) (c1 := c1) hr.each hw hL (k + 1) k (by omega) (by omega) 0 W' (some l) (.slice A n c) hd hff
    rw [part_zero] at h
    rw [sh_last h0, ek]
    exact h)
  have HN := (show Hid (T.NdL W gp op L ∧ Bf W B (some l) (.slice A n c)) from ⟨hn, hf⟩)
  clear hn hf hr hT hw ek h0
  generalize adT (some l) (itT (shI L)) = y at *
  go_enter Tryz.func31, Tryz.ntmps31
  go_wp2_with fail
  refine (HBg.out ()).mono ?_
  rintro e w1 ⟨⟨g1, c1, cur, rfl, q1, q2, q3⟩, b1⟩
  have HD := (show Hid _ from tel_new (cp := cp) (c1 := c1) HN.out.1 lp hB HN.out.2 q1 q2 q3 b1)
  have hs1 := b1.size
  clear q1 q2 q3 b1 HBg HN
  go_wp2_with fail
  refine (HPart.out _ _ _ _ HD.out.1 HD.out.2.1).mono ?_
  rintro e w2 ⟨v', rfl, q⟩
  have e2 := q.d.c2
  have HQ := (show Hid (Bf w2 B y v' ∧ Below B W w2 ∧ KeepT W.heap.size W w2) from ⟨q.f, (HD.out.2.2.mono hB).trans q.bl, KeepT.over HD.out.2.2 q.k hs1⟩)
  obtain ⟨A', n', c', rfl, _⟩ := q.f.n
  clear q HD HPart
  go_wp2_with fail
  go_quiet (fail)
  have HQ2 := (show Hid _ from And.intro (HQ.out.1.later (T.below_drewN (Below.refl _ _) nq)) (And.intro (T.below_drewN HQ.out.2.1 nq) (KeepT.trans HQ.out.2.2 (KeepT.below (T.below_drewN (Below.refl _ _) nq)))))
  generalize w2.drewN nq = w3 at *
  clear HQ e2
  go_wp2_with fail
  go_ret2
  exact ⟨_, rfl, HQ2.out⟩
end Go.Proofs.YtnpifgcgjgddoaaGreatDoor.N

namespace Go.Proofs.YtnpifgcgjgddoaaGreatDoor.T
open Go.RowKit
/-- A call with one argument as a step of a region that draws its order. -/
theorem step_call1 {F : Nat} (hen : ∀ args w, (callFunc F args).run Tryz.prog w = .ok (.enter F args) w) {ops : Array Oper} {o : Oper} {a : Act} {w : World} {K : Act → World → Prop} {Q : Exit → Act → World → Prop} {E : Prop} (hgd : o.guard = none) (x : Operand) (T : TypeId) (ho : o.op = .call { callee := .value (.func F), args := #[x], argTypes := #[T] }) (v : Value) (hx : a.eval x = v)
    (hc : Calls Tryz.prog F #[v] w fun e w' => ∃ r, e = .returned r ∧ K (a.put o.dst r) w') :
    if Region.wanted o (yielded ops a.tmps) = true then Oper.wp Tryz.prog o a w K Q else E := by
  have hw : Region.wanted o (yielded ops a.tmps) = true := by simp [Region.wanted, hgd]
  rw [if_pos hw]
  have he : (execOp a.eval o).run Tryz.prog w = .ok (.enter F #[v]) w := by
    unfold execOp
    simp [ho, go_sem, invoke, hen]
    rw [← hx]
    cases x <;> simp [Act.eval]
  unfold Oper.wp
  rw [he, Oper.upon_enter]
  refine hc.mono ?_
  rintro e w' ⟨r, rfl, hk⟩
  exact hk
end Go.Proofs.YtnpifgcgjgddoaaGreatDoor.T

namespace Go.Proofs.YtnpifgcgjgddoaaGreatDoor.N
open Go.RowKit
/-- A grammar in a box of its own. -/
structure GX (W : World) (k : Nat) (a : Value) : Prop where
  heap : W.heap[k]? = some (.cells #[a] 33 (0, 0))
theorem GX.lt {W : World} {k : Nat} {a : Value} (h : GX W k a) : k < W.heap.size := (Array.getElem?_eq_some_iff.1 h.heap).1
theorem GX.same {W W' : World} {k : Nat} {a : Value} (h : GX W k a) (hb : W'.heap[k]? = W.heap[k]?) : GX W' k a := ⟨hb.trans h.heap⟩
theorem GX.below {W W' : World} {k : Nat} {a : Value} (h : GX W k a) (hb : Below W.heap.size W W') : GX W' k a := h.same (hb.block k h.lt)
theorem GX.cl {W : World} {k : Nat} {a : Value} (h : GX W k a) : W.cell? ⟨k, 0, none⟩ = some a := by
  rw [cell_of_row W k 0 _ 33 (0, 0) h.heap]; rfl
theorem GX.fz {W : World} {k : Nat} {a : Value} (h : GX W k a) : W.frozen? ⟨k, 0, none⟩ = false := frozen_of_row W k 0 _ 33 h.heap
theorem GX.set {W : World} {k : Nat} {a : Value} (h : GX W k a) (u : Value) : GX (W.setCell ⟨k, 0, none⟩ u) k u := ⟨by
  rw [heap_setCell_same _ k 0 _ 33 u h.heap]; simp⟩
theorem GX.ne {W : World} {k B e s n : Nat} {u a : Value} {xs : List Value} (h : GX W k a) (ho : W.ownsRow B e s u n xs) (he : e ≠ 33) {j : Nat} (hj : u.ownBlock = some j) : j ≠ k := fun q => by
  subst q
  obtain ⟨cs, hc⟩ := own_ty ho hj
  rw [h.heap] at hc
  injection hc with h4
  injection h4 with _ h5
  exact he h5.symm
theorem Tryz.info41 : (Tryz.prog.info? 73).map (fun i => (i.zero, i.size, i.bytes)) = some (some (.agg #[.string ⟨#[]⟩, .slice none 0 0]), 2, 40) := by kernel_rfl
theorem ret_gx {fn : Func} {R : Ending → World → Prop} {act : Act} {W : World} {k : Nat} {a : Value} (hF : fn.results = #[.cell 2 33]) (hd : act.defers = []) (h2 : act.tmps.getD 2 undef = .pointer (some ⟨k, 0, none⟩)) (hT : GX W k a) (hR : R (.returned (.agg #[a])) W) : bodyPost Tryz.prog fn R .ret act W := by
  have c0 := hT.cl
  refine bodyPost_ret (v := .agg #[a]) ?_ hd hR
  simp only [Array.getD_eq_getD_getElem?] at h2
  simp [results, hF, go_sem, h2, c0]
end Go.Proofs.YtnpifgcgjgddoaaGreatDoor.N

namespace Go.Proofs.YtnpifgcgjgddoaaGreatDoor.N
open Go.RowKit
open Go.Proofs.YtnpifgcgjgddoaaGreatDoor.T (RdN below_drewN node_neq ndE)
set_option maxRecDepth 100000 in
set_option maxHeartbeats 8000000 in
theorem sameq (A1 A2 : Option Addr) (c1 c2 : Nat) (L : List Nd) (hl : L.length ≤ 140737488355328) (w : World) (h1 : RdN w A1 L) (h2 : RdN w A2 L) :
    Calls Tryz.prog 20 #[.slice A1 L.length c1, .slice A2 L.length c2] w fun e w' => e = .returned (.bool true) ∧ ∃ m, w' = w.drewN m := by
  have H1 := (show Hid _ from h1)
  have H2 := (show Hid _ from h2)
  have HG := (show Hid (∀ k, k < L.length → ∃ m, L[k]? = some m ∧ L ≠ []) from fun k hk => ⟨_, List.getElem?_eq_getElem hk, by rintro rfl; simp at hk⟩)
  clear h1 h2
  go_enter Tryz.func20, Tryz.ntmps20
  go_wp2_with fail
  go_loopw [5] (fun t wr => ∃ k : Nat, k ≤ L.length ∧ t = .int .i64 k ∧ Hid (∃ m, wr = w.drewN m)) (fun t _ => L.length - (intOf t).toNat)
  case atStart => exact ⟨0, by omega, by go_num, ⟨0, rfl⟩⟩
  case round =>
    obtain ⟨k, hk, rfl, HW⟩ := hrel
    by_cases hlt : k < L.length
    · obtain ⟨n, hn1, nl⟩ := HG.out k hlt
      have hB : Below w.heap.size w wr := by obtain ⟨m, rfl⟩ := HW.out; exact below_drewN (Below.refl _ _) _
      obtain ⟨g1, o1, rfl, l1, q1⟩ := H1.out nl
      obtain ⟨g2, o2, rfl, l2, q2⟩ := H2.out nl
      obtain ⟨a0, a1, a2, a3, a4, a5, a6⟩ := (q1.same (hB.block g1 l1)) k n hn1
      obtain ⟨d0, d1, d2, d3, d4, d5, d6⟩ := (q2.same (hB.block g2 l2)) k n hn1
      have z0 : (0 : Int) ≤ (k : Int) := by omega
      have z1 : (k : Int) < (L.length : Int) := by omega
      clear HG H1 H2 q1 q2 nl hn1 hB
      have hneq := node_neq n n
      rw [T.ndE_refl] at hneq
      go_wp2_with fail
      go_quiet (fail)
      have HW2 := (show Hid (∃ m, wr.drewN nq = w.drewN m) from by obtain ⟨m, e⟩ := HW.out; exact ⟨m + nq, by rw [e, World.drewN_drewN]⟩)
      generalize wr.drewN nq = w2 at *
      clear hneq a0 a1 a2 a3 a4 a5 a6 d0 d1 d2 d3 d4 d5 d6 HW
      go_wp2_with fail
      go_roundw
      case rel => exact ⟨k + 1, by omega, by go_num, HW2⟩
      case measure => simp [intOf]; omega
    · obtain rfl : k = L.length := by omega
      clear HG H1 H2
      go_wp2_with fail
      go_ret
      exact ⟨rfl, HW.out⟩
end Go.Proofs.YtnpifgcgjgddoaaGreatDoor.N

namespace Go.Proofs.YtnpifgcgjgddoaaGreatDoor.N
open Go.RowKit
/-- A rule's line, without its line feed. -/
def lnI (g : ByteArray × List Nd) : List It := (if g.1.size = 0 then [] else [txI 1 g.1, none, sgI 6, none]) ++ shI g.2
def grT (gs : List (ByteArray × List Nd)) : List UInt8 := gs.flatMap fun g => itT (lnI g) ++ [10]
end Go.Proofs.YtnpifgcgjgddoaaGreatDoor.N

namespace Go.Proofs.YtnpifgcgjgddoaaGreatDoor.N
open Go.RowKit
/-- The node by which the program asks for a name. -/
def nmN (s : ByteArray) : Nd := ⟨6, 0, s, 0, 0, 0, 0⟩
theorem ck_nm (s : ByteArray) : ((T.ck [nmN s]).2 == 0) = T.nmB s := by
  have e : (⟨#[]⟩ : ByteArray) = ByteArray.empty := rfl
  cases h : T.nmB s <;> simp [nmN, T.ck, T.ckGo, T.er, T.alE, T.fdF, T.txF, T.nuF, T.seF, T.ar, T.run, T.pt, T.mk, T.arN, T.opAt, h]
theorem rd_row (w : World) (L : List Nd) (h0 : L.length ≤ 2048) (c : Array Value) (hc : c.toList = T.ndc L) : T.RdN (w.alloc (.cells c 51)) (some ⟨w.heap.size, 0, none⟩) L := fun _ => by
  refine ⟨w.heap.size, 0, rfl, by rw [World.size_alloc]; omega, ?_⟩
  refine T.own_ndl (B := w.heap.size) (n := L.length) (cap := L.length) (xs := []) ?_
  rw [List.append_nil]
  have hl := T.ndc_len L
  exact ⟨hl, .inr ⟨w.heap.size, L.length, c, rfl, Nat.le_refl _, heap_alloc_new w _, Nat.le_refl _, by unfold maxLen; omega, by rw [← Array.length_toList, hc]; exact hl, by rw [hc]; exact List.take_of_length_le (by omega)⟩⟩
set_option maxRecDepth 100000 in
set_option maxHeartbeats 4000000 in
theorem isName_any (s : ByteArray) (hs : s.size ≤ 140737488355328) (W : World) : Calls Tryz.prog 58 #[.string s] W fun e W' => e = .returned (.bool (T.nmB s)) ∧ Below W.heap.size W W' := by
  have HC : Hid (∀ _ : Unit, Calls Tryz.prog 25 #[.slice (some ⟨W.heap.size, 0, none⟩) 1 1] (W.alloc (.cells #[.int .i64 6, .int .i64 0, .string s, .int .u64 0, .int .u64 0, .int .u64 0, .int .u64 0] 51)) fun e w' => e = .returned (.tuple #[.int .i64 (T.ck [nmN s]).1, .int .i64 (T.ck [nmN s]).2]) ∧ Below (W.alloc (.cells #[.int .i64 6, .int .i64 0, .string s, .int .u64 0, .int .u64 0, .int .u64 0, .int .u64 0] 51)).heap.size (W.alloc (.cells #[.int .i64 6, .int .i64 0, .string s, .int .u64 0, .int .u64 0, .int .u64 0, .int .u64 0] 51)) w') := fun _ =>
    T.check_any [nmN s] (some ⟨W.heap.size, 0, none⟩) 1 (by show 1 ≤ _; omega) (by intro n hn; rw [List.mem_singleton.1 hn]; exact hs) _ (rd_row W [nmN s] (by show 1 ≤ _; omega) _ rfl)
  have HE := (show Hid (((T.ck [nmN s]).2 == 0) = T.nmB s) from ck_nm s)
  have HB := (show Hid (Below W.heap.size W (W.alloc (.cells #[.int .i64 6, .int .i64 0, .string s, .int .u64 0, .int .u64 0, .int .u64 0, .int .u64 0] 51))) from below_box _ _)
  clear hs
  generalize (T.ck [nmN s]).2 = cc at *
  generalize ((T.ck [nmN s]).1 : Int) = c1 at *
  generalize T.nmB s = nb at *
  go_enter Tryz.func58, Tryz.ntmps58
  go_wp2_with fail
  refine (HC.out ()).mono ?_
  rintro e w1 ⟨rfl, b1⟩
  have HB1 := (show Hid (Below W.heap.size W w1) from HB.out.trans (b1.mono HB.out.size))
  clear HC b1 HB
  go_wp2_with fail
  go_ret
  exact ⟨by rw [← HE.out]; rfl, HB1.out⟩
/-- What is wrong with a grammar that is told. -/
def wrGo (len : Nat) : Nat → List (ByteArray × List Nd) → Int
  | _, [] => 0
  | nodes, g :: r => if ¬ (g.1.size = 0 ∧ len = 1) ∧ T.nmB g.1 = false then 6 else if (T.ck g.2).2 ≠ 0 then (T.ck g.2).2 else if 2048 < nodes + g.2.length then 2 else wrGo len (nodes + g.2.length) r
def wrR (gs : List (ByteArray × List Nd)) : Int := if gs.length = 0 then 3 else if 200 < gs.length then 2 else wrGo gs.length 0 gs
/-- The first rules' nodes together. -/
def ndS (gs : List (ByteArray × List Nd)) : Nat → Nat
  | 0 => 0
  | k + 1 => match gs[k]? with
    | some g => ndS gs k + g.2.length
    | none => ndS gs k
theorem ndS_succ {gs : List (ByteArray × List Nd)} {k : Nat} {g : ByteArray × List Nd} (h : gs[k]? = some g) : ndS gs (k + 1) = ndS gs k + g.2.length := by rw [ndS, h]
/-- A slice of rules, read. -/
def GrD (W : World) (A : Option Addr) (gs : List (ByteArray × List Nd)) : Prop := ∀ (k : Nat) g, gs[k]? = some g → ∃ b o A2 c2, A = some ⟨b, o, none⟩ ∧ b < W.heap.size ∧ W.cell? ⟨b, o + k * 2, none⟩ = some (.string g.1) ∧ W.cell? ⟨b, o + k * 2 + 1, none⟩ = some (.slice A2 g.2.length c2) ∧ T.RdN W A2 g.2
theorem GrD.later {W W' : World} {A : Option Addr} {gs : List (ByteArray × List Nd)} (h : GrD W A gs) (hb : Below W.heap.size W W') : GrD W' A gs := fun k g hg => by
  obtain ⟨b, o, A2, c2, h1, h2, h3, h4, h5⟩ := h k g hg
  exact ⟨b, o, A2, c2, h1, Nat.lt_of_lt_of_le h2 hb.size, (hb.cell (p := ⟨b, o + k * 2, none⟩) h2).trans h3, (hb.cell (p := ⟨b, o + k * 2 + 1, none⟩) h2).trans h4, h5.below hb (Nat.le_refl _)⟩
/-- A rule in a box of its own. -/
structure RB (W : World) (b : Nat) (s : ByteArray) (v : Value) : Prop where
  heap : W.heap[b]? = some (.cells #[.string s, v] 73 (0, 0))
theorem RB.lt {W : World} {b : Nat} {s : ByteArray} {v : Value} (h : RB W b s v) : b < W.heap.size := (Array.getElem?_eq_some_iff.1 h.heap).1
theorem RB.c0 {W : World} {b : Nat} {s : ByteArray} {v : Value} (h : RB W b s v) : W.cell? ⟨b, 0, none⟩ = some (.string s) := by rw [cell_of_row W b 0 _ 73 (0, 0) h.heap]; rfl
theorem RB.c1 {W : World} {b : Nat} {s : ByteArray} {v : Value} (h : RB W b s v) : W.cell? ⟨b, 1, none⟩ = some v := by rw [cell_of_row W b 1 _ 73 (0, 0) h.heap]; rfl
theorem RB.same {W W' : World} {b : Nat} {s : ByteArray} {v : Value} (h : RB W b s v) (hb : W'.heap[b]? = W.heap[b]?) : RB W' b s v := ⟨hb.trans h.heap⟩
theorem RB.later {W W' : World} {b : Nat} {s : ByteArray} {v : Value} (h : RB W b s v) (hb : Below W.heap.size W W') : RB W' b s v := h.same (hb.block b h.lt)
set_option maxRecDepth 100000 in
set_option maxHeartbeats 16000000 in
theorem checkRules_any (gs : List (ByteArray × List Nd)) (A : Option Addr) (c : Nat) (hl : gs.length ≤ 140737488355328) (hT : ∀ g ∈ gs, g.1.size ≤ 140737488355328 ∧ g.2.length ≤ 140737488355328 ∧ ∀ n ∈ g.2, n.tx.size ≤ 140737488355328) (w : World) (hp : GrD w A gs) :
    Calls Tryz.prog 35 #[.slice A gs.length c] w fun e w' => e = .returned (.int .i64 (wrR gs)) ∧ Below w.heap.size w w' := by
  by_cases h0 : gs.length = 0
  · have HE := (show Hid (wrR gs = 3) from by show wrR gs = 3; unfold wrR; rw [if_pos h0])
    have t0 : ((gs.length : Int) == 0) = true := beq_iff_eq.2 (by omega)
    clear h0 hp hT
    go_enter Tryz.func35, Tryz.ntmps35
    go_wp2_with fail
    go_ret
    exact ⟨by rw [HE.out]; rfl, Below.refl _ _⟩
  have t0 : ((gs.length : Int) == 0) = false := beq_eq_false_iff_ne.2 (by omega)
  by_cases h2 : 200 < gs.length
  · have HE := (show Hid (wrR gs = 2) from by show wrR gs = 2; unfold wrR; rw [if_neg h0, if_pos h2])
    have t2 : (200 : Int) < (gs.length : Int) := by omega
    clear h0 hp hT h2
    go_enter Tryz.func35, Tryz.ntmps35
    go_wp2_with fail
    go_ret
    exact ⟨by rw [HE.out]; rfl, Below.refl _ _⟩
  have t2 : ¬ (200 : Int) < (gs.length : Int) := by omega
  have HE := (show Hid (wrR gs = wrGo gs.length (ndS gs 0) (gs.drop 0)) from by show wrR gs = _; unfold wrR; rw [if_neg h0, if_neg h2]; rfl)
  have HP := (show Hid (GrD w A gs) from hp)
  have HG := (show Hid (∀ k, k < gs.length → ∃ g, gs[k]? = some g ∧ g.1.size ≤ 140737488355328 ∧ g.2.length ≤ 140737488355328 ∧ (∀ n ∈ g.2, n.tx.size ≤ 140737488355328) ∧ gs.drop k = g :: gs.drop (k + 1)) from fun k hk => ⟨_, List.getElem?_eq_getElem hk, (hT _ (List.getElem_mem hk)).1, (hT _ (List.getElem_mem hk)).2.1, (hT _ (List.getElem_mem hk)).2.2, List.drop_eq_getElem_cons hk⟩)
  have HN := (show Hid (¬ gs.length = 0) from h0)
  clear h0 hp hT h2
  go_enter Tryz.func35, Tryz.ntmps35
  go_wp2_with fail
  go_loopw [3, 17] (fun v t wr => ∃ k : Nat, k ≤ gs.length ∧ t = .int .i64 k ∧ v = .int .i64 (ndS gs k) ∧ Hid (ndS gs k ≤ 2048) ∧ Hid (wrR gs = wrGo gs.length (ndS gs k) (gs.drop k)) ∧ Hid (Below w.heap.size w wr)) (fun _ t _ => gs.length - (intOf t).toNat)
  case atStart => exact ⟨0, by omega, by go_num, by go_num, Nat.zero_le _, HE, Below.refl _ _⟩
  case round =>
    obtain ⟨k, hk, rfl, rfl, HQ, HX, HW⟩ := hrel
    clear HE
    by_cases hlt : k < gs.length
    · obtain ⟨g, hg, s1, s2, s3, hd⟩ := HG.out k hlt
      obtain ⟨b, o, A2, c2, rfl, lb, x0, x1, r2⟩ := HP.out k g hg
      have x0' := (HW.out.cell (p := ⟨b, o + k * 2, none⟩) lb).trans x0
      have x1' := (HW.out.cell (p := ⟨b, o + k * 2 + 1, none⟩) lb).trans x1
      clear x0 x1
      have z0 : (0 : Int) ≤ (k : Int) := by omega
      have z1 : (k : Int) < (gs.length : Int) := by omega
      have HR := (show Hid (RB (wr.alloc (.cells #[.string g.1, .slice A2 g.2.length c2] 73)) wr.heap.size g.1 (.slice A2 g.2.length c2)) from ⟨heap_alloc_new wr _⟩)
      have HW1 := (show Hid (Below w.heap.size w (wr.alloc (.cells #[.string g.1, .slice A2 g.2.length c2] 73))) from HW.out.alloc HW.out.size _)
      have HNm : Hid (∀ W, Calls Tryz.prog 58 #[.string g.1] W fun e W' => e = .returned (.bool (T.nmB g.1)) ∧ Below W.heap.size W W') := fun W => isName_any g.1 s1 W
      have HCk : Hid (∀ W, Below w.heap.size w W → Calls Tryz.prog 25 #[.slice A2 g.2.length c2] W fun e w' => e = .returned (.tuple #[.int .i64 (T.ck g.2).1, .int .i64 (T.ck g.2).2]) ∧ Below W.heap.size W w') := fun W hW => T.check_any g.2 A2 c2 s2 s3 W (r2.below hW (Nat.le_refl _))
      have hgk := hg
      have HSz := (show Hid (g.2.length ≤ 140737488355328) from s2)
      clear hg r2 s1 s2 s3 HW
      by_cases hs0 : g.1.size = 0
      · have te : (g.1.toList == []) = true := by
          have e := T.emp_t hs0
          rw [List.isEmpty_iff] at e
          rw [e]; rfl
        have te2 := T.emp_t hs0
        by_cases hl1 : gs.length = 1
        · have tl : ((gs.length : Int) == 1) = true := beq_iff_eq.2 (by omega)
          have HWy := HW1
          have HBy := HW1
          have HRy := HR
          have HU := (show Hid (wrR gs = if (T.ck g.2).2 ≠ 0 then (T.ck g.2).2 else if 2048 < ndS gs k + g.2.length then 2 else wrGo gs.length (ndS gs k + g.2.length) (gs.drop (k + 1))) from by show wrR gs = _; rw [HX.out, hd, wrGo, if_neg (by rintro ⟨q, _⟩; exact q ⟨hs0, hl1⟩)])
          have HV := (show Hid ((T.ck g.2).2 = 0 → wrR gs = if 2048 < ndS gs k + g.2.length then 2 else wrGo gs.length (ndS gs k + g.2.length) (gs.drop (k + 1))) from fun h => by rw [HU.out, if_neg (by rw [h]; simp)])
          clear hl1 hs0
          -- the body is checked
          by_cases hc : (T.ck g.2).2 = 0
          · have HV2 := (show Hid _ from HV.out hc)
            have tc : ((T.ck g.2).2 != 0) = false := by rw [hc]; rfl
            have hg3 : g.2.length ≤ 2048 := ck_len hc
            have hq := HQ.out
            generalize hcc : (T.ck g.2).2 = cc at *
            clear hcc
            by_cases hn : 2048 < ndS gs k + g.2.length
            · have HF := (show Hid (wrR gs = 2) from by show wrR gs = 2; rw [HV2.out, if_pos hn])
              have tn : (2048 : Int) < (ndS gs k : Int) + (g.2.length : Int) := by omega
              clear HV HV2 HU HX HG HP HQ hn
              have y0 := HRy.out.c0
              have y1 := HRy.out.c1
              go_wp2_with fail
              refine (HCk.out _ HBy.out).mono ?_
              rintro e w3 ⟨rfl, b3⟩
              have HW3 := (show Hid (Below w.heap.size w w3) from HWy.out.trans (b3.mono HWy.out.size))
              have x1 := (HRy.out.later b3).c1
              clear HCk b3 HBy HRy
              go_wp2_with fail
              go_ret
              exact ⟨by rw [HF.out]; rfl, HW3.out⟩
            · have HF := (show Hid (wrR gs = wrGo gs.length (ndS gs (k + 1)) (gs.drop (k + 1))) from by show wrR gs = _; rw [HV2.out, if_neg hn, ndS_succ hgk])
              have tn : ¬ (2048 : Int) < (ndS gs k : Int) + (g.2.length : Int) := by omega
              have HQ2 := (show Hid (ndS gs (k + 1) ≤ 2048) from by show ndS gs (k + 1) ≤ 2048; rw [ndS_succ hgk]; omega)
              have HS := (show Hid ((ndS gs (k + 1) : Int) = (ndS gs k : Int) + (g.2.length : Int)) from by show (ndS gs (k + 1) : Int) = _; rw [ndS_succ hgk]; omega)
              clear HV HV2 HU HX HP HQ hn hgk
              have y0 := HRy.out.c0
              have y1 := HRy.out.c1
              go_wp2_with fail
              refine (HCk.out _ HBy.out).mono ?_
              rintro e w3 ⟨rfl, b3⟩
              have HW3 := (show Hid (Below w.heap.size w w3) from HWy.out.trans (b3.mono HWy.out.size))
              have x1 := (HRy.out.later b3).c1
              clear HCk b3 HBy HRy
              go_wp2_with fail
              go_roundw
              case rel => exact ⟨k + 1, by omega, by go_num, by rw [HS.out], HQ2, HF, HW3⟩
              case measure => simp [intOf]; omega
          · have tc : ((T.ck g.2).2 != 0) = true := by rw [bne, beq_eq_false_iff_ne.2 hc]; rfl
            have HF := (show Hid (wrR gs = (T.ck g.2).2) from by show wrR gs = _; rw [HU.out, if_pos hc])
            clear HV HU HX HG HP HQ hc
            generalize hcc : (T.ck g.2).2 = cc at *
            clear hcc
            have y0 := HRy.out.c0
            have y1 := HRy.out.c1
            go_wp2_with fail
            refine (HCk.out _ HBy.out).mono ?_
            rintro e w3 ⟨rfl, b3⟩
            have HW3 := (show Hid (Below w.heap.size w w3) from HWy.out.trans (b3.mono HWy.out.size))
            clear HCk b3 HBy HRy
            go_wp2_with fail
            go_ret
            exact ⟨by rw [HF.out]; rfl, HW3.out⟩
        · have tl : ((gs.length : Int) == 1) = false := beq_eq_false_iff_ne.2 (by omega)
          have hnb : T.nmB g.1 = false := T.nmB_f (fun h => by have := h.1; omega)
          have HF := (show Hid (wrR gs = 6) from by show wrR gs = 6; rw [HX.out, hd, wrGo, if_pos ⟨fun q => hl1 q.2, hnb⟩])
          rw [hnb] at HNm
          clear HX HG HP HQ hl1 hs0 hd hgk HCk
          go_wp2_with fail
          refine (HNm.out _).mono ?_
          rintro e w3 ⟨rfl, b3⟩
          have HW3 := (show Hid (Below w.heap.size w w3) from HW1.out.trans (b3.mono HW1.out.size))
          clear HNm b3 HR HW1
          go_wp2_with fail
          go_ret
          exact ⟨by rw [HF.out]; rfl, HW3.out⟩
      · have te : (g.1.toList == []) = false := by
          have e := T.emp_f hs0
          cases hl : g.1.toList with
          | nil => rw [hl] at e; cases e
          | cons x r => rfl
        have te2 := T.emp_f hs0
        cases hnb : T.nmB g.1 with
        | false =>
          have HF := (show Hid (wrR gs = 6) from by show wrR gs = 6; rw [HX.out, hd, wrGo, if_pos ⟨fun q => hs0 q.1, hnb⟩])
          rw [hnb] at HNm
          clear HX HG HP HQ hs0 hd hgk HCk hnb
          go_wp2_with fail
          refine (HNm.out _).mono ?_
          rintro e w3 ⟨rfl, b3⟩
          have HW3 := (show Hid (Below w.heap.size w w3) from HW1.out.trans (b3.mono HW1.out.size))
          clear HNm b3 HR HW1
          go_wp2_with fail
          go_ret
          exact ⟨by rw [HF.out]; rfl, HW3.out⟩
        | true =>
          rw [hnb] at HNm
          go_wp2_with fail
          refine (HNm.out _).mono ?_
          rintro e w2 ⟨rfl, b2⟩
          have HWy := (show Hid (Below w.heap.size w w2) from HW1.out.trans (b2.mono HW1.out.size))
          have HBy := HWy
          have HRy := (show Hid (RB w2 wr.heap.size g.1 (.slice A2 g.2.length c2)) from HR.out.later b2)
          clear HNm b2 HR HW1
          have HU := (show Hid (wrR gs = if (T.ck g.2).2 ≠ 0 then (T.ck g.2).2 else if 2048 < ndS gs k + g.2.length then 2 else wrGo gs.length (ndS gs k + g.2.length) (gs.drop (k + 1))) from by show wrR gs = _; rw [HX.out, hd, wrGo, if_neg (by rintro ⟨_, q⟩; rw [hnb] at q; cases q)])
          have HV := (show Hid ((T.ck g.2).2 = 0 → wrR gs = if 2048 < ndS gs k + g.2.length then 2 else wrGo gs.length (ndS gs k + g.2.length) (gs.drop (k + 1))) from fun h => by rw [HU.out, if_neg (by rw [h]; simp)])
          -- the body is checked
          by_cases hc : (T.ck g.2).2 = 0
          · have HV2 := (show Hid _ from HV.out hc)
            have tc : ((T.ck g.2).2 != 0) = false := by rw [hc]; rfl
            have hg3 : g.2.length ≤ 2048 := ck_len hc
            have hq := HQ.out
            generalize hcc : (T.ck g.2).2 = cc at *
            clear hcc
            by_cases hn : 2048 < ndS gs k + g.2.length
            · have HF := (show Hid (wrR gs = 2) from by show wrR gs = 2; rw [HV2.out, if_pos hn])
              have tn : (2048 : Int) < (ndS gs k : Int) + (g.2.length : Int) := by omega
              clear HV HV2 HU HX HG HP HQ hn
              have y1 := HRy.out.c1
              go_wp2_with fail
              refine (HCk.out _ HBy.out).mono ?_
              rintro e w3 ⟨rfl, b3⟩
              have HW3 := (show Hid (Below w.heap.size w w3) from HWy.out.trans (b3.mono HWy.out.size))
              have x1 := (HRy.out.later b3).c1
              clear HCk b3 HBy HRy
              go_wp2_with fail
              go_ret
              exact ⟨by rw [HF.out]; rfl, HW3.out⟩
            · have HF := (show Hid (wrR gs = wrGo gs.length (ndS gs (k + 1)) (gs.drop (k + 1))) from by show wrR gs = _; rw [HV2.out, if_neg hn, ndS_succ hgk])
              have tn : ¬ (2048 : Int) < (ndS gs k : Int) + (g.2.length : Int) := by omega
              have HQ2 := (show Hid (ndS gs (k + 1) ≤ 2048) from by show ndS gs (k + 1) ≤ 2048; rw [ndS_succ hgk]; omega)
              have HS := (show Hid ((ndS gs (k + 1) : Int) = (ndS gs k : Int) + (g.2.length : Int)) from by show (ndS gs (k + 1) : Int) = _; rw [ndS_succ hgk]; omega)
              clear HV HV2 HU HX HP HQ hn hgk
              have y1 := HRy.out.c1
              go_wp2_with fail
              refine (HCk.out _ HBy.out).mono ?_
              rintro e w3 ⟨rfl, b3⟩
              have HW3 := (show Hid (Below w.heap.size w w3) from HWy.out.trans (b3.mono HWy.out.size))
              have x1 := (HRy.out.later b3).c1
              clear HCk b3 HBy HRy
              go_wp2_with fail
              go_roundw
              case rel => exact ⟨k + 1, by omega, by go_num, by rw [HS.out], HQ2, HF, HW3⟩
              case measure => simp [intOf]; omega
          · have tc : ((T.ck g.2).2 != 0) = true := by rw [bne, beq_eq_false_iff_ne.2 hc]; rfl
            have HF := (show Hid (wrR gs = (T.ck g.2).2) from by show wrR gs = _; rw [HU.out, if_pos hc])
            clear HV HU HX HG HP HQ hc
            generalize hcc : (T.ck g.2).2 = cc at *
            clear hcc
            have y1 := HRy.out.c1
            go_wp2_with fail
            refine (HCk.out _ HBy.out).mono ?_
            rintro e w3 ⟨rfl, b3⟩
            have HW3 := (show Hid (Below w.heap.size w w3) from HWy.out.trans (b3.mono HWy.out.size))
            clear HCk b3 HBy HRy
            go_wp2_with fail
            go_ret
            exact ⟨by rw [HF.out]; rfl, HW3.out⟩
    · obtain rfl : k = gs.length := by omega
      have HF := (show Hid (wrR gs = 0) from by show wrR gs = 0; rw [HX.out, List.drop_length]; rfl)
      clear HG HP HX
      go_wp2_with fail
      go_ret
      exact ⟨by rw [HF.out]; rfl, HW.out⟩
theorem wrGo_ok {len : Nat} : ∀ (gs : List (ByteArray × List Nd)) (m : Nat), m ≤ 2048 → wrGo len m gs = 0 → (∀ g ∈ gs, (T.ck g.2).2 = 0 ∧ (T.nmB g.1 = true ∨ (g.1.size = 0 ∧ len = 1))) ∧ m + (gs.map fun g => g.2.length).sum ≤ 2048 := by
  intro gs
  induction gs with
  | nil => intro m hm _; exact ⟨(fun g hg => by cases hg), by simpa using hm⟩
  | cons g r ih =>
    intro m hm h
    rw [wrGo] at h
    by_cases q1 : ¬ (g.1.size = 0 ∧ len = 1) ∧ T.nmB g.1 = false
    · rw [if_pos q1] at h; cases h
    rw [if_neg q1] at h
    by_cases q2 : (T.ck g.2).2 ≠ 0
    · rw [if_pos q2] at h; exact absurd h q2
    rw [if_neg q2] at h
    by_cases q3 : 2048 < m + g.2.length
    · rw [if_pos q3] at h; cases h
    rw [if_neg q3] at h
    obtain ⟨h1, h2⟩ := ih (m + g.2.length) (by omega) h
    refine ⟨fun x hx => ?_, by rw [List.map_cons, List.sum_cons]; omega⟩
    rcases List.mem_cons.1 hx with rfl | hx
    · refine ⟨by by_cases z : (T.ck x.2).2 = 0; exact z; exact absurd z q2, ?_⟩
      cases hb : T.nmB x.1 with
      | true => exact .inl rfl
      | false =>
        by_cases z : x.1.size = 0 ∧ len = 1
        · exact .inr z
        · exact absurd ⟨z, hb⟩ q1
    · exact h1 x hx
theorem wr_ok {gs : List (ByteArray × List Nd)} (h : wrR gs = 0) : 1 ≤ gs.length ∧ gs.length ≤ 200 ∧ (∀ g ∈ gs, (T.ck g.2).2 = 0 ∧ (T.nmB g.1 = true ∨ (g.1.size = 0 ∧ gs.length = 1))) ∧ (gs.map fun g => g.2.length).sum ≤ 2048 := by
  unfold wrR at h
  by_cases q1 : gs.length = 0
  · rw [if_pos q1] at h; cases h
  rw [if_neg q1] at h
  by_cases q2 : 200 < gs.length
  · rw [if_pos q2] at h; cases h
  rw [if_neg q2] at h
  obtain ⟨h1, h2⟩ := wrGo_ok gs 0 (by omega) h
  exact ⟨by omega, by omega, h1, by omega⟩
theorem shI_len {L : List Nd} (hr : T.Rt L) : (itT (shI L)).length ≤ 10000 * L.length := by
  have h := sh_tot hr.each L.length (Nat.le_refl _)
  unfold shI
  cases hs : shK L L.length with
  | nil => exact Nat.zero_le _
  | cons x st =>
    rw [hs, totI_cons] at h
    show (itT x.2).length ≤ _
    omega
theorem ln_text (g : ByteArray × List Nd) : itT (lnI g) = (if g.1.size = 0 then [] else g.1.data.toList ++ [32, 60, 45, 32]) ++ itT (shI g.2) := by
  unfold lnI
  rw [itT_app]
  by_cases h : g.1.size = 0
  · rw [if_pos h, if_pos h]; rfl
  · rw [if_neg h, if_neg h]
    rfl
theorem nm_len {s : ByteArray} (h : T.nmB s = true) : s.size ≤ 32 := (isNm_len (nm_of h)).2
theorem gr_len : ∀ (gs : List (ByteArray × List Nd)), (∀ g ∈ gs, (T.ck g.2).2 = 0 ∧ g.1.size ≤ 32) → (grT gs).length ≤ 10000 * (gs.map fun g => g.2.length).sum + 40 * gs.length := by
  intro gs
  induction gs with
  | nil => intro _; exact Nat.zero_le _
  | cons g r ih =>
    intro h
    have h1 := ih (fun x hx => h x (List.mem_cons_of_mem _ hx))
    obtain ⟨h2, h3⟩ := h g List.mem_cons_self
    have h4 := shI_len (T.rt_of h2)
    have e : grT (g :: r) = (itT (lnI g) ++ [10]) ++ grT r := rfl
    rw [e, List.length_append, List.length_append, ln_text, List.length_append, List.map_cons, List.sum_cons]
    have h5 : (if g.1.size = 0 then [] else g.1.data.toList ++ [32, 60, 45, 32] : List UInt8).length ≤ 36 := by
      split
      · exact Nat.zero_le _
      · rw [List.length_append, dlen]; show _ + 4 ≤ _; omega
    have e3 : (g :: r).length = r.length + 1 := rfl
    show _ + 1 + _ ≤ _
    omega
theorem grT_app (a b : List (ByteArray × List Nd)) : grT (a ++ b) = grT a ++ grT b := List.flatMap_append
theorem grT_succ {gs : List (ByteArray × List Nd)} {k : Nat} {g : ByteArray × List Nd} (h : gs[k]? = some g) : grT (gs.take (k + 1)) = grT (gs.take k) ++ (itT (lnI g) ++ [10]) := by
  rw [List.take_add_one, h, grT_app]
  show _ ++ ((itT (lnI g) ++ [10]) ++ []) = _
  rw [List.append_nil]
theorem grT_take (gs : List (ByteArray × List Nd)) (k : Nat) : (grT (gs.take k)).length ≤ (grT gs).length := by
  have h := grT_app (gs.take k) (gs.drop k)
  rw [List.take_append_drop] at h
  rw [h, List.length_append]
  omega
/-- What show's Grammar answers. -/
def grR (gs : List (ByteArray × List Nd)) : ByteArray × Int := if wrR gs = 0 then lnR (grT gs) else (⟨#[]⟩, wrR gs)
end Go.Proofs.YtnpifgcgjgddoaaGreatDoor.N

namespace Go.Proofs.YtnpifgcgjgddoaaGreatDoor.N
open Go.RowKit
set_option maxRecDepth 100000 in
set_option maxHeartbeats 16000000 in
theorem grammar_any (gs : List (ByteArray × List Nd)) (A : Option Addr) (c : Nat) (hl : gs.length ≤ 140737488355328) (hT : ∀ g ∈ gs, g.1.size ≤ 140737488355328 ∧ g.2.length ≤ 140737488355328 ∧ ∀ n ∈ g.2, n.tx.size ≤ 140737488355328) (hw : ∀ g ∈ gs, ∀ n ∈ g.2, NdW n) (w : World) (hp : GrD w A gs) :
    Calls Tryz.prog 16 #[.agg #[.slice A gs.length c]] w fun e w' => e = .returned (.tuple #[.string (grR gs).1, .int .i64 (grR gs).2]) ∧ Below w.heap.size w w' := by
  have HX := (show Hid (GX (w.alloc (.cells #[.slice A gs.length c] 33)) w.heap.size (.slice A gs.length c)) from GX.mk (heap_alloc_new w _))
  have HB0 := (show Hid (Below w.heap.size w (w.alloc (.cells #[.slice A gs.length c] 33))) from below_box _ _)
  have HC : Hid (∀ _ : Unit, Calls Tryz.prog 35 #[.slice A gs.length c] (w.alloc (.cells #[.slice A gs.length c] 33)) fun e w' => e = .returned (.int .i64 (wrR gs)) ∧ Below (w.alloc (.cells #[.slice A gs.length c] 33)).heap.size (w.alloc (.cells #[.slice A gs.length c] 33)) w') := fun _ => checkRules_any gs A c hl hT _ (hp.later (below_box _ _))
  by_cases hc : wrR gs = 0
  · have t0 : (wrR gs != 0) = false := by rw [hc]; rfl
    have HE := (show Hid (grR gs = lnR (grT gs)) from by show grR gs = _; unfold grR; rw [if_pos hc])
    obtain ⟨g1, g2, g3, g4⟩ := wr_ok hc
    have hmf : ∀ (fn : Fn) (first cap : Array Value) (w : World), (Instr.makeFunc fn first cap).run Tryz.prog w = .ok (.func fn first cap) w := fun _ _ _ _ => rfl
    have hsz : ∀ g ∈ gs, (T.ck g.2).2 = 0 ∧ g.1.size ≤ 32 := fun g hg => by
      obtain ⟨q1, q2⟩ := g3 g hg
      refine ⟨q1, ?_⟩
      rcases q2 with q | q
      · exact nm_len q
      · omega
    have hgl := gr_len gs hsz
    have HLe := (show Hid ((grT gs).length ≤ 20490000) from by show (grT gs).length ≤ 20490000; omega)
    have HNe := (show Hid (grT gs ≠ []) from by
      show grT gs ≠ []
      cases gs with
      | nil => simp at g1
      | cons g r =>
        intro e
        have : ((itT (lnI g) ++ [10]) ++ grT r : List UInt8) = [] := e
        simp at this)
    have HP := (show Hid (GrD w A gs) from hp)
    have HG := (show Hid (∀ k, k < gs.length → ∃ g, gs[k]? = some g ∧ T.Rt g.2 ∧ (∀ n ∈ g.2, NdW n) ∧ g.1.size ≤ 32) from fun k hk => ⟨_, List.getElem?_eq_getElem hk, T.rt_of (hsz _ (List.getElem_mem hk)).1, hw _ (List.getElem_mem hk), (hsz _ (List.getElem_mem hk)).2⟩)
    have HTk := (show Hid (gs.take gs.length = gs) from List.take_length)
    clear hc hp hT hw hsz hgl g1 g3 g4
    generalize wrR gs = wv at *
    have y0 := HX.out.cl
    go_enter Tryz.func16, Tryz.ntmps16
    go_wp2_with fail
    refine (HC.out ()).mono ?_
    rintro e w1 ⟨rfl, b1⟩
    have HB1 := (show Hid (Below w.heap.size w w1) from HB0.out.trans (b1.mono HB0.out.size))
    have HX1 := (show Hid (GX w1 w.heap.size (.slice A gs.length c)) from HX.out.below b1)
    have hs1 := HB1.out.size
    have hx1 := HX1.out.lt
    have HF := (show Hid (Lib.IsBuilder 59 5 w1.heap.size w1.heap.size (Lib.byteCells []) (w1.alloc (.cells #[.pointer none, .slice none 0 0] 59))) from Lib.fresh_isBuilder 59 5 w1)
    have HX2 := (show Hid (GX (w1.alloc (.cells #[.pointer none, .slice none 0 0] 59)) w.heap.size (.slice A gs.length c)) from HX1.out.below (below_box _ _))
    have HD := (show Hid (GrD w A gs ∧ Below w.heap.size w (w1.alloc (.cells #[.pointer none, .slice none 0 0] 59))) from ⟨HP.out, HB1.out.alloc hs1 _⟩)
    clear b1 HC HB0 HX HX1 HP y0
    have y1 := HX2.out.cl
    go_wp2_with fail
    generalize hpb : w1.heap.size = pb at *
    generalize w1.alloc (.cells #[.pointer none, .slice none 0 0] 59) = w2 at *
    have H0 := (show Hid (Pg pb w2 w2 (grT (gs.take 0))) from Pg.start HF.out)
    go_loopw [17] (fun t wr => ∃ k : Nat, k ≤ gs.length ∧ t = .int .i64 k ∧ Hid (Pg pb w2 wr (grT (gs.take k)))) (fun t _ => gs.length - (intOf t).toNat)
    case atStart => exact ⟨0, by omega, by go_num, H0⟩
    case round =>
      obtain ⟨k, hk, rfl, HW⟩ := hrel
      clear H0 HF y1
      by_cases hlt : k < gs.length
      · obtain ⟨g, hg, hrt, hwd, hn32⟩ := HG.out k hlt
        obtain ⟨b, o, A2, c2, rfl, lb, x0, x1, r2⟩ := HD.out.1 k g hg
        obtain ⟨gp, op, rfl, lp, nd⟩ := r2 (by rintro e; have := rt_pos hrt; rw [e] at this; simp at this)
        have lgp : gp < pb := by omega
        have key : ∀ b, b < w.heap.size → wr.heap[b]? = w.heap[b]? := fun b hb => (HW.out.bl.block b (by omega)).trans (HD.out.2.block b hb)
        have x0' : wr.cell? ⟨b, o + k * 2, none⟩ = some (.string g.1) := (World.cell?_of_block (a := ⟨b, o + k * 2, none⟩) (key b lb)).trans x0
        have x1' : wr.cell? ⟨b, o + k * 2 + 1, none⟩ = some (.slice (some ⟨gp, op, none⟩) g.2.length c2) := (World.cell?_of_block (a := ⟨b, o + k * 2 + 1, none⟩) (key b lb)).trans x1
        have HNd := (show Hid (T.NdL w2 gp op g.2) from nd.same (HD.out.2.block gp lp))
        have HRt := (show Hid (T.Rt g.2) from hrt)
        have HWd := (show Hid (∀ n ∈ g.2, NdW n) from hwd)
        have hle := grT_take gs (k + 1)
        rw [grT_succ hg, List.length_append, List.length_append, ln_text, List.length_append] at hle
        have hle2 := HLe.out
        have HGs := (show Hid (grT (gs.take (k + 1)) = grT (gs.take k) ++ (itT (lnI g) ++ [10])) from grT_succ hg)
        have z0 : (0 : Int) ≤ (k : Int) := by omega
        have z1 : (k : Int) < (gs.length : Int) := by omega
        have hwr := pg_lt HW.out.i
        have HW3 := (show Hid (Pg pb w2 (wr.alloc (.cells #[.string g.1, .slice (some ⟨gp, op, none⟩) g.2.length c2] 73)) (grT (gs.take k))) from HW.out.later (below_box _ _))
        have HBx := (show Hid (Fx (wr.alloc (.cells #[.string g.1, .slice (some ⟨gp, op, none⟩) g.2.length c2] 73)) pb wr.heap.size #[.string g.1, .slice (some ⟨gp, op, none⟩) g.2.length c2] 73) from ⟨⟨_, heap_alloc_new wr _⟩, by omega, by decide⟩)
        clear x0 x1 key nd hg hrt hwd HG HW r2
        by_cases hs0 : g.1.size = 0
        · have te : (g.1.toList == []) = true := by
            have e := T.emp_t hs0
            rw [List.isEmpty_iff] at e
            rw [e]; rfl
          have te2 := T.emp_t hs0
          have HLn := (show Hid (itT (lnI g) = itT (shI g.2)) from by show itT (lnI g) = _; rw [ln_text, if_pos hs0]; rfl)
          rw [if_pos hs0] at hle
          have HLl := (show Hid ((grT (gs.take k)).length + ((itT (shI g.2)).length + 1) ≤ 20490000) from by show (grT (gs.take k)).length + _ ≤ _; simp only [List.length_nil, List.length_singleton] at hle; omega)
          have HPq := HW3
          clear hle hle2 hs0 HBx
          have HTe : Hid (∀ _ : Unit, Calls Tryz.prog 26 #[.slice (some ⟨gp, op, none⟩) g.2.length c2, telV pb] (wr.alloc (.cells #[.string g.1, .slice (some ⟨gp, op, none⟩) g.2.length c2] 73)) fun e w' => (∃ tb, e = .returned (.pointer (some ⟨tb, 0, none⟩)) ∧ Tl w' pb tb g.2 gp op c2) ∧ Below (wr.alloc (.cells #[.string g.1, .slice (some ⟨gp, op, none⟩) g.2.length c2] 73)).heap.size (wr.alloc (.cells #[.string g.1, .slice (some ⟨gp, op, none⟩) g.2.length c2] 73)) w') := fun _ => newTeller_any g.2 pb gp op c2 (by have := HRt.out.len; omega) HRt.out.each _ (HNd.out.same (HPq.out.bl.block gp lgp)) lgp (pg_lt HPq.out.i)
          go_wp2_with fail
          refine (HTe.out ()).mono ?_
          rintro e w5 ⟨⟨tb, rfl, ht⟩, b5⟩
          have HP5 := (show Hid (Pg pb w2 w5 (grT (gs.take k))) from HPq.out.later b5)
          have HPa : Hid (∀ _ : Unit, Calls Tryz.prog 28 #[.pointer (some ⟨tb, 0, none⟩)] w5 fun e W' => e = .returned (.tuple #[]) ∧ Pg pb w5 W' ((grT (gs.take k)) ++ itT (shI g.2))) := fun _ => pattern_any HRt.out HWd.out w5 _ ht HP5.out.i (by have := HLl.out; omega)
          clear ht b5 HTe HPq
          go_wp2_with fail
          refine (HPa.out ()).mono ?_
          rintro e w6 ⟨rfl, p6⟩
          have HP6 := (show Hid (Pg pb w2 w6 ((grT (gs.take k)) ++ itT (shI g.2))) from HP5.out.trans p6)
          clear p6 HPa HP5
          go_wp2_with fail
          refine (tell_one ⟨#[10]⟩ HP6.out.i (by rw [List.length_append]; have := HLl.out; show _ + 1 ≤ _; omega)).mono ?_
          rintro e w7 ⟨rfl, p7⟩
          have HP7 := (show Hid (Pg pb w2 w7 (grT (gs.take (k + 1)))) from by
            show Pg pb w2 w7 _
            rw [HGs.out]
            have := HP6.out.trans p7
            rw [HLn.out, ← List.append_assoc]
            exact this)
          clear p7 HP6
          go_wp2_with fail
          go_roundw
          case rel => exact ⟨k + 1, by omega, by go_num, HP7⟩
          case measure => simp [intOf]; omega
        · have te : (g.1.toList == []) = false := by
            have e := T.emp_f hs0
            cases hl : g.1.toList with
            | nil => rw [hl] at e; cases e
            | cons x r => rfl
          have te2 := T.emp_f hs0
          have HLn := (show Hid (itT (lnI g) = (g.1.data.toList ++ [32, 60, 45, 32]) ++ itT (shI g.2)) from by show itT (lnI g) = _; rw [ln_text, if_neg hs0])
          rw [if_neg hs0, List.length_append] at hle
          have HLl := (show Hid ((grT (gs.take k)).length + ((g.1.data.toList.length + 4) + ((itT (shI g.2)).length + 1)) ≤ 20490000) from by show (grT (gs.take k)).length + _ ≤ _; simp only [List.length_singleton] at hle; have e4 : ([32, 60, 45, 32] : List UInt8).length = 4 := rfl; omega)
          clear hle hle2 hs0
          have HTw : Hid (∀ _ : Unit, Calls Tryz.prog 27 #[.pointer (some ⟨pb, 0, none⟩), .slice (some ⟨wr.heap.size + 1, 0, none⟩) 2 2] ((wr.alloc (.cells #[.string g.1, .slice (some ⟨gp, op, none⟩) g.2.length c2] 73)).alloc (.cells #[.string g.1, .string ⟨#[32, 60, 45, 32]⟩] 9)) fun e W' => e = .returned (.tuple #[]) ∧ Pg pb (wr.alloc (.cells #[.string g.1, .slice (some ⟨gp, op, none⟩) g.2.length c2] 73)) W' (grT (gs.take k) ++ (g.1.data.toList ++ [32, 60, 45, 32]))) := fun _ => by
            have h := tell_two g.1 ⟨#[32, 60, 45, 32]⟩ HW3.out.i (by
              have := HLl.out
              rw [List.length_append]
              have e4 : (⟨#[32, 60, 45, 32]⟩ : ByteArray).data.toList.length = 4 := rfl
              omega)
            rw [World.size_alloc] at h
            exact h
          go_wp2_with fail
          refine (HTw.out ()).mono ?_
          rintro e w4 ⟨rfl, p4⟩
          have HPq := (show Hid (Pg pb w2 w4 (grT (gs.take k) ++ (g.1.data.toList ++ [32, 60, 45, 32]))) from HW3.out.trans p4)
          have d1 : w4.cell? ⟨wr.heap.size, 1, none⟩ = some (.slice (some ⟨gp, op, none⟩) g.2.length c2) := (HBx.out.keep p4.k).cell 1
          clear p4 HW3 HBx HTw
          have HTe : Hid (∀ _ : Unit, Calls Tryz.prog 26 #[.slice (some ⟨gp, op, none⟩) g.2.length c2, telV pb] w4 fun e w' => (∃ tb, e = .returned (.pointer (some ⟨tb, 0, none⟩)) ∧ Tl w' pb tb g.2 gp op c2) ∧ Below w4.heap.size w4 w') := fun _ => newTeller_any g.2 pb gp op c2 (by have := HRt.out.len; omega) HRt.out.each _ (HNd.out.same (HPq.out.bl.block gp lgp)) lgp (pg_lt HPq.out.i)
          go_wp2_with fail
          refine (HTe.out ()).mono ?_
          rintro e w5 ⟨⟨tb, rfl, ht⟩, b5⟩
          have HP5 := (show Hid (Pg pb w2 w5 (grT (gs.take k) ++ (g.1.data.toList ++ [32, 60, 45, 32]))) from HPq.out.later b5)
          have HPa : Hid (∀ _ : Unit, Calls Tryz.prog 28 #[.pointer (some ⟨tb, 0, none⟩)] w5 fun e W' => e = .returned (.tuple #[]) ∧ Pg pb w5 W' ((grT (gs.take k) ++ (g.1.data.toList ++ [32, 60, 45, 32])) ++ itT (shI g.2))) := fun _ => pattern_any HRt.out HWd.out w5 _ ht HP5.out.i (by rw [List.length_append, List.length_append]; have := HLl.out; show _ + (_ + 4) ≤ _; omega)
          clear ht b5 HTe HPq
          go_wp2_with fail
          refine (HPa.out ()).mono ?_
          rintro e w6 ⟨rfl, p6⟩
          have HP6 := (show Hid (Pg pb w2 w6 ((grT (gs.take k) ++ (g.1.data.toList ++ [32, 60, 45, 32])) ++ itT (shI g.2))) from HP5.out.trans p6)
          clear p6 HPa HP5
          go_wp2_with fail
          refine (tell_one ⟨#[10]⟩ HP6.out.i (by rw [List.length_append]; rw [List.length_append, List.length_append]; have := HLl.out; show _ + (_ + 4) + _ + 1 ≤ _; omega)).mono ?_
          rintro e w7 ⟨rfl, p7⟩
          have HP7 := (show Hid (Pg pb w2 w7 (grT (gs.take (k + 1)))) from by
            show Pg pb w2 w7 _
            rw [HGs.out]
            have := HP6.out.trans p7
            rw [HLn.out, ← List.append_assoc, ← List.append_assoc]
            exact this)
          clear p7 HP6
          go_wp2_with fail
          go_roundw
          case rel => exact ⟨k + 1, by omega, by go_num, HP7⟩
          case measure => simp [intOf]; omega
      · obtain rfl : k = gs.length := by omega
        have HWh : Hid (∀ _ : Unit, Calls Tryz.prog 29 #[.pointer (some ⟨pb, 0, none⟩)] wr fun e w' => e = .returned (.tuple #[.string (lnR (grT gs)).1, .int .i64 (lnR (grT gs)).2]) ∧ Below pb wr w') := fun _ => by
          have h := HW.out
          rw [HTk.out] at h
          exact whole_any pb _ wr h.i HNe.out (by have := HLe.out; omega)
        have hle : w.heap.size ≤ pb := by omega
        clear HG
        go_wp2_with fail
        refine (HWh.out ()).mono ?_
        rintro e w4 ⟨rfl, b4⟩
        have HB4 := (show Hid (Below w.heap.size w w4) from (HD.out.2.trans (HW.out.bl.mono hle)).trans (b4.mono hle))
        clear b4 HWh HW HD
        go_wp2_with fail
        go_ret2
        exact ⟨by rw [HE.out]; rfl, HB4.out⟩
  · have t0 : (wrR gs != 0) = true := by rw [bne, beq_eq_false_iff_ne.2 hc]; rfl
    have HE := (show Hid (grR gs = (⟨#[]⟩, wrR gs)) from by show grR gs = _; unfold grR; rw [if_neg hc])
    clear hp hT hw hc
    generalize wrR gs = wv at *
    have y0 := HX.out.cl
    go_enter Tryz.func16, Tryz.ntmps16
    go_wp2_with fail
    refine (HC.out ()).mono ?_
    rintro e w1 ⟨rfl, b1⟩
    have HB1 := (show Hid (Below w.heap.size w w1) from HB0.out.trans (b1.mono HB0.out.size))
    clear b1 HC HX HB0 y0
    go_wp2_with fail
    go_ret2
    exact ⟨by rw [HE.out]; rfl, HB1.out⟩
end Go.Proofs.YtnpifgcgjgddoaaGreatDoor.N
