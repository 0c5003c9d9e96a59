/- DERIVED. Plain mathematics and walks, laid together (13). -/
import Derived.Test.YtnpifgcgjgddoaaGreatDoorPp12
namespace Go.Proofs.YtnpifgcgjgddoaaGreatDoor.N
open Go.RowKit
set_option maxRecDepth 100000 in
set_option maxHeartbeats 4000000 in
theorem nodeD_14 {L : List Nd} {B tb gp op cp g1 c1 k : Nat} {nn : Int} {tx : ByteArray} {a b c d : Int} (hn : L[k]? = some ⟨14, nn, tx, a, b, c, d⟩) (hL : L.length ≤ 2048) (he : ∀ i, i < L.length → T.er L i = 0) (hw : NdW ⟨14, nn, tx, a, b, c, d⟩) (hc : ∀ j ∈ kds L k, ∀ d, DPar L B tb gp op cp g1 c1 j d) : DNod L B tb gp op cp g1 c1 k := by
  intro W x v hD hF
  have hk : k < L.length := (List.getElem?_eq_some_iff.1 hn).1
  have hal := (T.er_ok hn (he k hk)).al
  obtain ⟨m, hm, hm2⟩ := nn_of hal
  dsimp only at hm
  subst hm
  obtain ⟨fa, fb, fc⟩ := fr14 (n := ⟨14, (m : Int), tx, a, b, c, d⟩) rfl
  obtain ⟨hT, hks, hk1⟩ := en_1 hn he rfl
  obtain ⟨kk, hkk⟩ : ∃ kk, kk = k - 1 := ⟨_, rfl⟩
  rw [← hkk] at hT hks
  have HKK := (show Hid ((k : Int) = (kk : Int) + 1) from by show (k : Int) = (kk : Int) + 1; omega)
  clear hkk hk1
  rw [fa, fc] at hT
  rw [fdx14 rfl] at hT
  simp only [Int.toNat_natCast] at hT
  replace hT : itT (enX L k).2 = itT (partI 3 (enX L kk)) ++ (⟨#[94]⟩ ++ txO (dgT 10 m) : ByteArray).data.toList := hT
  have hDs : (txO (dgT 10 m)).size ≤ 100 := by rw [txO_size]; exact dg_small hm2
  have hWh : ∀ w, Calls Tryz.prog 82 #[.int .i64 m, .int .i64 10] w fun e w' => e = .returned (.string (txO (dgT 10 m))) ∧ w' = w := fun w => whole10_any m (by omega) w
  obtain ⟨D, hD0⟩ : ∃ D : ByteArray, D = txO (dgT 10 m) := ⟨_, rfl⟩
  rw [← hD0] at hT hDs
  simp only [← hD0] at hWh
  clear hD0
  have HAd := (show Hid (∀ (w' : World) (y : Option (List UInt8)) (vv : Value), Dt w' B tb L gp op cp g1 c1 y → Bf w' B y vv → Calls Tryz.prog 55 #[.pointer (some ⟨tb, 0, none⟩), vv, .string (⟨#[94]⟩ ++ D)] w' fun e W' => ∃ v', e = .returned v' ∧ Dq w' W' B tb L gp op cp g1 c1 (adT y (⟨#[94]⟩ ++ D : ByteArray).data.toList) v') from fun w' y vv hd hf => addD_any _ (by rw [ByteArray.size_append]; show 1 + _ ≤ _; omega) hd hf)
  obtain ⟨TX, hTX⟩ : ∃ TX, TX = (⟨#[94]⟩ ++ D : ByteArray).data.toList := ⟨_, rfl⟩
  rw [← hTX] at hT
  simp only [← hTX] at HAd
  clear hTX
  rw [hT]
  have a0 := hD.c0
  have a1 := hD.c1
  obtain ⟨c0, c1', c2, c3, c4, c5, c6⟩ := hD.n k _ hn
  have z0 : (0 : Int) ≤ (k : Int) := by omega
  have z1 : (k : Int) < (L.length : Int) := by omega
  obtain ⟨w0, hw0⟩ : ∃ w0, w0 = W.alloc (.cells (T.ndV ⟨14, (m : Int), tx, a, b, c, d⟩).toArray 51) := ⟨_, rfl⟩
  have hb0 : Below W.heap.size W w0 := by rw [hw0]; exact below_box W _
  have HE0 := (show Hid (W.alloc (.cells #[.int .i64 14, .int .i64 (m : Int), .string tx, .int .u64 a, .int .u64 b, .int .u64 c, .int .u64 d] 51) = w0) from hw0.symm)
  have HK : Hid (∀ _ : Unit, Calls Tryz.prog 57 #[.slice (some ⟨gp, op, none⟩) L.length cp, .slice (some ⟨g1, 0, none⟩) L.length c1, .int .i64 k] w0.drew fun e W'' => (∃ u, e = .returned u ∧ Nz W W'' B tb L gp op cp g1 c1 x v W.heap.size ⟨14, (m : Int), tx, a, b, c, d⟩ u (kds L k)) ∧ Below w0.heap.size w0 W'') := fun _ => by
    refine (kidsD_any hL hk he hD (hb0.drew)).mono ?_
    rintro e W'' ⟨⟨u, rfl, hu⟩, bl⟩
    have bl2 : Below w0.heap.size w0 W'' := ((Below.refl _ w0).drew).trans bl
    exact ⟨⟨u, rfl, Nz.mk1 hD hF hw0 bl2 hu⟩, bl2⟩
  have d0 : w0.cell? ⟨tb, 0, none⟩ = some (.slice (some ⟨gp, op, none⟩) L.length cp) := (hD.later hb0).c0
  have d1 : w0.cell? ⟨tb, 1, none⟩ = some (.slice (some ⟨g1, 0, none⟩) L.length c1) := (hD.later hb0).c1
  have HWh : Hid (∀ w, Calls Tryz.prog 82 #[.int .i64 m, .int .i64 10] w fun e w' => e = .returned (.string D) ∧ w' = w) := hWh
  clear hWh
  have HC := (show Hid _ from hc)
  rw [hks] at HK HC
  obtain ⟨A0, n0, k0, rfl, hn0⟩ := hF.n
  have HDs := (show Hid (D.size ≤ 100) from hDs)
  clear hDs
  clear hT hks hc hD hF hal fa fb fc hw0 hb0 hw he hn
  go_enter Tryz.func77, Tryz.ntmps77
  go_wp2_with (rw [HE0.out])
  go_region_held3 (fun W' => W'.cell? ⟨tb, 0, none⟩ = some (.slice (some ⟨gp, op, none⟩) L.length cp) ∧ W'.cell? ⟨tb, 1, none⟩ = some (.slice (some ⟨g1, 0, none⟩) L.length c1)) (first | go_keep | exact ⟨hz.q.d.c0, hz.q.d.c1⟩ | exact ⟨d0, d1⟩) ((with_reducible refine (HK.out ()).mono ?_; rintro e wA ⟨⟨u, rfl, hz⟩, _⟩))
  have HZ := (show Hid _ from hz)
  rename_i hHeld
  clear hHeld hz HK HE0 d0 d1 a0 a1 c0 c1' c2 c3 c4 c5 c6
  have e0 : wA.cell? ⟨W.heap.size, 0, none⟩ = some (.int .i64 14) := HZ.out.nd.cell 0
  have e1 : wA.cell? ⟨W.heap.size, 1, none⟩ = some (.int .i64 m) := HZ.out.nd.cell 1
  have e2 : wA.cell? ⟨W.heap.size, 2, none⟩ = some (.string tx) := HZ.out.nd.cell 2
  go_wp2_with fail
  refine (HWh.out _).mono ?_
  rintro e w1 ⟨rfl, rfl⟩
  clear HWh
  obtain ⟨Au, cu, rfl, hu⟩ := HZ.out.kd
  obtain ⟨gu, cuu, rfl, hfu, hcu⟩ := hu (by simp)
  have e3 : w1.cell? ⟨gu, 0, none⟩ = some (.int .i64 (kk : Int)) := (hfu.cell 0).trans (hcu 0 _ rfl)
  clear hu hfu hcu
  have HCc := (show Hid _ from HC.out kk (List.mem_singleton.2 rfl) 3)
  clear HC
  have hds := HDs.out
  have hq : ¬ 9223372036854775807 < 1 + D.size := by omega
  clear HDs hds
  go_wp2_with fail
  refine (HCc.out _ _ _ HZ.out.q.d HZ.out.q.f).mono ?_
  rintro e w2 ⟨v2, rfl, q2⟩
  have HQ2 := (show Hid _ from HZ.out.q.trans q2)
  obtain ⟨A2, n2, k2, rfl, hn2⟩ := q2.f.n
  clear q2 HZ e0 e1 e2 e3
  go_wp2_with fail
  refine (HAd.out _ _ _ HQ2.out.d HQ2.out.f).mono ?_
  rintro e w3 ⟨v3, rfl, q3⟩
  have HQ := (show Hid (Dq W w3 B tb L gp op cp g1 c1 (adT x (itT (partI 3 (enX L kk)) ++ TX)) v3) from by
    have h := HQ2.out.trans q3
    rw [adT_app] at h
    exact h)
  clear q3 HQ2
  obtain ⟨A9, n9, k9, rfl, hn9⟩ := HQ.out.f.n
  go_wp2_with fail
  go_ret
  exact ⟨_, rfl, HQ.out⟩
set_option maxRecDepth 100000 in
set_option maxHeartbeats 4000000 in
theorem nodeD_15 {L : List Nd} {B tb gp op cp g1 c1 k : Nat} {nn : Int} {tx : ByteArray} {a b c d : Int} (hn : L[k]? = some ⟨15, nn, tx, a, b, c, d⟩) (hL : L.length ≤ 2048) (he : ∀ i, i < L.length → T.er L i = 0) (hw : NdW ⟨15, nn, tx, a, b, c, d⟩) (hc : ∀ j ∈ kds L k, ∀ d, DPar L B tb gp op cp g1 c1 j d) : DNod L B tb gp op cp g1 c1 k := by
  intro W x v hD hF
  have hk : k < L.length := (List.getElem?_eq_some_iff.1 hn).1
  have hal := (T.er_ok hn (he k hk)).al
  obtain ⟨m, hm, hm2⟩ := nn_of hal
  dsimp only at hm
  subst hm
  obtain ⟨fa, fb, fc⟩ := fr15 (n := ⟨15, (m : Int), tx, a, b, c, d⟩) rfl
  obtain ⟨hT, hks, hk1⟩ := en_1 hn he rfl
  obtain ⟨kk, hkk⟩ : ∃ kk, kk = k - 1 := ⟨_, rfl⟩
  rw [← hkk] at hT hks
  have HKK := (show Hid ((k : Int) = (kk : Int) + 1) from by show (k : Int) = (kk : Int) + 1; omega)
  clear hkk hk1
  rw [fa, fc] at hT
  rw [fdx15 rfl] at hT
  simp only [Int.toNat_natCast] at hT
  replace hT : itT (enX L k).2 = itT (partI 3 (enX L kk)) ++ (⟨#[94, 43]⟩ ++ txO (dgT 10 m) : ByteArray).data.toList := hT
  have hDs : (txO (dgT 10 m)).size ≤ 100 := by rw [txO_size]; exact dg_small hm2
  have hWh : ∀ w, Calls Tryz.prog 82 #[.int .i64 m, .int .i64 10] w fun e w' => e = .returned (.string (txO (dgT 10 m))) ∧ w' = w := fun w => whole10_any m (by omega) w
  obtain ⟨D, hD0⟩ : ∃ D : ByteArray, D = txO (dgT 10 m) := ⟨_, rfl⟩
  rw [← hD0] at hT hDs
  simp only [← hD0] at hWh
  clear hD0
  have HAd := (show Hid (∀ (w' : World) (y : Option (List UInt8)) (vv : Value), Dt w' B tb L gp op cp g1 c1 y → Bf w' B y vv → Calls Tryz.prog 55 #[.pointer (some ⟨tb, 0, none⟩), vv, .string (⟨#[94, 43]⟩ ++ D)] w' fun e W' => ∃ v', e = .returned v' ∧ Dq w' W' B tb L gp op cp g1 c1 (adT y (⟨#[94, 43]⟩ ++ D : ByteArray).data.toList) v') from fun w' y vv hd hf => addD_any _ (by rw [ByteArray.size_append]; show 2 + _ ≤ _; omega) hd hf)
  obtain ⟨TX, hTX⟩ : ∃ TX, TX = (⟨#[94, 43]⟩ ++ D : ByteArray).data.toList := ⟨_, rfl⟩
  rw [← hTX] at hT
  simp only [← hTX] at HAd
  clear hTX
  rw [hT]
  have a0 := hD.c0
  have a1 := hD.c1
  obtain ⟨c0, c1', c2, c3, c4, c5, c6⟩ := hD.n k _ hn
  have z0 : (0 : Int) ≤ (k : Int) := by omega
  have z1 : (k : Int) < (L.length : Int) := by omega
  obtain ⟨w0, hw0⟩ : ∃ w0, w0 = W.alloc (.cells (T.ndV ⟨15, (m : Int), tx, a, b, c, d⟩).toArray 51) := ⟨_, rfl⟩
  have hb0 : Below W.heap.size W w0 := by rw [hw0]; exact below_box W _
  have HE0 := (show Hid (W.alloc (.cells #[.int .i64 15, .int .i64 (m : Int), .string tx, .int .u64 a, .int .u64 b, .int .u64 c, .int .u64 d] 51) = w0) from hw0.symm)
  have HK : Hid (∀ _ : Unit, Calls Tryz.prog 57 #[.slice (some ⟨gp, op, none⟩) L.length cp, .slice (some ⟨g1, 0, none⟩) L.length c1, .int .i64 k] w0.drew fun e W'' => (∃ u, e = .returned u ∧ Nz W W'' B tb L gp op cp g1 c1 x v W.heap.size ⟨15, (m : Int), tx, a, b, c, d⟩ u (kds L k)) ∧ Below w0.heap.size w0 W'') := fun _ => by
    refine (kidsD_any hL hk he hD (hb0.drew)).mono ?_
    rintro e W'' ⟨⟨u, rfl, hu⟩, bl⟩
    have bl2 : Below w0.heap.size w0 W'' := ((Below.refl _ w0).drew).trans bl
    exact ⟨⟨u, rfl, Nz.mk1 hD hF hw0 bl2 hu⟩, bl2⟩
  have d0 : w0.cell? ⟨tb, 0, none⟩ = some (.slice (some ⟨gp, op, none⟩) L.length cp) := (hD.later hb0).c0
  have d1 : w0.cell? ⟨tb, 1, none⟩ = some (.slice (some ⟨g1, 0, none⟩) L.length c1) := (hD.later hb0).c1
  have HWh : Hid (∀ w, Calls Tryz.prog 82 #[.int .i64 m, .int .i64 10] w fun e w' => e = .returned (.string D) ∧ w' = w) := hWh
  clear hWh
  have HC := (show Hid _ from hc)
  rw [hks] at HK HC
  obtain ⟨A0, n0, k0, rfl, hn0⟩ := hF.n
  have HDs := (show Hid (D.size ≤ 100) from hDs)
  clear hDs
  clear hT hks hc hD hF hal fa fb fc hw0 hb0 hw he hn
  go_enter Tryz.func77, Tryz.ntmps77
  go_wp2_with (rw [HE0.out])
  go_region_held3 (fun W' => W'.cell? ⟨tb, 0, none⟩ = some (.slice (some ⟨gp, op, none⟩) L.length cp) ∧ W'.cell? ⟨tb, 1, none⟩ = some (.slice (some ⟨g1, 0, none⟩) L.length c1)) (first | go_keep | exact ⟨hz.q.d.c0, hz.q.d.c1⟩ | exact ⟨d0, d1⟩) ((with_reducible refine (HK.out ()).mono ?_; rintro e wA ⟨⟨u, rfl, hz⟩, _⟩))
  have HZ := (show Hid _ from hz)
  rename_i hHeld
  clear hHeld hz HK HE0 d0 d1 a0 a1 c0 c1' c2 c3 c4 c5 c6
  have e0 : wA.cell? ⟨W.heap.size, 0, none⟩ = some (.int .i64 15) := HZ.out.nd.cell 0
  have e1 : wA.cell? ⟨W.heap.size, 1, none⟩ = some (.int .i64 m) := HZ.out.nd.cell 1
  have e2 : wA.cell? ⟨W.heap.size, 2, none⟩ = some (.string tx) := HZ.out.nd.cell 2
  go_wp2_with fail
  refine (HWh.out _).mono ?_
  rintro e w1 ⟨rfl, rfl⟩
  clear HWh
  obtain ⟨Au, cu, rfl, hu⟩ := HZ.out.kd
  obtain ⟨gu, cuu, rfl, hfu, hcu⟩ := hu (by simp)
  have e3 : w1.cell? ⟨gu, 0, none⟩ = some (.int .i64 (kk : Int)) := (hfu.cell 0).trans (hcu 0 _ rfl)
  clear hu hfu hcu
  have HCc := (show Hid _ from HC.out kk (List.mem_singleton.2 rfl) 3)
  clear HC
  have hds := HDs.out
  have hq : ¬ 9223372036854775807 < 2 + D.size := by omega
  clear HDs hds
  go_wp2_with fail
  refine (HCc.out _ _ _ HZ.out.q.d HZ.out.q.f).mono ?_
  rintro e w2 ⟨v2, rfl, q2⟩
  have HQ2 := (show Hid _ from HZ.out.q.trans q2)
  obtain ⟨A2, n2, k2, rfl, hn2⟩ := q2.f.n
  clear q2 HZ e0 e1 e2 e3
  go_wp2_with fail
  refine (HAd.out _ _ _ HQ2.out.d HQ2.out.f).mono ?_
  rintro e w3 ⟨v3, rfl, q3⟩
  have HQ := (show Hid (Dq W w3 B tb L gp op cp g1 c1 (adT x (itT (partI 3 (enX L kk)) ++ TX)) v3) from by
    have h := HQ2.out.trans q3
    rw [adT_app] at h
    exact h)
  clear q3 HQ2
  obtain ⟨A9, n9, k9, rfl, hn9⟩ := HQ.out.f.n
  go_wp2_with fail
  go_ret
  exact ⟨_, rfl, HQ.out⟩
set_option maxRecDepth 100000 in
set_option maxHeartbeats 4000000 in
theorem nodeD_16 {L : List Nd} {B tb gp op cp g1 c1 k : Nat} {nn : Int} {tx : ByteArray} {a b c d : Int} (hn : L[k]? = some ⟨16, nn, tx, a, b, c, d⟩) (hL : L.length ≤ 2048) (he : ∀ i, i < L.length → T.er L i = 0) (hw : NdW ⟨16, nn, tx, a, b, c, d⟩) (hc : ∀ j ∈ kds L k, ∀ d, DPar L B tb gp op cp g1 c1 j d) : DNod L B tb gp op cp g1 c1 k := by
  intro W x v hD hF
  have hk : k < L.length := (List.getElem?_eq_some_iff.1 hn).1
  have hal := (T.er_ok hn (he k hk)).al
  obtain ⟨m, hm, hm2⟩ := nn_of hal
  dsimp only at hm
  subst hm
  obtain ⟨fa, fb, fc⟩ := fr16 (n := ⟨16, (m : Int), tx, a, b, c, d⟩) rfl
  obtain ⟨hT, hks, hk1⟩ := en_1 hn he rfl
  obtain ⟨kk, hkk⟩ : ∃ kk, kk = k - 1 := ⟨_, rfl⟩
  rw [← hkk] at hT hks
  have HKK := (show Hid ((k : Int) = (kk : Int) + 1) from by show (k : Int) = (kk : Int) + 1; omega)
  clear hkk hk1
  rw [fa, fc] at hT
  rw [fdx16 rfl] at hT
  simp only [Int.toNat_natCast] at hT
  replace hT : itT (enX L k).2 = itT (partI 3 (enX L kk)) ++ (⟨#[94, 45]⟩ ++ txO (dgT 10 m) : ByteArray).data.toList := hT
  have hDs : (txO (dgT 10 m)).size ≤ 100 := by rw [txO_size]; exact dg_small hm2
  have hWh : ∀ w, Calls Tryz.prog 82 #[.int .i64 m, .int .i64 10] w fun e w' => e = .returned (.string (txO (dgT 10 m))) ∧ w' = w := fun w => whole10_any m (by omega) w
  obtain ⟨D, hD0⟩ : ∃ D : ByteArray, D = txO (dgT 10 m) := ⟨_, rfl⟩
  rw [← hD0] at hT hDs
  simp only [← hD0] at hWh
  clear hD0
  have HAd := (show Hid (∀ (w' : World) (y : Option (List UInt8)) (vv : Value), Dt w' B tb L gp op cp g1 c1 y → Bf w' B y vv → Calls Tryz.prog 55 #[.pointer (some ⟨tb, 0, none⟩), vv, .string (⟨#[94, 45]⟩ ++ D)] w' fun e W' => ∃ v', e = .returned v' ∧ Dq w' W' B tb L gp op cp g1 c1 (adT y (⟨#[94, 45]⟩ ++ D : ByteArray).data.toList) v') from fun w' y vv hd hf => addD_any _ (by rw [ByteArray.size_append]; show 2 + _ ≤ _; omega) hd hf)
  obtain ⟨TX, hTX⟩ : ∃ TX, TX = (⟨#[94, 45]⟩ ++ D : ByteArray).data.toList := ⟨_, rfl⟩
  rw [← hTX] at hT
  simp only [← hTX] at HAd
  clear hTX
  rw [hT]
  have a0 := hD.c0
  have a1 := hD.c1
  obtain ⟨c0, c1', c2, c3, c4, c5, c6⟩ := hD.n k _ hn
  have z0 : (0 : Int) ≤ (k : Int) := by omega
  have z1 : (k : Int) < (L.length : Int) := by omega
  obtain ⟨w0, hw0⟩ : ∃ w0, w0 = W.alloc (.cells (T.ndV ⟨16, (m : Int), tx, a, b, c, d⟩).toArray 51) := ⟨_, rfl⟩
  have hb0 : Below W.heap.size W w0 := by rw [hw0]; exact below_box W _
  have HE0 := (show Hid (W.alloc (.cells #[.int .i64 16, .int .i64 (m : Int), .string tx, .int .u64 a, .int .u64 b, .int .u64 c, .int .u64 d] 51) = w0) from hw0.symm)
  have HK : Hid (∀ _ : Unit, Calls Tryz.prog 57 #[.slice (some ⟨gp, op, none⟩) L.length cp, .slice (some ⟨g1, 0, none⟩) L.length c1, .int .i64 k] w0.drew fun e W'' => (∃ u, e = .returned u ∧ Nz W W'' B tb L gp op cp g1 c1 x v W.heap.size ⟨16, (m : Int), tx, a, b, c, d⟩ u (kds L k)) ∧ Below w0.heap.size w0 W'') := fun _ => by
    refine (kidsD_any hL hk he hD (hb0.drew)).mono ?_
    rintro e W'' ⟨⟨u, rfl, hu⟩, bl⟩
    have bl2 : Below w0.heap.size w0 W'' := ((Below.refl _ w0).drew).trans bl
    exact ⟨⟨u, rfl, Nz.mk1 hD hF hw0 bl2 hu⟩, bl2⟩
  have d0 : w0.cell? ⟨tb, 0, none⟩ = some (.slice (some ⟨gp, op, none⟩) L.length cp) := (hD.later hb0).c0
  have d1 : w0.cell? ⟨tb, 1, none⟩ = some (.slice (some ⟨g1, 0, none⟩) L.length c1) := (hD.later hb0).c1
  have HWh : Hid (∀ w, Calls Tryz.prog 82 #[.int .i64 m, .int .i64 10] w fun e w' => e = .returned (.string D) ∧ w' = w) := hWh
  clear hWh
  have HC := (show Hid _ from hc)
  rw [hks] at HK HC
  obtain ⟨A0, n0, k0, rfl, hn0⟩ := hF.n
  have HDs := (show Hid (D.size ≤ 100) from hDs)
  clear hDs
  clear hT hks hc hD hF hal fa fb fc hw0 hb0 hw he hn
  go_enter Tryz.func77, Tryz.ntmps77
  go_wp2_with (rw [HE0.out])
  go_region_held3 (fun W' => W'.cell? ⟨tb, 0, none⟩ = some (.slice (some ⟨gp, op, none⟩) L.length cp) ∧ W'.cell? ⟨tb, 1, none⟩ = some (.slice (some ⟨g1, 0, none⟩) L.length c1)) (first | go_keep | exact ⟨hz.q.d.c0, hz.q.d.c1⟩ | exact ⟨d0, d1⟩) ((with_reducible refine (HK.out ()).mono ?_; rintro e wA ⟨⟨u, rfl, hz⟩, _⟩))
  have HZ := (show Hid _ from hz)
  rename_i hHeld
  clear hHeld hz HK HE0 d0 d1 a0 a1 c0 c1' c2 c3 c4 c5 c6
  have e0 : wA.cell? ⟨W.heap.size, 0, none⟩ = some (.int .i64 16) := HZ.out.nd.cell 0
  have e1 : wA.cell? ⟨W.heap.size, 1, none⟩ = some (.int .i64 m) := HZ.out.nd.cell 1
  have e2 : wA.cell? ⟨W.heap.size, 2, none⟩ = some (.string tx) := HZ.out.nd.cell 2
  go_wp2_with fail
  refine (HWh.out _).mono ?_
  rintro e w1 ⟨rfl, rfl⟩
  clear HWh
  obtain ⟨Au, cu, rfl, hu⟩ := HZ.out.kd
  obtain ⟨gu, cuu, rfl, hfu, hcu⟩ := hu (by simp)
  have e3 : w1.cell? ⟨gu, 0, none⟩ = some (.int .i64 (kk : Int)) := (hfu.cell 0).trans (hcu 0 _ rfl)
  clear hu hfu hcu
  have HCc := (show Hid _ from HC.out kk (List.mem_singleton.2 rfl) 3)
  clear HC
  have hds := HDs.out
  have hq : ¬ 9223372036854775807 < 2 + D.size := by omega
  clear HDs hds
  go_wp2_with fail
  refine (HCc.out _ _ _ HZ.out.q.d HZ.out.q.f).mono ?_
  rintro e w2 ⟨v2, rfl, q2⟩
  have HQ2 := (show Hid _ from HZ.out.q.trans q2)
  obtain ⟨A2, n2, k2, rfl, hn2⟩ := q2.f.n
  clear q2 HZ e0 e1 e2 e3
  go_wp2_with fail
  refine (HAd.out _ _ _ HQ2.out.d HQ2.out.f).mono ?_
  rintro e w3 ⟨v3, rfl, q3⟩
  have HQ := (show Hid (Dq W w3 B tb L gp op cp g1 c1 (adT x (itT (partI 3 (enX L kk)) ++ TX)) v3) from by
    have h := HQ2.out.trans q3
    rw [adT_app] at h
    exact h)
  clear q3 HQ2
  obtain ⟨A9, n9, k9, rfl, hn9⟩ := HQ.out.f.n
  go_wp2_with fail
  go_ret
  exact ⟨_, rfl, HQ.out⟩
set_option maxRecDepth 100000 in
set_option maxHeartbeats 4000000 in
theorem nodeD_23 {L : List Nd} {B tb gp op cp g1 c1 k : Nat} {nn : Int} {tx : ByteArray} {a b c d : Int} (hn : L[k]? = some ⟨23, nn, tx, a, b, c, d⟩) (hL : L.length ≤ 2048) (he : ∀ i, i < L.length → T.er L i = 0) (hw : NdW ⟨23, nn, tx, a, b, c, d⟩) (hc : ∀ j ∈ kds L k, ∀ d, DPar L B tb gp op cp g1 c1 j d) : DNod L B tb gp op cp g1 c1 k := by
  intro W x v hD hF
  have hk : k < L.length := (List.getElem?_eq_some_iff.1 hn).1
  have hal := (T.er_ok hn (he k hk)).al
  obtain ⟨m, hm, hm2⟩ := nn_of hal
  dsimp only at hm
  subst hm
  obtain ⟨fa, fb, fc⟩ := fr23 (n := ⟨23, (m : Int), tx, a, b, c, d⟩) rfl
  obtain ⟨hT, hks, hk1⟩ := en_1 hn he rfl
  obtain ⟨kk, hkk⟩ : ∃ kk, kk = k - 1 := ⟨_, rfl⟩
  rw [← hkk] at hT hks
  have HKK := (show Hid ((k : Int) = (kk : Int) + 1) from by show (k : Int) = (kk : Int) + 1; omega)
  clear hkk hk1
  rw [fa, fc] at hT
  rw [fdx23 rfl] at hT
  simp only [Int.toNat_natCast] at hT
  replace hT : itT (enX L k).2 = itT (partI 3 (enX L kk)) ++ (⟨#[32, 45, 62, 32]⟩ ++ txO (dgT 10 m) : ByteArray).data.toList := hT
  have hDs : (txO (dgT 10 m)).size ≤ 100 := by rw [txO_size]; exact dg_small hm2
  have hWh : ∀ w, Calls Tryz.prog 82 #[.int .i64 m, .int .i64 10] w fun e w' => e = .returned (.string (txO (dgT 10 m))) ∧ w' = w := fun w => whole10_any m (by omega) w
  obtain ⟨D, hD0⟩ : ∃ D : ByteArray, D = txO (dgT 10 m) := ⟨_, rfl⟩
  rw [← hD0] at hT hDs
  simp only [← hD0] at hWh
  clear hD0
  have HAd := (show Hid (∀ (w' : World) (y : Option (List UInt8)) (vv : Value), Dt w' B tb L gp op cp g1 c1 y → Bf w' B y vv → Calls Tryz.prog 55 #[.pointer (some ⟨tb, 0, none⟩), vv, .string (⟨#[32, 45, 62, 32]⟩ ++ D)] w' fun e W' => ∃ v', e = .returned v' ∧ Dq w' W' B tb L gp op cp g1 c1 (adT y (⟨#[32, 45, 62, 32]⟩ ++ D : ByteArray).data.toList) v') from fun w' y vv hd hf => addD_any _ (by rw [ByteArray.size_append]; show 4 + _ ≤ _; omega) hd hf)
  obtain ⟨TX, hTX⟩ : ∃ TX, TX = (⟨#[32, 45, 62, 32]⟩ ++ D : ByteArray).data.toList := ⟨_, rfl⟩
  rw [← hTX] at hT
  simp only [← hTX] at HAd
  clear hTX
  rw [hT]
  have a0 := hD.c0
  have a1 := hD.c1
  obtain ⟨c0, c1', c2, c3, c4, c5, c6⟩ := hD.n k _ hn
  have z0 : (0 : Int) ≤ (k : Int) := by omega
  have z1 : (k : Int) < (L.length : Int) := by omega
  obtain ⟨w0, hw0⟩ : ∃ w0, w0 = W.alloc (.cells (T.ndV ⟨23, (m : Int), tx, a, b, c, d⟩).toArray 51) := ⟨_, rfl⟩
  have hb0 : Below W.heap.size W w0 := by rw [hw0]; exact below_box W _
  have HE0 := (show Hid (W.alloc (.cells #[.int .i64 23, .int .i64 (m : Int), .string tx, .int .u64 a, .int .u64 b, .int .u64 c, .int .u64 d] 51) = w0) from hw0.symm)
  have HK : Hid (∀ _ : Unit, Calls Tryz.prog 57 #[.slice (some ⟨gp, op, none⟩) L.length cp, .slice (some ⟨g1, 0, none⟩) L.length c1, .int .i64 k] w0.drew fun e W'' => (∃ u, e = .returned u ∧ Nz W W'' B tb L gp op cp g1 c1 x v W.heap.size ⟨23, (m : Int), tx, a, b, c, d⟩ u (kds L k)) ∧ Below w0.heap.size w0 W'') := fun _ => by
    refine (kidsD_any hL hk he hD (hb0.drew)).mono ?_
    rintro e W'' ⟨⟨u, rfl, hu⟩, bl⟩
    have bl2 : Below w0.heap.size w0 W'' := ((Below.refl _ w0).drew).trans bl
    exact ⟨⟨u, rfl, Nz.mk1 hD hF hw0 bl2 hu⟩, bl2⟩
  have d0 : w0.cell? ⟨tb, 0, none⟩ = some (.slice (some ⟨gp, op, none⟩) L.length cp) := (hD.later hb0).c0
  have d1 : w0.cell? ⟨tb, 1, none⟩ = some (.slice (some ⟨g1, 0, none⟩) L.length c1) := (hD.later hb0).c1
  have HWh : Hid (∀ w, Calls Tryz.prog 82 #[.int .i64 m, .int .i64 10] w fun e w' => e = .returned (.string D) ∧ w' = w) := hWh
  clear hWh
  have HC := (show Hid _ from hc)
  rw [hks] at HK HC
  obtain ⟨A0, n0, k0, rfl, hn0⟩ := hF.n
  have HDs := (show Hid (D.size ≤ 100) from hDs)
  clear hDs
  clear hT hks hc hD hF hal fa fb fc hw0 hb0 hw he hn
  go_enter Tryz.func77, Tryz.ntmps77
  go_wp2_with (rw [HE0.out])
  go_region_held3 (fun W' => W'.cell? ⟨tb, 0, none⟩ = some (.slice (some ⟨gp, op, none⟩) L.length cp) ∧ W'.cell? ⟨tb, 1, none⟩ = some (.slice (some ⟨g1, 0, none⟩) L.length c1)) (first | go_keep | exact ⟨hz.q.d.c0, hz.q.d.c1⟩ | exact ⟨d0, d1⟩) ((with_reducible refine (HK.out ()).mono ?_; rintro e wA ⟨⟨u, rfl, hz⟩, _⟩))
  have HZ := (show Hid _ from hz)
  rename_i hHeld
  clear hHeld hz HK HE0 d0 d1 a0 a1 c0 c1' c2 c3 c4 c5 c6
  have e0 : wA.cell? ⟨W.heap.size, 0, none⟩ = some (.int .i64 23) := HZ.out.nd.cell 0
  have e1 : wA.cell? ⟨W.heap.size, 1, none⟩ = some (.int .i64 m) := HZ.out.nd.cell 1
  have e2 : wA.cell? ⟨W.heap.size, 2, none⟩ = some (.string tx) := HZ.out.nd.cell 2
  go_wp2_with fail
  refine (HWh.out _).mono ?_
  rintro e w1 ⟨rfl, rfl⟩
  clear HWh
  obtain ⟨Au, cu, rfl, hu⟩ := HZ.out.kd
  obtain ⟨gu, cuu, rfl, hfu, hcu⟩ := hu (by simp)
  have e3 : w1.cell? ⟨gu, 0, none⟩ = some (.int .i64 (kk : Int)) := (hfu.cell 0).trans (hcu 0 _ rfl)
  clear hu hfu hcu
  have HCc := (show Hid _ from HC.out kk (List.mem_singleton.2 rfl) 3)
  clear HC
  have hds := HDs.out
  have hq : ¬ 9223372036854775807 < 4 + D.size := by omega
  clear HDs hds
  go_wp2_with fail
  refine (HCc.out _ _ _ HZ.out.q.d HZ.out.q.f).mono ?_
  rintro e w2 ⟨v2, rfl, q2⟩
  have HQ2 := (show Hid _ from HZ.out.q.trans q2)
  obtain ⟨A2, n2, k2, rfl, hn2⟩ := q2.f.n
  clear q2 HZ e0 e1 e2 e3
  go_wp2_with fail
  refine (HAd.out _ _ _ HQ2.out.d HQ2.out.f).mono ?_
  rintro e w3 ⟨v3, rfl, q3⟩
  have HQ := (show Hid (Dq W w3 B tb L gp op cp g1 c1 (adT x (itT (partI 3 (enX L kk)) ++ TX)) v3) from by
    have h := HQ2.out.trans q3
    rw [adT_app] at h
    exact h)
  clear q3 HQ2
  obtain ⟨A9, n9, k9, rfl, hn9⟩ := HQ.out.f.n
  go_wp2_with fail
  go_ret
  exact ⟨_, rfl, HQ.out⟩
end Go.Proofs.YtnpifgcgjgddoaaGreatDoor.N

namespace Go.Proofs.YtnpifgcgjgddoaaGreatDoor.N
open Go.RowKit
set_option maxRecDepth 100000 in
set_option maxHeartbeats 4000000 in
theorem nodeD_18 {L : List Nd} {B tb gp op cp g1 c1 k : Nat} {nn : Int} {tx : ByteArray} {a b c d : Int} (hn : L[k]? = some ⟨18, nn, tx, a, b, c, d⟩) (hL : L.length ≤ 2048) (he : ∀ i, i < L.length → T.er L i = 0) (hw : NdW ⟨18, nn, tx, a, b, c, d⟩) (hc : ∀ j ∈ kds L k, ∀ d, DPar L B tb gp op cp g1 c1 j d) : DNod L B tb gp op cp g1 c1 k := by
  intro W x v hD hF
  have hk : k < L.length := (List.getElem?_eq_some_iff.1 hn).1
  have hal := (T.er_ok hn (he k hk)).al
  obtain ⟨m, hm, hm2⟩ := nn_of hal
  dsimp only at hm
  subst hm
  obtain ⟨fa, fb, fc⟩ := fr18 (n := ⟨18, (m : Int), tx, a, b, c, d⟩) rfl
  obtain ⟨hT, hks, hk1⟩ := en_1 hn he rfl
  obtain ⟨kk, hkk⟩ : ∃ kk, kk = k - 1 := ⟨_, rfl⟩
  rw [← hkk] at hT hks
  have HKK := (show Hid ((k : Int) = (kk : Int) + 1) from by show (k : Int) = (kk : Int) + 1; omega)
  clear hkk hk1
  rw [fa, fc] at hT
  replace hT : itT (enX L k).2 = (⟨#[123]⟩ : ByteArray).data.toList ++ (itT (enX L kk).2 ++ (⟨#[125]⟩ : ByteArray).data.toList) := by rw [hT]; show _ ++ (itT (partI 0 (enX L kk)) ++ _) = _; rw [part_zero]
  rw [hT]
  have a0 := hD.c0
  have a1 := hD.c1
  obtain ⟨c0, c1', c2, c3, c4, c5, c6⟩ := hD.n k _ hn
  have z0 : (0 : Int) ≤ (k : Int) := by omega
  have z1 : (k : Int) < (L.length : Int) := by omega
  obtain ⟨w0, hw0⟩ : ∃ w0, w0 = W.alloc (.cells (T.ndV ⟨18, (m : Int), tx, a, b, c, d⟩).toArray 51) := ⟨_, rfl⟩
  have hb0 : Below W.heap.size W w0 := by rw [hw0]; exact below_box W _
  have HE0 := (show Hid (W.alloc (.cells #[.int .i64 18, .int .i64 (m : Int), .string tx, .int .u64 a, .int .u64 b, .int .u64 c, .int .u64 d] 51) = w0) from hw0.symm)
  have HK : Hid (∀ _ : Unit, Calls Tryz.prog 57 #[.slice (some ⟨gp, op, none⟩) L.length cp, .slice (some ⟨g1, 0, none⟩) L.length c1, .int .i64 k] w0.drew fun e W'' => (∃ u, e = .returned u ∧ Nz W W'' B tb L gp op cp g1 c1 x v W.heap.size ⟨18, (m : Int), tx, a, b, c, d⟩ u (kds L k)) ∧ Below w0.heap.size w0 W'') := fun _ => by
    refine (kidsD_any hL hk he hD (hb0.drew)).mono ?_
    rintro e W'' ⟨⟨u, rfl, hu⟩, bl⟩
    have bl2 : Below w0.heap.size w0 W'' := ((Below.refl _ w0).drew).trans bl
    exact ⟨⟨u, rfl, Nz.mk1 hD hF hw0 bl2 hu⟩, bl2⟩
  have d0 : w0.cell? ⟨tb, 0, none⟩ = some (.slice (some ⟨gp, op, none⟩) L.length cp) := (hD.later hb0).c0
  have d1 : w0.cell? ⟨tb, 1, none⟩ = some (.slice (some ⟨g1, 0, none⟩) L.length c1) := (hD.later hb0).c1
  have HWh : Hid (∀ w, Calls Tryz.prog 82 #[.int .i64 m, .int .i64 10] w fun e w' => e = .returned (.string ⟨(dgT 10 m).toArray⟩) ∧ w' = w) := fun w => whole10_any m (by omega) w
  have HC := (show Hid _ from hc)
  rw [hks] at HK HC
  obtain ⟨A0, n0, k0, rfl, hn0⟩ := hF.n
  clear hT hks hc hD hF hal fa fb fc hw0 hb0 hw he hn
  go_enter Tryz.func77, Tryz.ntmps77
  go_wp2_with (rw [HE0.out])
  go_region_held3 (fun W' => W'.cell? ⟨tb, 0, none⟩ = some (.slice (some ⟨gp, op, none⟩) L.length cp) ∧ W'.cell? ⟨tb, 1, none⟩ = some (.slice (some ⟨g1, 0, none⟩) L.length c1)) (first | go_keep | exact ⟨hz.q.d.c0, hz.q.d.c1⟩ | exact ⟨d0, d1⟩) ((with_reducible refine (HK.out ()).mono ?_; rintro e wA ⟨⟨u, rfl, hz⟩, _⟩))
  have HZ := (show Hid _ from hz)
  rename_i hHeld
  clear hHeld hz HK HE0 d0 d1 a0 a1 c0 c1' c2 c3 c4 c5 c6
  have e0 : wA.cell? ⟨W.heap.size, 0, none⟩ = some (.int .i64 18) := HZ.out.nd.cell 0
  have e1 : wA.cell? ⟨W.heap.size, 1, none⟩ = some (.int .i64 m) := HZ.out.nd.cell 1
  have e2 : wA.cell? ⟨W.heap.size, 2, none⟩ = some (.string tx) := HZ.out.nd.cell 2
  go_wp2_with fail
  refine (HWh.out _).mono ?_
  rintro e w1 ⟨rfl, rfl⟩
  clear HWh
  have HCc := (show Hid _ from HC.out kk (List.mem_singleton.2 rfl) 0)
  clear HC
  have HBt : Hid (∀ _ : Unit, Calls Tryz.prog 99 #[.pointer (some ⟨tb, 0, none⟩), .slice A0 n0 k0, .string ⟨#[123]⟩, .int .i64 k, .string ⟨#[125]⟩] w1 fun e W' => ∃ v', e = .returned v' ∧ Dq w1 W' B tb L gp op cp g1 c1 (adT x ((⟨#[123]⟩ : ByteArray).data.toList ++ (itT (enX L kk).2 ++ (⟨#[125]⟩ : ByteArray).data.toList))) v') := fun _ => by
    rw [HKK.out]
    exact betweenD_of HCc.out (by have := HKK.out; omega) ⟨#[123]⟩ ⟨#[125]⟩ (by decide) (by decide) _ _ _ HZ.out.q.d HZ.out.q.f
  clear HCc
  go_wp2_with fail
  refine (HBt.out ()).mono ?_
  rintro e w2 ⟨v2, rfl, q2⟩
  have HQ := (show Hid (Dq W w2 B tb L gp op cp g1 c1 (adT x ((⟨#[123]⟩ : ByteArray).data.toList ++ (itT (enX L kk).2 ++ (⟨#[125]⟩ : ByteArray).data.toList))) v2) from HZ.out.q.trans q2)
  clear q2 HZ e0 e1 e2
  obtain ⟨A9, n9, k9, rfl, hn9⟩ := HQ.out.f.n
  go_wp2_with fail
  go_ret
  exact ⟨_, rfl, HQ.out⟩
set_option maxRecDepth 100000 in
set_option maxHeartbeats 4000000 in
theorem nodeD_20 {L : List Nd} {B tb gp op cp g1 c1 k : Nat} {nn : Int} {tx : ByteArray} {a b c d : Int} (hn : L[k]? = some ⟨20, nn, tx, a, b, c, d⟩) (hL : L.length ≤ 2048) (he : ∀ i, i < L.length → T.er L i = 0) (hw : NdW ⟨20, nn, tx, a, b, c, d⟩) (hc : ∀ j ∈ kds L k, ∀ d, DPar L B tb gp op cp g1 c1 j d) : DNod L B tb gp op cp g1 c1 k := by
  intro W x v hD hF
  have hk : k < L.length := (List.getElem?_eq_some_iff.1 hn).1
  have hal := (T.er_ok hn (he k hk)).al
  obtain ⟨m, hm, hm2⟩ := nn_of hal
  dsimp only at hm
  subst hm
  obtain ⟨fa, fb, fc⟩ := fr20 (n := ⟨20, (m : Int), tx, a, b, c, d⟩) rfl
  obtain ⟨hT, hks, hk1⟩ := en_1 hn he rfl
  obtain ⟨kk, hkk⟩ : ∃ kk, kk = k - 1 := ⟨_, rfl⟩
  rw [← hkk] at hT hks
  have HKK := (show Hid ((k : Int) = (kk : Int) + 1) from by show (k : Int) = (kk : Int) + 1; omega)
  clear hkk hk1
  rw [fa, fc] at hT
  replace hT : itT (enX L k).2 = (⟨#[123, 124, 32]⟩ : ByteArray).data.toList ++ (itT (enX L kk).2 ++ (⟨#[32, 124, 125]⟩ : ByteArray).data.toList) := by rw [hT]; show _ ++ (itT (partI 0 (enX L kk)) ++ _) = _; rw [part_zero]
  rw [hT]
  have a0 := hD.c0
  have a1 := hD.c1
  obtain ⟨c0, c1', c2, c3, c4, c5, c6⟩ := hD.n k _ hn
  have z0 : (0 : Int) ≤ (k : Int) := by omega
  have z1 : (k : Int) < (L.length : Int) := by omega
  obtain ⟨w0, hw0⟩ : ∃ w0, w0 = W.alloc (.cells (T.ndV ⟨20, (m : Int), tx, a, b, c, d⟩).toArray 51) := ⟨_, rfl⟩
  have hb0 : Below W.heap.size W w0 := by rw [hw0]; exact below_box W _
  have HE0 := (show Hid (W.alloc (.cells #[.int .i64 20, .int .i64 (m : Int), .string tx, .int .u64 a, .int .u64 b, .int .u64 c, .int .u64 d] 51) = w0) from hw0.symm)
  have HK : Hid (∀ _ : Unit, Calls Tryz.prog 57 #[.slice (some ⟨gp, op, none⟩) L.length cp, .slice (some ⟨g1, 0, none⟩) L.length c1, .int .i64 k] w0.drew fun e W'' => (∃ u, e = .returned u ∧ Nz W W'' B tb L gp op cp g1 c1 x v W.heap.size ⟨20, (m : Int), tx, a, b, c, d⟩ u (kds L k)) ∧ Below w0.heap.size w0 W'') := fun _ => by
    refine (kidsD_any hL hk he hD (hb0.drew)).mono ?_
    rintro e W'' ⟨⟨u, rfl, hu⟩, bl⟩
    have bl2 : Below w0.heap.size w0 W'' := ((Below.refl _ w0).drew).trans bl
    exact ⟨⟨u, rfl, Nz.mk1 hD hF hw0 bl2 hu⟩, bl2⟩
  have d0 : w0.cell? ⟨tb, 0, none⟩ = some (.slice (some ⟨gp, op, none⟩) L.length cp) := (hD.later hb0).c0
  have d1 : w0.cell? ⟨tb, 1, none⟩ = some (.slice (some ⟨g1, 0, none⟩) L.length c1) := (hD.later hb0).c1
  have HWh : Hid (∀ w, Calls Tryz.prog 82 #[.int .i64 m, .int .i64 10] w fun e w' => e = .returned (.string ⟨(dgT 10 m).toArray⟩) ∧ w' = w) := fun w => whole10_any m (by omega) w
  have HC := (show Hid _ from hc)
  rw [hks] at HK HC
  obtain ⟨A0, n0, k0, rfl, hn0⟩ := hF.n
  clear hT hks hc hD hF hal fa fb fc hw0 hb0 hw he hn
  go_enter Tryz.func77, Tryz.ntmps77
  go_wp2_with (rw [HE0.out])
  go_region_held3 (fun W' => W'.cell? ⟨tb, 0, none⟩ = some (.slice (some ⟨gp, op, none⟩) L.length cp) ∧ W'.cell? ⟨tb, 1, none⟩ = some (.slice (some ⟨g1, 0, none⟩) L.length c1)) (first | go_keep | exact ⟨hz.q.d.c0, hz.q.d.c1⟩ | exact ⟨d0, d1⟩) ((with_reducible refine (HK.out ()).mono ?_; rintro e wA ⟨⟨u, rfl, hz⟩, _⟩))
  have HZ := (show Hid _ from hz)
  rename_i hHeld
  clear hHeld hz HK HE0 d0 d1 a0 a1 c0 c1' c2 c3 c4 c5 c6
  have e0 : wA.cell? ⟨W.heap.size, 0, none⟩ = some (.int .i64 20) := HZ.out.nd.cell 0
  have e1 : wA.cell? ⟨W.heap.size, 1, none⟩ = some (.int .i64 m) := HZ.out.nd.cell 1
  have e2 : wA.cell? ⟨W.heap.size, 2, none⟩ = some (.string tx) := HZ.out.nd.cell 2
  go_wp2_with fail
  refine (HWh.out _).mono ?_
  rintro e w1 ⟨rfl, rfl⟩
  clear HWh
  have HCc := (show Hid _ from HC.out kk (List.mem_singleton.2 rfl) 0)
  clear HC
  have HBt : Hid (∀ _ : Unit, Calls Tryz.prog 99 #[.pointer (some ⟨tb, 0, none⟩), .slice A0 n0 k0, .string ⟨#[123, 124, 32]⟩, .int .i64 k, .string ⟨#[32, 124, 125]⟩] w1 fun e W' => ∃ v', e = .returned v' ∧ Dq w1 W' B tb L gp op cp g1 c1 (adT x ((⟨#[123, 124, 32]⟩ : ByteArray).data.toList ++ (itT (enX L kk).2 ++ (⟨#[32, 124, 125]⟩ : ByteArray).data.toList))) v') := fun _ => by
    rw [HKK.out]
    exact betweenD_of HCc.out (by have := HKK.out; omega) ⟨#[123, 124, 32]⟩ ⟨#[32, 124, 125]⟩ (by decide) (by decide) _ _ _ HZ.out.q.d HZ.out.q.f
  clear HCc
  go_wp2_with fail
  refine (HBt.out ()).mono ?_
  rintro e w2 ⟨v2, rfl, q2⟩
  have HQ := (show Hid (Dq W w2 B tb L gp op cp g1 c1 (adT x ((⟨#[123, 124, 32]⟩ : ByteArray).data.toList ++ (itT (enX L kk).2 ++ (⟨#[32, 124, 125]⟩ : ByteArray).data.toList))) v2) from HZ.out.q.trans q2)
  clear q2 HZ e0 e1 e2
  obtain ⟨A9, n9, k9, rfl, hn9⟩ := HQ.out.f.n
  go_wp2_with fail
  go_ret
  exact ⟨_, rfl, HQ.out⟩
set_option maxRecDepth 100000 in
set_option maxHeartbeats 4000000 in
theorem nodeD_21 {L : List Nd} {B tb gp op cp g1 c1 k : Nat} {nn : Int} {tx : ByteArray} {a b c d : Int} (hn : L[k]? = some ⟨21, nn, tx, a, b, c, d⟩) (hL : L.length ≤ 2048) (he : ∀ i, i < L.length → T.er L i = 0) (hw : NdW ⟨21, nn, tx, a, b, c, d⟩) (hc : ∀ j ∈ kds L k, ∀ d, DPar L B tb gp op cp g1 c1 j d) : DNod L B tb gp op cp g1 c1 k := by
  intro W x v hD hF
  have hk : k < L.length := (List.getElem?_eq_some_iff.1 hn).1
  have hal := (T.er_ok hn (he k hk)).al
  obtain ⟨m, hm, hm2⟩ := nn_of hal
  dsimp only at hm
  subst hm
  obtain ⟨fa, fb, fc⟩ := fr21 (n := ⟨21, (m : Int), tx, a, b, c, d⟩) rfl
  obtain ⟨hT, hks, hk1⟩ := en_1 hn he rfl
  obtain ⟨kk, hkk⟩ : ∃ kk, kk = k - 1 := ⟨_, rfl⟩
  rw [← hkk] at hT hks
  have HKK := (show Hid ((k : Int) = (kk : Int) + 1) from by show (k : Int) = (kk : Int) + 1; omega)
  clear hkk hk1
  rw [fa, fc] at hT
  replace hT : itT (enX L k).2 = (⟨#[123, 126, 32]⟩ : ByteArray).data.toList ++ (itT (enX L kk).2 ++ (⟨#[32, 126, 125]⟩ : ByteArray).data.toList) := by rw [hT]; show _ ++ (itT (partI 0 (enX L kk)) ++ _) = _; rw [part_zero]
  rw [hT]
  have a0 := hD.c0
  have a1 := hD.c1
  obtain ⟨c0, c1', c2, c3, c4, c5, c6⟩ := hD.n k _ hn
  have z0 : (0 : Int) ≤ (k : Int) := by omega
  have z1 : (k : Int) < (L.length : Int) := by omega
  obtain ⟨w0, hw0⟩ : ∃ w0, w0 = W.alloc (.cells (T.ndV ⟨21, (m : Int), tx, a, b, c, d⟩).toArray 51) := ⟨_, rfl⟩
  have hb0 : Below W.heap.size W w0 := by rw [hw0]; exact below_box W _
  have HE0 := (show Hid (W.alloc (.cells #[.int .i64 21, .int .i64 (m : Int), .string tx, .int .u64 a, .int .u64 b, .int .u64 c, .int .u64 d] 51) = w0) from hw0.symm)
  have HK : Hid (∀ _ : Unit, Calls Tryz.prog 57 #[.slice (some ⟨gp, op, none⟩) L.length cp, .slice (some ⟨g1, 0, none⟩) L.length c1, .int .i64 k] w0.drew fun e W'' => (∃ u, e = .returned u ∧ Nz W W'' B tb L gp op cp g1 c1 x v W.heap.size ⟨21, (m : Int), tx, a, b, c, d⟩ u (kds L k)) ∧ Below w0.heap.size w0 W'') := fun _ => by
    refine (kidsD_any hL hk he hD (hb0.drew)).mono ?_
    rintro e W'' ⟨⟨u, rfl, hu⟩, bl⟩
    have bl2 : Below w0.heap.size w0 W'' := ((Below.refl _ w0).drew).trans bl
    exact ⟨⟨u, rfl, Nz.mk1 hD hF hw0 bl2 hu⟩, bl2⟩
  have d0 : w0.cell? ⟨tb, 0, none⟩ = some (.slice (some ⟨gp, op, none⟩) L.length cp) := (hD.later hb0).c0
  have d1 : w0.cell? ⟨tb, 1, none⟩ = some (.slice (some ⟨g1, 0, none⟩) L.length c1) := (hD.later hb0).c1
  have HWh : Hid (∀ w, Calls Tryz.prog 82 #[.int .i64 m, .int .i64 10] w fun e w' => e = .returned (.string ⟨(dgT 10 m).toArray⟩) ∧ w' = w) := fun w => whole10_any m (by omega) w
  have HC := (show Hid _ from hc)
  rw [hks] at HK HC
  obtain ⟨A0, n0, k0, rfl, hn0⟩ := hF.n
  clear hT hks hc hD hF hal fa fb fc hw0 hb0 hw he hn
  go_enter Tryz.func77, Tryz.ntmps77
  go_wp2_with (rw [HE0.out])
  go_region_held3 (fun W' => W'.cell? ⟨tb, 0, none⟩ = some (.slice (some ⟨gp, op, none⟩) L.length cp) ∧ W'.cell? ⟨tb, 1, none⟩ = some (.slice (some ⟨g1, 0, none⟩) L.length c1)) (first | go_keep | exact ⟨hz.q.d.c0, hz.q.d.c1⟩ | exact ⟨d0, d1⟩) ((with_reducible refine (HK.out ()).mono ?_; rintro e wA ⟨⟨u, rfl, hz⟩, _⟩))
  have HZ := (show Hid _ from hz)
  rename_i hHeld
  clear hHeld hz HK HE0 d0 d1 a0 a1 c0 c1' c2 c3 c4 c5 c6
  have e0 : wA.cell? ⟨W.heap.size, 0, none⟩ = some (.int .i64 21) := HZ.out.nd.cell 0
  have e1 : wA.cell? ⟨W.heap.size, 1, none⟩ = some (.int .i64 m) := HZ.out.nd.cell 1
  have e2 : wA.cell? ⟨W.heap.size, 2, none⟩ = some (.string tx) := HZ.out.nd.cell 2
  go_wp2_with fail
  refine (HWh.out _).mono ?_
  rintro e w1 ⟨rfl, rfl⟩
  clear HWh
  have HCc := (show Hid _ from HC.out kk (List.mem_singleton.2 rfl) 0)
  clear HC
  have HBt : Hid (∀ _ : Unit, Calls Tryz.prog 99 #[.pointer (some ⟨tb, 0, none⟩), .slice A0 n0 k0, .string ⟨#[123, 126, 32]⟩, .int .i64 k, .string ⟨#[32, 126, 125]⟩] w1 fun e W' => ∃ v', e = .returned v' ∧ Dq w1 W' B tb L gp op cp g1 c1 (adT x ((⟨#[123, 126, 32]⟩ : ByteArray).data.toList ++ (itT (enX L kk).2 ++ (⟨#[32, 126, 125]⟩ : ByteArray).data.toList))) v') := fun _ => by
    rw [HKK.out]
    exact betweenD_of HCc.out (by have := HKK.out; omega) ⟨#[123, 126, 32]⟩ ⟨#[32, 126, 125]⟩ (by decide) (by decide) _ _ _ HZ.out.q.d HZ.out.q.f
  clear HCc
  go_wp2_with fail
  refine (HBt.out ()).mono ?_
  rintro e w2 ⟨v2, rfl, q2⟩
  have HQ := (show Hid (Dq W w2 B tb L gp op cp g1 c1 (adT x ((⟨#[123, 126, 32]⟩ : ByteArray).data.toList ++ (itT (enX L kk).2 ++ (⟨#[32, 126, 125]⟩ : ByteArray).data.toList))) v2) from HZ.out.q.trans q2)
  clear q2 HZ e0 e1 e2
  obtain ⟨A9, n9, k9, rfl, hn9⟩ := HQ.out.f.n
  go_wp2_with fail
  go_ret
  exact ⟨_, rfl, HQ.out⟩
end Go.Proofs.YtnpifgcgjgddoaaGreatDoor.N

namespace Go.Proofs.YtnpifgcgjgddoaaGreatDoor.N
open Go.RowKit
set_option maxRecDepth 100000 in
set_option maxHeartbeats 4000000 in
theorem nodeD_4 {L : List Nd} {B tb gp op cp g1 c1 k : Nat} {nn : Int} {tx : ByteArray} {a b c d : Int} (hn : L[k]? = some ⟨4, nn, tx, a, b, c, d⟩) (hL : L.length ≤ 2048) (he : ∀ i, i < L.length → T.er L i = 0) (hw : NdW ⟨4, nn, tx, a, b, c, d⟩) (hc : ∀ j ∈ kds L k, ∀ d, DPar L B tb gp op cp g1 c1 j d) : DNod L B tb gp op cp g1 c1 k := by
  intro W x v hD hF
  have hk : k < L.length := (List.getElem?_eq_some_iff.1 hn).1
  have hal := (T.er_ok hn (he k hk)).al
  obtain ⟨m, hm, hm2⟩ := nn_of hal
  dsimp only at hm
  subst hm
  obtain ⟨fa, fb, fc⟩ := fr4 (n := ⟨4, (m : Int), tx, a, b, c, d⟩) rfl
  obtain ⟨hT, hks⟩ := en_0 hn he rfl
  rw [fa, fc] at hT
  have hfl := fld_len hal
  rw [fdx4 rfl] at hT hfl
  replace hT : itT (enX L k).2 = (Q.asText (Q.qT tx) : ByteArray).data.toList := by rw [hT]; exact List.append_nil _
  have HLi : Hid (∀ w, Calls Tryz.prog 80 #[.string tx] w fun e w' => e = .returned (.string (Q.asText (Q.qT tx))) ∧ Below w.heap.size w w') := fun w => literal_any tx (tx4 hal rfl).2 w
  obtain ⟨Y, hY⟩ : ∃ Y : ByteArray, Y = Q.asText (Q.qT tx) := ⟨_, rfl⟩
  rw [← hY] at hT hfl HLi
  clear hY
  rw [hT]
  have a0 := hD.c0
  have a1 := hD.c1
  obtain ⟨c0, c1', c2, c3, c4, c5, c6⟩ := hD.n k _ hn
  have z0 : (0 : Int) ≤ (k : Int) := by omega
  have z1 : (k : Int) < (L.length : Int) := by omega
  obtain ⟨w0, hw0⟩ : ∃ w0, w0 = W.alloc (.cells (T.ndV ⟨4, (m : Int), tx, a, b, c, d⟩).toArray 51) := ⟨_, rfl⟩
  have hb0 : Below W.heap.size W w0 := by rw [hw0]; exact below_box W _
  have HE0 := (show Hid (W.alloc (.cells #[.int .i64 4, .int .i64 (m : Int), .string tx, .int .u64 a, .int .u64 b, .int .u64 c, .int .u64 d] 51) = w0) from hw0.symm)
  have HK : Hid (∀ _ : Unit, Calls Tryz.prog 57 #[.slice (some ⟨gp, op, none⟩) L.length cp, .slice (some ⟨g1, 0, none⟩) L.length c1, .int .i64 k] w0.drew fun e W'' => (∃ u, e = .returned u ∧ Nz W W'' B tb L gp op cp g1 c1 x v W.heap.size ⟨4, (m : Int), tx, a, b, c, d⟩ u (kds L k)) ∧ Below w0.heap.size w0 W'') := fun _ => by
    refine (kidsD_any hL hk he hD (hb0.drew)).mono ?_
    rintro e W'' ⟨⟨u, rfl, hu⟩, bl⟩
    have bl2 : Below w0.heap.size w0 W'' := ((Below.refl _ w0).drew).trans bl
    exact ⟨⟨u, rfl, Nz.mk1 hD hF hw0 bl2 hu⟩, bl2⟩
  have d0 : w0.cell? ⟨tb, 0, none⟩ = some (.slice (some ⟨gp, op, none⟩) L.length cp) := (hD.later hb0).c0
  have d1 : w0.cell? ⟨tb, 1, none⟩ = some (.slice (some ⟨g1, 0, none⟩) L.length c1) := (hD.later hb0).c1
  have HWh : Hid (∀ w, Calls Tryz.prog 82 #[.int .i64 m, .int .i64 10] w fun e w' => e = .returned (.string ⟨(dgT 10 m).toArray⟩) ∧ w' = w) := fun w => whole10_any m (by omega) w
  have HC := (show Hid _ from hc)
  rw [hks] at HK HC
  obtain ⟨A0, n0, k0, rfl, hn0⟩ := hF.n
  have HYs := (show Hid (Y.size ≤ 3000) from hfl)
  clear hfl
  clear hT hks hc hD hF hal fa fb fc hw0 hb0 hw he hn
  go_enter Tryz.func77, Tryz.ntmps77
  go_wp2_with (rw [HE0.out])
  go_region_held3 (fun W' => W'.cell? ⟨tb, 0, none⟩ = some (.slice (some ⟨gp, op, none⟩) L.length cp) ∧ W'.cell? ⟨tb, 1, none⟩ = some (.slice (some ⟨g1, 0, none⟩) L.length c1)) (first | go_keep | exact ⟨hz.q.d.c0, hz.q.d.c1⟩ | exact ⟨d0, d1⟩) ((with_reducible refine (HK.out ()).mono ?_; rintro e wA ⟨⟨u, rfl, hz⟩, _⟩))
  have HZ := (show Hid _ from hz)
  rename_i hHeld
  clear hHeld hz HK HE0 d0 d1 a0 a1 c0 c1' c2 c3 c4 c5 c6
  have e0 : wA.cell? ⟨W.heap.size, 0, none⟩ = some (.int .i64 4) := HZ.out.nd.cell 0
  have e1 : wA.cell? ⟨W.heap.size, 1, none⟩ = some (.int .i64 m) := HZ.out.nd.cell 1
  have e2 : wA.cell? ⟨W.heap.size, 2, none⟩ = some (.string tx) := HZ.out.nd.cell 2
  go_wp2_with fail
  refine (HWh.out _).mono ?_
  rintro e w1 ⟨rfl, rfl⟩
  clear HWh
  have hys := HYs.out
  go_wp2_with fail
  refine (HLi.out _).mono ?_
  rintro e w2 ⟨rfl, b2⟩
  have HZ2 := (show Hid _ from HZ.out.later b2)
  clear b2 HLi HZ e0 e1 e2 
  go_wp2_with fail
  refine (addD_any Y (by omega) HZ2.out.q.d HZ2.out.q.f).mono ?_
  rintro e w3 ⟨v2, rfl, q2⟩
  have HQ := (show Hid (Dq W w3 B tb L gp op cp g1 c1 (adT x Y.data.toList) v2) from HZ2.out.q.trans q2)
  clear q2 HZ2
  obtain ⟨A9, n9, k9, rfl, hn9⟩ := HQ.out.f.n
  go_wp2_with fail
  go_ret
  exact ⟨_, rfl, HQ.out⟩
set_option maxRecDepth 100000 in
set_option maxHeartbeats 4000000 in
theorem nodeD_5 {L : List Nd} {B tb gp op cp g1 c1 k : Nat} {nn : Int} {tx : ByteArray} {a b c d : Int} (hn : L[k]? = some ⟨5, nn, tx, a, b, c, d⟩) (hL : L.length ≤ 2048) (he : ∀ i, i < L.length → T.er L i = 0) (hw : NdW ⟨5, nn, tx, a, b, c, d⟩) (hc : ∀ j ∈ kds L k, ∀ d, DPar L B tb gp op cp g1 c1 j d) : DNod L B tb gp op cp g1 c1 k := by
  intro W x v hD hF
  have hk : k < L.length := (List.getElem?_eq_some_iff.1 hn).1
  have hal := (T.er_ok hn (he k hk)).al
  obtain ⟨m, hm, hm2⟩ := nn_of hal
  dsimp only at hm
  subst hm
  obtain ⟨fa, fb, fc⟩ := fr5 (n := ⟨5, (m : Int), tx, a, b, c, d⟩) rfl
  obtain ⟨hT, hks⟩ := en_0 hn he rfl
  rw [fa, fc] at hT
  have hfl := fld_len hal
  rw [fdx5 rfl] at hT hfl
  replace hT : itT (enX L k).2 = (txO (shT (mkS a b c d)) : ByteArray).data.toList := by rw [hT]; exact List.append_nil _
  have HLi : Hid (∀ w, Calls Tryz.prog 81 #[.agg #[.int .u64 a, .int .u64 b, .int .u64 c, .int .u64 d]] w fun e w' => e = .returned (.string (txO (shT (mkS a b c d)))) ∧ Below w.heap.size w w') := fun w => by
    have h := showR_any (mkS a b c d) w
    obtain ⟨y0, y1, y2, y3⟩ := mkS_wd a b c d hw.a hw.b hw.c hw.d
    unfold sv at h
    rw [y0, y1, y2, y3] at h
    exact h
  obtain ⟨Y, hY⟩ : ∃ Y : ByteArray, Y = txO (shT (mkS a b c d)) := ⟨_, rfl⟩
  rw [← hY] at hT hfl HLi
  clear hY
  rw [hT]
  have a0 := hD.c0
  have a1 := hD.c1
  obtain ⟨c0, c1', c2, c3, c4, c5, c6⟩ := hD.n k _ hn
  have z0 : (0 : Int) ≤ (k : Int) := by omega
  have z1 : (k : Int) < (L.length : Int) := by omega
  obtain ⟨w0, hw0⟩ : ∃ w0, w0 = W.alloc (.cells (T.ndV ⟨5, (m : Int), tx, a, b, c, d⟩).toArray 51) := ⟨_, rfl⟩
  have hb0 : Below W.heap.size W w0 := by rw [hw0]; exact below_box W _
  have HE0 := (show Hid (W.alloc (.cells #[.int .i64 5, .int .i64 (m : Int), .string tx, .int .u64 a, .int .u64 b, .int .u64 c, .int .u64 d] 51) = w0) from hw0.symm)
  have HK : Hid (∀ _ : Unit, Calls Tryz.prog 57 #[.slice (some ⟨gp, op, none⟩) L.length cp, .slice (some ⟨g1, 0, none⟩) L.length c1, .int .i64 k] w0.drew fun e W'' => (∃ u, e = .returned u ∧ Nz W W'' B tb L gp op cp g1 c1 x v W.heap.size ⟨5, (m : Int), tx, a, b, c, d⟩ u (kds L k)) ∧ Below w0.heap.size w0 W'') := fun _ => by
    refine (kidsD_any hL hk he hD (hb0.drew)).mono ?_
    rintro e W'' ⟨⟨u, rfl, hu⟩, bl⟩
    have bl2 : Below w0.heap.size w0 W'' := ((Below.refl _ w0).drew).trans bl
    exact ⟨⟨u, rfl, Nz.mk1 hD hF hw0 bl2 hu⟩, bl2⟩
  have d0 : w0.cell? ⟨tb, 0, none⟩ = some (.slice (some ⟨gp, op, none⟩) L.length cp) := (hD.later hb0).c0
  have d1 : w0.cell? ⟨tb, 1, none⟩ = some (.slice (some ⟨g1, 0, none⟩) L.length c1) := (hD.later hb0).c1
  have HWh : Hid (∀ w, Calls Tryz.prog 82 #[.int .i64 m, .int .i64 10] w fun e w' => e = .returned (.string ⟨(dgT 10 m).toArray⟩) ∧ w' = w) := fun w => whole10_any m (by omega) w
  have HC := (show Hid _ from hc)
  rw [hks] at HK HC
  obtain ⟨A0, n0, k0, rfl, hn0⟩ := hF.n
  have HYs := (show Hid (Y.size ≤ 3000) from hfl)
  clear hfl
  clear hT hks hc hD hF hal fa fb fc hw0 hb0 hw he hn
  go_enter Tryz.func77, Tryz.ntmps77
  go_wp2_with (rw [HE0.out])
  go_region_held3 (fun W' => W'.cell? ⟨tb, 0, none⟩ = some (.slice (some ⟨gp, op, none⟩) L.length cp) ∧ W'.cell? ⟨tb, 1, none⟩ = some (.slice (some ⟨g1, 0, none⟩) L.length c1)) (first | go_keep | exact ⟨hz.q.d.c0, hz.q.d.c1⟩ | exact ⟨d0, d1⟩) ((with_reducible refine (HK.out ()).mono ?_; rintro e wA ⟨⟨u, rfl, hz⟩, _⟩))
  have HZ := (show Hid _ from hz)
  rename_i hHeld
  clear hHeld hz HK HE0 d0 d1 a0 a1 c0 c1' c2 c3 c4 c5 c6
  have e0 : wA.cell? ⟨W.heap.size, 0, none⟩ = some (.int .i64 5) := HZ.out.nd.cell 0
  have e1 : wA.cell? ⟨W.heap.size, 1, none⟩ = some (.int .i64 m) := HZ.out.nd.cell 1
  have e2 : wA.cell? ⟨W.heap.size, 2, none⟩ = some (.string tx) := HZ.out.nd.cell 2
  go_wp2_with fail
  refine (HWh.out _).mono ?_
  rintro e w1 ⟨rfl, rfl⟩
  clear HWh
  have e3 : w1.cell? ⟨W.heap.size, 3, none⟩ = some (.int .u64 a) := HZ.out.nd.cell 3
  have e4 : w1.cell? ⟨W.heap.size, 4, none⟩ = some (.int .u64 b) := HZ.out.nd.cell 4
  have e5 : w1.cell? ⟨W.heap.size, 5, none⟩ = some (.int .u64 c) := HZ.out.nd.cell 5
  have e6 : w1.cell? ⟨W.heap.size, 6, none⟩ = some (.int .u64 d) := HZ.out.nd.cell 6
  have hys := HYs.out
  go_wp2_with fail
  refine (HLi.out _).mono ?_
  rintro e w2 ⟨rfl, b2⟩
  have HZ2 := (show Hid _ from HZ.out.later b2)
  clear b2 HLi HZ e0 e1 e2 e3 e4 e5 e6
  go_wp2_with fail
  refine (addD_any Y (by omega) HZ2.out.q.d HZ2.out.q.f).mono ?_
  rintro e w3 ⟨v2, rfl, q2⟩
  have HQ := (show Hid (Dq W w3 B tb L gp op cp g1 c1 (adT x Y.data.toList) v2) from HZ2.out.q.trans q2)
  clear q2 HZ2
  obtain ⟨A9, n9, k9, rfl, hn9⟩ := HQ.out.f.n
  go_wp2_with fail
  go_ret
  exact ⟨_, rfl, HQ.out⟩
set_option maxRecDepth 100000 in
set_option maxHeartbeats 4000000 in
theorem nodeD_6 {L : List Nd} {B tb gp op cp g1 c1 k : Nat} {nn : Int} {tx : ByteArray} {a b c d : Int} (hn : L[k]? = some ⟨6, nn, tx, a, b, c, d⟩) (hL : L.length ≤ 2048) (he : ∀ i, i < L.length → T.er L i = 0) (hw : NdW ⟨6, nn, tx, a, b, c, d⟩) (hc : ∀ j ∈ kds L k, ∀ d, DPar L B tb gp op cp g1 c1 j d) : DNod L B tb gp op cp g1 c1 k := by
  intro W x v hD hF
  have hk : k < L.length := (List.getElem?_eq_some_iff.1 hn).1
  have hal := (T.er_ok hn (he k hk)).al
  obtain ⟨m, hm, hm2⟩ := nn_of hal
  dsimp only at hm
  subst hm
  obtain ⟨fa, fb, fc⟩ := fr6 (n := ⟨6, (m : Int), tx, a, b, c, d⟩) rfl
  obtain ⟨hT, hks⟩ := en_0 hn he rfl
  rw [fa, fc] at hT
  rw [fdx6 rfl] at hT
  replace hT : itT (enX L k).2 = tx.data.toList := by rw [hT]; exact List.append_nil _
  rw [hT]
  have a0 := hD.c0
  have a1 := hD.c1
  obtain ⟨c0, c1', c2, c3, c4, c5, c6⟩ := hD.n k _ hn
  have z0 : (0 : Int) ≤ (k : Int) := by omega
  have z1 : (k : Int) < (L.length : Int) := by omega
  obtain ⟨w0, hw0⟩ : ∃ w0, w0 = W.alloc (.cells (T.ndV ⟨6, (m : Int), tx, a, b, c, d⟩).toArray 51) := ⟨_, rfl⟩
  have hb0 : Below W.heap.size W w0 := by rw [hw0]; exact below_box W _
  have HE0 := (show Hid (W.alloc (.cells #[.int .i64 6, .int .i64 (m : Int), .string tx, .int .u64 a, .int .u64 b, .int .u64 c, .int .u64 d] 51) = w0) from hw0.symm)
  have HK : Hid (∀ _ : Unit, Calls Tryz.prog 57 #[.slice (some ⟨gp, op, none⟩) L.length cp, .slice (some ⟨g1, 0, none⟩) L.length c1, .int .i64 k] w0.drew fun e W'' => (∃ u, e = .returned u ∧ Nz W W'' B tb L gp op cp g1 c1 x v W.heap.size ⟨6, (m : Int), tx, a, b, c, d⟩ u (kds L k)) ∧ Below w0.heap.size w0 W'') := fun _ => by
    refine (kidsD_any hL hk he hD (hb0.drew)).mono ?_
    rintro e W'' ⟨⟨u, rfl, hu⟩, bl⟩
    have bl2 : Below w0.heap.size w0 W'' := ((Below.refl _ w0).drew).trans bl
    exact ⟨⟨u, rfl, Nz.mk1 hD hF hw0 bl2 hu⟩, bl2⟩
  have d0 : w0.cell? ⟨tb, 0, none⟩ = some (.slice (some ⟨gp, op, none⟩) L.length cp) := (hD.later hb0).c0
  have d1 : w0.cell? ⟨tb, 1, none⟩ = some (.slice (some ⟨g1, 0, none⟩) L.length c1) := (hD.later hb0).c1
  have HWh : Hid (∀ w, Calls Tryz.prog 82 #[.int .i64 m, .int .i64 10] w fun e w' => e = .returned (.string ⟨(dgT 10 m).toArray⟩) ∧ w' = w) := fun w => whole10_any m (by omega) w
  have HC := (show Hid _ from hc)
  rw [hks] at HK HC
  obtain ⟨A0, n0, k0, rfl, hn0⟩ := hF.n
  have HTs := (show Hid (tx.size ≤ 32) from (isNm_len (tx6 hal rfl)).2)
  clear hT hks hc hD hF hal fa fb fc hw0 hb0 hw he hn
  go_enter Tryz.func77, Tryz.ntmps77
  go_wp2_with (rw [HE0.out])
  go_region_held3 (fun W' => W'.cell? ⟨tb, 0, none⟩ = some (.slice (some ⟨gp, op, none⟩) L.length cp) ∧ W'.cell? ⟨tb, 1, none⟩ = some (.slice (some ⟨g1, 0, none⟩) L.length c1)) (first | go_keep | exact ⟨hz.q.d.c0, hz.q.d.c1⟩ | exact ⟨d0, d1⟩) ((with_reducible refine (HK.out ()).mono ?_; rintro e wA ⟨⟨u, rfl, hz⟩, _⟩))
  have HZ := (show Hid _ from hz)
  rename_i hHeld
  clear hHeld hz HK HE0 d0 d1 a0 a1 c0 c1' c2 c3 c4 c5 c6
  have e0 : wA.cell? ⟨W.heap.size, 0, none⟩ = some (.int .i64 6) := HZ.out.nd.cell 0
  have e1 : wA.cell? ⟨W.heap.size, 1, none⟩ = some (.int .i64 m) := HZ.out.nd.cell 1
  have e2 : wA.cell? ⟨W.heap.size, 2, none⟩ = some (.string tx) := HZ.out.nd.cell 2
  go_wp2_with fail
  refine (HWh.out _).mono ?_
  rintro e w1 ⟨rfl, rfl⟩
  clear HWh
  go_wp2_with fail
  refine (addD_any tx (by have := HTs.out; omega) HZ.out.q.d HZ.out.q.f).mono ?_
  rintro e w2 ⟨v2, rfl, q2⟩
  have HQ := (show Hid (Dq W w2 B tb L gp op cp g1 c1 (adT x tx.data.toList) v2) from HZ.out.q.trans q2)
  clear q2 HZ e0 e1 e2
  obtain ⟨A9, n9, k9, rfl, hn9⟩ := HQ.out.f.n
  go_wp2_with fail
  go_ret
  exact ⟨_, rfl, HQ.out⟩
end Go.Proofs.YtnpifgcgjgddoaaGreatDoor.N

namespace Go.Proofs.YtnpifgcgjgddoaaGreatDoor.N
open Go.RowKit
set_option maxRecDepth 100000 in
set_option maxHeartbeats 4000000 in
theorem nodeD_12 {L : List Nd} {B tb gp op cp g1 c1 k : Nat} {nn : Int} {tx : ByteArray} {a b c d : Int} (hn : L[k]? = some ⟨12, nn, tx, a, b, c, d⟩) (hL : L.length ≤ 2048) (he : ∀ i, i < L.length → T.er L i = 0) (hw : NdW ⟨12, nn, tx, a, b, c, d⟩) (hc : ∀ j ∈ kds L k, ∀ d, DPar L B tb gp op cp g1 c1 j d) : DNod L B tb gp op cp g1 c1 k := by
  intro W x v hD hF
  have hk : k < L.length := (List.getElem?_eq_some_iff.1 hn).1
  have hal := (T.er_ok hn (he k hk)).al
  obtain ⟨m, hm, hm2⟩ := nn_of hal
  dsimp only at hm
  subst hm
  obtain ⟨fa, fb, fc⟩ := fr12 (n := ⟨12, (m : Int), tx, a, b, c, d⟩) rfl
  obtain ⟨hT, hks, hk1⟩ := en_1 hn he rfl
  obtain ⟨kk, hkk⟩ : ∃ kk, kk = k - 1 := ⟨_, rfl⟩
  rw [← hkk] at hT hks
  have HKK := (show Hid ((k : Int) = (kk : Int) + 1) from by show (k : Int) = (kk : Int) + 1; omega)
  clear hkk hk1
  rw [fa, fc] at hT
  replace hT : itT (enX L k).2 = (⟨#[38]⟩ : ByteArray).data.toList ++ itT (partI 2 (enX L kk)) := by rw [hT]; show _ ++ (itT (partI 2 (enX L kk)) ++ []) = _; rw [List.append_nil]
  rw [hT]
  have a0 := hD.c0
  have a1 := hD.c1
  obtain ⟨c0, c1', c2, c3, c4, c5, c6⟩ := hD.n k _ hn
  have z0 : (0 : Int) ≤ (k : Int) := by omega
  have z1 : (k : Int) < (L.length : Int) := by omega
  obtain ⟨w0, hw0⟩ : ∃ w0, w0 = W.alloc (.cells (T.ndV ⟨12, (m : Int), tx, a, b, c, d⟩).toArray 51) := ⟨_, rfl⟩
  have hb0 : Below W.heap.size W w0 := by rw [hw0]; exact below_box W _
  have HE0 := (show Hid (W.alloc (.cells #[.int .i64 12, .int .i64 (m : Int), .string tx, .int .u64 a, .int .u64 b, .int .u64 c, .int .u64 d] 51) = w0) from hw0.symm)
  have HK : Hid (∀ _ : Unit, Calls Tryz.prog 57 #[.slice (some ⟨gp, op, none⟩) L.length cp, .slice (some ⟨g1, 0, none⟩) L.length c1, .int .i64 k] w0.drew fun e W'' => (∃ u, e = .returned u ∧ Nz W W'' B tb L gp op cp g1 c1 x v W.heap.size ⟨12, (m : Int), tx, a, b, c, d⟩ u (kds L k)) ∧ Below w0.heap.size w0 W'') := fun _ => by
    refine (kidsD_any hL hk he hD (hb0.drew)).mono ?_
    rintro e W'' ⟨⟨u, rfl, hu⟩, bl⟩
    have bl2 : Below w0.heap.size w0 W'' := ((Below.refl _ w0).drew).trans bl
    exact ⟨⟨u, rfl, Nz.mk1 hD hF hw0 bl2 hu⟩, bl2⟩
  have d0 : w0.cell? ⟨tb, 0, none⟩ = some (.slice (some ⟨gp, op, none⟩) L.length cp) := (hD.later hb0).c0
  have d1 : w0.cell? ⟨tb, 1, none⟩ = some (.slice (some ⟨g1, 0, none⟩) L.length c1) := (hD.later hb0).c1
  have HWh : Hid (∀ w, Calls Tryz.prog 82 #[.int .i64 m, .int .i64 10] w fun e w' => e = .returned (.string ⟨(dgT 10 m).toArray⟩) ∧ w' = w) := fun w => whole10_any m (by omega) w
  have HC := (show Hid _ from hc)
  rw [hks] at HK HC
  obtain ⟨A0, n0, k0, rfl, hn0⟩ := hF.n
  clear hT hks hc hD hF hal fa fb fc hw0 hb0 hw he hn
  go_enter Tryz.func77, Tryz.ntmps77
  go_wp2_with (rw [HE0.out])
  go_region_held3 (fun W' => W'.cell? ⟨tb, 0, none⟩ = some (.slice (some ⟨gp, op, none⟩) L.length cp) ∧ W'.cell? ⟨tb, 1, none⟩ = some (.slice (some ⟨g1, 0, none⟩) L.length c1)) (first | go_keep | exact ⟨hz.q.d.c0, hz.q.d.c1⟩ | exact ⟨d0, d1⟩) ((with_reducible refine (HK.out ()).mono ?_; rintro e wA ⟨⟨u, rfl, hz⟩, _⟩))
  have HZ := (show Hid _ from hz)
  rename_i hHeld
  clear hHeld hz HK HE0 d0 d1 a0 a1 c0 c1' c2 c3 c4 c5 c6
  have e0 : wA.cell? ⟨W.heap.size, 0, none⟩ = some (.int .i64 12) := HZ.out.nd.cell 0
  have e1 : wA.cell? ⟨W.heap.size, 1, none⟩ = some (.int .i64 m) := HZ.out.nd.cell 1
  have e2 : wA.cell? ⟨W.heap.size, 2, none⟩ = some (.string tx) := HZ.out.nd.cell 2
  go_wp2_with fail
  refine (HWh.out _).mono ?_
  rintro e w1 ⟨rfl, rfl⟩
  clear HWh
  obtain ⟨Au, cu, rfl, hu⟩ := HZ.out.kd
  obtain ⟨gu, cuu, rfl, hfu, hcu⟩ := hu (by simp)
  have HKa := (show Hid (∀ W' y vv, Nz W W' B tb L gp op cp g1 c1 y vv W.heap.size ⟨12, (m : Int), tx, a, b, c, d⟩ (.slice (some ⟨gu, 0, none⟩) 1 cu) [kk] → W'.cell? ⟨gu, 0, none⟩ = some (.int .i64 (kk : Int))) from fun W' y vv hz => by
    obtain ⟨A', c', eq, h⟩ := hz.kd
    obtain ⟨g', cuu', eg, h1, h2⟩ := h (by simp)
    rw [eg] at eq
    injection eq with e1 e2
    injection e1 with e1
    injection e1 with e1
    subst e1
    exact (h1.cell 0).trans (h2 0 _ rfl))
  have e3 := HKa.out _ _ _ HZ.out
  clear hu hfu hcu
  have HCc := (show Hid _ from HC.out kk (List.mem_singleton.2 rfl) 2)
  clear HC
  have HAd : Hid (∀ _ : Unit, Calls Tryz.prog 55 #[.pointer (some ⟨tb, 0, none⟩), .slice A0 n0 k0, .string ⟨#[38]⟩] w1.drew fun e W' => ∃ v', e = .returned v' ∧ Nz W W' B tb L gp op cp g1 c1 (adT x (⟨#[38]⟩ : ByteArray).data.toList) v' W.heap.size ⟨12, (m : Int), tx, a, b, c, d⟩ (.slice (some ⟨gu, 0, none⟩) 1 cu) [kk]) := fun _ => by
    have hz := HZ.out.later ((Below.refl _ w1).drew)
    refine (addD_any ⟨#[38]⟩ (by decide) hz.q.d hz.q.f).mono ?_
    rintro e W' ⟨v', rfl, q'⟩
    exact ⟨v', rfl, hz.next q'⟩
  have HPc : Hid (∀ (w' : World) (vv : Value), Nz W w' B tb L gp op cp g1 c1 (adT x (⟨#[38]⟩ : ByteArray).data.toList) vv W.heap.size ⟨12, (m : Int), tx, a, b, c, d⟩ (.slice (some ⟨gu, 0, none⟩) 1 cu) [kk] → Calls Tryz.prog 53 #[.pointer (some ⟨tb, 0, none⟩), vv, .int .i64 kk, .int .i64 2] w' fun e W' => ∃ v', e = .returned v' ∧ Nz W W' B tb L gp op cp g1 c1 (adT x ((⟨#[38]⟩ : ByteArray).data.toList ++ itT (partI 2 (enX L kk)))) v' W.heap.size ⟨12, (m : Int), tx, a, b, c, d⟩ (.slice (some ⟨gu, 0, none⟩) 1 cu) [kk]) := fun w' vv hz => by
    refine (HCc.out _ _ _ hz.q.d hz.q.f).mono ?_
    rintro e W' ⟨v', rfl, q'⟩
    rw [adT_app] at q'
    exact ⟨v', rfl, hz.next q'⟩
  clear HZ HCc
  go_wp2_with fail
  go_region_held3 (fun W' => W'.cell? ⟨gu, 0, none⟩ = some (.int .i64 (kk : Int))) (first | go_keep | exact HKa.out _ _ _ hzB | exact HKa.out _ _ _ hzA) (first | (go_at_call 55; with_reducible refine (HAd.out ()).mono ?_; rintro e wA ⟨v2, rfl, hzA⟩) | (go_at_call 53; with_reducible refine (HPc.out _ _ hzA).mono ?_; rintro e wB ⟨v3, rfl, hzB⟩))
  rename_i hHeld
  have HQ := (show Hid (Dq W wB B tb L gp op cp g1 c1 (adT x ((⟨#[38]⟩ : ByteArray).data.toList ++ itT (partI 2 (enX L kk)))) v3) from by
    exact hzB.q)
  clear hHeld hzA hzB HKa HAd HPc e3
  obtain ⟨A9, n9, k9, rfl, hn9⟩ := HQ.out.f.n
  go_wp2_with fail
  go_ret
  exact ⟨_, rfl, HQ.out⟩
set_option maxRecDepth 100000 in
set_option maxHeartbeats 4000000 in
theorem nodeD_13 {L : List Nd} {B tb gp op cp g1 c1 k : Nat} {nn : Int} {tx : ByteArray} {a b c d : Int} (hn : L[k]? = some ⟨13, nn, tx, a, b, c, d⟩) (hL : L.length ≤ 2048) (he : ∀ i, i < L.length → T.er L i = 0) (hw : NdW ⟨13, nn, tx, a, b, c, d⟩) (hc : ∀ j ∈ kds L k, ∀ d, DPar L B tb gp op cp g1 c1 j d) : DNod L B tb gp op cp g1 c1 k := by
  intro W x v hD hF
  have hk : k < L.length := (List.getElem?_eq_some_iff.1 hn).1
  have hal := (T.er_ok hn (he k hk)).al
  obtain ⟨m, hm, hm2⟩ := nn_of hal
  dsimp only at hm
  subst hm
  obtain ⟨fa, fb, fc⟩ := fr13 (n := ⟨13, (m : Int), tx, a, b, c, d⟩) rfl
  obtain ⟨hT, hks, hk1⟩ := en_1 hn he rfl
  obtain ⟨kk, hkk⟩ : ∃ kk, kk = k - 1 := ⟨_, rfl⟩
  rw [← hkk] at hT hks
  have HKK := (show Hid ((k : Int) = (kk : Int) + 1) from by show (k : Int) = (kk : Int) + 1; omega)
  clear hkk hk1
  rw [fa, fc] at hT
  replace hT : itT (enX L k).2 = (⟨#[33]⟩ : ByteArray).data.toList ++ itT (partI 2 (enX L kk)) := by rw [hT]; show _ ++ (itT (partI 2 (enX L kk)) ++ []) = _; rw [List.append_nil]
  rw [hT]
  have a0 := hD.c0
  have a1 := hD.c1
  obtain ⟨c0, c1', c2, c3, c4, c5, c6⟩ := hD.n k _ hn
  have z0 : (0 : Int) ≤ (k : Int) := by omega
  have z1 : (k : Int) < (L.length : Int) := by omega
  obtain ⟨w0, hw0⟩ : ∃ w0, w0 = W.alloc (.cells (T.ndV ⟨13, (m : Int), tx, a, b, c, d⟩).toArray 51) := ⟨_, rfl⟩
  have hb0 : Below W.heap.size W w0 := by rw [hw0]; exact below_box W _
  have HE0 := (show Hid (W.alloc (.cells #[.int .i64 13, .int .i64 (m : Int), .string tx, .int .u64 a, .int .u64 b, .int .u64 c, .int .u64 d] 51) = w0) from hw0.symm)
  have HK : Hid (∀ _ : Unit, Calls Tryz.prog 57 #[.slice (some ⟨gp, op, none⟩) L.length cp, .slice (some ⟨g1, 0, none⟩) L.length c1, .int .i64 k] w0.drew fun e W'' => (∃ u, e = .returned u ∧ Nz W W'' B tb L gp op cp g1 c1 x v W.heap.size ⟨13, (m : Int), tx, a, b, c, d⟩ u (kds L k)) ∧ Below w0.heap.size w0 W'') := fun _ => by
    refine (kidsD_any hL hk he hD (hb0.drew)).mono ?_
    rintro e W'' ⟨⟨u, rfl, hu⟩, bl⟩
    have bl2 : Below w0.heap.size w0 W'' := ((Below.refl _ w0).drew).trans bl
    exact ⟨⟨u, rfl, Nz.mk1 hD hF hw0 bl2 hu⟩, bl2⟩
  have d0 : w0.cell? ⟨tb, 0, none⟩ = some (.slice (some ⟨gp, op, none⟩) L.length cp) := (hD.later hb0).c0
  have d1 : w0.cell? ⟨tb, 1, none⟩ = some (.slice (some ⟨g1, 0, none⟩) L.length c1) := (hD.later hb0).c1
  have HWh : Hid (∀ w, Calls Tryz.prog 82 #[.int .i64 m, .int .i64 10] w fun e w' => e = .returned (.string ⟨(dgT 10 m).toArray⟩) ∧ w' = w) := fun w => whole10_any m (by omega) w
  have HC := (show Hid _ from hc)
  rw [hks] at HK HC
  obtain ⟨A0, n0, k0, rfl, hn0⟩ := hF.n
  clear hT hks hc hD hF hal fa fb fc hw0 hb0 hw he hn
  go_enter Tryz.func77, Tryz.ntmps77
  go_wp2_with (rw [HE0.out])
  go_region_held3 (fun W' => W'.cell? ⟨tb, 0, none⟩ = some (.slice (some ⟨gp, op, none⟩) L.length cp) ∧ W'.cell? ⟨tb, 1, none⟩ = some (.slice (some ⟨g1, 0, none⟩) L.length c1)) (first | go_keep | exact ⟨hz.q.d.c0, hz.q.d.c1⟩ | exact ⟨d0, d1⟩) ((with_reducible refine (HK.out ()).mono ?_; rintro e wA ⟨⟨u, rfl, hz⟩, _⟩))
  have HZ := (show Hid _ from hz)
  rename_i hHeld
  clear hHeld hz HK HE0 d0 d1 a0 a1 c0 c1' c2 c3 c4 c5 c6
  have e0 : wA.cell? ⟨W.heap.size, 0, none⟩ = some (.int .i64 13) := HZ.out.nd.cell 0
  have e1 : wA.cell? ⟨W.heap.size, 1, none⟩ = some (.int .i64 m) := HZ.out.nd.cell 1
  have e2 : wA.cell? ⟨W.heap.size, 2, none⟩ = some (.string tx) := HZ.out.nd.cell 2
  go_wp2_with fail
  refine (HWh.out _).mono ?_
  rintro e w1 ⟨rfl, rfl⟩
  clear HWh
  obtain ⟨Au, cu, rfl, hu⟩ := HZ.out.kd
  obtain ⟨gu, cuu, rfl, hfu, hcu⟩ := hu (by simp)
  have HKa := (show Hid (∀ W' y vv, Nz W W' B tb L gp op cp g1 c1 y vv W.heap.size ⟨13, (m : Int), tx, a, b, c, d⟩ (.slice (some ⟨gu, 0, none⟩) 1 cu) [kk] → W'.cell? ⟨gu, 0, none⟩ = some (.int .i64 (kk : Int))) from fun W' y vv hz => by
    obtain ⟨A', c', eq, h⟩ := hz.kd
    obtain ⟨g', cuu', eg, h1, h2⟩ := h (by simp)
    rw [eg] at eq
    injection eq with e1 e2
    injection e1 with e1
    injection e1 with e1
    subst e1
    exact (h1.cell 0).trans (h2 0 _ rfl))
  have e3 := HKa.out _ _ _ HZ.out
  clear hu hfu hcu
  have HCc := (show Hid _ from HC.out kk (List.mem_singleton.2 rfl) 2)
  clear HC
  have HAd : Hid (∀ _ : Unit, Calls Tryz.prog 55 #[.pointer (some ⟨tb, 0, none⟩), .slice A0 n0 k0, .string ⟨#[33]⟩] w1.drew fun e W' => ∃ v', e = .returned v' ∧ Nz W W' B tb L gp op cp g1 c1 (adT x (⟨#[33]⟩ : ByteArray).data.toList) v' W.heap.size ⟨13, (m : Int), tx, a, b, c, d⟩ (.slice (some ⟨gu, 0, none⟩) 1 cu) [kk]) := fun _ => by
    have hz := HZ.out.later ((Below.refl _ w1).drew)
    refine (addD_any ⟨#[33]⟩ (by decide) hz.q.d hz.q.f).mono ?_
    rintro e W' ⟨v', rfl, q'⟩
    exact ⟨v', rfl, hz.next q'⟩
  have HPc : Hid (∀ (w' : World) (vv : Value), Nz W w' B tb L gp op cp g1 c1 (adT x (⟨#[33]⟩ : ByteArray).data.toList) vv W.heap.size ⟨13, (m : Int), tx, a, b, c, d⟩ (.slice (some ⟨gu, 0, none⟩) 1 cu) [kk] → Calls Tryz.prog 53 #[.pointer (some ⟨tb, 0, none⟩), vv, .int .i64 kk, .int .i64 2] w' fun e W' => ∃ v', e = .returned v' ∧ Nz W W' B tb L gp op cp g1 c1 (adT x ((⟨#[33]⟩ : ByteArray).data.toList ++ itT (partI 2 (enX L kk)))) v' W.heap.size ⟨13, (m : Int), tx, a, b, c, d⟩ (.slice (some ⟨gu, 0, none⟩) 1 cu) [kk]) := fun w' vv hz => by
    refine (HCc.out _ _ _ hz.q.d hz.q.f).mono ?_
    rintro e W' ⟨v', rfl, q'⟩
    rw [adT_app] at q'
    exact ⟨v', rfl, hz.next q'⟩
  clear HZ HCc
  go_wp2_with fail
  go_region_held3 (fun W' => W'.cell? ⟨gu, 0, none⟩ = some (.int .i64 (kk : Int))) (first | go_keep | exact HKa.out _ _ _ hzB | exact HKa.out _ _ _ hzA) (first | (go_at_call 55; with_reducible refine (HAd.out ()).mono ?_; rintro e wA ⟨v2, rfl, hzA⟩) | (go_at_call 53; with_reducible refine (HPc.out _ _ hzA).mono ?_; rintro e wB ⟨v3, rfl, hzB⟩))
  rename_i hHeld
  have HQ := (show Hid (Dq W wB B tb L gp op cp g1 c1 (adT x ((⟨#[33]⟩ : ByteArray).data.toList ++ itT (partI 2 (enX L kk)))) v3) from by
    exact hzB.q)
  clear hHeld hzA hzB HKa HAd HPc e3
  obtain ⟨A9, n9, k9, rfl, hn9⟩ := HQ.out.f.n
  go_wp2_with fail
  go_ret
  exact ⟨_, rfl, HQ.out⟩
end Go.Proofs.YtnpifgcgjgddoaaGreatDoor.N

namespace Go.Proofs.YtnpifgcgjgddoaaGreatDoor.N
open Go.RowKit
set_option maxRecDepth 100000 in
set_option maxHeartbeats 4000000 in
theorem nodeD_19e {L : List Nd} {B tb gp op cp g1 c1 k : Nat} {nn : Int} {tx : ByteArray} {a b c d : Int} (hn : L[k]? = some ⟨19, nn, tx, a, b, c, d⟩) (hL : L.length ≤ 2048) (he : ∀ i, i < L.length → T.er L i = 0) (h0 : tx.size = 0) (hw : NdW ⟨19, nn, tx, a, b, c, d⟩) (hc : ∀ j ∈ kds L k, ∀ d, DPar L B tb gp op cp g1 c1 j d) : DNod L B tb gp op cp g1 c1 k := by
  intro W x v hD hF
  have hk : k < L.length := (List.getElem?_eq_some_iff.1 hn).1
  have hal := (T.er_ok hn (he k hk)).al
  obtain ⟨m, hm, hm2⟩ := nn_of hal
  dsimp only at hm
  subst hm
  obtain ⟨fa, fb, fc⟩ := fr19 (n := ⟨19, (m : Int), tx, a, b, c, d⟩) rfl
  obtain ⟨hT, hks, hk1⟩ := en_1 hn he rfl
  obtain ⟨kk, hkk⟩ : ∃ kk, kk = k - 1 := ⟨_, rfl⟩
  rw [← hkk] at hT hks
  have HKK := (show Hid ((k : Int) = (kk : Int) + 1) from by show (k : Int) = (kk : Int) + 1; omega)
  clear hkk hk1
  rw [fa, fc] at hT
  replace hT : itT (enX L k).2 = (⟨#[123, 58, 32]⟩ : ByteArray).data.toList ++ (itT (enX L kk).2 ++ (⟨#[32, 58, 125]⟩ : ByteArray).data.toList) := by
    rw [hT]
    show _ ++ (itT (partI 0 (enX L kk)) ++ _) = _
    rw [part_zero]
    congr 1
    dsimp only
    unfold grS
    rw [if_pos h0]
    rfl
  have ht0 := T.emp_t h0
  have ht1 : (tx.toList == []) = true := by
    rw [List.isEmpty_iff] at ht0; rw [ht0]; rfl
  rw [hT]
  have a0 := hD.c0
  have a1 := hD.c1
  obtain ⟨c0, c1', c2, c3, c4, c5, c6⟩ := hD.n k _ hn
  have z0 : (0 : Int) ≤ (k : Int) := by omega
  have z1 : (k : Int) < (L.length : Int) := by omega
  obtain ⟨w0, hw0⟩ : ∃ w0, w0 = W.alloc (.cells (T.ndV ⟨19, (m : Int), tx, a, b, c, d⟩).toArray 51) := ⟨_, rfl⟩
  have hb0 : Below W.heap.size W w0 := by rw [hw0]; exact below_box W _
  have HE0 := (show Hid (W.alloc (.cells #[.int .i64 19, .int .i64 (m : Int), .string tx, .int .u64 a, .int .u64 b, .int .u64 c, .int .u64 d] 51) = w0) from hw0.symm)
  have HK : Hid (∀ _ : Unit, Calls Tryz.prog 57 #[.slice (some ⟨gp, op, none⟩) L.length cp, .slice (some ⟨g1, 0, none⟩) L.length c1, .int .i64 k] w0.drew fun e W'' => (∃ u, e = .returned u ∧ Nz W W'' B tb L gp op cp g1 c1 x v W.heap.size ⟨19, (m : Int), tx, a, b, c, d⟩ u (kds L k)) ∧ Below w0.heap.size w0 W'') := fun _ => by
    refine (kidsD_any hL hk he hD (hb0.drew)).mono ?_
    rintro e W'' ⟨⟨u, rfl, hu⟩, bl⟩
    have bl2 : Below w0.heap.size w0 W'' := ((Below.refl _ w0).drew).trans bl
    exact ⟨⟨u, rfl, Nz.mk1 hD hF hw0 bl2 hu⟩, bl2⟩
  have d0 : w0.cell? ⟨tb, 0, none⟩ = some (.slice (some ⟨gp, op, none⟩) L.length cp) := (hD.later hb0).c0
  have d1 : w0.cell? ⟨tb, 1, none⟩ = some (.slice (some ⟨g1, 0, none⟩) L.length c1) := (hD.later hb0).c1
  have HWh : Hid (∀ w, Calls Tryz.prog 82 #[.int .i64 m, .int .i64 10] w fun e w' => e = .returned (.string ⟨(dgT 10 m).toArray⟩) ∧ w' = w) := fun w => whole10_any m (by omega) w
  have HC := (show Hid _ from hc)
  rw [hks] at HK HC
  obtain ⟨A0, n0, k0, rfl, hn0⟩ := hF.n
  clear h0 hT hks hc hD hF hal fa fb fc hw0 hb0 hw he hn
  go_enter Tryz.func77, Tryz.ntmps77
  go_wp2_with (rw [HE0.out])
  go_region_held3 (fun W' => W'.cell? ⟨tb, 0, none⟩ = some (.slice (some ⟨gp, op, none⟩) L.length cp) ∧ W'.cell? ⟨tb, 1, none⟩ = some (.slice (some ⟨g1, 0, none⟩) L.length c1)) (first | go_keep | exact ⟨hz.q.d.c0, hz.q.d.c1⟩ | exact ⟨d0, d1⟩) ((with_reducible refine (HK.out ()).mono ?_; rintro e wA ⟨⟨u, rfl, hz⟩, _⟩))
  have HZ := (show Hid _ from hz)
  rename_i hHeld
  clear hHeld hz HK HE0 d0 d1 a0 a1 c0 c1' c2 c3 c4 c5 c6
  have e0 : wA.cell? ⟨W.heap.size, 0, none⟩ = some (.int .i64 19) := HZ.out.nd.cell 0
  have e1 : wA.cell? ⟨W.heap.size, 1, none⟩ = some (.int .i64 m) := HZ.out.nd.cell 1
  have e2 : wA.cell? ⟨W.heap.size, 2, none⟩ = some (.string tx) := HZ.out.nd.cell 2
  go_wp2_with fail
  refine (HWh.out _).mono ?_
  rintro e w1 ⟨rfl, rfl⟩
  clear HWh
  have HCc := (show Hid _ from HC.out kk (List.mem_singleton.2 rfl) 0)
  clear HC
  have HBt : Hid (∀ _ : Unit, Calls Tryz.prog 99 #[.pointer (some ⟨tb, 0, none⟩), .slice A0 n0 k0, .string ⟨#[123, 58, 32]⟩, .int .i64 k, .string ⟨#[32, 58, 125]⟩] w1 fun e W' => ∃ v', e = .returned v' ∧ Dq w1 W' B tb L gp op cp g1 c1 (adT x ((⟨#[123, 58, 32]⟩ : ByteArray).data.toList ++ (itT (enX L kk).2 ++ (⟨#[32, 58, 125]⟩ : ByteArray).data.toList))) v') := fun _ => by
    rw [HKK.out]
    exact betweenD_of HCc.out (by have := HKK.out; omega) ⟨#[123, 58, 32]⟩ ⟨#[32, 58, 125]⟩ (by decide) (by decide) _ _ _ HZ.out.q.d HZ.out.q.f
  clear HCc
  go_wp2_with fail
  refine (HBt.out ()).mono ?_
  rintro e w2 ⟨v2, rfl, q2⟩
  have HQ := (show Hid (Dq W w2 B tb L gp op cp g1 c1 (adT x ((⟨#[123, 58, 32]⟩ : ByteArray).data.toList ++ (itT (enX L kk).2 ++ (⟨#[32, 58, 125]⟩ : ByteArray).data.toList))) v2) from HZ.out.q.trans q2)
  clear q2 HZ e0 e1 e2
  obtain ⟨A9, n9, k9, rfl, hn9⟩ := HQ.out.f.n
  go_wp2_with fail
  go_ret
  exact ⟨_, rfl, HQ.out⟩
set_option maxRecDepth 100000 in
set_option maxHeartbeats 4000000 in
theorem nodeD_19 {L : List Nd} {B tb gp op cp g1 c1 k : Nat} {nn : Int} {tx : ByteArray} {a b c d : Int} (hn : L[k]? = some ⟨19, nn, tx, a, b, c, d⟩) (hL : L.length ≤ 2048) (he : ∀ i, i < L.length → T.er L i = 0) (h0 : ¬ tx.size = 0) (hw : NdW ⟨19, nn, tx, a, b, c, d⟩) (hc : ∀ j ∈ kds L k, ∀ d, DPar L B tb gp op cp g1 c1 j d) : DNod L B tb gp op cp g1 c1 k := by
  intro W x v hD hF
  have hk : k < L.length := (List.getElem?_eq_some_iff.1 hn).1
  have hal := (T.er_ok hn (he k hk)).al
  obtain ⟨m, hm, hm2⟩ := nn_of hal
  dsimp only at hm
  subst hm
  obtain ⟨fa, fb, fc⟩ := fr19 (n := ⟨19, (m : Int), tx, a, b, c, d⟩) rfl
  obtain ⟨hT, hks, hk1⟩ := en_1 hn he rfl
  obtain ⟨kk, hkk⟩ : ∃ kk, kk = k - 1 := ⟨_, rfl⟩
  rw [← hkk] at hT hks
  have HKK := (show Hid ((k : Int) = (kk : Int) + 1) from by show (k : Int) = (kk : Int) + 1; omega)
  clear hkk hk1
  rw [fa, fc] at hT
  replace hT : itT (enX L k).2 = ((⟨#[123, 58]⟩ ++ tx ++ ⟨#[58, 32]⟩) : ByteArray).data.toList ++ (itT (enX L kk).2 ++ (⟨#[32, 58, 125]⟩ : ByteArray).data.toList) := by
    rw [hT]
    show _ ++ (itT (partI 0 (enX L kk)) ++ _) = _
    rw [part_zero]
    congr 1
    dsimp only
    unfold grS
    rw [if_neg h0]
    rw [cat_list, cat_list, cat_list, cat_list, cat_list]; simp
  have ht0 := T.emp_f h0
  have ht1 : (tx.toList == []) = false := by
    cases hl : tx.toList with | nil => rw [hl] at ht0; cases ht0 | cons x r => rfl
  rw [hT]
  have a0 := hD.c0
  have a1 := hD.c1
  obtain ⟨c0, c1', c2, c3, c4, c5, c6⟩ := hD.n k _ hn
  have z0 : (0 : Int) ≤ (k : Int) := by omega
  have z1 : (k : Int) < (L.length : Int) := by omega
  obtain ⟨w0, hw0⟩ : ∃ w0, w0 = W.alloc (.cells (T.ndV ⟨19, (m : Int), tx, a, b, c, d⟩).toArray 51) := ⟨_, rfl⟩
  have hb0 : Below W.heap.size W w0 := by rw [hw0]; exact below_box W _
  have HE0 := (show Hid (W.alloc (.cells #[.int .i64 19, .int .i64 (m : Int), .string tx, .int .u64 a, .int .u64 b, .int .u64 c, .int .u64 d] 51) = w0) from hw0.symm)
  have HK : Hid (∀ _ : Unit, Calls Tryz.prog 57 #[.slice (some ⟨gp, op, none⟩) L.length cp, .slice (some ⟨g1, 0, none⟩) L.length c1, .int .i64 k] w0.drew fun e W'' => (∃ u, e = .returned u ∧ Nz W W'' B tb L gp op cp g1 c1 x v W.heap.size ⟨19, (m : Int), tx, a, b, c, d⟩ u (kds L k)) ∧ Below w0.heap.size w0 W'') := fun _ => by
    refine (kidsD_any hL hk he hD (hb0.drew)).mono ?_
    rintro e W'' ⟨⟨u, rfl, hu⟩, bl⟩
    have bl2 : Below w0.heap.size w0 W'' := ((Below.refl _ w0).drew).trans bl
    exact ⟨⟨u, rfl, Nz.mk1 hD hF hw0 bl2 hu⟩, bl2⟩
  have d0 : w0.cell? ⟨tb, 0, none⟩ = some (.slice (some ⟨gp, op, none⟩) L.length cp) := (hD.later hb0).c0
  have d1 : w0.cell? ⟨tb, 1, none⟩ = some (.slice (some ⟨g1, 0, none⟩) L.length c1) := (hD.later hb0).c1
  have HWh : Hid (∀ w, Calls Tryz.prog 82 #[.int .i64 m, .int .i64 10] w fun e w' => e = .returned (.string ⟨(dgT 10 m).toArray⟩) ∧ w' = w) := fun w => whole10_any m (by omega) w
  have HC := (show Hid _ from hc)
  rw [hks] at HK HC
  obtain ⟨A0, n0, k0, rfl, hn0⟩ := hF.n
  have HTs := (show Hid (tx.size ≤ 32) from by
    show tx.size ≤ 32
    rcases tx19 hal rfl with z | z
    · have z : tx = ⟨#[]⟩ := z
      rw [z]; decide
    · exact (isNm_len z).2)
  have HXs := (show Hid (((⟨#[123, 58]⟩ ++ tx ++ ⟨#[58, 32]⟩) : ByteArray).size ≤ 1000000) from by
    show _ ≤ _
    rw [ByteArray.size_append, ByteArray.size_append]
    show 2 + tx.size + 2 ≤ _
    have := HTs.out
    omega)
  clear h0 hT hks hc hD hF hal fa fb fc hw0 hb0 hw he hn
  go_enter Tryz.func77, Tryz.ntmps77
  go_wp2_with (rw [HE0.out])
  go_region_held3 (fun W' => W'.cell? ⟨tb, 0, none⟩ = some (.slice (some ⟨gp, op, none⟩) L.length cp) ∧ W'.cell? ⟨tb, 1, none⟩ = some (.slice (some ⟨g1, 0, none⟩) L.length c1)) (first | go_keep | exact ⟨hz.q.d.c0, hz.q.d.c1⟩ | exact ⟨d0, d1⟩) ((with_reducible refine (HK.out ()).mono ?_; rintro e wA ⟨⟨u, rfl, hz⟩, _⟩))
  have HZ := (show Hid _ from hz)
  rename_i hHeld
  clear hHeld hz HK HE0 d0 d1 a0 a1 c0 c1' c2 c3 c4 c5 c6
  have e0 : wA.cell? ⟨W.heap.size, 0, none⟩ = some (.int .i64 19) := HZ.out.nd.cell 0
  have e1 : wA.cell? ⟨W.heap.size, 1, none⟩ = some (.int .i64 m) := HZ.out.nd.cell 1
  have e2 : wA.cell? ⟨W.heap.size, 2, none⟩ = some (.string tx) := HZ.out.nd.cell 2
  go_wp2_with fail
  refine (HWh.out _).mono ?_
  rintro e w1 ⟨rfl, rfl⟩
  clear HWh
  have q1 : ¬ 9223372036854775807 < 2 + tx.size := by have := HTs.out; omega
  have q2 : ¬ 9223372036854775807 < 2 + tx.size + 2 := by have := HTs.out; omega
  have HCc := (show Hid _ from HC.out kk (List.mem_singleton.2 rfl) 0)
  clear HC
  have HBt : Hid (∀ _ : Unit, Calls Tryz.prog 99 #[.pointer (some ⟨tb, 0, none⟩), .slice A0 n0 k0, .string (⟨#[123, 58]⟩ ++ tx ++ ⟨#[58, 32]⟩), .int .i64 k, .string ⟨#[32, 58, 125]⟩] w1 fun e W' => ∃ v', e = .returned v' ∧ Dq w1 W' B tb L gp op cp g1 c1 (adT x (((⟨#[123, 58]⟩ ++ tx ++ ⟨#[58, 32]⟩) : ByteArray).data.toList ++ (itT (enX L kk).2 ++ (⟨#[32, 58, 125]⟩ : ByteArray).data.toList))) v') := fun _ => by
    rw [HKK.out]
    exact betweenD_of HCc.out (by have := HKK.out; omega) (⟨#[123, 58]⟩ ++ tx ++ ⟨#[58, 32]⟩) ⟨#[32, 58, 125]⟩ HXs.out (by decide) _ _ _ HZ.out.q.d HZ.out.q.f
  clear HCc
  go_wp2_with fail
  refine (HBt.out ()).mono ?_
  rintro e w2 ⟨v2, rfl, q2⟩
  have HQ := (show Hid (Dq W w2 B tb L gp op cp g1 c1 (adT x (((⟨#[123, 58]⟩ ++ tx ++ ⟨#[58, 32]⟩) : ByteArray).data.toList ++ (itT (enX L kk).2 ++ (⟨#[32, 58, 125]⟩ : ByteArray).data.toList))) v2) from HZ.out.q.trans q2)
  clear q2 HZ e0 e1 e2
  obtain ⟨A9, n9, k9, rfl, hn9⟩ := HQ.out.f.n
  go_wp2_with fail
  go_ret
  exact ⟨_, rfl, HQ.out⟩
end Go.Proofs.YtnpifgcgjgddoaaGreatDoor.N
