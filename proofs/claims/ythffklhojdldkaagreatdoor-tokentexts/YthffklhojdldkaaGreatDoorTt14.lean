/- DERIVED. Plain mathematics and walks, laid together (14). -/
import Derived.Deep.RegionHeld3
import Derived.Test.YthffklhojdldkaaGreatDoorTt13
namespace Go.Proofs.YthffklhojdldkaaGreatDoor
open Go.RowKit
theorem qT_len (s : ByteArray) : (Q.qT s).length ≤ 4 * s.size + 2 := by
  have h := (Q.qTo_len s s.size).1
  rw [← Q.qTo_all s s.size (Nat.le_refl _), List.length_append, List.length_singleton]
  omega
theorem gnm_len (s : ByteArray) (h : s.size ≤ 255) : (gnm s).size ≤ 256 := by
  unfold gnm
  split
  · decide
  · rw [ByteArray.size_append]; show s.size + 1 ≤ _; omega
set_option maxRecDepth 100000 in
set_option maxHeartbeats 4000000 in
theorem sh_1 (kd nn fr en s0 s1 s2 s3 : Int) (tx : ByteArray) (h : kd = 1) (w : World) (_hg : GW w) : Calls Tryz.prog 18 #[.agg #[.int .i64 kd, .int .i64 nn, .int .i64 fr, .int .i64 en, .string tx, .int .u64 s0, .int .u64 s1, .int .u64 s2, .int .u64 s3]] w fun e w' => e = .returned (.string (tx)) ∧ Below w.heap.size w w' := by
  have f1 : (kd == 1) = true := by rw [h]; rfl
  clear h
  go_enter Tryz.func18, Tryz.ntmps18
  go_wp2_with fail
  go_ret
  exact ⟨rfl, below_box _ _⟩
set_option maxRecDepth 100000 in
set_option maxHeartbeats 4000000 in
theorem sh_4 (kd nn fr en s0 s1 s2 s3 : Int) (tx : ByteArray) (a : Nat) (h : kd = 4) (hn : nn = a) (ha : a ≤ 999999) (w : World) (hg : GW w) : Calls Tryz.prog 18 #[.agg #[.int .i64 kd, .int .i64 nn, .int .i64 fr, .int .i64 en, .string tx, .int .u64 s0, .int .u64 s1, .int .u64 s2, .int .u64 s3]] w fun e w' => e = .returned (.string (txO (dgT 10 a))) ∧ Below w.heap.size w w' := by
  have f1 : (kd == 1) = false := beq_eq_false_iff_ne.2 (by omega)
  have f4 : (kd == 4) = true := by rw [h]; rfl
  have HG := (show Hid _ from hg)
  clear h hg
  subst hn
  go_enter Tryz.func18, Tryz.ntmps18
  go_wp2_with fail
  refine (itoa_any a ha _ (HG.out.later (below_box w _))).mono ?_
  rintro e w1 ⟨rfl, hb⟩
  have HB := (show Hid (Below w.heap.size w w1) from (below_box w _).trans (hb.mono (by simp)))
  clear hb
  go_wp2_with fail
  go_ret
  exact ⟨rfl, HB.out⟩
set_option maxRecDepth 100000 in
set_option maxHeartbeats 4000000 in
theorem sh_2 (kd nn fr en s0 s1 s2 s3 : Int) (tx : ByteArray) (h : kd = 2) (hs : tx.size ≤ 255) (w : World) (_hg : GW w) : Calls Tryz.prog 18 #[.agg #[.int .i64 kd, .int .i64 nn, .int .i64 fr, .int .i64 en, .string tx, .int .u64 s0, .int .u64 s1, .int .u64 s2, .int .u64 s3]] w fun e w' => e = .returned (.string (Q.asText (Q.qT tx))) ∧ Below w.heap.size w w' := by
  have f1 : (kd == 1) = false := beq_eq_false_iff_ne.2 (by omega)
  have f4 : (kd == 4) = false := beq_eq_false_iff_ne.2 (by omega)
  have f2 : (kd == 2) = true := by rw [h]; rfl
  have HC : Hid (∀ w, Calls Tryz.prog 36 #[.string tx] w fun e w' => e = .returned (.tuple #[.string (Q.asText (Q.qT tx)), .int .i64 0]) ∧ Below w.heap.size w w') := fun w => by
    have h1 := Q.quote_any tx w
    rw [Q.quV_fits (by have := qT_len tx; omega)] at h1
    exact h1
  clear h hs
  generalize Q.asText (Q.qT tx) = A at *
  go_enter Tryz.func18, Tryz.ntmps18
  go_wp2_with fail
  refine (HC.out _).mono ?_
  rintro e w1 ⟨rfl, hb⟩
  have HB := (show Hid (Below w.heap.size w w1) from (below_box w _).trans (hb.mono (by simp)))
  clear hb
  go_wp2_with fail
  go_ret
  exact ⟨rfl, HB.out⟩
set_option maxRecDepth 100000 in
set_option maxHeartbeats 4000000 in
theorem sh_3 (kd nn fr en s0 s1 s2 s3 : Int) (tx : ByteArray) (h : kd = 3) (x : BitVec 256) (x0 : wd x 0 = s0) (x1 : wd x 1 = s1) (x2 : wd x 2 = s2) (x3 : wd x 3 = s3) (w : World) (_hg : GW w) : Calls Tryz.prog 18 #[.agg #[.int .i64 kd, .int .i64 nn, .int .i64 fr, .int .i64 en, .string tx, .int .u64 s0, .int .u64 s1, .int .u64 s2, .int .u64 s3]] w fun e w' => e = .returned (.string (txO (shT x))) ∧ Below w.heap.size w w' := by
  have f1 : (kd == 1) = false := beq_eq_false_iff_ne.2 (by omega)
  have f4 : (kd == 4) = false := beq_eq_false_iff_ne.2 (by omega)
  have f2 : (kd == 2) = false := beq_eq_false_iff_ne.2 (by omega)
  have f3 : (kd == 3) = true := by rw [h]; rfl
  have HC : Hid (∀ w, Calls Tryz.prog 37 #[.agg #[.int .u64 s0, .int .u64 s1, .int .u64 s2, .int .u64 s3]] w fun e w' => e = .returned (.string (txO (shT x))) ∧ Below w.heap.size w w') := fun w => by rw [← x0, ← x1, ← x2, ← x3]; exact show_any x w
  clear h x0 x1 x2 x3
  generalize txO (shT x) = A at *
  go_enter Tryz.func18, Tryz.ntmps18
  go_wp2_with fail
  refine (HC.out _).mono ?_
  rintro e w1 ⟨rfl, hb⟩
  have HB := (show Hid (Below w.heap.size w w1) from (below_box w _).trans (hb.mono (by simp)))
  clear hb
  go_wp2_with fail
  go_ret
  exact ⟨rfl, HB.out⟩
set_option maxRecDepth 100000 in
set_option maxHeartbeats 4000000 in
theorem sh_28 (kd nn fr en s0 s1 s2 s3 : Int) (tx : ByteArray) (h : kd = 28) (hs : tx.size ≤ 255) (w : World) (_hg : GW w) : Calls Tryz.prog 18 #[.agg #[.int .i64 kd, .int .i64 nn, .int .i64 fr, .int .i64 en, .string tx, .int .u64 s0, .int .u64 s1, .int .u64 s2, .int .u64 s3]] w fun e w' => e = .returned (.string (⟨#[37]⟩ ++ tx)) ∧ Below w.heap.size w w' := by
  have f1 : (kd == 1) = false := beq_eq_false_iff_ne.2 (by omega)
  have f4 : (kd == 4) = false := beq_eq_false_iff_ne.2 (by omega)
  have f2 : (kd == 2) = false := beq_eq_false_iff_ne.2 (by omega)
  have f3 : (kd == 3) = false := beq_eq_false_iff_ne.2 (by omega)
  have f28 : (kd == 28) = true := by rw [h]; rfl
  clear h
  go_enter Tryz.func18, Tryz.ntmps18
  go_wp2_with fail
  go_ret
  exact ⟨rfl, below_box _ _⟩
set_option maxRecDepth 100000 in
set_option maxHeartbeats 4000000 in
theorem sh_5 (kd nn fr en s0 s1 s2 s3 : Int) (tx : ByteArray) (a b : Nat) (h : kd = 5) (hn : nn = a) (h0 : s0 = b) (ha : a ≤ 1114111) (hb : b ≤ 1114111) (w : World) (hg : GW w) : Calls Tryz.prog 18 #[.agg #[.int .i64 kd, .int .i64 nn, .int .i64 fr, .int .i64 en, .string tx, .int .u64 s0, .int .u64 s1, .int .u64 s2, .int .u64 s3]] w fun e w' => e = .returned (.string (rnT a b)) ∧ Below w.heap.size w w' := by
  have f1 : (kd == 1) = false := beq_eq_false_iff_ne.2 (by omega)
  have f4 : (kd == 4) = false := beq_eq_false_iff_ne.2 (by omega)
  have f2 : (kd == 2) = false := beq_eq_false_iff_ne.2 (by omega)
  have f3 : (kd == 3) = false := beq_eq_false_iff_ne.2 (by omega)
  have f28 : (kd == 28) = false := beq_eq_false_iff_ne.2 (by omega)
  have f5 : (kd == 5) = true := by rw [h]; rfl
  have HE : Hid (rnT a b = ⟨#[37, 117, 123]⟩ ++ txO (dgT 16 a) ++ ⟨#[45]⟩ ++ txO (dgT 16 b) ++ ⟨#[125]⟩) := rfl
  have hla : (txO (dgT 16 a)).size ≤ 6 := by rw [txO_size]; exact dgT_len 16 (by omega) 5 a (by omega)
  have hlb : (txO (dgT 16 b)).size ≤ 6 := by rw [txO_size]; exact dgT_len 16 (by omega) 5 b (by omega)
  subst hn h0
  have HT := (show Hid (TX (w.alloc (tkO ⟨kd, a, fr, en, tx, b, s1, s2, s3⟩)) w.heap.size ⟨kd, a, fr, en, tx, b, s1, s2, s3⟩) from TX.new w _)
  have HC : Hid (∀ W, Below (w.alloc (tkO ⟨kd, a, fr, en, tx, b, s1, s2, s3⟩)).heap.size (w.alloc (tkO ⟨kd, a, fr, en, tx, b, s1, s2, s3⟩)) W → Calls Tryz.prog 38 #[.int .i64 (a : Int), .int .i64 16] W fun e w' => e = .returned (.string (txO (dgT 16 a))) ∧ Below W.heap.size W w') := fun W hW => fmtInt_any a ha W ((hg.z.later (below_box w _)).later hW)
  have HD : Hid (∀ W, Below (w.alloc (tkO ⟨kd, a, fr, en, tx, b, s1, s2, s3⟩)).heap.size (w.alloc (tkO ⟨kd, a, fr, en, tx, b, s1, s2, s3⟩)) W → Calls Tryz.prog 39 #[.int .u64 (b : Int), .int .i64 16] W fun e w' => e = .returned (.string (txO (dgT 16 b))) ∧ Below W.heap.size W w') := fun W hW => fmtUint_any b hb W ((hg.z.later (below_box w _)).later hW)
  have HS := (show Hid (∀ W, Below (w.alloc (tkO ⟨kd, a, fr, en, tx, b, s1, s2, s3⟩)).heap.size (w.alloc (tkO ⟨kd, a, fr, en, tx, b, s1, s2, s3⟩)) W → W.cell? ⟨w.heap.size, 1, none⟩ = some (.int .i64 (a : Int)) ∧ W.cell? ⟨w.heap.size, 5, none⟩ = some (.int .u64 (b : Int))) from fun W hW => ⟨(HT.out.below hW).cells.c1, (HT.out.below hW).cells.c5⟩)
  have HB0 := (show Hid (Below w.heap.size w (w.alloc (tkO ⟨kd, a, fr, en, tx, b, s1, s2, s3⟩))) from below_box _ _)
  clear h ha hb hg HT
  generalize txO (dgT 16 a) = A at *
  generalize txO (dgT 16 b) = B at *
  have k1 : ¬ 9223372036854775807 < 3 + A.size := by omega
  have k2 : ¬ 9223372036854775807 < 3 + A.size + 1 := by omega
  have k3 : ¬ 9223372036854775807 < 3 + A.size + 1 + B.size := by omega
  have k4 : ¬ 9223372036854775807 < 3 + A.size + 1 + B.size + 1 := by omega
  go_enter Tryz.func18, Tryz.ntmps18
  go_wp2_with fail
  go_region_held3 (fun w' => w'.cell? ⟨w.heap.size, 1, none⟩ = some (.int .i64 (a : Int)) ∧ w'.cell? ⟨w.heap.size, 5, none⟩ = some (.int .u64 (b : Int)))
    (first | go_keep | exact HS.out _ ((drew_in hA).trans (hB.mono (drew_in hA).size)) | exact HS.out _ ((drew_in hB).trans (hA.mono (drew_in hB).size)) | exact HS.out _ (drew_in hA) | exact HS.out _ (drew_in hB))
    (first | (go_at_call 38; with_reducible refine (HC.out _ ((Below.refl _ _).drew)).mono ?_; rintro e wA ⟨rfl, hA⟩) | (go_at_call 38; with_reducible refine (HC.out _ (drew_in hB)).mono ?_; rintro e wA ⟨rfl, hA⟩) | (go_at_call 39; with_reducible refine (HD.out _ ((Below.refl _ _).drew)).mono ?_; rintro e wB ⟨rfl, hB⟩) | (go_at_call 39; with_reducible refine (HD.out _ (drew_in hA)).mono ?_; rintro e wB ⟨rfl, hB⟩))
  all_goals
    first
    | (have HW := (show Hid (Below w.heap.size w wB) from HB0.out.trans (((drew_in hA).trans (hB.mono (drew_in hA).size)).mono HB0.out.size)))
    | (have HW := (show Hid (Below w.heap.size w wA) from HB0.out.trans (((drew_in hB).trans (hA.mono (drew_in hB).size)).mono HB0.out.size)))
    clear hA hB
    go_wp2_with fail
    go_ret
    exact ⟨ret_str (by rw [HE.out]), HW.out⟩
set_option maxRecDepth 100000 in
set_option maxHeartbeats 4000000 in
theorem sh_13 (kd nn fr en s0 s1 s2 s3 : Int) (tx : ByteArray) (a : Nat) (h : kd = 13) (hn : nn = a) (ha : a ≤ 999999) (w : World) (hg : GW w) : Calls Tryz.prog 18 #[.agg #[.int .i64 kd, .int .i64 nn, .int .i64 fr, .int .i64 en, .string tx, .int .u64 s0, .int .u64 s1, .int .u64 s2, .int .u64 s3]] w fun e w' => e = .returned (.string (txO (sgOf 13) ++ txO (dgT 10 a))) ∧ Below w.heap.size w w' := by
  have f1 : (kd == 1) = false := beq_eq_false_iff_ne.2 (by omega)
  have f4 : (kd == 4) = false := beq_eq_false_iff_ne.2 (by omega)
  have f2 : (kd == 2) = false := beq_eq_false_iff_ne.2 (by omega)
  have f3 : (kd == 3) = false := beq_eq_false_iff_ne.2 (by omega)
  have f28 : (kd == 28) = false := beq_eq_false_iff_ne.2 (by omega)
  have f5 : (kd == 5) = false := beq_eq_false_iff_ne.2 (by omega)
  have f13 : (kd == 13) = true := by rw [h]; rfl
  have HE : Hid (txO (sgOf 13) ++ txO (dgT 10 a) = txO (sgOf 13) ++ txO (dgT 10 a)) := rfl
  have hla : (txO (dgT 10 a)).size ≤ 6 := by rw [txO_size]; exact dgT_len 10 (by omega) 5 a (by omega)
  have HT := (show Hid (TX (w.alloc (tkO ⟨kd, nn, fr, en, tx, s0, s1, s2, s3⟩)) w.heap.size ⟨kd, nn, fr, en, tx, s0, s1, s2, s3⟩) from TX.new w _)
  have HC : Hid (∀ W, Below (w.alloc (tkO ⟨kd, nn, fr, en, tx, s0, s1, s2, s3⟩)).heap.size (w.alloc (tkO ⟨kd, nn, fr, en, tx, s0, s1, s2, s3⟩)) W → Calls Tryz.prog 40 #[.int .i64 kd] W fun e w' => e = .returned (.string (txO (sgOf 13))) ∧ Below W.heap.size W w') := fun W hW => by
    have h1 := signOf_any kd W ((hg.s.later (below_box w _)).later hW)
    rw [h] at h1 ⊢
    exact h1
  have HD : Hid (∀ W, Below (w.alloc (tkO ⟨kd, nn, fr, en, tx, s0, s1, s2, s3⟩)).heap.size (w.alloc (tkO ⟨kd, nn, fr, en, tx, s0, s1, s2, s3⟩)) W → Calls Tryz.prog 35 #[.int .i64 nn] W fun e w' => e = .returned (.string (txO (dgT 10 a))) ∧ Below W.heap.size W w') := fun W hW => by rw [hn]; exact itoa_any a ha W ((hg.later (below_box w _)).later hW)
  have HS := (show Hid (∀ W, Below (w.alloc (tkO ⟨kd, nn, fr, en, tx, s0, s1, s2, s3⟩)).heap.size (w.alloc (tkO ⟨kd, nn, fr, en, tx, s0, s1, s2, s3⟩)) W → W.cell? ⟨w.heap.size, 0, none⟩ = some (.int .i64 kd) ∧ W.cell? ⟨w.heap.size, 1, none⟩ = some (.int .i64 nn)) from fun W hW => ⟨(HT.out.below hW).cells.c0, (HT.out.below hW).cells.c1⟩)
  have HB0 := (show Hid (Below w.heap.size w (w.alloc (tkO ⟨kd, nn, fr, en, tx, s0, s1, s2, s3⟩))) from below_box _ _)
  have hlb : (txO (sgOf 13)).size ≤ 2 := by decide
  clear h ha hg HT hn
  generalize txO (dgT 10 a) = A at *
  generalize txO (sgOf 13) = B at *
  have k1 : ¬ 9223372036854775807 < B.size + A.size := by omega
  go_enter Tryz.func18, Tryz.ntmps18
  go_wp2_with fail
  go_region_held3 (fun w' => w'.cell? ⟨w.heap.size, 0, none⟩ = some (.int .i64 kd) ∧ w'.cell? ⟨w.heap.size, 1, none⟩ = some (.int .i64 nn))
    (first | go_keep | exact HS.out _ ((drew_in hA).trans (hB.mono (drew_in hA).size)) | exact HS.out _ ((drew_in hB).trans (hA.mono (drew_in hB).size)) | exact HS.out _ (drew_in hA) | exact HS.out _ (drew_in hB))
    (first | (go_at_call 40; with_reducible refine (HC.out _ ((Below.refl _ _).drew)).mono ?_; rintro e wA ⟨rfl, hA⟩) | (go_at_call 40; with_reducible refine (HC.out _ (drew_in hB)).mono ?_; rintro e wA ⟨rfl, hA⟩) | (go_at_call 35; with_reducible refine (HD.out _ ((Below.refl _ _).drew)).mono ?_; rintro e wB ⟨rfl, hB⟩) | (go_at_call 35; with_reducible refine (HD.out _ (drew_in hA)).mono ?_; rintro e wB ⟨rfl, hB⟩))
  all_goals
    first
    | (have HW := (show Hid (Below w.heap.size w wB) from HB0.out.trans (((drew_in hA).trans (hB.mono (drew_in hA).size)).mono HB0.out.size)))
    | (have HW := (show Hid (Below w.heap.size w wA) from HB0.out.trans (((drew_in hB).trans (hA.mono (drew_in hB).size)).mono HB0.out.size)))
    clear hA hB
    go_wp2_with fail
    go_ret
    exact ⟨rfl, HW.out⟩
set_option maxRecDepth 100000 in
set_option maxHeartbeats 4000000 in
theorem sh_14 (kd nn fr en s0 s1 s2 s3 : Int) (tx : ByteArray) (a : Nat) (h : kd = 14) (hn : nn = a) (ha : a ≤ 999999) (w : World) (hg : GW w) : Calls Tryz.prog 18 #[.agg #[.int .i64 kd, .int .i64 nn, .int .i64 fr, .int .i64 en, .string tx, .int .u64 s0, .int .u64 s1, .int .u64 s2, .int .u64 s3]] w fun e w' => e = .returned (.string (txO (sgOf 14) ++ txO (dgT 10 a))) ∧ Below w.heap.size w w' := by
  have f1 : (kd == 1) = false := beq_eq_false_iff_ne.2 (by omega)
  have f4 : (kd == 4) = false := beq_eq_false_iff_ne.2 (by omega)
  have f2 : (kd == 2) = false := beq_eq_false_iff_ne.2 (by omega)
  have f3 : (kd == 3) = false := beq_eq_false_iff_ne.2 (by omega)
  have f28 : (kd == 28) = false := beq_eq_false_iff_ne.2 (by omega)
  have f5 : (kd == 5) = false := beq_eq_false_iff_ne.2 (by omega)
  have f13 : (kd == 13) = false := beq_eq_false_iff_ne.2 (by omega)
  have f14 : (kd == 14) = true := by rw [h]; rfl
  have HE : Hid (txO (sgOf 14) ++ txO (dgT 10 a) = txO (sgOf 14) ++ txO (dgT 10 a)) := rfl
  have hla : (txO (dgT 10 a)).size ≤ 6 := by rw [txO_size]; exact dgT_len 10 (by omega) 5 a (by omega)
  have HT := (show Hid (TX (w.alloc (tkO ⟨kd, nn, fr, en, tx, s0, s1, s2, s3⟩)) w.heap.size ⟨kd, nn, fr, en, tx, s0, s1, s2, s3⟩) from TX.new w _)
  have HC : Hid (∀ W, Below (w.alloc (tkO ⟨kd, nn, fr, en, tx, s0, s1, s2, s3⟩)).heap.size (w.alloc (tkO ⟨kd, nn, fr, en, tx, s0, s1, s2, s3⟩)) W → Calls Tryz.prog 40 #[.int .i64 kd] W fun e w' => e = .returned (.string (txO (sgOf 14))) ∧ Below W.heap.size W w') := fun W hW => by
    have h1 := signOf_any kd W ((hg.s.later (below_box w _)).later hW)
    rw [h] at h1 ⊢
    exact h1
  have HD : Hid (∀ W, Below (w.alloc (tkO ⟨kd, nn, fr, en, tx, s0, s1, s2, s3⟩)).heap.size (w.alloc (tkO ⟨kd, nn, fr, en, tx, s0, s1, s2, s3⟩)) W → Calls Tryz.prog 35 #[.int .i64 nn] W fun e w' => e = .returned (.string (txO (dgT 10 a))) ∧ Below W.heap.size W w') := fun W hW => by rw [hn]; exact itoa_any a ha W ((hg.later (below_box w _)).later hW)
  have HS := (show Hid (∀ W, Below (w.alloc (tkO ⟨kd, nn, fr, en, tx, s0, s1, s2, s3⟩)).heap.size (w.alloc (tkO ⟨kd, nn, fr, en, tx, s0, s1, s2, s3⟩)) W → W.cell? ⟨w.heap.size, 0, none⟩ = some (.int .i64 kd) ∧ W.cell? ⟨w.heap.size, 1, none⟩ = some (.int .i64 nn)) from fun W hW => ⟨(HT.out.below hW).cells.c0, (HT.out.below hW).cells.c1⟩)
  have HB0 := (show Hid (Below w.heap.size w (w.alloc (tkO ⟨kd, nn, fr, en, tx, s0, s1, s2, s3⟩))) from below_box _ _)
  have hlb : (txO (sgOf 14)).size ≤ 2 := by decide
  clear h ha hg HT hn
  generalize txO (dgT 10 a) = A at *
  generalize txO (sgOf 14) = B at *
  have k1 : ¬ 9223372036854775807 < B.size + A.size := by omega
  go_enter Tryz.func18, Tryz.ntmps18
  go_wp2_with fail
  go_region_held3 (fun w' => w'.cell? ⟨w.heap.size, 0, none⟩ = some (.int .i64 kd) ∧ w'.cell? ⟨w.heap.size, 1, none⟩ = some (.int .i64 nn))
    (first | go_keep | exact HS.out _ ((drew_in hA).trans (hB.mono (drew_in hA).size)) | exact HS.out _ ((drew_in hB).trans (hA.mono (drew_in hB).size)) | exact HS.out _ (drew_in hA) | exact HS.out _ (drew_in hB))
    (first | (go_at_call 40; with_reducible refine (HC.out _ ((Below.refl _ _).drew)).mono ?_; rintro e wA ⟨rfl, hA⟩) | (go_at_call 40; with_reducible refine (HC.out _ (drew_in hB)).mono ?_; rintro e wA ⟨rfl, hA⟩) | (go_at_call 35; with_reducible refine (HD.out _ ((Below.refl _ _).drew)).mono ?_; rintro e wB ⟨rfl, hB⟩) | (go_at_call 35; with_reducible refine (HD.out _ (drew_in hA)).mono ?_; rintro e wB ⟨rfl, hB⟩))
  all_goals
    first
    | (have HW := (show Hid (Below w.heap.size w wB) from HB0.out.trans (((drew_in hA).trans (hB.mono (drew_in hA).size)).mono HB0.out.size)))
    | (have HW := (show Hid (Below w.heap.size w wA) from HB0.out.trans (((drew_in hB).trans (hA.mono (drew_in hB).size)).mono HB0.out.size)))
    clear hA hB
    go_wp2_with fail
    go_ret
    exact ⟨rfl, HW.out⟩
set_option maxRecDepth 100000 in
set_option maxHeartbeats 4000000 in
theorem sh_15 (kd nn fr en s0 s1 s2 s3 : Int) (tx : ByteArray) (a : Nat) (h : kd = 15) (hn : nn = a) (ha : a ≤ 999999) (w : World) (hg : GW w) : Calls Tryz.prog 18 #[.agg #[.int .i64 kd, .int .i64 nn, .int .i64 fr, .int .i64 en, .string tx, .int .u64 s0, .int .u64 s1, .int .u64 s2, .int .u64 s3]] w fun e w' => e = .returned (.string (txO (sgOf 15) ++ txO (dgT 10 a))) ∧ Below w.heap.size w w' := by
  have f1 : (kd == 1) = false := beq_eq_false_iff_ne.2 (by omega)
  have f4 : (kd == 4) = false := beq_eq_false_iff_ne.2 (by omega)
  have f2 : (kd == 2) = false := beq_eq_false_iff_ne.2 (by omega)
  have f3 : (kd == 3) = false := beq_eq_false_iff_ne.2 (by omega)
  have f28 : (kd == 28) = false := beq_eq_false_iff_ne.2 (by omega)
  have f5 : (kd == 5) = false := beq_eq_false_iff_ne.2 (by omega)
  have f13 : (kd == 13) = false := beq_eq_false_iff_ne.2 (by omega)
  have f14 : (kd == 14) = false := beq_eq_false_iff_ne.2 (by omega)
  have f15 : (kd == 15) = true := by rw [h]; rfl
  have HE : Hid (txO (sgOf 15) ++ txO (dgT 10 a) = txO (sgOf 15) ++ txO (dgT 10 a)) := rfl
  have hla : (txO (dgT 10 a)).size ≤ 6 := by rw [txO_size]; exact dgT_len 10 (by omega) 5 a (by omega)
  have HT := (show Hid (TX (w.alloc (tkO ⟨kd, nn, fr, en, tx, s0, s1, s2, s3⟩)) w.heap.size ⟨kd, nn, fr, en, tx, s0, s1, s2, s3⟩) from TX.new w _)
  have HC : Hid (∀ W, Below (w.alloc (tkO ⟨kd, nn, fr, en, tx, s0, s1, s2, s3⟩)).heap.size (w.alloc (tkO ⟨kd, nn, fr, en, tx, s0, s1, s2, s3⟩)) W → Calls Tryz.prog 40 #[.int .i64 kd] W fun e w' => e = .returned (.string (txO (sgOf 15))) ∧ Below W.heap.size W w') := fun W hW => by
    have h1 := signOf_any kd W ((hg.s.later (below_box w _)).later hW)
    rw [h] at h1 ⊢
    exact h1
  have HD : Hid (∀ W, Below (w.alloc (tkO ⟨kd, nn, fr, en, tx, s0, s1, s2, s3⟩)).heap.size (w.alloc (tkO ⟨kd, nn, fr, en, tx, s0, s1, s2, s3⟩)) W → Calls Tryz.prog 35 #[.int .i64 nn] W fun e w' => e = .returned (.string (txO (dgT 10 a))) ∧ Below W.heap.size W w') := fun W hW => by rw [hn]; exact itoa_any a ha W ((hg.later (below_box w _)).later hW)
  have HS := (show Hid (∀ W, Below (w.alloc (tkO ⟨kd, nn, fr, en, tx, s0, s1, s2, s3⟩)).heap.size (w.alloc (tkO ⟨kd, nn, fr, en, tx, s0, s1, s2, s3⟩)) W → W.cell? ⟨w.heap.size, 0, none⟩ = some (.int .i64 kd) ∧ W.cell? ⟨w.heap.size, 1, none⟩ = some (.int .i64 nn)) from fun W hW => ⟨(HT.out.below hW).cells.c0, (HT.out.below hW).cells.c1⟩)
  have HB0 := (show Hid (Below w.heap.size w (w.alloc (tkO ⟨kd, nn, fr, en, tx, s0, s1, s2, s3⟩))) from below_box _ _)
  have hlb : (txO (sgOf 15)).size ≤ 2 := by decide
  clear h ha hg HT hn
  generalize txO (dgT 10 a) = A at *
  generalize txO (sgOf 15) = B at *
  have k1 : ¬ 9223372036854775807 < B.size + A.size := by omega
  go_enter Tryz.func18, Tryz.ntmps18
  go_wp2_with fail
  go_region_held3 (fun w' => w'.cell? ⟨w.heap.size, 0, none⟩ = some (.int .i64 kd) ∧ w'.cell? ⟨w.heap.size, 1, none⟩ = some (.int .i64 nn))
    (first | go_keep | exact HS.out _ ((drew_in hA).trans (hB.mono (drew_in hA).size)) | exact HS.out _ ((drew_in hB).trans (hA.mono (drew_in hB).size)) | exact HS.out _ (drew_in hA) | exact HS.out _ (drew_in hB))
    (first | (go_at_call 40; with_reducible refine (HC.out _ ((Below.refl _ _).drew)).mono ?_; rintro e wA ⟨rfl, hA⟩) | (go_at_call 40; with_reducible refine (HC.out _ (drew_in hB)).mono ?_; rintro e wA ⟨rfl, hA⟩) | (go_at_call 35; with_reducible refine (HD.out _ ((Below.refl _ _).drew)).mono ?_; rintro e wB ⟨rfl, hB⟩) | (go_at_call 35; with_reducible refine (HD.out _ (drew_in hA)).mono ?_; rintro e wB ⟨rfl, hB⟩))
  all_goals
    first
    | (have HW := (show Hid (Below w.heap.size w wB) from HB0.out.trans (((drew_in hA).trans (hB.mono (drew_in hA).size)).mono HB0.out.size)))
    | (have HW := (show Hid (Below w.heap.size w wA) from HB0.out.trans (((drew_in hB).trans (hA.mono (drew_in hB).size)).mono HB0.out.size)))
    clear hA hB
    go_wp2_with fail
    go_ret
    exact ⟨rfl, HW.out⟩
set_option maxRecDepth 100000 in
set_option maxHeartbeats 4000000 in
theorem sh_21 (kd nn fr en s0 s1 s2 s3 : Int) (tx : ByteArray) (h : kd = 21) (hs : tx.size ≤ 255) (w : World) (hg : GW w) : Calls Tryz.prog 18 #[.agg #[.int .i64 kd, .int .i64 nn, .int .i64 fr, .int .i64 en, .string tx, .int .u64 s0, .int .u64 s1, .int .u64 s2, .int .u64 s3]] w fun e w' => e = .returned (.string (txO (sgOf 21) ++ gnm tx)) ∧ Below w.heap.size w w' := by
  have f1 : (kd == 1) = false := beq_eq_false_iff_ne.2 (by omega)
  have f4 : (kd == 4) = false := beq_eq_false_iff_ne.2 (by omega)
  have f2 : (kd == 2) = false := beq_eq_false_iff_ne.2 (by omega)
  have f3 : (kd == 3) = false := beq_eq_false_iff_ne.2 (by omega)
  have f28 : (kd == 28) = false := beq_eq_false_iff_ne.2 (by omega)
  have f5 : (kd == 5) = false := beq_eq_false_iff_ne.2 (by omega)
  have f13 : (kd == 13) = false := beq_eq_false_iff_ne.2 (by omega)
  have f14 : (kd == 14) = false := beq_eq_false_iff_ne.2 (by omega)
  have f15 : (kd == 15) = false := beq_eq_false_iff_ne.2 (by omega)
  have f21 : (kd == 21) = true := by rw [h]; rfl
  have HE : Hid (txO (sgOf 21) ++ gnm tx = txO (sgOf 21) ++ gnm tx) := rfl
  have hla : (gnm tx).size ≤ 256 := gnm_len tx hs
  have HT := (show Hid (TX (w.alloc (tkO ⟨kd, nn, fr, en, tx, s0, s1, s2, s3⟩)) w.heap.size ⟨kd, nn, fr, en, tx, s0, s1, s2, s3⟩) from TX.new w _)
  have HC : Hid (∀ W, Below (w.alloc (tkO ⟨kd, nn, fr, en, tx, s0, s1, s2, s3⟩)).heap.size (w.alloc (tkO ⟨kd, nn, fr, en, tx, s0, s1, s2, s3⟩)) W → Calls Tryz.prog 40 #[.int .i64 kd] W fun e w' => e = .returned (.string (txO (sgOf 21))) ∧ Below W.heap.size W w') := fun W hW => by
    have h1 := signOf_any kd W ((hg.s.later (below_box w _)).later hW)
    rw [h] at h1 ⊢
    exact h1
  have HD : Hid (∀ W, Below (w.alloc (tkO ⟨kd, nn, fr, en, tx, s0, s1, s2, s3⟩)).heap.size (w.alloc (tkO ⟨kd, nn, fr, en, tx, s0, s1, s2, s3⟩)) W → Calls Tryz.prog 41 #[.string tx] W fun e w' => e = .returned (.string (gnm tx)) ∧ w' = W) := fun W _ => groupName_any tx (by omega) W
  have HS := (show Hid (∀ W, Below (w.alloc (tkO ⟨kd, nn, fr, en, tx, s0, s1, s2, s3⟩)).heap.size (w.alloc (tkO ⟨kd, nn, fr, en, tx, s0, s1, s2, s3⟩)) W → W.cell? ⟨w.heap.size, 0, none⟩ = some (.int .i64 kd) ∧ W.cell? ⟨w.heap.size, 4, none⟩ = some (.string tx)) from fun W hW => ⟨(HT.out.below hW).cells.c0, (HT.out.below hW).cells.c4⟩)
  have HB0 := (show Hid (Below w.heap.size w (w.alloc (tkO ⟨kd, nn, fr, en, tx, s0, s1, s2, s3⟩))) from below_box _ _)
  have hlb : (txO (sgOf 21)).size ≤ 2 := by decide
  clear h hg HT hs
  generalize gnm tx = A at *
  generalize txO (sgOf 21) = B at *
  have k1 : ¬ 9223372036854775807 < B.size + A.size := by omega
  go_enter Tryz.func18, Tryz.ntmps18
  go_wp2_with fail
  go_region_held3 (fun w' => w'.cell? ⟨w.heap.size, 0, none⟩ = some (.int .i64 kd) ∧ w'.cell? ⟨w.heap.size, 4, none⟩ = some (.string tx))
    (first | go_keep | exact HS.out _ (drew_in hA) | exact HS.out _ ((Below.refl _ _).drew))
    (first | (go_at_call 40; with_reducible refine (HC.out _ ((Below.refl _ _).drew)).mono ?_; rintro e wA ⟨rfl, hA⟩) | (go_at_call 41; with_reducible refine (HD.out _ ((Below.refl _ _).drew)).mono ?_; rintro e wB ⟨rfl, rfl⟩) | (go_at_call 41; with_reducible refine (HD.out _ (drew_in hA)).mono ?_; rintro e wB ⟨rfl, rfl⟩))
  all_goals
    have HW := (show Hid (Below w.heap.size w _) from HB0.out.trans ((drew_in hA).mono HB0.out.size))
    clear hA
    go_wp2_with fail
    go_ret
    exact ⟨rfl, HW.out⟩
set_option maxRecDepth 100000 in
set_option maxHeartbeats 4000000 in
theorem sh_no (kd nn fr en s0 s1 s2 s3 : Int) (tx : ByteArray) (n1 : ¬ kd = 1) (n4 : ¬ kd = 4) (n2 : ¬ kd = 2) (n3 : ¬ kd = 3) (n28 : ¬ kd = 28) (n5 : ¬ kd = 5) (n13 : ¬ kd = 13) (n14 : ¬ kd = 14) (n15 : ¬ kd = 15) (n21 : ¬ kd = 21) (w : World) (hg : GW w) : Calls Tryz.prog 18 #[.agg #[.int .i64 kd, .int .i64 nn, .int .i64 fr, .int .i64 en, .string tx, .int .u64 s0, .int .u64 s1, .int .u64 s2, .int .u64 s3]] w fun e w' => e = .returned (.string (txO (sgOf kd))) ∧ Below w.heap.size w w' := by
  have f1 : (kd == 1) = false := beq_eq_false_iff_ne.2 n1
  have f4 : (kd == 4) = false := beq_eq_false_iff_ne.2 n4
  have f2 : (kd == 2) = false := beq_eq_false_iff_ne.2 n2
  have f3 : (kd == 3) = false := beq_eq_false_iff_ne.2 n3
  have f28 : (kd == 28) = false := beq_eq_false_iff_ne.2 n28
  have f5 : (kd == 5) = false := beq_eq_false_iff_ne.2 n5
  have f13 : (kd == 13) = false := beq_eq_false_iff_ne.2 n13
  have f14 : (kd == 14) = false := beq_eq_false_iff_ne.2 n14
  have f15 : (kd == 15) = false := beq_eq_false_iff_ne.2 n15
  have f21 : (kd == 21) = false := beq_eq_false_iff_ne.2 n21
  have HG := (show Hid _ from hg)
  clear n1 n4 n2 n3 n28 n5 n13 n14 n15 n21 hg
  go_enter Tryz.func18, Tryz.ntmps18
  go_wp2_with fail
  refine (signOf_any kd _ (HG.out.s.later (below_box w _))).mono ?_
  rintro e w1 ⟨rfl, hb⟩
  have HB := (show Hid (Below w.heap.size w w1) from (below_box w _).trans (hb.mono (by simp)))
  clear hb
  go_wp2_with fail
  go_ret
  exact ⟨rfl, HB.out⟩
end Go.Proofs.YthffklhojdldkaaGreatDoor

namespace Go.Proofs.YthffklhojdldkaaGreatDoor
open Go.RowKit
theorem cat_dig (m : Nat) (hm : m < 16) (l : List UInt8) : digs.extract m (m + 1) ++ (⟨l.toArray⟩ : ByteArray) = ⟨(hexD m :: l).toArray⟩ := by
  rw [ext_dig ⟨m, hm⟩]
  exact catL [hexD m] l
set_option maxRecDepth 100000 in
set_option maxHeartbeats 4000000 in
theorem whole10_any (n0 : Nat) (hn : n0 ≤ 1114111) (w : World) : Calls Tryz.prog 44 #[.int .i64 n0, .int .i64 10] w fun e w' => e = .returned (.string ⟨(dgT 10 n0).toArray⟩) ∧ w' = w := by
  have HN : Hid (∀ n l, whI 10 n0 n l → 0 < n ∨ l = [] → whI 10 n0 (n / 10) (hexD (n % 10) :: l)) := fun n l h1 h2 => whI_step (by omega) h1 h2
  have HE : Hid (∀ n l, whI 10 n0 n l → n = 0 → l ≠ [] → dgT 10 n0 = l) := fun n l h1 h2 h3 => whI_end h1 h2 h3
  have HC : Hid (∀ m, m < 16 → ∀ l : List UInt8, digs.extract m (m + 1) ++ (⟨l.toArray⟩ : ByteArray) = ⟨(hexD m :: l).toArray⟩) := fun m hm l => cat_dig m hm l
  go_enter Tryz.func44, Tryz.ntmps44
  go_wp2_with fail
  go_loopw [0, 5] (fun t s wr => ∃ n : Nat, ∃ A : ByteArray, n ≤ 1114111 ∧ t = .int .i64 n ∧ s = .string A ∧ wr = w ∧ A.size + n ≤ 1114112 ∧ Hid (∃ l, A = ⟨l.toArray⟩ ∧ whI 10 n0 n l)) (fun t s _ => (intOf t).toNat + (match s with | .string A => if A.size = 0 then 1 else 0 | _ => 0))
  case atStart => exact ⟨n0, _, hn, rfl, rfl, rfl, by show 0 + n0 ≤ _; omega, [], rfl, Or.inl ⟨rfl, rfl⟩⟩
  case round =>
    obtain ⟨n, A, h1, rfl, rfl, rfl, h2, HI⟩ := hrel
    have step : 0 < n ∨ A.size = 0 → ∃ l, digs.extract (n % 10) (n % 10 + 1) ++ A = ⟨l.toArray⟩ ∧ whI 10 n0 (n / 10) l := fun hc => by
      obtain ⟨l, rfl, hl⟩ := HI.out
      refine ⟨_, HC.out (n % 10) (by omega) l, HN.out n l hl ?_⟩
      rcases hc with hc | hc
      · exact Or.inl hc
      · exact Or.inr (List.eq_nil_of_length_eq_zero hc)
    have t1 : IntKind.i64.wrap ((n : Int) / 10) = ((n / 10 : Nat) : Int) := by rw [IntKind.wrap_i64]; omega
    have t2 : IntKind.i64.wrap ((n : Int) % 10) = ((n % 10 : Nat) : Int) := by rw [IntKind.wrap_i64]; omega
    have t3 : (n : Int) / 10 = ((n / 10 : Nat) : Int) := by omega
    have t4 : (n : Int) % 10 = ((n % 10 : Nat) : Int) := by omega
    have q1 : n / 10 ≤ n := Nat.div_le_self _ _
    have q2 : n % 10 < 16 := by omega
    have q3 : 0 < n → n / 10 < n := fun h => Nat.div_lt_self h (by omega)
    clear HC HN
    generalize n / 10 = p at *
    generalize n % 10 = m at *
    have v1 : IntKind.i64.wrap ((m : Int) + 1) = (m : Int) + 1 := by rw [IntKind.wrap_i64]; omega
    have y1 : ((m : Int) + 1).toNat = m + 1 := by omega
    have l1 : (m : Int) ≤ (m : Int) + 1 := by omega
    have l3 : (m : Int) + 1 ≤ 16 := by omega
    have l5 : (0 : Int) ≤ (m : Int) + 1 := by omega
    have l0 : (0 : Int) ≤ (m : Int) := by omega
    have HX : Hid (digs.extract m (m + 1) = ⟨#[hexD m]⟩) := ext_dig ⟨m, q2⟩
    have HS := (show Hid _ from step)
    have hA : A.size ≤ 1114112 := by omega
    clear step
    by_cases hn0 : 0 < n
    · have z : (0 : Int) < (n : Int) := by omega
      go_wp2_with fail
      go_roundw
      case rel => exact ⟨p, _, by omega, rfl, rfl, trivial, by
        show (digs.extract m (m + 1) ++ A).size + p ≤ _
        rw [HX.out, ByteArray.size_append]
        have := q3 hn0
        show 1 + A.size + p ≤ _
        omega, HS.out (Or.inl hn0)⟩
      case measure =>
        have h5 := q3 hn0
        show p + (if (digs.extract m (m + 1) ++ A).size = 0 then 1 else 0) < n + (if A.size = 0 then 1 else 0)
        rw [HX.out, ByteArray.size_append, if_neg (show ¬ (ByteArray.mk #[hexD m]).size + A.size = 0 by show ¬ 1 + A.size = 0; omega)]
        split <;> omega
    · have z : ¬ (0 : Int) < (n : Int) := by omega
      have HZ : Hid (n = 0) := Nat.eq_zero_of_not_pos hn0
      by_cases ha : A.size = 0
      · obtain rfl : A = ⟨#[]⟩ := ByteArray.ext (Array.eq_empty_of_size_eq_zero ha)
        go_wp2_with fail
        go_roundw
        case rel => exact ⟨p, _, by omega, rfl, rfl, trivial, by
          show (digs.extract m (m + 1) ++ ⟨#[]⟩).size + p ≤ _
          rw [HX.out, ByteArray.size_append]
          show 1 + 0 + p ≤ _
          omega, HS.out (Or.inr rfl)⟩
        case measure =>
          show p + (if (digs.extract m (m + 1) ++ ⟨#[]⟩).size = 0 then 1 else 0) < n + (if (⟨#[]⟩ : ByteArray).size = 0 then 1 else 0)
          rw [HX.out, ByteArray.size_append, if_neg (show ¬ (ByteArray.mk #[hexD m]).size + (⟨#[]⟩ : ByteArray).size = 0 by show ¬ 1 + 0 = 0; omega), if_pos ha]
          omega
      · have he := ne_emp (s := A) (by omega)
        have HF : Hid (A = ⟨(dgT 10 n0).toArray⟩) := by
          show _ = _
          obtain ⟨l, rfl, hl⟩ := HI.out
          rw [HE.out n l hl HZ.out (by rintro rfl; exact ha rfl)]
        clear HI HS HE HZ hn0
        go_wp2_with fail
        go_ret
        exact ⟨ret_str HF.out, rfl⟩
set_option maxRecDepth 100000 in
set_option maxHeartbeats 4000000 in
theorem whole16_any (n0 : Nat) (hn : n0 ≤ 1114111) (w : World) : Calls Tryz.prog 44 #[.int .i64 n0, .int .i64 16] w fun e w' => e = .returned (.string ⟨(dgT 16 n0).toArray⟩) ∧ w' = w := by
  have HN : Hid (∀ n l, whI 16 n0 n l → 0 < n ∨ l = [] → whI 16 n0 (n / 16) (hexD (n % 16) :: l)) := fun n l h1 h2 => whI_step (by omega) h1 h2
  have HE : Hid (∀ n l, whI 16 n0 n l → n = 0 → l ≠ [] → dgT 16 n0 = l) := fun n l h1 h2 h3 => whI_end h1 h2 h3
  have HC : Hid (∀ m, m < 16 → ∀ l : List UInt8, digs.extract m (m + 1) ++ (⟨l.toArray⟩ : ByteArray) = ⟨(hexD m :: l).toArray⟩) := fun m hm l => cat_dig m hm l
  go_enter Tryz.func44, Tryz.ntmps44
  go_wp2_with fail
  go_loopw [0, 5] (fun t s wr => ∃ n : Nat, ∃ A : ByteArray, n ≤ 1114111 ∧ t = .int .i64 n ∧ s = .string A ∧ wr = w ∧ A.size + n ≤ 1114112 ∧ Hid (∃ l, A = ⟨l.toArray⟩ ∧ whI 16 n0 n l)) (fun t s _ => (intOf t).toNat + (match s with | .string A => if A.size = 0 then 1 else 0 | _ => 0))
  case atStart => exact ⟨n0, _, hn, rfl, rfl, rfl, by show 0 + n0 ≤ _; omega, [], rfl, Or.inl ⟨rfl, rfl⟩⟩
  case round =>
    obtain ⟨n, A, h1, rfl, rfl, rfl, h2, HI⟩ := hrel
    have step : 0 < n ∨ A.size = 0 → ∃ l, digs.extract (n % 16) (n % 16 + 1) ++ A = ⟨l.toArray⟩ ∧ whI 16 n0 (n / 16) l := fun hc => by
      obtain ⟨l, rfl, hl⟩ := HI.out
      refine ⟨_, HC.out (n % 16) (by omega) l, HN.out n l hl ?_⟩
      rcases hc with hc | hc
      · exact Or.inl hc
      · exact Or.inr (List.eq_nil_of_length_eq_zero hc)
    have t1 : IntKind.i64.wrap ((n : Int) / 16) = ((n / 16 : Nat) : Int) := by rw [IntKind.wrap_i64]; omega
    have t2 : IntKind.i64.wrap ((n : Int) % 16) = ((n % 16 : Nat) : Int) := by rw [IntKind.wrap_i64]; omega
    have t3 : (n : Int) / 16 = ((n / 16 : Nat) : Int) := by omega
    have t4 : (n : Int) % 16 = ((n % 16 : Nat) : Int) := by omega
    have q1 : n / 16 ≤ n := Nat.div_le_self _ _
    have q2 : n % 16 < 16 := by omega
    have q3 : 0 < n → n / 16 < n := fun h => Nat.div_lt_self h (by omega)
    clear HC HN
    generalize n / 16 = p at *
    generalize n % 16 = m at *
    have v1 : IntKind.i64.wrap ((m : Int) + 1) = (m : Int) + 1 := by rw [IntKind.wrap_i64]; omega
    have y1 : ((m : Int) + 1).toNat = m + 1 := by omega
    have l1 : (m : Int) ≤ (m : Int) + 1 := by omega
    have l3 : (m : Int) + 1 ≤ 16 := by omega
    have l5 : (0 : Int) ≤ (m : Int) + 1 := by omega
    have l0 : (0 : Int) ≤ (m : Int) := by omega
    have HX : Hid (digs.extract m (m + 1) = ⟨#[hexD m]⟩) := ext_dig ⟨m, q2⟩
    have HS := (show Hid _ from step)
    have hA : A.size ≤ 1114112 := by omega
    clear step
    by_cases hn0 : 0 < n
    · have z : (0 : Int) < (n : Int) := by omega
      go_wp2_with fail
      go_roundw
      case rel => exact ⟨p, _, by omega, rfl, rfl, trivial, by
        show (digs.extract m (m + 1) ++ A).size + p ≤ _
        rw [HX.out, ByteArray.size_append]
        have := q3 hn0
        show 1 + A.size + p ≤ _
        omega, HS.out (Or.inl hn0)⟩
      case measure =>
        have h5 := q3 hn0
        show p + (if (digs.extract m (m + 1) ++ A).size = 0 then 1 else 0) < n + (if A.size = 0 then 1 else 0)
        rw [HX.out, ByteArray.size_append, if_neg (show ¬ (ByteArray.mk #[hexD m]).size + A.size = 0 by show ¬ 1 + A.size = 0; omega)]
        split <;> omega
    · have z : ¬ (0 : Int) < (n : Int) := by omega
      have HZ : Hid (n = 0) := Nat.eq_zero_of_not_pos hn0
      by_cases ha : A.size = 0
      · obtain rfl : A = ⟨#[]⟩ := ByteArray.ext (Array.eq_empty_of_size_eq_zero ha)
        go_wp2_with fail
        go_roundw
        case rel => exact ⟨p, _, by omega, rfl, rfl, trivial, by
          show (digs.extract m (m + 1) ++ ⟨#[]⟩).size + p ≤ _
          rw [HX.out, ByteArray.size_append]
          show 1 + 0 + p ≤ _
          omega, HS.out (Or.inr rfl)⟩
        case measure =>
          show p + (if (digs.extract m (m + 1) ++ ⟨#[]⟩).size = 0 then 1 else 0) < n + (if (⟨#[]⟩ : ByteArray).size = 0 then 1 else 0)
          rw [HX.out, ByteArray.size_append, if_neg (show ¬ (ByteArray.mk #[hexD m]).size + (⟨#[]⟩ : ByteArray).size = 0 by show ¬ 1 + 0 = 0; omega), if_pos ha]
          omega
      · have he := ne_emp (s := A) (by omega)
        have HF : Hid (A = ⟨(dgT 16 n0).toArray⟩) := by
          show _ = _
          obtain ⟨l, rfl, hl⟩ := HI.out
          rw [HE.out n l hl HZ.out (by rintro rfl; exact ha rfl)]
        clear HI HS HE HZ hn0
        go_wp2_with fail
        go_ret
        exact ⟨ret_str HF.out, rfl⟩
end Go.Proofs.YthffklhojdldkaaGreatDoor

namespace Go.Proofs.YthffklhojdldkaaGreatDoor
open Go.RowKit
theorem cnt_zero (x : BitVec 256) : (x == 0#256) = ((cnt x : Int) == 0) := by
  rw [Bool.eq_iff_iff]
  simp only [beq_iff_eq]
  constructor
  · rintro rfl
    have : ∀ k, cntTo (0#256).getLsbD k = 0 := fun k => by induction k with
      | zero => rfl
      | succ n ih => rw [cntTo_succ, ih]; simp
    have h := this 256
    show ((cntTo (0#256).getLsbD 256 : Nat) : Int) = 0
    omega
  · intro h
    have hz : ∀ k, cntTo x.getLsbD k = 0 → ∀ j, j < k → x.getLsbD j = false := fun k => by induction k with
      | zero => intro _ j hj; omega
      | succ n ih =>
        intro h j hj
        rw [cntTo_succ] at h
        by_cases e : j = n
        · subst e; cases hb : x.getLsbD j with
          | false => rfl
          | true => rw [hb] at h; simp at h
        · exact ih (by omega) j (by omega)
    refine set_eq _ _ fun j hj => ?_
    rw [hz 256 (by unfold cnt at h; omega) j hj]; simp
theorem cnt_not (x : BitVec 256) : cnt x + cnt (~~~ x) = 256 := by
  have : ∀ k, k ≤ 256 → cntTo x.getLsbD k + cntTo (~~~ x).getLsbD k = k := fun k => by induction k with
    | zero => intro _; rfl
    | succ n ih =>
      intro hk
      have h := ih (by omega)
      rw [cntTo_succ, cntTo_succ, BitVec.getLsbD_not]
      have : n < 256 := by omega
      cases x.getLsbD n <;> simp [this] <;> omega
  exact this 256 (Nat.le_refl _)
theorem cnt_full (x : BitVec 256) : (x == ~~~ 0#256) = ((cnt x : Int) == 256) := by
  have h1 := cnt_zero (~~~ x)
  have h2 := cnt_not x
  have e : (x == ~~~ 0#256) = (~~~ x == 0#256) := by
    rw [Bool.eq_iff_iff]; simp only [beq_iff_eq]
    constructor
    · rintro rfl; exact BitVec.not_not
    · intro h; rw [← h, BitVec.not_not]
  rw [e, h1, Bool.eq_iff_iff]
  simp only [beq_iff_eq]
  omega
end Go.Proofs.YthffklhojdldkaaGreatDoor

namespace Go.Proofs.YthffklhojdldkaaGreatDoor
open Go.RowKit
theorem drewN_own {w : World} {b e sz n : Nat} {v : Value} {xs : List Value} (k : Nat) (h : w.ownsRow b e sz v n xs) : (w.drewN k).ownsRow b e sz v n xs := h
set_option maxRecDepth 100000 in
set_option maxHeartbeats 4000000 in
theorem showR_any (x : BitVec 256) (w : World) :
    Calls Tryz.prog 43 #[sv x] w fun e w' => e = .returned (.string ⟨(shT x).toArray⟩) ∧ Below w.heap.size w w' := by
  have HX := (show Hid _ from Holds.new w x)
  have HB := (show Hid _ from below1 w (c4 x))
  have HC := (show Hid (∀ w, Calls Tryz.prog 73 #[sv x] w fun e w' => e = .returned (.int .i64 (cnt x)) ∧ Below w.heap.size w w') from countR_any x)
  cases hf : fulB x
  · have HE : Hid (shT x = 91 :: mems (spL (bys x)) ++ [93]) := (by show shT x = _; unfold shT; rw [hf]; rfl)
    have hcf : ((cnt x : Int) == 256) = false := by rw [← cnt_full]; exact hf
    clear hf
    go_enter Tryz.func43, Tryz.ntmps43
    go_wp2_with fail
    refine (HC.out _).mono ?_
    rintro e w1 ⟨rfl, hb⟩
    have HX1 := (show Hid _ from HX.out.below hb (by simp))
    have HB1 := (show Hid _ from HB.out.trans (hb.mono (by simp)))
    clear hb HX HB HC
    obtain ⟨_, x0, x1, x2, x3, _, _, _, _⟩ := HX1.out
    go_wp2_with fail
    refine (spansR_any x _).mono ?_
    rintro e w3 ⟨v, rfl, hro, hnil, hb3⟩
    have HB3 := (show Hid _ from HB1.out.trans (hb3.mono HB1.out.size))
    have hs3 := hb3.size
    have HR := (show Hid _ from hro)
    have hsl : ∃ g cap, v = .slice g (spL (bys x)).length cap := by
      rcases hro.2 with ⟨hv, h0⟩ | ⟨g, cap, cur, hv, _⟩
      · exact ⟨_, _, by rw [h0]; exact hv⟩
      · exact ⟨_, _, hv⟩
    obtain ⟨g, cap, rfl⟩ := hsl
    have HZ : Hid ((spL (bys x)).length ≤ 256) := (show (spL (bys x)).length ≤ 256 from spL_len256 x)
    have HOK : Hid (∀ p ∈ spL (bys x), 0 ≤ p.1 ∧ p.1 ≤ p.2 ∧ p.2 < 256) := (fun p hp => spL_byte x p hp)
    clear hro hnil hb3 HX1 x0 x1 x2 x3 HB1 hcf
    generalize spL (bys x) = SL at *
    go_wp2
    go_loopw [4, 5] (fun o t wr => ∃ k : Nat, ∃ A : ByteArray, k ≤ SL.length ∧ o = .string A ∧ t = .int .i64 k ∧ A.size ≤ 1 + 9 * k ∧ Hid (A = ⟨(91 :: mems (SL.take k)).toArray⟩) ∧ Hid (wr.ownsRow (w1.heap.size + 1) 93 2 (.slice g SL.length cap) SL.length (spc SL) ∧ Below w.heap.size w wr)) (fun _ t _ => SL.length - (intOf t).toNat)
    case atStart => exact ⟨0, _, by omega, rfl, rfl, by decide, rfl, HR.out, HB3.out⟩
    case round =>
      obtain ⟨k, A, hk, rfl, rfl, hA, HAE, HI⟩ := hrel
      have hz := HZ.out
      by_cases hlt : k < SL.length
      · have hk0 : (0 : Int) ≤ (k : Int) := by omega
        have hk1 : (k : Int) < (SL.length : Int) := by omega
        obtain ⟨lo, hi, hle, hh, e1, e2, hmem⟩ := step_at SL k hlt HOK.out
        obtain ⟨g', rfl, c0, c1⟩ := read_at HI.out.1 hlt
        rw [e1] at c0
        rw [e2] at c1
        have hkl : k * 2 + 1 < 2 * SL.length := by omega
        have hLs := itB_size lo
        have hMs := itB_size hi
        have HL : Hid (∀ w, Calls Tryz.prog 75 #[.int .i64 lo] w fun e w' => e = .returned (.string (itB lo)) ∧ Below w.heap.size w w') := fun w => itmR_any lo (by omega) w
        have HM : Hid (∀ w, Calls Tryz.prog 75 #[.int .i64 hi] w fun e w' => e = .returned (.string (itB hi)) ∧ Below w.heap.size w w') := fun w => itmR_any hi (by omega) w
        have HLE : Hid (itB lo = ⟨(itm lo).toArray⟩) := rfl
        have HME : Hid (itB hi = ⟨(itm hi).toArray⟩) := rfl
        generalize itB lo = L at *
        generalize itB hi = M at *
        have hw1 : IntKind.i64.wrap ((lo : Int) + 1) = (lo : Int) + 1 := by rw [IntKind.wrap_i64]; omega
        by_cases d0 : hi - lo = 0
        · have hsp : spT lo hi = itm lo := by unfold spT; rw [if_pos d0]
          have n1 : ¬ (lo : Int) + 1 < (hi : Int) := by omega
          have n2 : ¬ (lo : Int) < (hi : Int) := by omega
          go_wp2_with fail
          refine (HL.out _).mono ?_
          rintro e w4 ⟨rfl, hb4⟩
          have HJ := (show Hid _ from (⟨own_below' HI.out.1 hb4, HI.out.2.trans (hb4.mono HI.out.2.size)⟩ : _ ∧ _))
          obtain ⟨_, hg2, c0, c1⟩ := read_at HJ.out.1 hlt
          cases hg2
          rw [e1] at c0
          rw [e2] at c1
          clear hb4 HI
          go_wp2_with fail
          go_quiet (fail)
          go_wp2_with fail
          go_quiet (fail)
          replace HJ := (show Hid (∀ n, (w4.drewN n).ownsRow (w1.heap.size + 1) 93 2 (.slice (some ⟨g', 0, none⟩) SL.length cap) SL.length (spc SL) ∧ Below w.heap.size w (w4.drewN n)) from fun n => ⟨drewN_own n HJ.out.1, Go.below_drewN HJ.out.2 n⟩)
          go_wp2_with fail
          go_roundw
          case rel => exact ⟨k + 1, _, by omega, rfl, by go_num, by simp only [ByteArray.size_append]; omega, (show _ = _ by rw [hmem, hsp, HAE.out, HLE.out, catL]; rfl), HJ.out _⟩
          case measure => simp [intOf]; omega
        · by_cases d1 : hi - lo = 1
          · have hsp : spT lo hi = itm lo ++ itm hi := by unfold spT; rw [if_neg d0, if_pos d1]
            have n1 : ¬ (lo : Int) + 1 < (hi : Int) := by omega
            have n2 : (lo : Int) < (hi : Int) := by omega
            go_wp2_with fail
            refine (HL.out _).mono ?_
            rintro e w4 ⟨rfl, hb4⟩
            have HJ := (show Hid _ from (⟨own_below' HI.out.1 hb4, HI.out.2.trans (hb4.mono HI.out.2.size)⟩ : _ ∧ _))
            obtain ⟨_, hg2, c0, c1⟩ := read_at HJ.out.1 hlt
            cases hg2
            rw [e1] at c0
            rw [e2] at c1
            clear hb4 HI
            go_wp2_with fail
            go_quiet (fail)
            go_wp2_with fail
            go_quiet (fail)
            replace HJ := (show Hid (∀ n, (w4.drewN n).ownsRow (w1.heap.size + 1) 93 2 (.slice (some ⟨g', 0, none⟩) SL.length cap) SL.length (spc SL) ∧ Below w.heap.size w (w4.drewN n)) from fun n => ⟨drewN_own n HJ.out.1, Go.below_drewN HJ.out.2 n⟩)
            go_wp2_with fail
            refine (HM.out _).mono ?_
            rintro e w5 ⟨rfl, hb5⟩
            have HK := (show Hid _ from (⟨own_below' (HJ.out _).1 hb5, (HJ.out _).2.trans (hb5.mono (HJ.out _).2.size)⟩ : _ ∧ _))
            clear hb5 HJ c0 c1
            go_wp2_with fail
            go_roundw
            case rel => exact ⟨k + 1, _, by omega, rfl, by go_num, by simp only [ByteArray.size_append]; omega, (show _ = _ by rw [hmem, hsp, HAE.out, HLE.out, HME.out, catL, catL]; simp), HK⟩
            case measure => simp [intOf]; omega
          · have hsp : spT lo hi = itm lo ++ [45] ++ itm hi := by unfold spT; rw [if_neg d0, if_neg d1]
            have n1 : (lo : Int) + 1 < (hi : Int) := by omega
            have n2 : (lo : Int) < (hi : Int) := by omega
            go_wp2_with fail
            refine (HL.out _).mono ?_
            rintro e w4 ⟨rfl, hb4⟩
            have HJ := (show Hid _ from (⟨own_below' HI.out.1 hb4, HI.out.2.trans (hb4.mono HI.out.2.size)⟩ : _ ∧ _))
            obtain ⟨_, hg2, c0, c1⟩ := read_at HJ.out.1 hlt
            cases hg2
            rw [e1] at c0
            rw [e2] at c1
            clear hb4 HI
            go_wp2_with fail
            go_quiet (fail)
            go_wp2_with fail
            go_quiet (fail)
            replace HJ := (show Hid (∀ n, (w4.drewN n).ownsRow (w1.heap.size + 1) 93 2 (.slice (some ⟨g', 0, none⟩) SL.length cap) SL.length (spc SL) ∧ Below w.heap.size w (w4.drewN n)) from fun n => ⟨drewN_own n HJ.out.1, Go.below_drewN HJ.out.2 n⟩)
            go_wp2_with fail
            refine (HM.out _).mono ?_
            rintro e w5 ⟨rfl, hb5⟩
            have HK := (show Hid _ from (⟨own_below' (HJ.out _).1 hb5, (HJ.out _).2.trans (hb5.mono (HJ.out _).2.size)⟩ : _ ∧ _))
            clear hb5 HJ c0 c1
            go_wp2_with fail
            go_roundw
            case rel => exact ⟨k + 1, _, by omega, rfl, by go_num, by simp only [ByteArray.size_append]; have h45 : (⟨#[45]⟩ : ByteArray).size = 1 := rfl; omega, (show _ = _ by rw [hmem, hsp, HAE.out, HLE.out, HME.out, catL, show (⟨#[45]⟩ : ByteArray) = ⟨[45].toArray⟩ from rfl, catL, catL]; simp), HK⟩
            case measure => simp [intOf]; omega
      · obtain rfl : k = SL.length := by omega
        rw [List.take_length] at HAE
        go_wp2
        go_ret
        exact ⟨ret_str (by rw [HE.out, HAE.out]; rw [show (⟨#[93]⟩ : ByteArray) = ⟨[93].toArray⟩ from rfl, catL]), HI.out.2⟩
  · have HE : Hid (shT x = [91, 94, 93]) := (by show shT x = _; unfold shT; rw [hf]; rfl)
    have hcf : ((cnt x : Int) == 256) = true := by rw [← cnt_full]; exact hf
    clear hf
    go_enter Tryz.func43, Tryz.ntmps43
    go_wp2_with fail
    refine (HC.out _).mono ?_
    rintro e w1 ⟨rfl, hb⟩
    have HB1 := (show Hid _ from HB.out.trans (hb.mono (by simp)))
    clear hb
    go_wp2
    go_ret
    exact ⟨by rw [HE.out]; rfl, HB1.out⟩
end Go.Proofs.YthffklhojdldkaaGreatDoor
