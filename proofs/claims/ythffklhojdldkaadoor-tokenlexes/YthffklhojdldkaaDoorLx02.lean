/- DERIVED. Plain mathematics and walks, laid together (2). -/
import Derived.LoopN
import Derived.RangeFuncBox
import Derived.Lib.Builder
import Derived.Test.YthffklhojdldkaaDoorLx01
namespace Go.Proofs.YthffklhojdldkaaDoor
open Go.RowKit
set_option maxHeartbeats 4000000 in
theorem mix3_any (x y : BitVec 256) (w : World) :
    Calls Tryd.prog 77 #[.int .i64 3, sv x, sv y] w fun e w' => e = .returned (sv (mixS 3 x y)) ∧ Below w.heap.size w w' := by
  go_enter Tryd.func77, Tryd.ntmps77
  go_wp2
  go_loopw [8] (fun t wr => ∃ k : Nat, k ≤ 256 ∧ t = .int .i64 k ∧ Holds wr w.heap.size x ∧ Holds wr (w.heap.size + 1) y ∧ Holds wr (w.heap.size + 1 + 1 + 1) (mixTo 3 x y k) ∧ (∃ z, Holds wr (w.heap.size + 1 + 1) z) ∧ Below w.heap.size w wr) (fun t _ => 256 - (intOf t).toNat)
  case atStart =>
    exact ⟨0, by omega, rfl, mix_start0 w x y, mix_start1 w x y, mix_start3 w x y, ⟨0#256, mix_start2 w x y⟩, mix_startB w x y⟩
  case round =>
    obtain ⟨k, hk, rfl, hx, hy, hm, ⟨z, hz⟩, hbel⟩ := hrel
    have hsz : w.heap.size + 1 + 1 + 1 < wr.heap.size := hm.lt
    have HX := (show Hid _ from hx)
    have HY := (show Hid _ from hy)
    have HM := (show Hid _ from hm)
    have HZ := (show Hid _ from hz)
    have HB := (show Hid _ from hbel)
    by_cases hlt : k < 256
    · have HS := (show Hid _ from mixTo_succ 3 x y k hlt)
      clear hm hz hbel
      obtain ⟨l0, c0, c1, c2, c3, f0, f1, f2, f3⟩ := hx
      obtain ⟨l1, d0, d1, d2, d3, g0, g1, g2, g3⟩ := hy
      have HR : Hid (Below wr.heap.size wr wr) := Below.refl _ _
      have hk0 : (0 : Int) ≤ (k : Int) := by omega
      have hk1 : (k : Int) ≤ 255 := by omega
      cases hxb : hasB x k <;> cases hyb : hasB y k
      · have HE : Hid (mixTo 3 x y (k + 1) = mixTo 3 x y k ||| bt k) := (by have h := HS.out; rw [hxb, hyb, if_pos (by decide)] at h; exact h)
        clear HS
        go_wp2
        go_region_held3 (fun w' => w'.cell? ⟨w.heap.size, 0, none⟩ = some (.int .u64 (wd x 0)) ∧ w'.cell? ⟨w.heap.size, 1, none⟩ = some (.int .u64 (wd x 1)) ∧ w'.cell? ⟨w.heap.size, 2, none⟩ = some (.int .u64 (wd x 2)) ∧ w'.cell? ⟨w.heap.size, 3, none⟩ = some (.int .u64 (wd x 3)) ∧ w'.cell? ⟨w.heap.size + 1, 0, none⟩ = some (.int .u64 (wd y 0)) ∧ w'.cell? ⟨w.heap.size + 1, 1, none⟩ = some (.int .u64 (wd y 1)) ∧ w'.cell? ⟨w.heap.size + 1, 2, none⟩ = some (.int .u64 (wd y 2)) ∧ w'.cell? ⟨w.heap.size + 1, 3, none⟩ = some (.int .u64 (wd y 3))) (first | go_keep | (go_split_ands; refine ⟨?_, ?_, ?_, ?_, ?_, ?_, ?_, ?_⟩ <;> (rw [hb.cell (by simp; omega)]; first | assumption | simp [*]))) ((go_at_call 91; refine (hasR_any _ _ _).mono ?_; rintro e w1 ⟨rfl, hb⟩; have hz1 := hb.size; (try simp at hz1); replace HR : Hid (Below wr.heap.size wr w1) := (by first | exact HR.out.trans (hb.mono (by omega)) | exact HR.out.drew.trans (hb.mono (by simp)))))
        clear c0 c1 c2 c3 f0 f1 f2 f3 d0 d1 d2 d3 g0 g1 g2 g3
        have hM1 := HM.out.below HR.out (by omega)
        have hX1 := (show Hid _ from HX.out.below HR.out (by omega))
        have hY1 := (show Hid _ from HY.out.below HR.out (by omega))
        have hZ1 := (show Hid _ from HZ.out.below HR.out (by omega))
        have hB1 := (show Hid _ from HB.out.trans (HR.out.mono (by omega)))
        clear HM HX HY HZ HB
        generalize mixTo 3 x y k = mm at *
        have HM1 := (show Hid _ from hM1)
        obtain ⟨l5, c0, c1, c2, c3, f0, f1, f2, f3⟩ := hM1
        go_wp2_with fail
        refine (withR_any mm k _ (by omega) (by omega)).mono ?_
        rintro e w2 ⟨rfl, hb2⟩
        clear c0 c1 c2 c3 f0 f1 f2 f3
        obtain ⟨l5, c0, c1, c2, c3, f0, f1, f2, f3⟩ := HM1.out.below hb2 l5
        go_wp2
        go_roundw
        case rel =>
          refine ⟨k + 1, by omega, by go_num, (hX1.out.below hb2 (by omega)).put_other (by omega) _, (hY1.out.below hb2 (by omega)).put_other (by omega) _, ?_, ⟨z, (hZ1.out.below hb2 (by omega)).put_other (by omega) _⟩, ?_⟩
          · rw [HE.out]; exact (HM1.out.below hb2 (by omega)).put _
          · exact ((((hB1.out.trans (hb2.mono (by omega))).setCell (by simp; omega) _).setCell (by simp; omega) _).setCell (by simp; omega) _).setCell (by simp; omega) _
        case measure => simp [intOf]; omega
      · have HE : Hid (mixTo 3 x y (k + 1) = mixTo 3 x y k ||| bt k) := (by have h := HS.out; rw [hxb, hyb, if_pos (by decide)] at h; exact h)
        clear HS
        go_wp2
        go_region_held3 (fun w' => w'.cell? ⟨w.heap.size, 0, none⟩ = some (.int .u64 (wd x 0)) ∧ w'.cell? ⟨w.heap.size, 1, none⟩ = some (.int .u64 (wd x 1)) ∧ w'.cell? ⟨w.heap.size, 2, none⟩ = some (.int .u64 (wd x 2)) ∧ w'.cell? ⟨w.heap.size, 3, none⟩ = some (.int .u64 (wd x 3)) ∧ w'.cell? ⟨w.heap.size + 1, 0, none⟩ = some (.int .u64 (wd y 0)) ∧ w'.cell? ⟨w.heap.size + 1, 1, none⟩ = some (.int .u64 (wd y 1)) ∧ w'.cell? ⟨w.heap.size + 1, 2, none⟩ = some (.int .u64 (wd y 2)) ∧ w'.cell? ⟨w.heap.size + 1, 3, none⟩ = some (.int .u64 (wd y 3))) (first | go_keep | (go_split_ands; refine ⟨?_, ?_, ?_, ?_, ?_, ?_, ?_, ?_⟩ <;> (rw [hb.cell (by simp; omega)]; first | assumption | simp [*]))) ((go_at_call 91; refine (hasR_any _ _ _).mono ?_; rintro e w1 ⟨rfl, hb⟩; have hz1 := hb.size; (try simp at hz1); replace HR : Hid (Below wr.heap.size wr w1) := (by first | exact HR.out.trans (hb.mono (by omega)) | exact HR.out.drew.trans (hb.mono (by simp)))))
        clear c0 c1 c2 c3 f0 f1 f2 f3 d0 d1 d2 d3 g0 g1 g2 g3
        have hM1 := HM.out.below HR.out (by omega)
        have hX1 := (show Hid _ from HX.out.below HR.out (by omega))
        have hY1 := (show Hid _ from HY.out.below HR.out (by omega))
        have hZ1 := (show Hid _ from HZ.out.below HR.out (by omega))
        have hB1 := (show Hid _ from HB.out.trans (HR.out.mono (by omega)))
        clear HM HX HY HZ HB
        generalize mixTo 3 x y k = mm at *
        have HM1 := (show Hid _ from hM1)
        obtain ⟨l5, c0, c1, c2, c3, f0, f1, f2, f3⟩ := hM1
        go_wp2_with fail
        refine (withR_any mm k _ (by omega) (by omega)).mono ?_
        rintro e w2 ⟨rfl, hb2⟩
        clear c0 c1 c2 c3 f0 f1 f2 f3
        obtain ⟨l5, c0, c1, c2, c3, f0, f1, f2, f3⟩ := HM1.out.below hb2 l5
        go_wp2
        go_roundw
        case rel =>
          refine ⟨k + 1, by omega, by go_num, (hX1.out.below hb2 (by omega)).put_other (by omega) _, (hY1.out.below hb2 (by omega)).put_other (by omega) _, ?_, ⟨z, (hZ1.out.below hb2 (by omega)).put_other (by omega) _⟩, ?_⟩
          · rw [HE.out]; exact (HM1.out.below hb2 (by omega)).put _
          · exact ((((hB1.out.trans (hb2.mono (by omega))).setCell (by simp; omega) _).setCell (by simp; omega) _).setCell (by simp; omega) _).setCell (by simp; omega) _
        case measure => simp [intOf]; omega
      · have HE : Hid (mixTo 3 x y (k + 1) = mixTo 3 x y k) := (by have h := HS.out; rw [hxb, hyb, if_neg (by decide)] at h; exact h)
        clear HS
        go_wp2
        go_region_held3 (fun w' => w'.cell? ⟨w.heap.size, 0, none⟩ = some (.int .u64 (wd x 0)) ∧ w'.cell? ⟨w.heap.size, 1, none⟩ = some (.int .u64 (wd x 1)) ∧ w'.cell? ⟨w.heap.size, 2, none⟩ = some (.int .u64 (wd x 2)) ∧ w'.cell? ⟨w.heap.size, 3, none⟩ = some (.int .u64 (wd x 3)) ∧ w'.cell? ⟨w.heap.size + 1, 0, none⟩ = some (.int .u64 (wd y 0)) ∧ w'.cell? ⟨w.heap.size + 1, 1, none⟩ = some (.int .u64 (wd y 1)) ∧ w'.cell? ⟨w.heap.size + 1, 2, none⟩ = some (.int .u64 (wd y 2)) ∧ w'.cell? ⟨w.heap.size + 1, 3, none⟩ = some (.int .u64 (wd y 3))) (first | go_keep | (go_split_ands; refine ⟨?_, ?_, ?_, ?_, ?_, ?_, ?_, ?_⟩ <;> (rw [hb.cell (by simp; omega)]; first | assumption | simp [*]))) ((go_at_call 91; refine (hasR_any _ _ _).mono ?_; rintro e w1 ⟨rfl, hb⟩; have hz1 := hb.size; (try simp at hz1); replace HR : Hid (Below wr.heap.size wr w1) := (by first | exact HR.out.trans (hb.mono (by omega)) | exact HR.out.drew.trans (hb.mono (by simp)))))
        clear c0 c1 c2 c3 f0 f1 f2 f3 d0 d1 d2 d3 g0 g1 g2 g3
        have hM1 := HM.out.below HR.out (by omega)
        have hX1 := (show Hid _ from HX.out.below HR.out (by omega))
        have hY1 := (show Hid _ from HY.out.below HR.out (by omega))
        have hZ1 := (show Hid _ from HZ.out.below HR.out (by omega))
        have hB1 := (show Hid _ from HB.out.trans (HR.out.mono (by omega)))
        clear HM HX HY HZ HB
        generalize mixTo 3 x y k = mm at *
        have HM1 := (show Hid _ from hM1)
        clear hM1
        go_wp2
        go_roundw
        case rel => exact ⟨k + 1, by omega, by go_num, hX1.out, hY1.out, (by rw [HE.out]; exact HM1.out), ⟨z, hZ1.out⟩, hB1.out⟩
        case measure => simp [intOf]; omega
      · have HE : Hid (mixTo 3 x y (k + 1) = mixTo 3 x y k) := (by have h := HS.out; rw [hxb, hyb, if_neg (by decide)] at h; exact h)
        clear HS
        go_wp2
        go_region_held3 (fun w' => w'.cell? ⟨w.heap.size, 0, none⟩ = some (.int .u64 (wd x 0)) ∧ w'.cell? ⟨w.heap.size, 1, none⟩ = some (.int .u64 (wd x 1)) ∧ w'.cell? ⟨w.heap.size, 2, none⟩ = some (.int .u64 (wd x 2)) ∧ w'.cell? ⟨w.heap.size, 3, none⟩ = some (.int .u64 (wd x 3)) ∧ w'.cell? ⟨w.heap.size + 1, 0, none⟩ = some (.int .u64 (wd y 0)) ∧ w'.cell? ⟨w.heap.size + 1, 1, none⟩ = some (.int .u64 (wd y 1)) ∧ w'.cell? ⟨w.heap.size + 1, 2, none⟩ = some (.int .u64 (wd y 2)) ∧ w'.cell? ⟨w.heap.size + 1, 3, none⟩ = some (.int .u64 (wd y 3))) (first | go_keep | (go_split_ands; refine ⟨?_, ?_, ?_, ?_, ?_, ?_, ?_, ?_⟩ <;> (rw [hb.cell (by simp; omega)]; first | assumption | simp [*]))) ((go_at_call 91; refine (hasR_any _ _ _).mono ?_; rintro e w1 ⟨rfl, hb⟩; have hz1 := hb.size; (try simp at hz1); replace HR : Hid (Below wr.heap.size wr w1) := (by first | exact HR.out.trans (hb.mono (by omega)) | exact HR.out.drew.trans (hb.mono (by simp)))))
        clear c0 c1 c2 c3 f0 f1 f2 f3 d0 d1 d2 d3 g0 g1 g2 g3
        have hM1 := HM.out.below HR.out (by omega)
        have hX1 := (show Hid _ from HX.out.below HR.out (by omega))
        have hY1 := (show Hid _ from HY.out.below HR.out (by omega))
        have hZ1 := (show Hid _ from HZ.out.below HR.out (by omega))
        have hB1 := (show Hid _ from HB.out.trans (HR.out.mono (by omega)))
        clear HM HX HY HZ HB
        generalize mixTo 3 x y k = mm at *
        have HM1 := (show Hid _ from hM1)
        clear hM1
        go_wp2
        go_roundw
        case rel => exact ⟨k + 1, by omega, by go_num, hX1.out, hY1.out, (by rw [HE.out]; exact HM1.out), ⟨z, hZ1.out⟩, hB1.out⟩
        case measure => simp [intOf]; omega
    · have hke : k = 256 := by omega
      subst hke
      clear hx hy hbel
      have HQ : Hid (mixTo 3 x y 256 = mixS 3 x y) := rfl
      generalize mixTo 3 x y 256 = mm at *
      obtain ⟨l0, c0, c1, c2, c3, f0, f1, f2, f3⟩ := hm
      obtain ⟨l1, d0, d1, d2, d3, g0, g1, g2, g3⟩ := hz
      go_wp2
      rw [← HQ.out]
      refine bodyPost_ret (v := sv mm) (by simp [results, Tryd.results77, go_sem, *]) rfl ⟨rfl, ?_⟩
      exact (((HB.out.setCell (by simp; omega) _).setCell (by simp; omega) _).setCell (by simp; omega) _).setCell (by simp; omega) _
end Go.Proofs.YthffklhojdldkaaDoor

namespace Go.Proofs.YthffklhojdldkaaDoor
open Go.RowKit
theorem wd_not (x : BitVec 256) (i : Nat) (hi : i < 4) : bits .xor .u64 IntKind.u64.max (wd x i) = wd (~~~ x) i := by
  have hm : IntKind.u64.max = 18446744073709551615 := rfl
  rw [hm, u64_xor _ _ (by omega) (by omega) (wd_lo _ _) (wd_hi _ _)]
  refine wd_of_testBit _ _ _ (Int.natCast_nonneg _) fun j => ?_
  rw [Int.toNat_natCast, Nat.testBit_xor, wd_testBit, BitVec.getLsbD_not]
  have e : (18446744073709551615 : Int).toNat = 2 ^ 64 - 1 := rfl
  rw [e, Nat.testBit_two_pow_sub_one]
  by_cases h : j < 64
  · have : 64 * i + j < 256 := by omega
    simp [h, this]
  · simp [h]

set_option maxHeartbeats 2000000 in
theorem not_any (x : BitVec 256) (w : World) :
    Calls Tryd.prog 70 #[sv x] w fun e w' => e = .returned (sv (~~~ x)) ∧ Below w.heap.size w w' := by
  have hsg : IntKind.u64.signed = false := rfl
  go_enter Tryd.func70, Tryd.ntmps70
  go_wp2
  refine wp_loop_rounds 5 ?_
  iterate 5
    rw [rounds_succ]
    go_wp2
  exact bodyPost_ret (v := .agg #[.int .u64 (bits BinOp.xor IntKind.u64 IntKind.u64.max (wd x 0)), .int .u64 (bits BinOp.xor IntKind.u64 IntKind.u64.max (wd x 1)), .int .u64 (bits BinOp.xor IntKind.u64 IntKind.u64.max (wd x 2)), .int .u64 (bits BinOp.xor IntKind.u64 IntKind.u64.max (wd x 3))]) (by simp [results, Tryd.results70, go_sem]) rfl ⟨ret_sv (wd_not x 0 (by omega)) (wd_not x 1 (by omega)) (wd_not x 2 (by omega)) (wd_not x 3 (by omega)), (((Below.refl _ _).alloc (Nat.le_refl _) _).alloc (by simp) _)⟩

set_option maxHeartbeats 2000000 in
theorem union_any (x y : BitVec 256) (w : World) :
    Calls Tryd.prog 83 #[sv x, sv y] w fun e w' => e = .returned (sv (x ||| y)) ∧ Below w.heap.size w w' := by
  go_enter Tryd.func83, Tryd.ntmps83
  go_wp2
  refine wp_loop_rounds 5 ?_
  iterate 4
    rw [rounds_succ]
    go_wp2
    go_region
    go_wp2
  rw [rounds_succ]
  go_wp2
  exact bodyPost_ret (v := .agg #[.int .u64 (bits BinOp.or IntKind.u64 (wd x 0) (wd y 0)), .int .u64 (bits BinOp.or IntKind.u64 (wd x 1) (wd y 1)), .int .u64 (bits BinOp.or IntKind.u64 (wd x 2) (wd y 2)), .int .u64 (bits BinOp.or IntKind.u64 (wd x 3) (wd y 3))]) (by simp [results, Tryd.results83, go_sem]) rfl ⟨ret_sv (wd_or x y 0) (wd_or x y 1) (wd_or x y 2) (wd_or x y 3), (Below.drew (Below.drew (Below.drew (Below.drew ((((Below.refl _ _).alloc (Nat.le_refl _) _).alloc (by simp) _).alloc (by simp; omega) _)))))⟩

set_option maxHeartbeats 2000000 in
theorem meet_any (x y : BitVec 256) (w : World) :
    Calls Tryd.prog 97 #[sv x, sv y] w fun e w' => e = .returned (sv (x &&& y)) ∧ Below w.heap.size w w' := by
  go_enter Tryd.func97, Tryd.ntmps97
  go_wp2
  refine wp_loop_rounds 5 ?_
  iterate 4
    rw [rounds_succ]
    go_wp2
    go_region
    go_wp2
  rw [rounds_succ]
  go_wp2
  exact bodyPost_ret (v := .agg #[.int .u64 (bits BinOp.and IntKind.u64 (wd x 0) (wd y 0)), .int .u64 (bits BinOp.and IntKind.u64 (wd x 1) (wd y 1)), .int .u64 (bits BinOp.and IntKind.u64 (wd x 2) (wd y 2)), .int .u64 (bits BinOp.and IntKind.u64 (wd x 3) (wd y 3))]) (by simp [results, Tryd.results97, go_sem]) rfl ⟨ret_sv (wd_and x y 0) (wd_and x y 1) (wd_and x y 2) (wd_and x y 3), (Below.drew (Below.drew (Below.drew (Below.drew ((((Below.refl _ _).alloc (Nat.le_refl _) _).alloc (by simp) _).alloc (by simp; omega) _)))))⟩
end Go.Proofs.YthffklhojdldkaaDoor

namespace Go.Proofs.YthffklhojdldkaaDoor
open Go.RowKit
theorem size1 (w : World) (a : Obj) : (w.alloc a).heap.size = w.heap.size + 1 := by simp
theorem size2 (w : World) (a b : Obj) : ((w.alloc a).alloc b).heap.size = w.heap.size + 1 + 1 := by simp
theorem size3 (w : World) (a b c : Obj) : (((w.alloc a).alloc b).alloc c).heap.size = w.heap.size + 1 + 1 + 1 := by simp
theorem holds3 (w : World) (a b : Obj) : Holds (((w.alloc a).alloc b).alloc z4) (w.heap.size + 1 + 1) 0#256 := by
  have h := Holds.zero ((w.alloc a).alloc b)
  rw [size2] at h
  exact h
theorem below3 (w : World) (a b c : Obj) : Below w.heap.size w (((w.alloc a).alloc b).alloc c) :=
  (((Below.refl _ _).alloc (Nat.le_refl _) _).alloc (by simp) _).alloc (by simp; omega) _
theorem below2 (w : World) (a b : Obj) : Below w.heap.size w ((w.alloc a).alloc b) :=
  ((Below.refl _ _).alloc (Nat.le_refl _) _).alloc (by simp) _

set_option maxHeartbeats 400000 in
theorem unionR_any (x y : BitVec 256) (w : World) :
    Calls Tryd.prog 58 #[sv x, sv y] w fun e w' => e = .returned (sv (x ||| y)) ∧ Below w.heap.size w w' := by
  have hsz := size3 w (c4 x) (c4 y) z4
  have HH := (show Hid _ from holds3 w (c4 x) (c4 y))
  have HB := (show Hid _ from below3 w (c4 x) (c4 y) z4)
  go_enter Tryd.func58, Tryd.ntmps58
  go_wp2_with fail
  refine (mix0_any x y _).mono ?_
  rintro e w1 ⟨rfl, hb⟩
  have hl := hb.size
  have HR := (show Hid _ from HB.out.trans (hb.mono (by rw [hsz]; omega)))
  obtain ⟨l0, c0, c1, c2, c3, f0, f1, f2, f3⟩ := HH.out.below hb (by rw [hsz]; omega)
  rw [mixS_union]
  generalize hr : x ||| y = r
  have Hr := (show Hid _ from hr)
  clear hr
  clear hsz hl
  go_wp2
  exact bodyPost_ret (v := sv r) (by simp [results, Tryd.results58, go_sem, *]) rfl ⟨by rw [Hr.out], (((HR.out.setCell (by simp; omega) _).setCell (by simp; omega) _).setCell (by simp; omega) _).setCell (by simp; omega) _⟩

set_option maxHeartbeats 400000 in
theorem lessR_any (x y : BitVec 256) (w : World) :
    Calls Tryd.prog 76 #[sv x, sv y] w fun e w' => e = .returned (sv (x &&& ~~~ y)) ∧ Below w.heap.size w w' := by
  have hsz := size3 w (c4 x) (c4 y) z4
  have HH := (show Hid _ from holds3 w (c4 x) (c4 y))
  have HB := (show Hid _ from below3 w (c4 x) (c4 y) z4)
  go_enter Tryd.func76, Tryd.ntmps76
  go_wp2_with fail
  refine (mix2_any x y _).mono ?_
  rintro e w1 ⟨rfl, hb⟩
  have hl := hb.size
  have HR := (show Hid _ from HB.out.trans (hb.mono (by rw [hsz]; omega)))
  obtain ⟨l0, c0, c1, c2, c3, f0, f1, f2, f3⟩ := HH.out.below hb (by rw [hsz]; omega)
  rw [mixS_less]
  generalize hr : x &&& ~~~ y = r
  have Hr := (show Hid _ from hr)
  clear hr
  clear hsz hl
  go_wp2
  exact bodyPost_ret (v := sv r) (by simp [results, Tryd.results76, go_sem, *]) rfl ⟨by rw [Hr.out], (((HR.out.setCell (by simp; omega) _).setCell (by simp; omega) _).setCell (by simp; omega) _).setCell (by simp; omega) _⟩

set_option maxHeartbeats 400000 in
theorem notR_any (x : BitVec 256) (w : World) :
    Calls Tryd.prog 61 #[sv x] w fun e w' => e = .returned (sv (~~~ x)) ∧ Below w.heap.size w w' := by
  have hsz := size2 w (c4 x) z4
  have HH := (show Hid _ from Holds.zero' w (c4 x))
  have HB := (show Hid _ from below2 w (c4 x) z4)
  go_enter Tryd.func61, Tryd.ntmps61
  go_wp2_with fail
  refine (mix3_any x x _).mono ?_
  rintro e w1 ⟨rfl, hb⟩
  have hl := hb.size
  have HR := (show Hid _ from HB.out.trans (hb.mono (by rw [hsz]; omega)))
  obtain ⟨l0, c0, c1, c2, c3, f0, f1, f2, f3⟩ := HH.out.below hb (by rw [hsz]; omega)
  rw [mixS_not]
  generalize hr : ~~~ x = r
  have Hr := (show Hid _ from hr)
  clear hr
  clear hsz hl
  go_wp2
  exact bodyPost_ret (v := sv r) (by simp [results, Tryd.results61, go_sem, *]) rfl ⟨by rw [Hr.out], (((HR.out.setCell (by simp) _).setCell (by simp) _).setCell (by simp) _).setCell (by simp) _⟩

set_option maxHeartbeats 1000000 in
theorem less_any (x y : BitVec 256) (w : World) :
    Calls Tryd.prog 88 #[sv x, sv y] w fun e w' => e = .returned (sv (x &&& ~~~ y)) ∧ Below w.heap.size w w' := by
  have hsz := size3 w (c4 x) (c4 y) z4
  have HX := (show Hid _ from ((Holds.new w x).alloc (c4 y)).alloc z4)
  have HH := (show Hid _ from holds3 w (c4 x) (c4 y))
  have HB := (show Hid _ from below3 w (c4 x) (c4 y) z4)
  have HR : Hid (Below (w.heap.size + 1 + 1 + 1) (((w.alloc (c4 x)).alloc (c4 y)).alloc z4) (((w.alloc (c4 x)).alloc (c4 y)).alloc z4)) := Below.refl _ _
  go_enter Tryd.func88, Tryd.ntmps88
  go_wp2
  go_region_with (first | (go_at_call 70; refine (not_any _ _).mono ?_; rintro e w1 ⟨rfl, hb⟩; have hz1 := hb.size; (try simp at hz1); replace HR : Hid (Below (w.heap.size + 1 + 1 + 1) (((w.alloc (c4 x)).alloc (c4 y)).alloc z4) w1) := (by first | exact HR.out.trans (hb.mono (by omega)) | exact HR.out.drew.trans (hb.mono (by simp))); obtain ⟨l5, p0, p1, p2, p3, q0, q1, q2, q3⟩ := HH.out.below HR.out (by omega); obtain ⟨l0, c0, c1, c2, c3, f0, f1, f2, f3⟩ := HX.out.below HR.out (by omega)) | (go_at_call 97; refine (meet_any _ _ _).mono ?_; rintro e w1 ⟨rfl, hb⟩; have hz1 := hb.size; (try simp at hz1); replace HR : Hid (Below (w.heap.size + 1 + 1 + 1) (((w.alloc (c4 x)).alloc (c4 y)).alloc z4) w1) := (by first | exact HR.out.trans (hb.mono (by omega)) | exact HR.out.drew.trans (hb.mono (by simp))); obtain ⟨l5, p0, p1, p2, p3, q0, q1, q2, q3⟩ := HH.out.below HR.out (by omega); obtain ⟨l0, c0, c1, c2, c3, f0, f1, f2, f3⟩ := HX.out.below HR.out (by omega)))
  all_goals
    go_wp2
    exact bodyPost_ret (v := sv (x &&& ~~~ y)) (by simp [results, Tryd.results88, go_sem, *]) rfl ⟨rfl, ((((HB.out.trans (HR.out.mono (by omega))).setCell (by simp; omega) _).setCell (by simp; omega) _).setCell (by simp; omega) _).setCell (by simp; omega) _⟩
end Go.Proofs.YthffklhojdldkaaDoor

namespace Go.Proofs.YthffklhojdldkaaDoor
open Go.RowKit Go.Shelf
attribute [local go_sem] Oper.semAt_some

/-- A box of one cell: what it holds, and that it may be written. -/
structure Box1 (W : World) (b : Nat) (v : Value) : Prop where
  c : W.cell? ⟨b, 0, none⟩ = some v
  f : W.frozen? ⟨b, 0, none⟩ = false
theorem Box1.new (W : World) (v : Value) (t : TypeId) : Box1 (W.alloc (.cells #[v] t)) W.heap.size v := by
  have h := World.alloc_heap_new W (.cells #[v] t)
  exact ⟨by unfold World.cell?; rw [h]; rfl, by unfold World.frozen?; rw [h]; rfl⟩
theorem Box1.kept {W W' : World} {b : Nat} {v : Value} {row : Option Nat} (h : Box1 W b v) (hg : W.grownBy W' row) (hr : ∀ r, row = some r → ∃ o : Obj, W.heap[r]? = some o ∧ o.isCells = false) : Box1 W' b v :=
  ⟨cell_kept h.1 hg hr, (frozen_kept h.1 hg hr).trans h.2⟩
theorem Box1.alloc {W : World} {b : Nat} {v : Value} (h : Box1 W b v) (o : Obj) : Box1 (W.alloc o) b v := h.kept (World.grownBy_alloc W o none) (fun r e => by cases e)
theorem Box1.set {W : World} {b : Nat} {v : Value} (h : Box1 W b v) (u : Value) : Box1 (W.setCell ⟨b, 0, none⟩ u) b u :=
  ⟨World.cell?_setCell_same' _ _ _ (by rw [h.1]; rfl), by rw [World.frozen?_setCell]; exact h.2⟩
theorem Box1.other {W : World} {b c : Nat} {v : Value} (h : Box1 W b v) (hne : b ≠ c) (u : Value) : Box1 (W.setCell ⟨c, 0, none⟩ u) b v := by
  obtain ⟨h1, h2⟩ := h
  constructor <;> simp [go_sem, *]
end Go.Proofs.YthffklhojdldkaaDoor

namespace Go.Proofs.YthffklhojdldkaaDoor
open Go.RowKit Go.Shelf
attribute [local go_sem] Oper.semAt_some
end Go.Proofs.YthffklhojdldkaaDoor

namespace Go.Proofs.YthffklhojdldkaaDoor
open Go.RowKit
set_option maxHeartbeats 1000000 in
theorem fill_any (x : BitVec 256) (lo hi : Int) (w : World) (h0 : 0 ≤ lo) (hle : lo ≤ hi) (h1 : hi ≤ 255) :
    Calls Tryd.prog 90 #[sv x, .int .i64 lo, .int .i64 hi] w fun e w' => e = .returned (sv (x ||| spn lo hi)) ∧ Below w.heap.size w w' := by
  go_enter Tryd.func90, Tryd.ntmps90
  go_wp2
  go_loopw [7] (fun t wr => ∃ b : Int, lo ≤ b ∧ b ≤ hi + 1 ∧ t = .int .i64 b ∧ Holds wr w.heap.size (x ||| spn lo (b - 1)) ∧ (∃ z, Holds wr (w.heap.size + 1) z) ∧ Below w.heap.size w wr) (fun t _ => (hi + 1 - intOf t).toNat)
  case atStart =>
    refine ⟨lo, by omega, by omega, rfl, ?_, ⟨0#256, Holds.zero' w _⟩, ?_⟩
    · rw [spn_nil lo h0 (by omega), BitVec.or_zero]; exact (Holds.new w x).alloc _
    · exact ((Below.refl _ _).alloc (Nat.le_refl _) _).alloc (by simp) _
  case round =>
    obtain ⟨b, hb0, hb1, rfl, hx, ⟨z, hz⟩, hbel⟩ := hrel
    have hsz : w.heap.size + 1 < wr.heap.size := hz.lt
    by_cases hlt : b ≤ hi
    · have HS := (show Hid _ from spn_snoc lo b h0 hb0 (by omega))
      generalize hy : x ||| spn lo (b - 1) = y at hx
      have HY := (show Hid _ from hy)
      clear hy
      have HX := (show Hid _ from hx)
      have HZ := (show Hid _ from hz)
      have HB := (show Hid _ from hbel)
      obtain ⟨l0, c0, c1, c2, c3, f0, f1, f2, f3⟩ := hx
      clear hz hbel
      go_wp2_with fail
      refine (with_any y b _ (by omega) (by omega)).mono ?_
      rintro e w1 ⟨rfl, hb⟩
      obtain ⟨l0, c0, c1, c2, c3, f0, f1, f2, f3⟩ := HX.out.below hb l0
      go_wp2
      go_roundw
      case rel =>
        refine ⟨b + 1, by omega, by omega, rfl, ?_, ⟨z, ?_⟩, ?_⟩
        · rw [show b + 1 - 1 = b from by omega, HS.out, ← BitVec.or_assoc, HY.out]
          exact (HX.out.below hb (by omega)).put _
        · exact (HZ.out.below hb (by omega)).put_other (by omega) _
        · exact ((((HB.out.trans (hb.mono (by omega))).setCell (Nat.le_refl _) _).setCell (Nat.le_refl _) _).setCell (Nat.le_refl _) _).setCell (Nat.le_refl _) _
      case measure => simp [intOf]; omega
    · have hbe : b - 1 = hi := by omega
      rw [hbe] at hx
      generalize hy : x ||| spn lo hi = y at hx
      have HY := (show Hid _ from hy)
      clear hy
      have HZ := (show Hid _ from hz)
      have HB := (show Hid _ from hbel)
      obtain ⟨l0, c0, c1, c2, c3, f0, f1, f2, f3⟩ := hx
      obtain ⟨l1, d0, d1, d2, d3, g0, g1, g2, g3⟩ := hz
      clear hbel
      go_wp2
      rw [HY.out]
      refine bodyPost_ret (v := sv y) (by simp [results, Tryd.results90, go_sem, *]) rfl ⟨rfl, ?_⟩
      exact (((HB.out.setCell (by simp) _).setCell (by simp) _).setCell (by simp) _).setCell (by simp) _
end Go.Proofs.YthffklhojdldkaaDoor

namespace Go.Proofs.YthffklhojdldkaaDoor
open Go.RowKit
theorem below1 (w : World) (a : Obj) : Below w.heap.size w (w.alloc a) := (Below.refl _ _).alloc (Nat.le_refl _) _

theorem fill0_any (lo hi : Int) (w : World) (h0 : 0 ≤ lo) (hle : lo ≤ hi) (h1 : hi ≤ 255) :
    Calls Tryd.prog 90 #[.agg #[.int .u64 0, .int .u64 0, .int .u64 0, .int .u64 0], .int .i64 lo, .int .i64 hi] w fun e w' => e = .returned (sv (spn lo hi)) ∧ Below w.heap.size w w' := by
  have h := fill_any 0#256 lo hi w h0 hle h1
  rw [BitVec.zero_or, sv, wd_zero, wd_zero, wd_zero, wd_zero] at h
  exact h

/-- Is it a capital letter? -/
def capB (b : Int) : Bool := decide (65 ≤ b) && decide (b ≤ 90)
set_option maxHeartbeats 400000 in
theorem isCapital_any (b : Int) (w : World) :
    Calls Tryd.prog 72 #[.int .i64 b] w fun e w' => e = .returned (.bool (capB b)) ∧ w' = w := by
  by_cases h0 : 65 ≤ b
  · have hd : decide (65 ≤ b) = true := by simpa using h0
    go_enter Tryd.func72, Tryd.ntmps72
    go_wp2
    go_ret
    exact ⟨by simp [capB, h0], rfl⟩
  · have hd : decide (65 ≤ b) = false := by simpa using h0
    go_enter Tryd.func72, Tryd.ntmps72
    go_wp2
    go_ret
    exact ⟨by unfold capB; rw [hd]; rfl, rfl⟩

set_option maxHeartbeats 400000 in
theorem bytesFrom_any (lo hi : Int) (w : World) (h0 : 0 ≤ lo) (hle : lo ≤ hi) (h1 : hi ≤ 255) :
    Calls Tryd.prog 87 #[.int .i64 lo, .int .i64 hi] w fun e w' => e = .returned (sv (spn lo hi)) ∧ Below w.heap.size w w' := by
  have HH := (show Hid _ from Holds.zero w)
  have HR := (show Hid _ from below1 w z4)
  have HQ : Hid (Below (w.heap.size + 1) (w.alloc z4) (w.alloc z4)) := Below.refl _ _
  go_enter Tryd.func87, Tryd.ntmps87
  go_wp2_with fail
  refine (fill0_any lo hi _ h0 hle h1).mono ?_
  rintro e w1 ⟨rfl, hb⟩
  replace HQ := (show Hid _ from HQ.out.trans (hb.mono (by first | exact HQ.out.size | (have h := HQ.out.size; simp at h; omega) | simp)))
  have HR1 := (show Hid _ from HR.out.trans (HQ.out.mono (by omega)))
  obtain ⟨l0, c0, c1, c2, c3, f0, f1, f2, f3⟩ := HH.out.below HQ.out (by omega)
  generalize hr : spn lo hi = r
  have Hr := (show Hid _ from hr)
  clear hr
  go_wp2
  exact bodyPost_ret (v := sv r) (by simp [results, Tryd.results87, go_sem, *]) rfl ⟨by rw [Hr.out], (((HR1.out.setCell (by simp) _).setCell (by simp) _).setCell (by simp) _).setCell (by simp) _⟩

set_option maxHeartbeats 400000 in
theorem letters_any (w : World) :
    Calls Tryd.prog 85 #[] w fun e w' => e = .returned (sv (spn 65 90 ||| spn 97 122)) ∧ Below w.heap.size w w' := by
  have HH := (show Hid _ from Holds.zero w)
  have HR := (show Hid _ from below1 w z4)
  have HQ : Hid (Below (w.heap.size + 1) (w.alloc z4) (w.alloc z4)) := Below.refl _ _
  go_enter Tryd.func85, Tryd.ntmps85
  go_wp2_with fail
  refine (bytesFrom_any 65 90 _ (by omega) (by omega) (by omega)).mono ?_
  rintro e w1 ⟨rfl, hb⟩
  replace HQ := (show Hid _ from HQ.out.trans (hb.mono (by first | exact HQ.out.size | (have h := HQ.out.size; simp at h; omega) | simp)))
  go_wp2_with fail
  refine (fill_any _ 97 122 _ (by omega) (by omega) (by omega)).mono ?_
  rintro e w1 ⟨rfl, hb⟩
  replace HQ := (show Hid _ from HQ.out.trans (hb.mono (by first | exact HQ.out.size | (have h := HQ.out.size; simp at h; omega) | simp)))
  have HR1 := (show Hid _ from HR.out.trans (HQ.out.mono (by omega)))
  obtain ⟨l0, c0, c1, c2, c3, f0, f1, f2, f3⟩ := HH.out.below HQ.out (by omega)
  generalize hr : spn 65 90 ||| spn 97 122 = r
  have Hr := (show Hid _ from hr)
  clear hr
  go_wp2
  exact bodyPost_ret (v := sv r) (by simp [results, Tryd.results85, go_sem, *]) rfl ⟨by rw [Hr.out], (((HR1.out.setCell (by simp) _).setCell (by simp) _).setCell (by simp) _).setCell (by simp) _⟩

set_option maxHeartbeats 400000 in
theorem lettersDigits_any (w : World) :
    Calls Tryd.prog 89 #[] w fun e w' => e = .returned (sv (spn 65 90 ||| spn 97 122 ||| spn 48 57)) ∧ Below w.heap.size w w' := by
  have HH := (show Hid _ from Holds.zero w)
  have HR := (show Hid _ from below1 w z4)
  have HQ : Hid (Below (w.heap.size + 1) (w.alloc z4) (w.alloc z4)) := Below.refl _ _
  go_enter Tryd.func89, Tryd.ntmps89
  go_wp2_with fail
  refine (letters_any _).mono ?_
  rintro e w1 ⟨rfl, hb⟩
  replace HQ := (show Hid _ from HQ.out.trans (hb.mono (by first | exact HQ.out.size | (have h := HQ.out.size; simp at h; omega) | simp)))
  go_wp2_with fail
  refine (fill_any _ 48 57 _ (by omega) (by omega) (by omega)).mono ?_
  rintro e w1 ⟨rfl, hb⟩
  replace HQ := (show Hid _ from HQ.out.trans (hb.mono (by first | exact HQ.out.size | (have h := HQ.out.size; simp at h; omega) | simp)))
  have HR1 := (show Hid _ from HR.out.trans (HQ.out.mono (by omega)))
  obtain ⟨l0, c0, c1, c2, c3, f0, f1, f2, f3⟩ := HH.out.below HQ.out (by omega)
  generalize hr : spn 65 90 ||| spn 97 122 ||| spn 48 57 = r
  have Hr := (show Hid _ from hr)
  clear hr
  go_wp2
  exact bodyPost_ret (v := sv r) (by simp [results, Tryd.results89, go_sem, *]) rfl ⟨by rw [Hr.out], (((HR1.out.setCell (by simp) _).setCell (by simp) _).setCell (by simp) _).setCell (by simp) _⟩
end Go.Proofs.YthffklhojdldkaaDoor

namespace Go.Proofs.YthffklhojdldkaaDoor
open Go.RowKit Go.Shelf
attribute [local go_sem] Oper.semAt_some
end Go.Proofs.YthffklhojdldkaaDoor

namespace Go.Proofs.YthffklhojdldkaaDoor
open Go.RowKit Go.Shelf
attribute [local go_sem] Oper.semAt_some
end Go.Proofs.YthffklhojdldkaaDoor

namespace Go.Proofs.YthffklhojdldkaaDoor
open Go.RowKit
/-- Is it a sign that stands behind a backslash? -/
def signB (b : Int) : Bool := (b == 92) || ((b == 93) || ((b == 91) || ((b == 94) || ((b == 45) || (b == 37)))))
def prnB (b : Int) : Bool := decide (32 ≤ b) && decide (b ≤ 126)

set_option maxRecDepth 100000 in
set_option maxHeartbeats 1000000 in
theorem isPrintable_any (b : Int) (w : World) :
    Calls Tryd.prog 100 #[.int .i64 b] w fun e w' => e = .returned (.bool (prnB b)) ∧ w' = w := by
  by_cases h0 : 32 ≤ b
  · have hd : decide (32 ≤ b) = true := by simpa using h0
    go_enter Tryd.func100, Tryd.ntmps100
    go_wp2
    go_ret
    exact ⟨by simp [prnB, h0], rfl⟩
  · have hd : decide (32 ≤ b) = false := by simpa using h0
    go_enter Tryd.func100, Tryd.ntmps100
    go_wp2
    go_ret
    exact ⟨by unfold prnB; rw [hd]; rfl, rfl⟩

set_option maxRecDepth 100000 in
set_option maxHeartbeats 1000000 in
theorem isSign_any (b : Int) (w : World) :
    Calls Tryd.prog 102 #[.int .i64 b] w fun e w' => e = .returned (.bool (signB b)) ∧ w' = w := by
  cases h1 : (b == 92)
  · cases h2 : (b == 93)
    · cases h3 : (b == 91)
      · cases h4 : (b == 94)
        · cases h5 : (b == 45)
          · cases h6 : (b == 37)
            · have HE : Hid (signB b = false) := (by show signB b = false; unfold signB; rw [h1, h2, h3, h4, h5, h6]; rfl)
              go_enter Tryd.func102, Tryd.ntmps102
              go_wp2
              go_ret
              exact ⟨ret_bool HE.out.symm, rfl⟩
            · have HE : Hid (signB b = true) := (by show signB b = true; unfold signB; rw [h1, h2, h3, h4, h5, h6]; rfl)
              go_enter Tryd.func102, Tryd.ntmps102
              go_wp2
              go_ret
              exact ⟨ret_bool HE.out.symm, rfl⟩
          · have HE : Hid (signB b = true) := (by show signB b = true; unfold signB; rw [h5]; simp)
            go_enter Tryd.func102, Tryd.ntmps102
            go_wp2
            go_ret
            exact ⟨ret_bool HE.out.symm, rfl⟩
        · have HE : Hid (signB b = true) := (by show signB b = true; unfold signB; rw [h4]; simp)
          go_enter Tryd.func102, Tryd.ntmps102
          go_wp2
          go_ret
          exact ⟨ret_bool HE.out.symm, rfl⟩
      · have HE : Hid (signB b = true) := (by show signB b = true; unfold signB; rw [h3]; simp)
        go_enter Tryd.func102, Tryd.ntmps102
        go_wp2
        go_ret
        exact ⟨ret_bool HE.out.symm, rfl⟩
    · have HE : Hid (signB b = true) := (by show signB b = true; unfold signB; rw [h2]; simp)
      go_enter Tryd.func102, Tryd.ntmps102
      go_wp2
      go_ret
      exact ⟨ret_bool HE.out.symm, rfl⟩
  · have HE : Hid (signB b = true) := (by show signB b = true; unfold signB; rw [h1]; simp)
    go_enter Tryd.func102, Tryd.ntmps102
    go_wp2
    go_ret
    exact ⟨ret_bool HE.out.symm, rfl⟩
end Go.Proofs.YthffklhojdldkaaDoor

namespace Go.Proofs.YthffklhojdldkaaDoor
/-- The class of a small letter; what it is an error of. -/
def sml (n : Nat) : BitVec 256 × Int :=
  if n = 97 then (spn 65 90 ||| spn 97 122, 0) else
  if n = 99 then (spn 0 31 ||| bt 127, 0) else
  if n = 100 then (spn 48 57, 0) else
  if n = 103 then (spn 33 126, 0) else
  if n = 108 then (spn 97 122, 0) else
  if n = 112 then (spn 33 126 &&& ~~~ (spn 65 90 ||| spn 97 122 ||| spn 48 57), 0) else
  if n = 115 then (spn 9 13 ||| bt 32, 0) else
  if n = 117 then (spn 65 90, 0) else
  if n = 119 then (spn 65 90 ||| spn 97 122 ||| spn 48 57, 0) else
  if n = 120 then (spn 48 57 ||| spn 65 70 ||| spn 97 102, 0) else
  (0#256, 10)
theorem sml97 : sml 97 = (spn 65 90 ||| spn 97 122, 0) := by unfold sml; rw [if_pos rfl]
theorem sml99 : sml 99 = (spn 0 31 ||| bt 127, 0) := by unfold sml; rw [if_neg (by omega), if_pos rfl]
theorem sml100 : sml 100 = (spn 48 57, 0) := by unfold sml; rw [if_neg (by omega), if_neg (by omega), if_pos rfl]
theorem sml103 : sml 103 = (spn 33 126, 0) := by unfold sml; rw [if_neg (by omega), if_neg (by omega), if_neg (by omega), if_pos rfl]
theorem sml108 : sml 108 = (spn 97 122, 0) := by unfold sml; rw [if_neg (by omega), if_neg (by omega), if_neg (by omega), if_neg (by omega), if_pos rfl]
theorem sml112 : sml 112 = (spn 33 126 &&& ~~~ (spn 65 90 ||| spn 97 122 ||| spn 48 57), 0) := by unfold sml; rw [if_neg (by omega), if_neg (by omega), if_neg (by omega), if_neg (by omega), if_neg (by omega), if_pos rfl]
theorem sml115 : sml 115 = (spn 9 13 ||| bt 32, 0) := by unfold sml; rw [if_neg (by omega), if_neg (by omega), if_neg (by omega), if_neg (by omega), if_neg (by omega), if_neg (by omega), if_pos rfl]
theorem sml117 : sml 117 = (spn 65 90, 0) := by unfold sml; rw [if_neg (by omega), if_neg (by omega), if_neg (by omega), if_neg (by omega), if_neg (by omega), if_neg (by omega), if_neg (by omega), if_pos rfl]
theorem sml119 : sml 119 = (spn 65 90 ||| spn 97 122 ||| spn 48 57, 0) := by unfold sml; rw [if_neg (by omega), if_neg (by omega), if_neg (by omega), if_neg (by omega), if_neg (by omega), if_neg (by omega), if_neg (by omega), if_neg (by omega), if_pos rfl]
theorem sml120 : sml 120 = (spn 48 57 ||| spn 65 70 ||| spn 97 102, 0) := by unfold sml; rw [if_neg (by omega), if_neg (by omega), if_neg (by omega), if_neg (by omega), if_neg (by omega), if_neg (by omega), if_neg (by omega), if_neg (by omega), if_neg (by omega), if_pos rfl]
theorem sml_none (n : Nat) (h97 : n ≠ 97) (h99 : n ≠ 99) (h100 : n ≠ 100) (h103 : n ≠ 103) (h108 : n ≠ 108) (h112 : n ≠ 112) (h115 : n ≠ 115) (h117 : n ≠ 117) (h119 : n ≠ 119) (h120 : n ≠ 120) : sml n = (0#256, 10) := by unfold sml; rw [if_neg h97, if_neg h99, if_neg h100, if_neg h103, if_neg h108, if_neg h112, if_neg h115, if_neg h117, if_neg h119, if_neg h120]
/-- The class of a letter, small or capital. -/
def cls (n : Nat) : BitVec 256 × Int :=
  if 65 ≤ n ∧ n ≤ 90 then (if (sml (n + 32)).2 = 0 then (~~~ (sml (n + 32)).1, 0) else (0#256, (sml (n + 32)).2)) else sml n
theorem sml_err (n : Nat) : (sml n).2 = 0 ∨ (sml n).2 = 10 := by
  by_cases h97 : n = 97
  · rw [h97, sml97]; exact .inl rfl
  by_cases h99 : n = 99
  · rw [h99, sml99]; exact .inl rfl
  by_cases h100 : n = 100
  · rw [h100, sml100]; exact .inl rfl
  by_cases h103 : n = 103
  · rw [h103, sml103]; exact .inl rfl
  by_cases h108 : n = 108
  · rw [h108, sml108]; exact .inl rfl
  by_cases h112 : n = 112
  · rw [h112, sml112]; exact .inl rfl
  by_cases h115 : n = 115
  · rw [h115, sml115]; exact .inl rfl
  by_cases h117 : n = 117
  · rw [h117, sml117]; exact .inl rfl
  by_cases h119 : n = 119
  · rw [h119, sml119]; exact .inl rfl
  by_cases h120 : n = 120
  · rw [h120, sml120]; exact .inl rfl
  rw [sml_none n h97 h99 h100 h103 h108 h112 h115 h117 h119 h120]; exact .inr rfl
end Go.Proofs.YthffklhojdldkaaDoor

namespace Go.Proofs.YthffklhojdldkaaDoor
open Go.RowKit
/-- The byte of a text at a place, or -1. -/
def chr (s : ByteArray) (i : Nat) : Int := if h : i < s.size then (s[i].toNat : Int) else -1
theorem chr_in {s : ByteArray} {i : Nat} (h : i < s.size) : chr s i = (s[i].toNat : Int) := by unfold chr; rw [dif_pos h]
theorem chr_out {s : ByteArray} {i : Nat} (h : ¬ i < s.size) : chr s i = -1 := by unfold chr; rw [dif_neg h]
theorem chr_le (s : ByteArray) (i : Nat) : -1 ≤ chr s i ∧ chr s i ≤ 255 := by
  unfold chr
  split
  · have := s[i].toNat_lt; omega
  · omega
theorem chr_lt {s : ByteArray} {i : Nat} (h : 0 ≤ chr s i) : i < s.size := by
  by_cases hi : i < s.size
  · exact hi
  · rw [chr_out hi] at h; omega
/-- What a digit is worth, or -1. -/
def hexV (c : Int) : Int := if 48 ≤ c ∧ c ≤ 57 then c - 48 else if 97 ≤ c ∧ c ≤ 102 then c - 87 else -1
/-- A byte told by its number, behind a backslash. -/
def rdHex (s : ByteArray) (i : Nat) : Option (Nat × Nat) :=
  if 0 ≤ hexV (chr s (i + 2)) ∧ 0 ≤ hexV (chr s (i + 3)) then some ((16 * hexV (chr s (i + 2)) + hexV (chr s (i + 3))).toNat, i + 4) else none
def rdEsc (s : ByteArray) (i : Nat) : Option (Nat × Nat) :=
  if chr s (i + 1) = 110 then some (10, i + 2) else if chr s (i + 1) = 114 then some (13, i + 2) else if chr s (i + 1) = 116 then some (9, i + 2) else
  if chr s (i + 1) = 120 then rdHex s i else if signB (chr s (i + 1)) then some ((chr s (i + 1)).toNat, i + 2) else none
def rdItem (s : ByteArray) (i : Nat) : Option (Nat × Nat) :=
  if chr s i = 92 then rdEsc s i else if chr s i = 93 ∨ chr s i = 45 ∨ chr s i = 37 ∨ prnB (chr s i) = false then none else some ((chr s i).toNat, i + 1)
/-- What is read, or a place and an error. -/
abbrev Rd (α : Type) := Sum α (Nat × Int)
def rdClass (s : ByteArray) (i : Nat) : Rd (BitVec 256 × Nat) :=
  if i + 1 < s.size ∧ (cls (chr s (i + 1)).toNat).2 = 0 then .inl ((cls (chr s (i + 1)).toNat).1, i + 2) else .inr (i, 10)
def rdMember (s : ByteArray) (i : Nat) : Rd (BitVec 256 × Nat) :=
  if chr s i = 37 then rdClass s i else
  match rdItem s i with
  | none => .inr (i, 6)
  | some (lo, n) =>
    if chr s n = 45 then
      match rdItem s (n + 1) with
      | none => .inr ((n + 1), 6)
      | some (hi, e) => if hi < lo then .inr (i, 1) else .inl (spn lo hi, e)
    else .inl (spn lo lo, n)
def rdMembers (s : ByteArray) : Nat → BitVec 256 → Nat → Rd (BitVec 256 × Nat)
  | 0, _, i => .inr (i, 6)
  | f + 1, x, i =>
    if chr s i = 93 then .inl (x, i) else
    match rdMember s i with
    | .inr (a, c) => .inr (a, c)
    | .inl (y, n) => rdMembers s f (x ||| y) n

theorem hexV_bd (c : Int) : -1 ≤ hexV c ∧ hexV c ≤ 15 := by unfold hexV; split; omega; split <;> omega
theorem hexV_chr {s : ByteArray} {i : Nat} (h : 0 ≤ hexV (chr s i)) : i < s.size := by
  by_cases hi : i < s.size
  · exact hi
  · rw [chr_out hi] at h; simp [hexV] at h
theorem rdHex_bd {s : ByteArray} {i b n : Nat} (h : rdHex s i = some (b, n)) : b < 256 ∧ i < n ∧ n ≤ s.size := by
  unfold rdHex at h
  split at h
  · rename_i hh
    have h1 := hexV_bd (chr s (i + 2)); have h2 := hexV_bd (chr s (i + 3)); have h3 := hexV_chr hh.2
    simp at h; omega
  · simp at h
theorem rdEsc_bd {s : ByteArray} {i b n : Nat} (h : rdEsc s i = some (b, n)) : b < 256 ∧ i < n ∧ n ≤ s.size := by
  unfold rdEsc at h
  have hc := chr_le s (i + 1)
  by_cases hi : i + 1 < s.size
  · split at h; (simp at h; omega)
    split at h; (simp at h; omega)
    split at h; (simp at h; omega)
    split at h; (exact rdHex_bd h)
    split at h
    · simp at h; omega
    · simp at h
  · rw [chr_out hi] at h; simp [signB] at h
theorem rdItem_bd {s : ByteArray} {i b n : Nat} (h : rdItem s i = some (b, n)) : b < 256 ∧ i < n ∧ n ≤ s.size := by
  unfold rdItem at h
  split at h
  · exact rdEsc_bd h
  · split at h
    · simp at h
    · rename_i h1
      have hc := chr_le s i
      have hi : i < s.size := by
        by_cases hi : i < s.size
        · exact hi
        · rw [chr_out hi] at h1; simp [prnB] at h1
      simp at h; omega
theorem rdMember_bd {s : ByteArray} {i n : Nat} {y : BitVec 256} (h : rdMember s i = .inl (y, n)) : i < n ∧ n ≤ s.size := by
  unfold rdMember at h
  split at h
  · unfold rdClass at h
    split at h
    · simp at h; omega
    · simp at h
  · split at h
    · simp at h
    · rename_i lo m hm
      have b1 := rdItem_bd hm
      split at h
      · split at h
        · simp at h
        · rename_i hi e he
          have b2 := rdItem_bd he
          split at h
          · simp at h
          · simp at h; omega
      · simp at h; omega
end Go.Proofs.YthffklhojdldkaaDoor

namespace Go.Proofs.YthffklhojdldkaaDoor
open Go.RowKit
def dgB (c : Int) : Bool := decide (48 ≤ c) && decide (c ≤ 57)
def hdB (c : Int) : Bool := (decide (97 ≤ c) && decide (c ≤ 122)) || (decide (65 ≤ c) && decide (c ≤ 90)) || c == 95
def nmB (c : Int) : Bool := hdB c || dgB c
/-- Behind the bytes at a place that a test lets by. -/
def spGo (P : Int → Bool) (s : ByteArray) : Nat → Nat → Nat
  | 0, i => i
  | m + 1, i => if P (chr s i) then spGo P s m (i + 1) else i
def spN (P : Int → Bool) (s : ByteArray) (i : Nat) : Nat := spGo P s (s.size - i) i
theorem spN_stop {P : Int → Bool} {s : ByteArray} {i : Nat} (h : P (chr s i) = false) : spN P s i = i := by
  unfold spN
  cases s.size - i with
  | zero => rfl
  | succ m => rw [spGo, h]; rfl
theorem spN_next {P : Int → Bool} {s : ByteArray} {i : Nat} (hn : P (-1) = false) (h : P (chr s i) = true) : i < s.size ∧ spN P s i = spN P s (i + 1) := by
  have hi : i < s.size := by
    by_cases q : i < s.size
    · exact q
    · rw [chr_out (by omega), hn] at h; cases h
  refine ⟨hi, ?_⟩
  unfold spN
  rw [show s.size - i = (s.size - (i + 1)) + 1 from by omega, spGo, h]
  rfl
theorem spN_spec (P : Int → Bool) (s : ByteArray) (hn : P (-1) = false) : ∀ d i, s.size - i = d → i ≤ spN P s i ∧ (i ≤ s.size → spN P s i ≤ s.size) ∧ P (chr s (spN P s i)) = false ∧ ∀ k, i ≤ k → k < spN P s i → P (chr s k) = true := by
  intro d
  induction d with
  | zero =>
    intro i hi
    have h : P (chr s i) = false := by rw [chr_out (by omega)]; exact hn
    rw [spN_stop h]
    exact ⟨Nat.le_refl _, fun q => q, h, fun k h1 h2 => by omega⟩
  | succ d ih =>
    intro i hi
    cases h : P (chr s i) with
    | false => rw [spN_stop h]; exact ⟨Nat.le_refl _, fun q => q, h, fun k h1 h2 => by omega⟩
    | true =>
      obtain ⟨h1, h2⟩ := spN_next hn h
      obtain ⟨i1, i2, i3, i4⟩ := ih (i + 1) (by omega)
      rw [h2]
      refine ⟨by omega, fun _ => i2 (by omega), i3, fun k k1 k2 => ?_⟩
      by_cases e : k = i
      · subst e; exact h
      · exact i4 k (by omega) k2
theorem spN_ge (P : Int → Bool) (s : ByteArray) (hn : P (-1) = false) (i : Nat) : i ≤ spN P s i := (spN_spec P s hn _ i rfl).1
theorem spN_le (P : Int → Bool) (s : ByteArray) (hn : P (-1) = false) (i : Nat) (h : i ≤ s.size) : spN P s i ≤ s.size := (spN_spec P s hn _ i rfl).2.1 h
/-- The number that k digits to a base tell, from a place on. -/
def wthR (s : ByteArray) (i : Nat) (base : Int) : Nat → Int
  | 0 => 0
  | k + 1 => wthR s i base k * base + hexV (chr s (i + k))
theorem wthR_bd (s : ByteArray) (i : Nat) (base : Int) (hb : 0 ≤ base ∧ base ≤ 16) : ∀ k, -(16 ^ k : Int) ≤ wthR s i base k - 1 ∧ wthR s i base k + 1 ≤ (16 ^ k : Int) := by
  intro k
  induction k with
  | zero => simp [wthR]
  | succ k ih =>
    have h := hexV_bd (chr s (i + k))
    have h16 : (16 : Int) ^ (k + 1) = 16 ^ k * 16 := by rw [Int.pow_succ]
    rw [wthR, h16]
    generalize wthR s i base k = x at *
    generalize (16 : Int) ^ k = p at *
    have hp : (1 : Int) ≤ p := by omega
    constructor
    · by_cases hx : 0 ≤ x
      · have : 0 ≤ x * base := Int.mul_nonneg hx hb.1
        omega
      · have h1 : x * base ≥ x * 16 := by
          have : (-x) * base ≤ (-x) * 16 := Int.mul_le_mul_of_nonneg_left hb.2 (by omega)
          rw [Int.neg_mul, Int.neg_mul] at this
          omega
        omega
    · by_cases hx : 0 ≤ x
      · have h1 : x * base ≤ x * 16 := Int.mul_le_mul_of_nonneg_left hb.2 hx
        omega
      · have h1 : x * base ≤ 0 := by
          have : 0 ≤ (-x) * base := Int.mul_nonneg (by omega) hb.1
          rw [Int.neg_mul] at this
          omega
        omega
theorem chr_ext {s : ByteArray} {a b k : Nat} (h : a + k < b) (hb : b ≤ s.size) : chr (s.extract a b) k = chr s (a + k) := by
  have h1 : k < (s.extract a b).size := by rw [ByteArray.size_extract]; omega
  rw [chr_in h1, chr_in (show a + k < s.size by omega)]
  congr 2
  exact ByteArray.getElem_extract h1
theorem wthR_ext {s : ByteArray} {a b : Nat} {base : Int} (hb : b ≤ s.size) : ∀ k, a + k ≤ b → wthR (s.extract a b) 0 base k = wthR s a base k := by
  intro k
  induction k with
  | zero => intro _; rfl
  | succ k ih =>
    intro h
    rw [wthR, wthR, ih (by omega), Nat.zero_add, chr_ext (by omega) hb]
/-- A number, or what is wrong. -/
def numR (s : ByteArray) (i : Nat) (most : Int) : Sum Int Int :=
  if spN dgB s i - i = 0 ∨ (1 < spN dgB s i - i ∧ chr s i = 48) then .inr 50
  else if 6 < spN dgB s i - i ∨ most < wthR s i 10 (spN dgB s i - i) then .inr 1
  else .inl (wthR s i 10 (spN dgB s i - i))
/-- A token. -/
structure Tk where
  kd : Int
  nn : Int
  fr : Int
  en : Int
  tx : ByteArray
  s0 : Int
  s1 : Int
  s2 : Int
  s3 : Int
abbrev tkG (t : Tk) : Value := .agg #[.int .i64 t.kd, .int .i64 t.nn, .int .i64 t.fr, .int .i64 t.en, .string t.tx, .int .u64 t.s0, .int .u64 t.s1, .int .u64 t.s2, .int .u64 t.s3]
def tk0 : Tk := ⟨0, 0, 0, 0, ⟨#[]⟩, 0, 0, 0, 0⟩
/-- A byte behind a backslash in a literal. -/
def escT (s : ByteArray) (i : Nat) : Option (Nat × Nat) :=
  if chr s (i + 1) = 110 then some (10, i + 2) else if chr s (i + 1) = 114 then some (13, i + 2) else if chr s (i + 1) = 116 then some (9, i + 2)
  else if chr s (i + 1) = 92 ∨ chr s (i + 1) = 39 ∨ chr s (i + 1) = 34 then some ((chr s (i + 1)).toNat, i + 2)
  else if chr s (i + 1) = 120 ∧ 0 ≤ hexV (chr s (i + 2)) ∧ 0 ≤ hexV (chr s (i + 3)) then some ((16 * hexV (chr s (i + 2)) + hexV (chr s (i + 3))).toNat, i + 4)
  else none
def litGo (s : ByteArray) (q : Int) (b : Nat) : Nat → List Int → Nat → Sum Tk (Nat × Int)
  | 0, _, _ => .inr (b, 52)
  | f + 1, out, i =>
    if chr s i < 0 then .inr (b, 52) else if chr s i = q then (if 255 < out.length then .inr (b, 2) else .inl ⟨2, 0, b, i + 1, asText out, 0, 0, 0, 0⟩)
    else if chr s i < 32 ∨ chr s i = 127 then .inr (i, 50) else if chr s i ≠ 92 then litGo s q b f (out ++ [chr s i]) (i + 1)
    else match escT s i with
      | none => .inr (i, 51)
      | some (c, n) => litGo s q b f (out ++ [(c : Int)]) n
def litR (s : ByteArray) (b : Nat) : Sum Tk (Nat × Int) := litGo s (chr s b) b (s.size + 1) [] (b + 1)
/-- Behind at most seven digits to the base 16. -/
def hx7 (s : ByteArray) (i : Nat) : Nat → Nat
  | 0 => i
  | k + 1 => if 0 ≤ hexV (chr s i) then hx7 s (i + 1) k else i
def hexN (s : ByteArray) (i : Nat) : Nat := hx7 s i 7
def ptsR (s : ByteArray) (b : Nat) : Sum Tk (Nat × Int) :=
  let f1 := b + 3
  let e1 := hexN s f1
  let f2 := if chr s e1 = 45 then e1 + 1 else f1
  let e2 := if chr s e1 = 45 then hexN s (e1 + 1) else e1
  if e1 = f1 ∨ f1 + 6 < e1 ∨ e2 = f2 ∨ f2 + 6 < e2 ∨ chr s e2 ≠ 125 then .inr (b, 30)
  else if wthR s f2 16 (e2 - f2) < wthR s f1 16 (e1 - f1) ∨ 1114111 < wthR s f2 16 (e2 - f2) then .inr (b, 30)
  else .inl ⟨5, wthR s f1 16 (e1 - f1), b, e2 + 1, ⟨#[]⟩, wthR s f2 16 (e2 - f2), 0, 0, 0⟩
def pctR (s : ByteArray) (b : Nat) : Sum Tk (Nat × Int) :=
  if chr s (b + 1) = 117 ∧ chr s (b + 2) = 123 then ptsR s b else if chr s (b + 1) = 101 then .inl ⟨29, 0, b, b + 2, ⟨#[]⟩, 0, 0, 0, 0⟩ else if chr s (b + 1) = 102 then .inl ⟨30, 0, b, b + 2, ⟨#[]⟩, 0, 0, 0, 0⟩
  else if 0 ≤ chr s (b + 1) ∧ (cls (chr s (b + 1)).toNat).2 = 0 then .inl ⟨28, 0, b, b + 2, s.extract (b + 1) (b + 2), wd (cls (chr s (b + 1)).toNat).1 0, wd (cls (chr s (b + 1)).toNat).1 1, wd (cls (chr s (b + 1)).toNat).1 2, wd (cls (chr s (b + 1)).toNat).1 3⟩ else .inr (b, 10)
def cntR (s : ByteArray) (b : Nat) : Sum Tk (Nat × Int) :=
  let k : Int := if chr s (b + 1) = 43 then 14 else if chr s (b + 1) = 45 then 15 else 13
  let f := if chr s (b + 1) = 43 ∨ chr s (b + 1) = 45 then b + 2 else b + 1
  match numR s f 50 with
  | .inr e => .inr (b, e)
  | .inl n => .inl ⟨k, n, b, spN dgB s f, ⟨#[]⟩, 0, 0, 0, 0⟩
def grpR (s : ByteArray) (b : Nat) : Sum Tk (Nat × Int) :=
  if hdB (chr s (b + 2)) = true ∧ chr s (spN nmB s (b + 2)) = 58 then
    (if 32 < spN nmB s (b + 2) - b - 2 then .inr (b + 2, 2) else .inl ⟨21, 0, b, spN nmB s (b + 2) + 1, s.extract (b + 2) (spN nmB s (b + 2)), 0, 0, 0, 0⟩)
  else .inl ⟨21, 0, b, b + 2, ⟨#[]⟩, 0, 0, 0, 0⟩
end Go.Proofs.YthffklhojdldkaaDoor

namespace Go.Proofs.YthffklhojdldkaaDoor
open Go.RowKit
def lnB (c : Int) : Bool := decide (0 ≤ c) && !(c == 10)
def gpGo (s : ByteArray) : Nat → Nat → Nat
  | 0, i => i
  | f + 1, i => if i < s.size then (if chr s i = 45 ∧ chr s (i + 1) = 45 then gpGo s f (spN lnB s i) else if chr s i = 9 ∨ chr s i = 10 ∨ chr s i = 13 ∨ chr s i = 32 then gpGo s f (i + 1) else i) else i
def gapN (s : ByteArray) (i : Nat) : Nat := gpGo s (s.size + 1) i
/-- The sign of a kind. -/
def sgn (k : Nat) : List UInt8 :=
  if k = 6 then [60, 45] else if k = 27 then [45, 62] else if k = 7 then [47] else if k = 8 then [38] else if k = 9 then [33] else if k = 10 then [63] else if k = 11 then [42] else if k = 12 then [43] else if k = 16 then [40] else if k = 17 then [41]
  else if k = 18 then [46] else if k = 22 then [58, 125] else if k = 23 then [123, 124] else if k = 24 then [124, 125] else if k = 25 then [123, 126] else if k = 26 then [126, 125] else if k = 19 then [123] else if k = 20 then [125] else []
end Go.Proofs.YthffklhojdldkaaDoor
