/- DERIVED. Plain mathematics and walks, laid together (15). -/
import Derived.Deep.RegionHeld3
import Derived.Test.YtkihfkcmcdiajaaGreatDoorCards
import Derived.Test.YtkihfkcmcdiajaaGreatDoorTie
import Derived.WalkKit
import Derived.ProofKit
import Derived.OpenShut
import Derived.ShutString
import Derived.ChangeOld
import Derived.ChangeSame
import Derived.SizedLaws
import Derived.FnData
import Derived.Deep.DeepHandedRow
import Derived.Lib.LaidTab
import Derived.Test.YtkihfkcmcdiajaaGreatDoorPb14
set_option maxRecDepth 100000
set_option maxHeartbeats 8000000
namespace Go.Proofs.YtkihfkcmcdiajaaGreatDoor
open Go.RowKit
theorem zeX {w : World} {b e sz n : Nat} {v : Value} {xs : List Value} (k : Nat) (h : w.ownsRow b e sz v n xs) : (w.drewN k).ownsRow b e sz v n xs := h
theorem zlr (x : BitVec 256) (w : World) :
  Calls Tryz.prog 70 #[sv x] w fun e w' => e = .returned (.string ⟨(shT x).toArray⟩) /\ Below w.heap.size w w' := by
 have HX := hO (Holds.new w x)
 have HB := hO (zaD w (c4 x))
 have HC : Hid (∀ w, Calls Tryz.prog 95 #[sv x] w fun e w' => e = .returned (.int .i64 (cnt x)) /\ Below w.heap.size w w') := zi0 x
 cases hf : fulB x
 ·have HE : Hid (shT x = 91 :: zdg (spL (bys x)) ++ [93]) := (by show shT x = _; unfold shT; rw [hf]; rfl)
  have hcf : ((cnt x : Int) == 256) = false := by rw [<- zim]; exact hf
  clear hf
  go_enter Tryz.func70, Tryz.ntmps70
  go_wp2_with fail
  refine (HC.out _).mono ?_
  rintro e w1 ⟨rfl, hb⟩
  have HX1 := hO (HX.out.below hb (by simp))
  have HB1 := hO (HB.out.trans (hb.mono (by simp)))
  clear hb HX HB HC
  obtain ⟨_, x0, x1, x2, x3, _, _, _, _⟩ := HX1.out
  go_wp2_with fail
  refine (zi6 x _).mono ?_
  rintro e w3 ⟨v, rfl, hro, hnil, hb3⟩
  have HB3 := hO (HB1.out.trans (hb3.mono HB1.out.size))
  have hs3 := hb3.size
  have HR := hO hro
  have hsl : ∃ g cap, v = .slice g (spL (bys x)).length cap := by
   rcases hro.2 with ⟨hv, h0⟩ | ⟨g, cap, cur, hv, _⟩
   ·exact ⟨_, _, by rw [h0]; exact hv⟩
   ·exact ⟨_, _, hv⟩
  obtain ⟨g, cap, rfl⟩ := hsl
  have HZ : Hid ((spL (bys x)).length <= 256) := (show (spL (bys x)).length <= 256 from zd1 x)
  have HOK : Hid (∀ p ∈ spL (bys x), 0 <= p.1 /\ p.1 <= p.2 /\ p.2 < 256) := (fun p hp => zf8 x p hp)
  clear hro hnil hb3 HX1 x0 x1 x2 x3 HB1 hcf
  generalize spL (bys x) = SL at *
  go_wp2
  go_loopw [4, 5] (fun o t wr => ∃ k : Nat, ∃ A : ByteArray, k <= SL.length /\ o = .string A /\ t = .int .i64 k /\ A.size <= 1 + 9 * k /\ Hid (A = ⟨(91 :: zdg (SL.take k)).toArray⟩) /\ Hid (wr.ownsRow (w1.heap.size + 1) 133 2 (.slice g SL.length cap) SL.length (spc SL) /\ Below w.heap.size w wr)) (fun _ t _ => SL.length - (intOf t).toNat)
  case atStart => exact ⟨0, _, by omega, rfl, rfl, by decide, rfl, HR.out, HB3.out⟩
  case round =>
   obtain ⟨k, A, hk, rfl, rfl, hA, HAE, HI⟩ := hrel
   have hz := HZ.out
   by_cases hlt : k < SL.length
   ·have hk0 : (0 : Int) <= (k : Int) := by omega
    have hk1 : (k : Int) < (SL.length : Int) := by omega
    obtain ⟨lo, hi, hle, hh, e1, e2, hmem⟩ := zpt SL k hlt HOK.out
    obtain ⟨g', rfl, c0, c1⟩ := zf9 HI.out.1 hlt
    rw [e1] at c0
    rw [e2] at c1
    have hkl : k * 2 + 1 < 2 * SL.length := by omega
    have hLs := zh6 lo
    have hMs := zh6 hi
    have HL : Hid (∀ w, Calls Tryz.prog 97 #[.int .i64 lo] w fun e w' => e = .returned (.string (itB lo)) /\ Below w.heap.size w w') := fun w => zik lo (by omega) w
    have HM : Hid (∀ w, Calls Tryz.prog 97 #[.int .i64 hi] w fun e w' => e = .returned (.string (itB hi)) /\ Below w.heap.size w w') := fun w => zik hi (by omega) w
    have HLE : Hid (itB lo = ⟨(itm lo).toArray⟩) := rfl
    have HME : Hid (itB hi = ⟨(itm hi).toArray⟩) := rfl
    generalize itB lo = L at *
    generalize itB hi = M at *
    have hw1 : IntKind.i64.wrap ((lo : Int) + 1) = (lo : Int) + 1 := by rw [IntKind.wrap_i64]; omega
    by_cases d0 : hi - lo = 0
    ·have hsp : spT lo hi = itm lo := by unfold spT; rw [if_pos d0]
     have n1 : ¬ (lo : Int) + 1 < (hi : Int) := by omega
     have n2 : ¬ (lo : Int) < (hi : Int) := by omega
     go_wp2_with fail
     refine (HL.out _).mono ?_
     rintro e w4 ⟨rfl, hb4⟩
     have HJ := hO ((⟨zbH HI.out.1 hb4, HI.out.2.trans (hb4.mono HI.out.2.size)⟩ : _ /\ _))
     obtain ⟨_, hg2, c0, c1⟩ := zf9 HJ.out.1 hlt
     cases hg2
     rw [e1] at c0
     rw [e2] at c1
     clear hb4 HI
     go_wp2_with fail
     go_quiet (fail)
     go_wp2_with fail
     go_quiet (fail)
     replace HJ := (show Hid (∀ n, (w4.drewN n).ownsRow (w1.heap.size + 1) 133 2 (.slice (some ⟨g', 0, none⟩) SL.length cap) SL.length (spc SL) /\ Below w.heap.size w (w4.drewN n)) from fun n => ⟨zeX n HJ.out.1, Go.below_drewN HJ.out.2 n⟩)
     go_wp2_with fail
     go_roundw
     case rel => exact ⟨k + 1, _, by omega, rfl, by go_num, by simp only [ByteArray.size_append]; omega, (show _ = _ by rw [hmem, hsp, HAE.out, HLE.out, znQ]; rfl), HJ.out _⟩
     case measure => simp [intOf]; omega
    ·by_cases d1 : hi - lo = 1
     ·have hsp : spT lo hi = itm lo ++ itm hi := by unfold spT; rw [if_neg d0, if_pos d1]
      have n1 : ¬ (lo : Int) + 1 < (hi : Int) := by omega
      have n2 : (lo : Int) < (hi : Int) := by omega
      go_wp2_with fail
      refine (HL.out _).mono ?_
      rintro e w4 ⟨rfl, hb4⟩
      have HJ := hO ((⟨zbH HI.out.1 hb4, HI.out.2.trans (hb4.mono HI.out.2.size)⟩ : _ /\ _))
      obtain ⟨_, hg2, c0, c1⟩ := zf9 HJ.out.1 hlt
      cases hg2
      rw [e1] at c0
      rw [e2] at c1
      clear hb4 HI
      go_wp2_with fail
      go_quiet (fail)
      go_wp2_with fail
      go_quiet (fail)
      replace HJ := (show Hid (∀ n, (w4.drewN n).ownsRow (w1.heap.size + 1) 133 2 (.slice (some ⟨g', 0, none⟩) SL.length cap) SL.length (spc SL) /\ Below w.heap.size w (w4.drewN n)) from fun n => ⟨zeX n HJ.out.1, Go.below_drewN HJ.out.2 n⟩)
      go_wp2_with fail
      refine (HM.out _).mono ?_
      rintro e w5 ⟨rfl, hb5⟩
      have HK := hO ((⟨zbH (HJ.out _).1 hb5, (HJ.out _).2.trans (hb5.mono (HJ.out _).2.size)⟩ : _ /\ _))
      clear hb5 HJ c0 c1
      go_wp2_with fail
      go_roundw
      case rel => exact ⟨k + 1, _, by omega, rfl, by go_num, by simp only [ByteArray.size_append]; omega, (show _ = _ by rw [hmem, hsp, HAE.out, HLE.out, HME.out, znQ, znQ]; simp), HK⟩
      case measure => simp [intOf]; omega
     ·have hsp : spT lo hi = itm lo ++ [45] ++ itm hi := by unfold spT; rw [if_neg d0, if_neg d1]
      have n1 : (lo : Int) + 1 < (hi : Int) := by omega
      have n2 : (lo : Int) < (hi : Int) := by omega
      go_wp2_with fail
      refine (HL.out _).mono ?_
      rintro e w4 ⟨rfl, hb4⟩
      have HJ := hO ((⟨zbH HI.out.1 hb4, HI.out.2.trans (hb4.mono HI.out.2.size)⟩ : _ /\ _))
      obtain ⟨_, hg2, c0, c1⟩ := zf9 HJ.out.1 hlt
      cases hg2
      rw [e1] at c0
      rw [e2] at c1
      clear hb4 HI
      go_wp2_with fail
      go_quiet (fail)
      go_wp2_with fail
      go_quiet (fail)
      replace HJ := (show Hid (∀ n, (w4.drewN n).ownsRow (w1.heap.size + 1) 133 2 (.slice (some ⟨g', 0, none⟩) SL.length cap) SL.length (spc SL) /\ Below w.heap.size w (w4.drewN n)) from fun n => ⟨zeX n HJ.out.1, Go.below_drewN HJ.out.2 n⟩)
      go_wp2_with fail
      refine (HM.out _).mono ?_
      rintro e w5 ⟨rfl, hb5⟩
      have HK := hO ((⟨zbH (HJ.out _).1 hb5, (HJ.out _).2.trans (hb5.mono (HJ.out _).2.size)⟩ : _ /\ _))
      clear hb5 HJ c0 c1
      go_wp2_with fail
      go_roundw
      case rel => exact ⟨k + 1, _, by omega, rfl, by go_num, by simp only [ByteArray.size_append]; have h45 : (⟨#[45]⟩ : ByteArray).size = 1 := rfl; omega, (show _ = _ by rw [hmem, hsp, HAE.out, HLE.out, HME.out, znQ, show (⟨#[45]⟩ : ByteArray) = ⟨[45].toArray⟩ from rfl, znQ, znQ]; simp), HK⟩
      case measure => simp [intOf]; omega
   ·obtain rfl : k = SL.length := by omega
    rw [List.take_length] at HAE
    go_wp2
    go_ret
    exact ⟨zce (by rw [HE.out, HAE.out]; rw [show (⟨#[93]⟩ : ByteArray) = ⟨[93].toArray⟩ from rfl, znQ]), HI.out.2⟩
 ·have HE : Hid (shT x = [91, 94, 93]) := (by show shT x = _; unfold shT; rw [hf]; rfl)
  have hcf : ((cnt x : Int) == 256) = true := by rw [<- zim]; exact hf
  clear hf
  go_enter Tryz.func70, Tryz.ntmps70
  go_wp2_with fail
  refine (HC.out _).mono ?_
  rintro e w1 ⟨rfl, hb⟩
  have HB1 := hO (HB.out.trans (hb.mono (by simp)))
  clear hb
  go_wp2
  go_ret
  exact ⟨by rw [HE.out]; rfl, HB1.out⟩
theorem tt_1 (kd nn fr en s0 s1 s2 s3 : Int) (tx : ByteArray) (h : kd = 1) (w : World) : Calls Tryz.prog 38 #[.agg #[.int .i64 kd, .int .i64 nn, .int .i64 fr, .int .i64 en, .string tx, .int .u64 s0, .int .u64 s1, .int .u64 s2, .int .u64 s3]] w fun e w' => e = .returned (.string (tx)) /\ Below w.heap.size w w' := by
 have f1 : (kd == 1) = true := by rw [h]; rfl
 clear h
 go_enter Tryz.func38, Tryz.ntmps38
 go_wp2_with fail
 go_ret
 exact ⟨rfl, zaa _ _⟩
theorem tt_21 (kd nn fr en s0 s1 s2 s3 : Int) (tx : ByteArray) (h : kd = 21) (hs : tx.size <= 255) (w : World) : Calls Tryz.prog 38 #[.agg #[.int .i64 kd, .int .i64 nn, .int .i64 fr, .int .i64 en, .string tx, .int .u64 s0, .int .u64 s1, .int .u64 s2, .int .u64 s3]] w fun e w' => e = .returned (.string (⟨#[123, 58]⟩ ++ gnm tx)) /\ Below w.heap.size w w' := by
 have f1 : (kd == 1) = false := bF (by omega)
 have f21 : (kd == 21) = true := by rw [h]; rfl
 clear h
 by_cases h0 : 0 < tx.size
 ·have e0 := zif h0
  have HE : Hid (gnm tx = tx ++ ⟨#[58]⟩) := by show _ = _; unfold gnm; rw [if_neg (by omega)]
  go_enter Tryz.func38, Tryz.ntmps38
  go_wp2_with fail
  go_ret
  exact ⟨zce (by rw [HE.out]; apply ByteArray.ext; simp), zaa _ _⟩
 ·obtain rfl := zlc h0
  clear h0 hs
  go_enter Tryz.func38, Tryz.ntmps38
  go_wp2_with fail
  go_ret
  exact ⟨rfl, zaa _ _⟩
theorem tt_2 (kd nn fr en s0 s1 s2 s3 : Int) (tx : ByteArray) (h : kd = 2) (hs : tx.size <= 255) (w : World) : Calls Tryz.prog 38 #[.agg #[.int .i64 kd, .int .i64 nn, .int .i64 fr, .int .i64 en, .string tx, .int .u64 s0, .int .u64 s1, .int .u64 s2, .int .u64 s3]] w fun e w' => e = .returned (.string (Q.zaj (Q.qT tx))) /\ Below w.heap.size w w' := by
 have f1 : (kd == 1) = false := bF (by omega)
 have f21 : (kd == 21) = false := bF (by omega)
 have f2 : (kd == 2) = true := by rw [h]; rfl
 have HC : Hid (∀ w, Calls Tryz.prog 69 #[.string tx] w fun e w' => e = .returned (.string (Q.zaj (Q.qT tx))) /\ Below w.heap.size w w') := fun w => zgH tx hs w
 clear h
 go_enter Tryz.func38, Tryz.ntmps38
 go_wp2_with fail
 refine (HC.out _).mono ?_
 rintro e w1 ⟨rfl, hb⟩
 have HB : Hid (Below w.heap.size w w1) := (zaa w _).trans (hb.mono (by simp))
 clear hb
 go_wp2_with fail
 go_ret
 exact ⟨rfl, HB.out⟩
theorem tt_3 (kd nn fr en s0 s1 s2 s3 : Int) (tx : ByteArray) (h : kd = 3) (x : BitVec 256) (x0 : wd x 0 = s0) (x1 : wd x 1 = s1) (x2 : wd x 2 = s2) (x3 : wd x 3 = s3) (w : World) : Calls Tryz.prog 38 #[.agg #[.int .i64 kd, .int .i64 nn, .int .i64 fr, .int .i64 en, .string tx, .int .u64 s0, .int .u64 s1, .int .u64 s2, .int .u64 s3]] w fun e w' => e = .returned (.string (txO (shT x))) /\ Below w.heap.size w w' := by
 have f1 : (kd == 1) = false := bF (by omega)
 have f21 : (kd == 21) = false := bF (by omega)
 have f2 : (kd == 2) = false := bF (by omega)
 have f3 : (kd == 3) = true := by rw [h]; rfl
 have HC : Hid (∀ w, Calls Tryz.prog 70 #[.agg #[.int .u64 s0, .int .u64 s1, .int .u64 s2, .int .u64 s3]] w fun e w' => e = .returned (.string (txO (shT x))) /\ Below w.heap.size w w') := fun w => by rw [<- x0, <- x1, <- x2, <- x3]; exact zlr x w
 clear h
 clear x0 x1 x2 x3
 generalize txO (shT x) = A at *
 go_enter Tryz.func38, Tryz.ntmps38
 go_wp2_with fail
 refine (HC.out _).mono ?_
 rintro e w1 ⟨rfl, hb⟩
 have HB : Hid (Below w.heap.size w w1) := (zaa w _).trans (hb.mono (by simp))
 clear hb
 go_wp2_with fail
 go_ret
 exact ⟨rfl, HB.out⟩
theorem tt_28 (kd nn fr en s0 s1 s2 s3 : Int) (tx : ByteArray) (h : kd = 28) (hs : tx.size <= 255) (w : World) : Calls Tryz.prog 38 #[.agg #[.int .i64 kd, .int .i64 nn, .int .i64 fr, .int .i64 en, .string tx, .int .u64 s0, .int .u64 s1, .int .u64 s2, .int .u64 s3]] w fun e w' => e = .returned (.string (⟨#[37]⟩ ++ tx)) /\ Below w.heap.size w w' := by
 have f1 : (kd == 1) = false := bF (by omega)
 have f21 : (kd == 21) = false := bF (by omega)
 have f2 : (kd == 2) = false := bF (by omega)
 have f3 : (kd == 3) = false := bF (by omega)
 have f28 : (kd == 28) = true := by rw [h]; rfl
 clear h
 go_enter Tryz.func38, Tryz.ntmps38
 go_wp2_with fail
 go_ret
 exact ⟨rfl, zaa _ _⟩
theorem tt_5 (kd nn fr en s0 s1 s2 s3 : Int) (tx : ByteArray) (a b : Nat) (h : kd = 5) (hn : nn = a) (h0 : s0 = b) (ha : a <= 1114111) (hb : b <= 1114111) (w : World) : Calls Tryz.prog 38 #[.agg #[.int .i64 kd, .int .i64 nn, .int .i64 fr, .int .i64 en, .string tx, .int .u64 s0, .int .u64 s1, .int .u64 s2, .int .u64 s3]] w fun e w' => e = .returned (.string (rnT a b)) /\ Below w.heap.size w w' := by
 have f1 : (kd == 1) = false := bF (by omega)
 have f21 : (kd == 21) = false := bF (by omega)
 have f2 : (kd == 2) = false := bF (by omega)
 have f3 : (kd == 3) = false := bF (by omega)
 have f28 : (kd == 28) = false := bF (by omega)
 have f5 : (kd == 5) = true := by rw [h]; rfl
 have HC : Hid (∀ w, Calls Tryz.prog 71 #[.int .i64 (a : Int), .int .i64 16] w fun e w' => e = .returned (.string (txO (dgT 16 a))) /\ w' = w) := fun w => zeW a ha w
 have HD : Hid (∀ w, Calls Tryz.prog 71 #[.int .i64 (b : Int), .int .i64 16] w fun e w' => e = .returned (.string (txO (dgT 16 b))) /\ w' = w) := fun w => zeW b hb w
 have hla : (txO (dgT 16 a)).size <= 6 := by rw [zbe]; exact zb9 16 (by omega) 5 a (by omega)
 have hlb : (txO (dgT 16 b)).size <= 6 := by rw [zbe]; exact zb9 16 (by omega) 5 b (by omega)
 have hw : IntKind.i64.wrap (b : Int) = (b : Int) := by rw [IntKind.wrap_i64]; omega
 have HE : Hid (rnT a b = ⟨#[37, 117, 123]⟩ ++ txO (dgT 16 a) ++ ⟨#[45]⟩ ++ txO (dgT 16 b) ++ ⟨#[125]⟩) := rfl
 subst hn h0
 have HT := hO (TX.new w ⟨kd, a, fr, en, tx, b, s1, s2, s3⟩)
 have c1 := HT.out.cells.c1
 have c5 := HT.out.cells.c5
 dsimp only at c1 c5
 clear h ha hb HT
 generalize txO (dgT 16 a) = A at *
 generalize txO (dgT 16 b) = B at *
 have k1 : ¬ 9223372036854775807 < 3 + A.size := by omega
 have k2 : ¬ 9223372036854775807 < 3 + A.size + 1 := by omega
 have k3 : ¬ 9223372036854775807 < 3 + A.size + 1 + B.size := by omega
 have k4 : ¬ 9223372036854775807 < 3 + A.size + 1 + B.size + 1 := by omega
 go_enter Tryz.func38, Tryz.ntmps38
 go_wp2_with fail
 go_region_held3 (fun w' => w'.cell? ⟨w.heap.size, 1, none⟩ = some (.int .i64 (a : Int)) /\ w'.cell? ⟨w.heap.size, 5, none⟩ = some (.int .u64 (b : Int))) (first | go_keep | exact ⟨c1, c5⟩) (first | (go_at_call 71; with_reducible refine (HC.out _).mono ?_; rintro e w' ⟨rfl, rfl⟩) | (go_at_call 71; with_reducible refine (HD.out _).mono ?_; rintro e w' ⟨rfl, rfl⟩))
 all_goals
  go_wp2_with fail
  go_ret
  exact ⟨zce (by rw [HE.out]), (zaa _ _).drew⟩
theorem tt_4 (kd nn fr en s0 s1 s2 s3 : Int) (tx : ByteArray) (a : Nat) (h : kd = 4) (hn : nn = a) (ha : a <= 999999) (w : World) : Calls Tryz.prog 38 #[.agg #[.int .i64 kd, .int .i64 nn, .int .i64 fr, .int .i64 en, .string tx, .int .u64 s0, .int .u64 s1, .int .u64 s2, .int .u64 s3]] w fun e w' => e = .returned (.string (txO (dgT 10 a))) /\ Below w.heap.size w w' := by
 have f1 : (kd == 1) = false := bF (by omega)
 have f21 : (kd == 21) = false := bF (by omega)
 have f2 : (kd == 2) = false := bF (by omega)
 have f3 : (kd == 3) = false := bF (by omega)
 have f28 : (kd == 28) = false := bF (by omega)
 have f5 : (kd == 5) = false := bF (by omega)
 have f4 : (kd == 4) = true := by rw [h]; rfl
 have HC : Hid (∀ w, Calls Tryz.prog 71 #[.int .i64 (a : Int), .int .i64 10] w fun e w' => e = .returned (.string (txO (dgT 10 a))) /\ w' = w) := fun w => zcK a (by omega) w
 have hla : (txO (dgT 10 a)).size <= 6 := by rw [zbe]; exact zb9 10 (by omega) 5 a (by omega)
 subst hn
 clear h ha
 generalize txO (dgT 10 a) = A at *
 go_enter Tryz.func38, Tryz.ntmps38
 go_wp2_with fail
 refine (HC.out _).mono ?_
 rintro e w1 ⟨rfl, rfl⟩
 go_wp2_with fail
 go_ret
 exact ⟨rfl, zaa _ _⟩
theorem tt_13 (kd nn fr en s0 s1 s2 s3 : Int) (tx : ByteArray) (a : Nat) (h : kd = 13) (hn : nn = a) (ha : a <= 999999) (w : World) : Calls Tryz.prog 38 #[.agg #[.int .i64 kd, .int .i64 nn, .int .i64 fr, .int .i64 en, .string tx, .int .u64 s0, .int .u64 s1, .int .u64 s2, .int .u64 s3]] w fun e w' => e = .returned (.string (⟨#[94]⟩ ++ txO (dgT 10 a))) /\ Below w.heap.size w w' := by
 have f1 : (kd == 1) = false := bF (by omega)
 have f21 : (kd == 21) = false := bF (by omega)
 have f2 : (kd == 2) = false := bF (by omega)
 have f3 : (kd == 3) = false := bF (by omega)
 have f28 : (kd == 28) = false := bF (by omega)
 have f5 : (kd == 5) = false := bF (by omega)
 have f4 : (kd == 4) = false := bF (by omega)
 have f13 : (kd == 13) = true := by rw [h]; rfl
 have HC : Hid (∀ w, Calls Tryz.prog 71 #[.int .i64 (a : Int), .int .i64 10] w fun e w' => e = .returned (.string (txO (dgT 10 a))) /\ w' = w) := fun w => zcK a (by omega) w
 have hla : (txO (dgT 10 a)).size <= 6 := by rw [zbe]; exact zb9 10 (by omega) 5 a (by omega)
 subst hn
 clear h ha
 generalize txO (dgT 10 a) = A at *
 go_enter Tryz.func38, Tryz.ntmps38
 go_wp2_with fail
 refine (HC.out _).mono ?_
 rintro e w1 ⟨rfl, rfl⟩
 go_wp2_with fail
 go_ret
 exact ⟨rfl, zaa _ _⟩
theorem tt_14 (kd nn fr en s0 s1 s2 s3 : Int) (tx : ByteArray) (a : Nat) (h : kd = 14) (hn : nn = a) (ha : a <= 999999) (w : World) : Calls Tryz.prog 38 #[.agg #[.int .i64 kd, .int .i64 nn, .int .i64 fr, .int .i64 en, .string tx, .int .u64 s0, .int .u64 s1, .int .u64 s2, .int .u64 s3]] w fun e w' => e = .returned (.string (⟨#[94, 43]⟩ ++ txO (dgT 10 a))) /\ Below w.heap.size w w' := by
 have f1 : (kd == 1) = false := bF (by omega)
 have f21 : (kd == 21) = false := bF (by omega)
 have f2 : (kd == 2) = false := bF (by omega)
 have f3 : (kd == 3) = false := bF (by omega)
 have f28 : (kd == 28) = false := bF (by omega)
 have f5 : (kd == 5) = false := bF (by omega)
 have f4 : (kd == 4) = false := bF (by omega)
 have f13 : (kd == 13) = false := bF (by omega)
 have f14 : (kd == 14) = true := by rw [h]; rfl
 have HC : Hid (∀ w, Calls Tryz.prog 71 #[.int .i64 (a : Int), .int .i64 10] w fun e w' => e = .returned (.string (txO (dgT 10 a))) /\ w' = w) := fun w => zcK a (by omega) w
 have hla : (txO (dgT 10 a)).size <= 6 := by rw [zbe]; exact zb9 10 (by omega) 5 a (by omega)
 subst hn
 clear h ha
 generalize txO (dgT 10 a) = A at *
 go_enter Tryz.func38, Tryz.ntmps38
 go_wp2_with fail
 refine (HC.out _).mono ?_
 rintro e w1 ⟨rfl, rfl⟩
 go_wp2_with fail
 go_ret
 exact ⟨rfl, zaa _ _⟩
theorem tt_15 (kd nn fr en s0 s1 s2 s3 : Int) (tx : ByteArray) (a : Nat) (h : kd = 15) (hn : nn = a) (ha : a <= 999999) (w : World) : Calls Tryz.prog 38 #[.agg #[.int .i64 kd, .int .i64 nn, .int .i64 fr, .int .i64 en, .string tx, .int .u64 s0, .int .u64 s1, .int .u64 s2, .int .u64 s3]] w fun e w' => e = .returned (.string (⟨#[94, 45]⟩ ++ txO (dgT 10 a))) /\ Below w.heap.size w w' := by
 have f1 : (kd == 1) = false := bF (by omega)
 have f21 : (kd == 21) = false := bF (by omega)
 have f2 : (kd == 2) = false := bF (by omega)
 have f3 : (kd == 3) = false := bF (by omega)
 have f28 : (kd == 28) = false := bF (by omega)
 have f5 : (kd == 5) = false := bF (by omega)
 have f4 : (kd == 4) = false := bF (by omega)
 have f13 : (kd == 13) = false := bF (by omega)
 have f14 : (kd == 14) = false := bF (by omega)
 have f15 : (kd == 15) = true := by rw [h]; rfl
 have HC : Hid (∀ w, Calls Tryz.prog 71 #[.int .i64 (a : Int), .int .i64 10] w fun e w' => e = .returned (.string (txO (dgT 10 a))) /\ w' = w) := fun w => zcK a (by omega) w
 have hla : (txO (dgT 10 a)).size <= 6 := by rw [zbe]; exact zb9 10 (by omega) 5 a (by omega)
 subst hn
 clear h ha
 generalize txO (dgT 10 a) = A at *
 go_enter Tryz.func38, Tryz.ntmps38
 go_wp2_with fail
 refine (HC.out _).mono ?_
 rintro e w1 ⟨rfl, rfl⟩
 go_wp2_with fail
 go_ret
 exact ⟨rfl, zaa _ _⟩
theorem tt_29 (kd nn fr en s0 s1 s2 s3 : Int) (tx : ByteArray) (h : kd = 29) (w : World) : Calls Tryz.prog 38 #[.agg #[.int .i64 kd, .int .i64 nn, .int .i64 fr, .int .i64 en, .string tx, .int .u64 s0, .int .u64 s1, .int .u64 s2, .int .u64 s3]] w fun e w' => e = .returned (.string (⟨#[37, 101]⟩)) /\ Below w.heap.size w w' := by
 have f1 : (kd == 1) = false := bF (by omega)
 have f21 : (kd == 21) = false := bF (by omega)
 have f2 : (kd == 2) = false := bF (by omega)
 have f3 : (kd == 3) = false := bF (by omega)
 have f28 : (kd == 28) = false := bF (by omega)
 have f5 : (kd == 5) = false := bF (by omega)
 have f4 : (kd == 4) = false := bF (by omega)
 have f13 : (kd == 13) = false := bF (by omega)
 have f14 : (kd == 14) = false := bF (by omega)
 have f15 : (kd == 15) = false := bF (by omega)
 have f29 : (kd == 29) = true := by rw [h]; rfl
 clear h
 go_enter Tryz.func38, Tryz.ntmps38
 go_wp2_with fail
 go_ret
 exact ⟨rfl, zaa _ _⟩
theorem tt_30 (kd nn fr en s0 s1 s2 s3 : Int) (tx : ByteArray) (h : kd = 30) (w : World) : Calls Tryz.prog 38 #[.agg #[.int .i64 kd, .int .i64 nn, .int .i64 fr, .int .i64 en, .string tx, .int .u64 s0, .int .u64 s1, .int .u64 s2, .int .u64 s3]] w fun e w' => e = .returned (.string (⟨#[37, 102]⟩)) /\ Below w.heap.size w w' := by
 have f1 : (kd == 1) = false := bF (by omega)
 have f21 : (kd == 21) = false := bF (by omega)
 have f2 : (kd == 2) = false := bF (by omega)
 have f3 : (kd == 3) = false := bF (by omega)
 have f28 : (kd == 28) = false := bF (by omega)
 have f5 : (kd == 5) = false := bF (by omega)
 have f4 : (kd == 4) = false := bF (by omega)
 have f13 : (kd == 13) = false := bF (by omega)
 have f14 : (kd == 14) = false := bF (by omega)
 have f15 : (kd == 15) = false := bF (by omega)
 have f29 : (kd == 29) = false := bF (by omega)
 have f30 : (kd == 30) = true := by rw [h]; rfl
 clear h
 go_enter Tryz.func38, Tryz.ntmps38
 go_wp2_with fail
 go_ret
 exact ⟨rfl, zaa _ _⟩
theorem tt_no (kd nn fr en s0 s1 s2 s3 : Int) (tx : ByteArray) (k : Nat) (hk : kd = k) (h1 : 1 <= k) (h2 : k <= 30) (n1 : ¬ kd = 1) (n21 : ¬ kd = 21) (n2 : ¬ kd = 2) (n3 : ¬ kd = 3) (n28 : ¬ kd = 28) (n5 : ¬ kd = 5) (n4 : ¬ kd = 4) (n13 : ¬ kd = 13) (n14 : ¬ kd = 14) (n15 : ¬ kd = 15) (n29 : ¬ kd = 29) (n30 : ¬ kd = 30) (w : World) : Calls Tryz.prog 38 #[.agg #[.int .i64 kd, .int .i64 nn, .int .i64 fr, .int .i64 en, .string tx, .int .u64 s0, .int .u64 s1, .int .u64 s2, .int .u64 s3]] w fun e w' => e = .returned (.string (txO (sgn k))) /\ Below w.heap.size w w' := by
 have f1 : (kd == 1) = false := bF n1
 have f21 : (kd == 21) = false := bF n21
 have f2 : (kd == 2) = false := bF n2
 have f3 : (kd == 3) = false := bF n3
 have f28 : (kd == 28) = false := bF n28
 have f5 : (kd == 5) = false := bF n5
 have f4 : (kd == 4) = false := bF n4
 have f13 : (kd == 13) = false := bF n13
 have f14 : (kd == 14) = false := bF n14
 have f15 : (kd == 15) = false := bF n15
 have f29 : (kd == 29) = false := bF n29
 have f30 : (kd == 30) = false := bF n30
 have HC : Hid (∀ w, Calls Tryz.prog 72 #[.int .i64 kd] w fun e w' => e = .returned (.string (txO (sgn k))) /\ Below w.heap.size w w') := fun w => by rw [hk]; exact zhw k h1 h2 w
 clear n1 n21 n2 n3 n28 n5 n4 n13 n14 n15 n29 n30 hk h1 h2
 generalize txO (sgn k) = A at *
 go_enter Tryz.func38, Tryz.ntmps38
 go_wp2_with fail
 refine (HC.out _).mono ?_
 rintro e w1 ⟨rfl, hb⟩
 have HB : Hid (Below w.heap.size w w1) := (zaa w _).trans (hb.mono (by simp))
 clear hb
 go_wp2_with fail
 go_ret
 exact ⟨rfl, HB.out⟩
theorem zfw (k : Int) : gtK k <= 999999 := by unfold gtK; (repeat' split) <;> omega
theorem znc (t : Tk) (hr : riF t = true) (hb : TkB t) (w : World) : Calls Tryz.prog 38 #[tkG t] w fun e w' => e = .returned (.string (tkX t)) /\ Below w.heap.size w w' := by
 obtain ⟨h1, h2, h3, h4, h5, h6⟩ := zlk hr
 have hs := zhy h3
 obtain ⟨u0, u1, u2, u3, u4⟩ := (show _ from (⟨hb.u0, hb.u1, hb.u2, hb.u3, hb.u4⟩ : 0 <= t.s0 /\ t.s0 < 18446744073709551616 /\ (0 <= t.s1 /\ t.s1 < 18446744073709551616) /\ (0 <= t.s2 /\ t.s2 < 18446744073709551616) /\ (0 <= t.s3 /\ t.s3 < 18446744073709551616)))
 obtain ⟨kd, nn, fr, en, tx, s0, s1, s2, s3⟩ := t
 unfold tkX tkG
 dsimp only at *
 clear hr hb
 by_cases n1 : kd = 1
 ·rw [if_pos n1]; exact tt_1 _ _ _ _ _ _ _ _ _ n1 w
 rw [if_neg n1]
 by_cases n21 : kd = 21
 ·rw [if_pos n21]; exact tt_21 _ _ _ _ _ _ _ _ _ n21 hs w
 rw [if_neg n21]
 by_cases n2 : kd = 2
 ·rw [if_pos n2]; exact tt_2 _ _ _ _ _ _ _ _ _ n2 hs w
 rw [if_neg n2]
 by_cases n3 : kd = 3
 ·rw [if_pos n3]; obtain ⟨x0, x1, x2, x3⟩ := znT s0 s1 s2 s3 ⟨u0, u1⟩ u2 u3 u4; exact tt_3 _ _ _ _ _ _ _ _ _ n3 _ x0 x1 x2 x3 w
 rw [if_neg n3]
 by_cases n28 : kd = 28
 ·rw [if_pos n28]; exact tt_28 _ _ _ _ _ _ _ _ _ n28 hs w
 rw [if_neg n28]
 by_cases n5 : kd = 5
 ·rw [if_pos n5]; rw [if_pos n5] at h5; have h7 := zhz n5 h6; exact tt_5 _ _ _ _ _ _ _ _ _ nn.toNat s0.toNat n5 (by omega) (by omega) (by omega) (by omega) w
 rw [if_neg n5]
 by_cases n4 : kd = 4
 ·rw [if_pos n4]; rw [if_neg n5] at h5; have h7 : gtK kd <= 999999 := zfw kd; exact tt_4 _ _ _ _ _ _ _ _ _ nn.toNat n4 (by omega) (by omega) w
 rw [if_neg n4]
 by_cases n13 : kd = 13
 ·rw [if_pos n13]; rw [if_neg n5] at h5; have h7 : gtK kd <= 999999 := zfw kd; exact tt_13 _ _ _ _ _ _ _ _ _ nn.toNat n13 (by omega) (by omega) w
 rw [if_neg n13]
 by_cases n14 : kd = 14
 ·rw [if_pos n14]; rw [if_neg n5] at h5; have h7 : gtK kd <= 999999 := zfw kd; exact tt_14 _ _ _ _ _ _ _ _ _ nn.toNat n14 (by omega) (by omega) w
 rw [if_neg n14]
 by_cases n15 : kd = 15
 ·rw [if_pos n15]; rw [if_neg n5] at h5; have h7 : gtK kd <= 999999 := zfw kd; exact tt_15 _ _ _ _ _ _ _ _ _ nn.toNat n15 (by omega) (by omega) w
 rw [if_neg n15]
 by_cases n29 : kd = 29
 ·rw [if_pos n29]; exact tt_29 _ _ _ _ _ _ _ _ _ n29 w
 rw [if_neg n29]
 by_cases n30 : kd = 30
 ·rw [if_pos n30]; exact tt_30 _ _ _ _ _ _ _ _ _ n30 w
 rw [if_neg n30]
 exact tt_no _ _ _ _ _ _ _ _ _ kd.toNat (by omega) (by omega) (by omega) n1 n21 n2 n3 n28 n5 n4 n13 n14 n15 n29 n30 w
theorem znd : ∀ k, k < 31 -> (sgn k).length <= 2 := by decide
theorem zpR {t : Tk} (hr : riF t = true) (hb : TkB t) : (tkX t).size <= 2400 := by
 obtain ⟨h1, h2, h3, h4, h5, h6⟩ := zlk hr
 have hs := zhy h3
 obtain ⟨kd, nn, fr, en, tx, s0, s1, s2, s3⟩ := t
 unfold tkX
 dsimp only at *
 by_cases n1 : kd = 1
 ·rw [if_pos n1]; omega
 rw [if_neg n1]
 by_cases n21 : kd = 21
 ·rw [if_pos n21, ByteArray.size_append]; have := zpP tx hs; show 2 + _ <= _; omega
 rw [if_neg n21]
 by_cases n2 : kd = 2
 ·rw [if_pos n2, Q.zaw]; have := qT_len tx; omega
 rw [if_neg n2]
 by_cases n3 : kd = 3
 ·rw [if_pos n3, zbe]; have := zpH (mkS s0 s1 s2 s3); omega
 rw [if_neg n3]
 by_cases n28 : kd = 28
 ·rw [if_pos n28, ByteArray.size_append]; show 1 + _ <= _; omega
 rw [if_neg n28]
 by_cases n5 : kd = 5
 ·rw [if_pos n5]
  rw [if_pos n5] at h5
  have h7 := zhz n5 h6
  have a1 := zb9 16 (by omega) 5 nn.toNat (by omega)
  have a2 := zb9 16 (by omega) 5 s0.toNat (by omega)
  unfold rnT
  rw [ByteArray.size_append, ByteArray.size_append, ByteArray.size_append, ByteArray.size_append, zbe, zbe]
  show 3 + _ + 1 + _ + 1 <= _
  omega
 rw [if_neg n5]
 rw [if_neg n5] at h5
 have h7 := zfw kd
 have a1 := zb9 10 (by omega) 5 nn.toNat (by omega)
 by_cases n4 : kd = 4
 ·rw [if_pos n4, zbe]; omega
 rw [if_neg n4]
 by_cases n13 : kd = 13
 ·rw [if_pos n13, ByteArray.size_append, zbe]; show 1 + _ <= _; omega
 rw [if_neg n13]
 by_cases n14 : kd = 14
 ·rw [if_pos n14, ByteArray.size_append, zbe]; show 2 + _ <= _; omega
 rw [if_neg n14]
 by_cases n15 : kd = 15
 ·rw [if_pos n15, ByteArray.size_append, zbe]; show 2 + _ <= _; omega
 rw [if_neg n15]
 by_cases n29 : kd = 29
 ·rw [if_pos n29]; decide
 rw [if_neg n29]
 by_cases n30 : kd = 30
 ·rw [if_pos n30]; decide
 rw [if_neg n30, zbe]
 have := znd kd.toNat (by omega)
 omega
def jT (L : List Tk) : Nat -> List UInt8
 | 0 => []
 | k + 1 => match L[k]? with
  | some t => jT L k ++ (if k = 0 then [] else [32]) ++ (tkX t).data.toList
  | none => jT L k
theorem zhB {L : List Tk} {k : Nat} {t : Tk} (h : L[k]? = some t) : jT L (k + 1) = jT L k ++ (if k = 0 then [] else [32]) ++ (tkX t).data.toList := by
 rw [jT, h]
theorem jT_le (L : List Tk) (k : Nat) : (jT L k).length <= (jT L (k + 1)).length := by
 conv => rhs; rw [jT]
 split
 ·rw [List.length_append, List.length_append]; omega
 ·exact Nat.le_refl _
theorem zpS (L : List Tk) (k : Nat) : ∀ d, (jT L k).length <= (jT L (k + d)).length := by
 intro d
 induction d with
 | zero => exact Nat.le_refl _
 | succ d ih => exact Nat.le_trans ih (jT_le L (k + d))
def txR (L : List Tk) : ByteArray × Int := if (ckR L).2 = 0 then (if 65536 < (jT L L.length).length then (⟨#[]⟩, 2) else (txO (jT L L.length), 0)) else (⟨#[]⟩, (ckR L).2)
theorem zls {L : List Tk} (h : ¬ (ckR L).2 = 0) : txR L = (⟨#[]⟩, (ckR L).2) := by unfold txR; rw [if_neg h]
theorem zgd {L : List Tk} (h : (ckR L).2 = 0) {k : Nat} (hk : k <= L.length) (h2 : 65536 < (jT L k).length) : txR L = (⟨#[]⟩, 2) := by
 have h3 := zpS L k (L.length - k)
 rw [show k + (L.length - k) = L.length from by omega] at h3
 unfold txR
 rw [if_pos h, if_pos (by omega)]
theorem znU {L : List Tk} (h : (ckR L).2 = 0) (h2 : ¬ 65536 < (jT L L.length).length) : txR L = (txO (jT L L.length), 0) := by
 unfold txR
 rw [if_pos h, if_neg h2]
theorem zpT {L : List Tk} (h : (ckR L).2 = 0) : L.length <= 4096 /\ ∀ t ∈ L, riF t = true := by
 unfold ckR at h
 split at h
 ·cases h
 ·exact ⟨by omega, zm5 L 0 h⟩
theorem zlt (a b : List UInt8) : Lib.byteCells (a ++ b) = Lib.byteCells a ++ Lib.byteCells b := by unfold Lib.byteCells; rw [List.map_append]
theorem zin {p : ByteArray × Int} {a : ByteArray} {b : Int} (h : p = (a, b)) : Ending.returned (.tuple #[.string a, .int .i64 b]) = .returned (.tuple #[.string p.1, .int .i64 p.2]) := by rw [h]
def lkT (t : Tk) : Tk := { t with fr := 0, en := 0 }
theorem znV {s : ByteArray} (h : (s.toList == []) = true) : s = ⟨#[]⟩ := zlc (by have := zgc h; omega)
theorem zeq {k s0 s1 s2 s3 : Int} {s : ByteArray} (n3 : ¬ k = 3) (n28 : ¬ k = 28) (n5 : ¬ k = 5) (h : seF k s s0 s1 s2 s3 = true) : s0 = 0 /\ s1 = 0 /\ s2 = 0 /\ s3 = 0 := by
 unfold seF at h
 rw [if_neg n3, if_neg n28, if_neg n5] at h
 simpa using h
theorem zio {k : Int} {s : ByteArray} (n1 : ¬ k = 1) (n21 : ¬ k = 21) (n2 : ¬ k = 2) (n28 : ¬ k = 28) (h : txF k s = true) : s = ⟨#[]⟩ := by
 unfold txF at h
 rw [if_neg n1, if_neg n21, if_neg n2, if_neg n28] at h
 exact znV h
theorem aln_of {t : Tk} (hr : riF t = true) (hb : TkB t) : Aln (tkX t) t.kd t.nn t.tx t.s0 t.s1 t.s2 t.s3 := by
 obtain ⟨h1, h2, h3, h4, h5, h6⟩ := zlk hr
 have hs := zhy h3
 have u0 := hb.u0
 have u1 := hb.u1
 have u2 := hb.u2
 have u3 := hb.u3
 have u4 := hb.u4
 obtain ⟨kd, nn, fr, en, tx, s0, s1, s2, s3⟩ := t
 unfold tkX
 dsimp only at *
 clear hr hb
 by_cases n1 : kd = 1
 ·subst n1
  obtain ⟨rfl, rfl, rfl, rfl⟩ := zeq (by omega) (by omega) (by omega) h6
  obtain rfl : nn = 0 := by rw [if_neg (by omega)] at h5; have : gtK 1 = 0 := rfl; omega
  rw [if_pos rfl]
  exact zpJ h3
 rw [if_neg n1]
 by_cases n21 : kd = 21
 ·subst n21
  obtain ⟨rfl, rfl, rfl, rfl⟩ := zeq (by omega) (by omega) (by omega) h6
  obtain rfl : nn = 0 := by rw [if_neg (by omega)] at h5; have : gtK 21 = 0 := rfl; omega
  rw [if_pos rfl]
  unfold txF at h3
  rw [if_neg (by omega), if_pos rfl] at h3
  rcases Bool.or_eq_true_iff.1 h3 with h | h
  ·obtain rfl := znV h
   exact zpM
  ·have := (zdJ h).1
   unfold gnm
   rw [if_neg (by omega)]
   exact al_grp h
 rw [if_neg n21]
 by_cases n2 : kd = 2
 ·subst n2
  obtain ⟨rfl, rfl, rfl, rfl⟩ := zeq (by omega) (by omega) (by omega) h6
  obtain rfl : nn = 0 := by rw [if_neg (by omega)] at h5; have : gtK 2 = 0 := rfl; omega
  rw [if_pos rfl]
  exact al_lit tx hs
 rw [if_neg n2]
 by_cases n3 : kd = 3
 ·subst n3
  obtain rfl := zio (by omega) (by omega) (by omega) (by omega) h3
  obtain rfl : nn = 0 := by rw [if_neg (by omega)] at h5; have : gtK 3 = 0 := rfl; omega
  rw [if_pos rfl]
  obtain ⟨x0, x1, x2, x3⟩ := znT s0 s1 s2 s3 ⟨u0, u1⟩ u2 u3 u4
  have h := al_cls (mkS s0 s1 s2 s3)
  rw [x0, x1, x2, x3] at h
  exact h
 rw [if_neg n3]
 by_cases n28 : kd = 28
 ·subst n28
  obtain rfl : nn = 0 := by rw [if_neg (by omega)] at h5; have : gtK 28 = 0 := rfl; omega
  rw [if_pos rfl]
  have hsz : tx.size = 1 := by
   unfold txF at h3
   rw [if_neg (by omega), if_neg (by omega), if_neg (by omega), if_pos rfl] at h3
   have := of_decide_eq_true h3
   omega
  obtain ⟨c, rfl⟩ : ∃ c, tx = tx8 [c] := by
   obtain ⟨⟨l⟩⟩ := tx
   match l, hsz with
   | [c], _ => exact ⟨c, rfl⟩
  have hc : chr (tx8 [c]) 0 = (c.toNat : Int) := by rw [zaP]; rfl
  unfold seF at h6
  rw [if_neg (by omega), if_pos rfl, hc, Int.toNat_natCast] at h6
  simp only [Bool.and_eq_true, beq_iff_eq] at h6
  obtain ⟨q, rfl, rfl, rfl, rfl⟩ := h6
  exact al_pct c q
 rw [if_neg n28]
 obtain rfl := zio n1 n21 n2 n28 h3
 by_cases n5 : kd = 5
 ·subst n5
  have h7 := zhz rfl h6
  rw [if_pos rfl] at h5 ⊢
  unfold seF at h6
  rw [if_neg (by omega), if_neg (by omega), if_pos rfl] at h6
  simp only [Bool.and_eq_true, beq_iff_eq] at h6
  obtain ⟨_, _, rfl, rfl, rfl⟩ := h6
  have h := al_pts nn.toNat s0.toNat (by omega) (by omega)
  rw [show ((nn.toNat : Nat) : Int) = nn from by omega, show ((s0.toNat : Nat) : Int) = s0 from by omega] at h
  exact h
 rw [if_neg n5] at h5 ⊢
 obtain ⟨rfl, rfl, rfl, rfl⟩ := zeq n3 n28 n5 h6
 by_cases n4 : kd = 4
 ·subst n4
  rw [if_pos rfl]
  have hg : gtK 4 = 999999 := rfl
  have h := al_num nn.toNat (by omega)
  rw [show ((nn.toNat : Nat) : Int) = nn from by omega] at h
  exact h
 rw [if_neg n4]
 by_cases n13 : kd = 13
 ·subst n13
  rw [if_pos rfl]
  have hg : gtK 13 = 50 := rfl
  have h := zlp [94] 13 nn.toNat (by omega) (.inl ⟨rfl, rfl⟩)
  rw [show ((nn.toNat : Nat) : Int) = nn from by omega] at h
  rw [show (⟨#[94]⟩ ++ txO (dgT 10 nn.toNat) : ByteArray) = tx8 ([94] ++ dgT 10 nn.toNat) from by unfold txO; apply ByteArray.ext; simp]
  exact h
 rw [if_neg n13]
 by_cases n14 : kd = 14
 ·subst n14
  rw [if_pos rfl]
  have hg : gtK 14 = 50 := rfl
  have h := zlp [94, 43] 14 nn.toNat (by omega) (.inr (.inl ⟨rfl, rfl⟩))
  rw [show ((nn.toNat : Nat) : Int) = nn from by omega] at h
  rw [show (⟨#[94, 43]⟩ ++ txO (dgT 10 nn.toNat) : ByteArray) = tx8 ([94, 43] ++ dgT 10 nn.toNat) from by unfold txO; apply ByteArray.ext; simp]
  exact h
 rw [if_neg n14]
 by_cases n15 : kd = 15
 ·subst n15
  rw [if_pos rfl]
  have hg : gtK 15 = 50 := rfl
  have h := zlp [94, 45] 15 nn.toNat (by omega) (.inr (.inr ⟨rfl, rfl⟩))
  rw [show ((nn.toNat : Nat) : Int) = nn from by omega] at h
  rw [show (⟨#[94, 45]⟩ ++ txO (dgT 10 nn.toNat) : ByteArray) = tx8 ([94, 45] ++ dgT 10 nn.toNat) from by unfold txO; apply ByteArray.ext; simp]
  exact h
 rw [if_neg n15]
 have hg : gtK kd = 0 := by unfold gtK; rw [if_neg n4, if_neg (by omega)]
 obtain rfl : nn = 0 := by omega
 have h := al_sig kd.toNat (by omega) ⟨by omega, by omega, by omega, by omega, by omega, by omega, by omega, by omega, by omega, by omega, by omega⟩
 rw [show ((kd.toNat : Nat) : Int) = kd from by omega] at h
 by_cases n29 : kd = 29
 ·subst n29; rw [if_pos rfl]; exact h
 rw [if_neg n29]
 by_cases n30 : kd = 30
 ·subst n30; rw [if_pos rfl]; exact h
 rw [if_neg n30]
 unfold sgX at h
 rw [if_neg (by omega), if_neg (by omega)] at h
 exact h
theorem zlu {t : Tk} (hr : riF t = true) (hb : TkB t) {s : ByteArray} {b : Nat} (ha : Ag (tkX t) 0 s b (tkX t).size) (he : zk7 (chr s (b + (tkX t).size)) = true) : 0 < (tkX t).size /\ zbm s b = b /\ b < s.size /\ b + (tkX t).size <= s.size /\ zaE s b = .inl (mvT t b (tkX t).size) := by
 have h := aln_of hr hb
 have h1 := zi3 h.p h.b.b h.b.c h.o (m := (tkX t).size) (by show ((tkX t).size : Int) = ((0 + (tkX t).size : Nat) : Int); omega) ha
 have h2 := zm2 h.p h.o (m := (tkX t).size) (by show ((tkX t).size : Int) = ((0 + (tkX t).size : Nat) : Int); omega) ha (.inl he)
 exact ⟨h.p, h1.1, h1.2, ha.in h.p (by omega), h2⟩
theorem zpU (L : List Tk) : ∀ (d k : Nat), k + d = L.length -> ∃ R, jT L L.length = jT L k ++ R /\ (0 < k -> R = [] ∨ ∃ R', R = 32 :: R') := by
 intro d
 induction d with
 | zero => intro k hk; exact ⟨[], by rw [List.append_nil, <- hk]; rfl, fun _ => .inl rfl⟩
 | succ d ih =>
  intro k hk
  have hlt : k < L.length := by omega
  obtain ⟨R, h1, _⟩ := ih (k + 1) (by omega)
  rw [zhB (List.getElem?_eq_getElem hlt)] at h1
  refine ⟨(if k = 0 then [] else [32]) ++ (tkX L[k]).data.toList ++ R, by rw [h1]; simp, fun h0 => .inr ⟨(tkX L[k]).data.toList ++ R, ?_⟩⟩
  rw [if_neg (by omega)]
  rfl
theorem zpV (s : ByteArray) : zbm s s.size = s.size := by rw [zcd, if_neg (by omega)]
theorem zne (L : List Tk) (hr : ∀ t ∈ L, riF t = true) (hb : ∀ t ∈ L, TkB t) : ∀ (d k : Nat), k + d = L.length -> ∃ M, Chn (tx8 (jT L L.length)) (jT L k).length M /\ M.map lkT = (L.drop k).map lkT := by
 intro d
 induction d with
 | zero =>
  intro k hk
  obtain rfl : k = L.length := by omega
  refine ⟨[], ?_, by rw [List.drop_length]⟩
  show zbm _ _ = _
  exact zpV (tx8 (jT L L.length))
 | succ d ih =>
  intro k hk
  have hlt : k < L.length := by omega
  obtain ⟨M, hM, hmap⟩ := ih (k + 1) (by omega)
  obtain ⟨R, hR, hR2⟩ := zpU L d (k + 1) (by omega)
  have hj := zhB (List.getElem?_eq_getElem hlt)
  have ht1 := hr _ (List.getElem_mem hlt)
  have ht2 := hb _ (List.getElem_mem hlt)
  have hdrop : L.drop k = L[k] :: L.drop (k + 1) := List.drop_eq_getElem_cons hlt
  have hX : tkX L[k] = tx8 (tkX L[k]).data.toList := by apply ByteArray.ext; simp
  have hXs : (tkX L[k]).size = (tkX L[k]).data.toList.length := rfl
  generalize L[k] = t at *
  generalize hS : (tx8 (jT L L.length)) = s at *
  generalize hp : jT L k ++ (if k = 0 then [] else [32]) = p at *
  have hs : s = tx8 (p ++ (tkX t).data.toList ++ R) := by rw [<- hS, hR, hj]
  have ha : Ag (tkX t) 0 s p.length (tkX t).size := by
   have := zln p (tkX t).data.toList R
   rw [<- hX, <- hXs, <- hs] at this
   exact this
  have hlen : (jT L (k + 1)).length = p.length + (tkX t).size := by rw [hj, List.length_append, hXs]
  have hstop : zk7 (chr s (p.length + (tkX t).size)) = true := by
   have h0 := at0 (p ++ (tkX t).data.toList) R
   rw [<- hs, List.length_append, <- hXs] at h0
   rw [h0]
   rcases hR2 (by omega) with rfl | ⟨R', rfl⟩
   ·decide
   ·rfl
  obtain ⟨q1, q2, q3, q4, q5⟩ := zlu ht1 ht2 ha hstop
  have hgap : zbm s (jT L k).length = p.length := by
   by_cases h0 : k = 0
   ·rw [if_pos h0, List.append_nil] at hp
    rw [hp]; exact q2
   ·rw [if_neg h0] at hp
    have hpl : p.length = (jT L k).length + 1 := by rw [<- hp, List.length_append]; rfl
    have hc : chr s (jT L k).length = 32 := by
     have h1 := at0 (jT L k) ([32] ++ (tkX t).data.toList ++ R)
     rw [show jT L k ++ ([32] ++ (tkX t).data.toList ++ R) = p ++ (tkX t).data.toList ++ R from by rw [<- hp]; simp, <- hs] at h1
     exact h1
    rw [zcd, if_pos (by omega), hc, if_neg (by omega), if_pos (by omega), <- hpl]
    exact q2
  refine ⟨mvT t p.length (tkX t).size :: M, ⟨by rw [hgap]; exact q3, by rw [hgap]; exact q5, p.length + (tkX t).size, rfl, by rw [hgap]; omega, q4, by rw [<- hlen]; exact hM⟩, ?_⟩
  rw [List.map_cons, hmap, hdrop, List.map_cons]
  rfl
theorem znf (L : List Tk) (hr : ∀ t ∈ L, riF t = true) (hb : ∀ t ∈ L, TkB t) (h : (jT L L.length).length <= 65536) : ∃ M, zbn (zaE (txO (jT L L.length))) (txO (jT L L.length)) = .inl M /\ M.map lkT = L.map lkT := by
 obtain ⟨M, h1, h2⟩ := zne L hr hb L.length 0 (by omega)
 exact ⟨M, zi2 (by show (jT L L.length).length <= _; exact h) h1, by rw [h2, List.drop_zero]⟩
structure Rgt (t : Tk) : Prop where
 r : riF t = true
 b : TkB t
theorem Rgt.plain {k n a e : Int} {tx : ByteArray} (h : riF ⟨k, n, a, e, tx, 0, 0, 0, 0⟩ = true) (hn : n <= 1114111) : Rgt ⟨k, n, a, e, tx, 0, 0, 0, 0⟩ := ⟨h, ⟨by show n < _; omega, by show (0 : Int) <= 0; omega, by show (0 : Int) < _; omega, by show (0 : Int) <= 0 /\ (0 : Int) < _; omega, by show (0 : Int) <= 0 /\ (0 : Int) < _; omega, by show (0 : Int) <= 0 /\ (0 : Int) < _; omega⟩⟩
theorem zdi (x : BitVec 256) (i : Nat) : 0 <= wd x i /\ wd x i < 18446744073709551616 := by
 unfold wd
 have := (x.extractLsb' (64 * i) 64).isLt
 omega
theorem znW {s : ByteArray} {b : Nat} (hh : hdB (chr s b) = true) (hle : ¬ 32 < spN nmB s b - b) : zeb (s.extract b (spN nmB s b)) = true := by
 have hnm : nmB (chr s b) = true := by unfold nmB; rw [hh]; rfl
 obtain ⟨h1, h2⟩ := za3 (P := nmB) (by decide) hnm
 have h3 := za4 nmB s (by decide) (b + 1)
 have h4 := zbC nmB s (by decide) b (by omega)
 obtain ⟨_, _, h6, h7⟩ := zbd nmB s (by decide) _ b rfl
 generalize spN nmB s b = e at *
 have hsz : (s.extract b e).size = e - b := by rw [ByteArray.size_extract]; omega
 have hc : ∀ k, k < e - b -> chr (s.extract b e) k = chr s (b + k) := fun k hk => zew (by omega) h4
 unfold zeb
 rw [hsz, decide_eq_true (by omega), decide_eq_true (by omega), hc 0 (by omega), Nat.add_zero, hh]
 have hr : spN nmB (s.extract b e) 0 = e - b := by
  refine zic (by decide) (by omega) (fun k _ hk => ?_) ?_
  ·rw [hc k hk]; exact h7 (b + k) (by omega) (by omega)
  ·rw [zat (by rw [hsz]; omega)]; decide
 rw [hr]
 simp
theorem ziq (s : ByteArray) (i : Nat) (base : Int) (hb : 0 <= base) : ∀ k, (∀ j, j < k -> 0 <= zaH (chr s (i + j))) -> 0 <= zaB s i base k := by
 intro k
 induction k with
 | zero => intro _; exact Int.le_refl _
 | succ k ih =>
  intro h
  have h1 := ih (fun j hj => h j (by omega))
  have h2 := h k (by omega)
  have h3 := Int.mul_nonneg h1 hb
  show 0 <= zaB s i base k * base + zaH (chr s (i + k))
  omega
theorem znX {c : Int} (h : dgB c = true) : 0 <= zaH c := by
 unfold dgB at h
 simp only [Bool.and_eq_true, decide_eq_true_eq] at h
 unfold zaH
 rw [if_pos h]
 omega
theorem hx_hex {c : Int} (h : hxB c = true) : 0 <= zaH c := by
 unfold hxB at h
 rcases Bool.or_eq_true_iff.1 h with h | h
 ·exact znX h
 ·simp only [Bool.and_eq_true, decide_eq_true_eq] at h
  unfold zaH
  rw [if_neg (by omega), if_pos h]
  omega
theorem zpW {s : ByteArray} {d : Nat} {m n : Int} (h : zbx s d m = .inl n) : 0 <= n /\ n <= m := by
 unfold zbx at h
 split at h
 ·cases h
 split at h
 ·cases h
 ·next q1 q2 =>
  cases h
  obtain ⟨_, _, _, h7⟩ := zbd dgB s (by decide) _ d rfl
  refine ⟨ziq _ _ _ (by omega) _ (fun j hj => znX (h7 (d + j) (by omega) (by omega))), ?_⟩
  omega
theorem zlv {s : ByteArray} {b d : Nat} {k : Int} {t : Tk} (hk : k = 4 ∨ k = 13 ∨ k = 14 ∨ k = 15) (h : nmR s b d k = .inl t) : Rgt t := by
 unfold nmR at h
 cases hn : zbx s d (gtK k) with
 | inr e => rw [hn] at h; cases h
 | inl n =>
  rw [hn] at h
  cases h
  obtain ⟨h1, h2⟩ := zpW hn
  have h3 := zfw k
  refine Rgt.plain ?_ (by omega)
  have em : ((⟨#[]⟩ : ByteArray).toList == []) = true := by rw [ByteArray.toList_eq]; rfl
  unfold riF txF nbF seF
  rcases hk with rfl | rfl | rfl | rfl <;> simp [] <;> omega
theorem zlw (s : ByteArray) (q : Int) (b : Nat) : ∀ (f : Nat) (out : List Int) (i : Nat) (t : Tk), zbs s q b f out i = .inl t -> Rgt t := by
 intro f
 induction f with
 | zero => intro out i t h; rw [zbs] at h; cases h
 | succ f ih =>
  intro out i t h
  rw [zbs] at h
  split at h
  ·cases h
  split at h
  ·split at h
   ·cases h
   ·next q2 =>
    cases h
    refine Rgt.plain ?_ (by omega)
    unfold riF txF nbF seF gtK
    have := zaw out
    simp
    omega
  split at h
  ·cases h
  split at h
  ·exact ih _ _ _ h
  ·split at h
   ·cases h
   ·exact ih _ _ _ h
theorem zpX {a e : Int} {s : ByteArray} (h : zeb s = true) : riF ⟨1, 0, a, e, s, 0, 0, 0, 0⟩ = true := by
 unfold riF txF nbF seF gtK
 simp [h]
theorem ri_grp {a e : Int} {s : ByteArray} (h : zeb s = true) : riF ⟨21, 0, a, e, s, 0, 0, 0, 0⟩ = true := by
 unfold riF txF nbF seF gtK
 simp [h]
theorem zlx {a e : Int} : riF ⟨21, 0, a, e, ⟨#[]⟩, 0, 0, 0, 0⟩ = true := by
 have em : ((⟨#[]⟩ : ByteArray).toList == []) = true := by rw [ByteArray.toList_eq]; rfl
 unfold riF txF nbF seF gtK
 simp []
theorem zng {s : ByteArray} {b d : Nat} {t : Tk} (h : zcv s b d = .inl t) : Rgt t := by
 unfold zcv at h
 split at h
 ·next hh =>
  split at h
  ·cases h
  ·next hl =>
   split at h
   ·cases h; exact Rgt.plain (ri_grp (znW hh hl)) (by omega)
   ·cases h; exact Rgt.plain zlx (by omega)
 ·cases h; exact Rgt.plain zlx (by omega)
def sgK (k : Int) : Bool := k == 0 || k == 13 || k == 14 || k == 15 || k == 21 || k == 29 || k == 30 || k == 27 || (decide (6 <= k) && decide (k <= 12)) || (decide (16 <= k) && decide (k <= 20)) || (decide (22 <= k) && decide (k <= 26))
theorem sgC_in (c0 c1 : Int) : sgK (sgC c0 c1).1 = true := by
 have h : ∀ l : List (Int × List UInt8), (∀ p ∈ l, sgK p.1 = true) -> sgK (zdh c0 c1 l).1 = true := by
  intro l
  induction l with
  | nil => intro _; rfl
  | cons p l ih =>
   intro h
   rw [zdh]
   split
   ·exact h p (List.mem_cons_self ..)
   ·exact ih (fun q hq => h q (List.mem_cons_of_mem _ hq))
 rw [<- zid]
 exact h sgTab (by decide)
theorem ri_sig {k a e : Int} (h : sgK k = true) (h0 : ¬ k = 0) (h1 : ¬ (k = 13 ∨ k = 14 ∨ k = 15)) (h2 : ¬ k = 21) : riF ⟨k, 0, a, e, ⟨#[]⟩, 0, 0, 0, 0⟩ = true := by
 have em : ((⟨#[]⟩ : ByteArray).toList == []) = true := by rw [ByteArray.toList_eq]; rfl
 simp only [sgK, Bool.or_eq_true, Bool.and_eq_true, beq_iff_eq, decide_eq_true_eq] at h
 unfold riF txF nbF seF gtK
 dsimp only
 rw [if_neg (show ¬ k = 1 by omega), if_neg (show ¬ k = 21 by omega), if_neg (show ¬ k = 2 by omega), if_neg (show ¬ k = 28 by omega), if_neg (show ¬ k = 5 by omega), if_neg (show ¬ k = 4 by omega), if_neg h1, if_neg (show ¬ k = 3 by omega), if_neg (show ¬ k = 28 by omega), if_neg (show ¬ k = 5 by omega), em, decide_eq_true (show 1 <= k by omega), decide_eq_true (show k <= 30 by omega)]
 rfl
theorem zir {s : ByteArray} {b : Nat} {t : Tk} (h : zbr s b = .inl t) : Rgt t := by
 have hi := sgC_in (chr s b) (chr s (b + 1))
 rw [<- zbj] at hi
 unfold zbr at h
 split at h
 ·cases h
 split at h
 ·next q => exact zlv (.inr q) h
 split at h
 ·exact zng h
 ·next h0 h1 h2 => cases h; exact Rgt.plain (ri_sig hi h0 h1 h2) (by omega)
theorem znY {n m a e : Int} (h0 : 0 <= n) (h1 : n <= m) (h2 : m <= 1114111) : Rgt ⟨5, n, a, e, ⟨#[]⟩, m, 0, 0, 0⟩ := by
 have em : ((⟨#[]⟩ : ByteArray).toList == []) = true := by rw [ByteArray.toList_eq]; rfl
 refine ⟨?_, ⟨by show n < _; omega, by show 0 <= m; omega, by show m < _; omega, by show (0 : Int) <= 0 /\ (0 : Int) < _; omega, by show (0 : Int) <= 0 /\ (0 : Int) < _; omega, by show (0 : Int) <= 0 /\ (0 : Int) < _; omega⟩⟩
 unfold riF txF nbF seF
 simp []
 omega
theorem zly {s : ByteArray} {a : Nat} (h : (ptP s a).2.2 = true) : 0 <= (ptP s a).1 /\ (ptP s a).1 <= 1114111 := by
 unfold ptP at h ⊢
 split at h
 ·cases h
 ·next q =>
  rw [if_neg q]
  obtain ⟨_, _, _, h7⟩ := zbd hxB s (by decide) _ a rfl
  exact ⟨ziq _ _ _ (by omega) _ (fun j hj => hx_hex (h7 (a + j) (by omega) (by omega))), of_decide_eq_true h⟩
theorem znh {s : ByteArray} {b : Nat} {t : Tk} (h : zb2 s b = .inl t) : Rgt t := by
 unfold zb2 at h
 split at h
 ·cases h
 next q1 =>
 have p1 := zly (s := s) (a := b + 3) (by simpa using q1)
 split at h
 ·split at h
  ·cases h
  next q2 =>
  have p2 := zly (s := s) (a := (ptP s (b + 3)).2.1 + 1) (by
   by_cases q : (ptP s ((ptP s (b + 3)).2.1 + 1)).2.2 = false
   ·exact absurd (.inl q) q2
   ·simpa using q)
  split at h
  ·cases h; exact znY p1.1 (by omega) p2.2
  ·cases h
 ·split at h
  ·cases h; exact znY p1.1 (Int.le_refl _) p1.2
  ·cases h
theorem zni {s : ByteArray} {b : Nat} {t : Tk} (_hb : b < s.size) (h : zaE s b = .inl t) : Rgt t := by
 unfold zaE at h
 split at h
 ·next hh =>
  unfold zca at h
  split at h
  ·cases h
  ·next hl => cases h; exact Rgt.plain (zpX (znW hh hl)) (by omega)
 split at h
 ·exact zlv (.inl rfl) h
 split at h
 ·exact zlw _ _ _ _ _ _ _ h
 split at h
 ·cases hr : zam s b with
  | inr p =>
   rw [hr, clT] at h
   split at h <;> cases h
  | inl p =>
   rw [hr] at h
   cases h
   have em : ((⟨#[]⟩ : ByteArray).toList == []) = true := by rw [ByteArray.toList_eq]; rfl
   refine ⟨?_, ⟨by show (0 : Int) < _; omega, (zdi _ _).1, (zdi _ _).2, zdi _ _, zdi _ _, zdi _ _⟩⟩
   unfold riF txF nbF seF gtK
   simp []
 split at h
 ·unfold zcy at h
  split at h
  ·exact znh h
  split at h
  ·exact zir h
  split at h
  ·next q =>
   cases h
   obtain ⟨q1, q2⟩ := q
   refine ⟨?_, ⟨by show (0 : Int) < _; omega, (zdi _ _).1, (zdi _ _).2, zdi _ _, zdi _ _, zdi _ _⟩⟩
   have hsz : (s.extract (b + 1) (b + 2)).size = 1 := by rw [ByteArray.size_extract]; omega
   have hc : chr (s.extract (b + 1) (b + 2)) 0 = chr s (b + 1) := by rw [zew (by omega) (by omega)]
   unfold riF txF nbF seF gtK
   dsimp only
   rw [hc, hsz, q2]
   simp
  ·cases h
 ·exact zir h
theorem zpY (s : ByteArray) : ∀ (l : List Tk) (i : Nat), Chn s i l -> ∀ t ∈ l, Rgt t := by
 intro l
 induction l with
 | nil => intro i _ t ht; cases ht
 | cons a l ih =>
  intro i h t ht
  obtain ⟨h1, h2, e, _, _, _, h3⟩ := h
  rcases List.mem_cons.1 ht with rfl | h4
  ·exact zni h1 h2
  ·exact ih e h3 t h4
theorem zdr {s : ByteArray} {l : List Tk} (h : zbn (zaE s) s = .inl l) : ∀ t ∈ l, Rgt t := zpY s l 0 (zla h).2
theorem zlz (s : ByteArray) (q : Int) (b : Nat) (hb : b <= s.size) : ∀ (f : Nat) (out : List Int) (i : Nat) (p : Nat × Int), zbs s q b f out i = .inr p -> p.1 <= s.size := by
 intro f
 induction f with
 | zero => intro out i p h; rw [zbs] at h; cases h; exact hb
 | succ f ih =>
  intro out i p h
  rw [zbs] at h
  split at h
  ·cases h; exact hb
  next hc =>
  have hi : i < s.size := zau (by omega)
  split at h
  ·split at h
   ·cases h; exact hb
   ·cases h
  split at h
  ·cases h; exact Nat.le_of_lt hi
  split at h
  ·exact ih _ _ _ h
  ·split at h
   ·cases h; exact Nat.le_of_lt hi
   ·exact ih _ _ _ h
theorem zlA {s : ByteArray} {b d : Nat} {k : Int} {p : Nat × Int} (hb : b <= s.size) (h : nmR s b d k = .inr p) : p.1 <= s.size := by
 unfold nmR at h
 cases hn : zbx s d (gtK k) with
 | inr e => rw [hn] at h; cases h; exact hb
 | inl n => rw [hn] at h; cases h
theorem zis {s : ByteArray} {b : Nat} {p : Nat × Int} (hb : b <= s.size) (h : zbr s b = .inr p) : p.1 <= s.size := by
 have hl := zbL s b hb
 unfold zbr at h
 split at h
 ·cases h; exact hb
 split at h
 ·exact zlA hb h
 split at h
 ·unfold zcv at h
  split at h
  ·split at h
   ·cases h; exact hl
   ·split at h <;> cases h
  ·cases h
 ·cases h
theorem znj {s : ByteArray} {b : Nat} {p : Nat × Int} (hb : b <= s.size) (h : zb2 s b = .inr p) : p.1 <= s.size := by
 unfold zb2 at h
 split at h
 ·cases h; exact hb
 split at h
 ·split at h
  ·cases h; exact hb
  split at h
  ·cases h
  ·cases h; exact hb
 ·split at h
  ·cases h
  ·cases h; exact hb
theorem znk {s : ByteArray} {b : Nat} {p : Nat × Int} (hb : b <= s.size) (h : zaE s b = .inr p) : p.1 <= s.size := by
 unfold zaE at h
 split at h
 ·unfold zca at h
  split at h
  ·cases h; exact hb
  ·cases h
 split at h
 ·exact zlA hb h
 split at h
 ·exact zlz _ _ _ hb _ _ _ _ h
 split at h
 ·cases hr : zam s b with
  | inl q => rw [hr] at h; cases h
  | inr q =>
   rw [hr, clT] at h
   split at h
   ·cases h; exact hb
   ·cases h; exact zk6 hr
 split at h
 ·unfold zcy at h
  split at h
  ·exact znj hb h
  split at h
  ·exact zis hb h
  split at h
  ·cases h
  ·cases h; exact hb
 ·exact zis hb h
theorem zlB (s : ByteArray) : ∀ (f : Nat) (out : List Tk) (i : Nat) (p : Nat × Int), zbB (zaE s) s f out i = .inr p -> p.1 <= s.size /\ p.2 ≠ 0 := by
 intro f
 induction f with
 | zero => intro out i p h; rw [zbB] at h; cases h
 | succ f ih =>
  intro out i p h
  rw [zbB] at h
  split at h
  ·next hi =>
   cases ho : zaE s i with
   | inr q => rw [ho] at h; cases h; exact ⟨znk (Nat.le_of_lt hi) ho, zhp s i _ ho⟩
   | inl t => rw [ho] at h; exact ih _ _ _ h
  ·cases h
theorem zhC {s : ByteArray} {p : Nat × Int} (h : zbn (zaE s) s = .inr p) : p.1 <= s.size /\ p.2 ≠ 0 := by
 unfold zbn at h
 split at h
 ·cases h; exact ⟨Nat.zero_le _, by decide⟩
 ·exact zlB s _ _ _ _ h
theorem zpZ (L : List Tk) : ((txR L).2 = 0 /\ txR L = (txO (jT L L.length), 0) /\ (ckR L).2 = 0 /\ (jT L L.length).length <= 65536) ∨ (¬ (txR L).2 = 0 /\ (txR L).1 = ⟨#[]⟩) := by
 by_cases hc : (ckR L).2 = 0
 ·by_cases hl : 65536 < (jT L L.length).length
  ·rw [zgd hc (Nat.le_refl _) hl]
   exact .inr ⟨by decide, rfl⟩
  ·have h := znU hc hl
   exact .inl ⟨by rw [h], h, hc, by omega⟩
 ·rw [zls hc]
  exact .inr ⟨hc, rfl⟩
theorem zp0 (s : ByteArray) : ∀ (l : List Tk) (i : Nat), i <= s.size -> Chn s i l -> i + l.length <= s.size := by
 intro l
 induction l with
 | nil => intro i hi _; simpa using hi
 | cons a l ih =>
  intro i hi h
  obtain ⟨h1, _, e, _, h3, h4, h5⟩ := h
  have h6 := ih e h4 h5
  have h7 := zga s i hi
  rw [List.length_cons]
  omega
theorem zeY {s : ByteArray} {l : List Tk} (h : zbn (zaE s) s = .inl l) : l.length <= 65536 := by
 obtain ⟨h1, h2⟩ := zla h
 have := zp0 s l 0 (by omega) h2
 omega
end Go.Proofs.YtkihfkcmcdiajaaGreatDoor
namespace Go.Proofs.YtkihfkcmcdiajaaGreatDoor.N
open Go.RowKit
structure GW (W : World) : Prop where
 s : SG W
 v : R.VB W
theorem GW.later {W W' : World} (h : GW W) (hb : Below W.heap.size W W') : GW W' := ⟨h.s.later hb, h.v.below hb h.v.lt⟩
theorem zit {s : ByteArray} {l : List Tk} (h : zbn (zaE s) s = .inl l) : OkE (mkE l) := by
 have hr := zdr h
 refine ⟨zeY h, rfl, rfl, fun t ht hk => ?_, fun t ht => ?_, fun t ht hk => ?_⟩
 ·have h1 := (hr t ht).r
  have h2 := (hr t ht).b
  unfold riF nbF seF at h1
  rw [if_pos hk, if_neg (by omega), if_neg (by omega), if_pos hk] at h1
  simp only [Bool.and_eq_true, decide_eq_true_eq] at h1
  omega
 ·have h1 := (hr t ht).r
  unfold riF txF at h1
  simp only [Bool.and_eq_true, decide_eq_true_eq] at h1
  have h2 := h1.1.1.2
  have emp : ∀ {x : ByteArray}, (x.toList == []) = true -> x.size <= 65536 := fun {x} hx => by
   rw [beq_iff_eq, ByteArray.toList_eq] at hx
   have : x.data.toList.length = 0 := by rw [hx]; rfl
   have h3 : x.size = x.data.toList.length := by simp
   omega
  split at h2
  ·have := zdJ h2; omega
  ·split at h2
   ·rw [Bool.or_eq_true] at h2
    rcases h2 with h2 | h2
    ·exact emp h2
    ·have := zdJ h2; omega
   ·split at h2
    ·have := of_decide_eq_true h2; omega
    ·split at h2
     ·have := beq_iff_eq.1 h2; omega
     ·exact emp h2
 ·have h1 := (hr t ht).r
  unfold riF nbF at h1
  rw [if_neg (by omega)] at h1
  simp only [Bool.and_eq_true, decide_eq_true_eq] at h1
  have h2 := h1.1.2
  rcases hk with hk | hk | hk <;> rw [hk] at h2 <;> (have h3 : t.nn <= 0 := h2.2; omega)
theorem zed (s : ByteArray) (w : World) (hg : GW w) (q : Nat × Int) (hq : zbn (zaE s) s = .inr q) (hne : ¬ q.2 = 0) : Calls Tryz.prog 22 #[.string s] w fun e w' => e = pnc q.1 q.2 /\ Below w.heap.size w w' := by
 have HL : Hid (∀ _ : Unit, Calls Tryz.prog 44 #[.string s] w fun e w' => e = .returned (.tuple #[.slice none 0 0, .agg #[.int .i64 q.1, .int .i64 q.2]]) /\ Below w.heap.size w w') := fun _ => by
  have := zh5 s w hg.s
  rw [hq] at this
  exact this
 have HU : Hid (∀ a c W, Calls Tryz.prog 45 #[.int .i64 a, .int .i64 c] W fun e W' => e = pnc a c /\ W' = W) := fun a c W => zc7 a c W
 have t1 : (q.2 != 0) = true := by simpa using hne
 clear hg hq hne
 go_enter Tryz.func22, Tryz.ntmps22
 go_wp2_with fail
 refine (HL.out ()).mono ?_
 rintro e w1 ⟨rfl, hb⟩
 have HB : Hid (Below w.heap.size w w1) := hb
 clear hb HL
 go_wp2_with fail
 refine (HU.out _ _ _).mono ?_
 rintro e w2 ⟨rfl, rfl⟩
 exact zaf rfl ⟨rfl, HB.out.alloc HB.out.size _⟩
theorem zc1 (s : ByteArray) (w : World) (hg : GW w) (l : List Tk) (hl : zbn (zaE s) s = .inl l) : Calls Tryz.prog 22 #[.string s] w fun e w' => ∃ b tv, e = .returned (.pointer (some ⟨b, 0, none⟩)) /\ RS (mkE l) s.size w w' b tv 0 0 (.slice none 0 0) [] := by
 have hlen := zeY hl
 obtain ⟨i0, hinf, hz0, hz1, hz2⟩ := info_parts Tryz.info36
 have HL : Hid (∀ _ : Unit, Calls Tryz.prog 44 #[.string s] w fun e w' => (∃ v, e = .returned (.tuple #[v, .agg #[.int .i64 0, .int .i64 0]]) /\ w'.ownsRow w.heap.size 79 9 v l.length (tkc l)) /\ Below w.heap.size w w') := fun _ => by
  have := zh5 s w hg.s
  rw [hl] at this
  exact this
 have HTk : Hid (zhO (mkE l) s.size = l ++ [enT s.size]) := rfl
 clear hg hl
 go_enter Tryz.func22, Tryz.ntmps22
 go_wp2_with fail
 refine (HL.out ()).mono ?_
 rintro e w1 ⟨⟨v, rfl, ho⟩, hb⟩
 have HB : Hid (Below w.heap.size w w1) := hb
 clear hb HL
 have hO2 := ho.alloc (.cells #[.int .i64 0, .int .i64 0] 27)
 have hs1 := HB.out.size
 go_wp2_with (at_builtin; refine wpList_append_lies _ rfl _ _ 42 rfl w.heap.size 79 i0 (tkG tk0) 9 80 Tryz.underlying42 hinf hz0 hz1 hz2 rfl (by decide) _ _ _ rfl (hO2.alloc _) ⟨w1.heap.size + 1, 0, none⟩ 1 1 (tkV (enT s.size)) rfl rfl ?c1 (zjN _) (by decide) ?c3 ?c4 ?c5 (w1.heap.size + 1 + 1) (by simp) ?_)
 case c1 =>
  have hh := heap_alloc_new (w1.alloc (.cells #[.int .i64 0, .int .i64 0] 27)) (.cells (tkC (enT s.size)) 79)
  rw [World.size_alloc] at hh
  exact World.news_of_block (cs := tkC (enT s.size)) (t := 79) (fr := (0, 0)) hh
 case c3 => unfold maxLen; omega
 case c4 => omega
 case c5 => rw [World.size_alloc, World.size_alloc]; omega
 intro g cap w4 hown hgrow hat hlt4
 have hbl : Below w.heap.size w w4 := ((HB.out.alloc hs1 _).alloc (by rw [World.size_alloc]; omega) _).grown hgrow (by rw [World.size_alloc, World.size_alloc]; omega) (fun k e => (ho.lt k e).1)
 have HR := (show Hid (∃ b tv, w4.heap.size = b /\ Value.slice (some ⟨g, 0, none⟩) (l.length + 1) cap = tv /\ RS (mkE l) s.size w (w4.alloc (.cells #[.slice (some ⟨g, 0, none⟩) (l.length + 1) cap, .int .i64 0, .int .i64 0, .slice none 0 0] 97)) b tv 0 0 (.slice none 0 0) []) from
  ⟨_, _, rfl, rfl, ⟨hbl.alloc hbl.size _, hbl.size, ⟨heap_alloc_new w4 _⟩, by
   have h1 := hown.alloc (.cells #[.slice (some ⟨g, 0, none⟩) (l.length + 1) cap, .int .i64 0, .int .i64 0, .slice none 0 0] 97)
   rw [HTk.out, List.length_append, List.length_singleton, zdY, zgZ]
   exact h1, World.ownsRow_nil _ _ _ _, Nat.zero_le _, Nat.zero_le _⟩⟩)
 clear hown hgrow hat hlt4 hbl ho hO2
 go_wp2_with fail
 go_ret
 obtain ⟨b, tv, h1, h2, h3⟩ := HR.out
 exact ⟨b, tv, by rw [<- h1]; rfl, h3⟩
theorem zlC {E : PE} (hE : OkE E) {z : Nat} {w0 : World} (hv : R.VB w0) {b : Nat} {tv : Value} {i : Nat} {W : World} {v : Value} {L : List Nd} (h : RS E z w0 W b tv i 0 v L) (q : Nat × Int) (hq : exN E i = .inr q) : Calls Tryz.prog 49 #[.pointer (some ⟨b, 0, none⟩)] W fun e W' => e = pnc (plA E z q.1) q.2 /\ Below w0.heap.size w0 W' := by
 have hi := h.hi
 have H1 : Hid (RS E z w0 (W.setCell ⟨b, 3, none⟩ (.slice none 0 0)) b tv i 0 (.slice none 0 0) []) := h.s3 (World.ownsRow_nil _ _ _ _)
 have HX : Hid (∀ W, RS E z w0 W b tv i 0 (.slice none 0 0) [] -> Calls Tryz.prog 81 #[.pointer (some ⟨b, 0, none⟩)] W fun e W' => e = pnc (plA E z q.1) q.2 /\ Below w0.heap.size w0 W') := fun W h => by
  have := zkk hE hv (z := z) (b := b) (tv := tv) (d := 0) hi W _ _ h (Nat.zero_le _)
  rw [gN_ex, hq] at this
  exact this
 obtain ⟨k0, k1, k2, k3⟩ := h.x.cl
 have f3 := h.x.fz 3
 clear h hE hv hq
 go_enter Tryz.func49, Tryz.ntmps49
 go_wp2_with fail
 refine (HX.out _ H1.out).mono ?_
 rintro e w1 ⟨rfl, hb⟩
 exact zaf rfl ⟨rfl, hb⟩
theorem zhD {E : PE} (hE : OkE E) {z : Nat} {w0 : World} (hv : R.VB w0) {b : Nat} {tv : Value} {i : Nat} {W : World} {v : Value} {L : List Nd} (h : RS E z w0 W b tv i 0 v L) (a : Nat) (ns : List Nd) (hq : exN E i = .inl (a, ns)) : Calls Tryz.prog 49 #[.pointer (some ⟨b, 0, none⟩)] W fun e W' => ∃ v', e = .returned v' /\ RS E z w0 W' b tv a 0 v' ns /\ Fr W W' b (.slice none 0 0) v' := by
 have hi := h.hi
 have H1 : Hid (RS E z w0 (W.setCell ⟨b, 3, none⟩ (.slice none 0 0)) b tv i 0 (.slice none 0 0) []) := h.s3 (World.ownsRow_nil _ _ _ _)
 have HF1 : Hid (Fr W (W.setCell ⟨b, 3, none⟩ (.slice none 0 0)) b (.slice none 0 0) (.slice none 0 0)) := Fr.set _ _ _ _ _
 have HX : Hid (∀ W, RS E z w0 W b tv i 0 (.slice none 0 0) [] -> Calls Tryz.prog 81 #[.pointer (some ⟨b, 0, none⟩)] W fun e W' => e = .returned (.tuple #[]) /\ ∃ v', RS E z w0 W' b tv a 0 v' ns /\ Fr W W' b (.slice none 0 0) v') := fun W h => by
  have := zkk hE hv (z := z) (b := b) (tv := tv) (d := 0) hi W _ _ h (Nat.zero_le _)
  rw [gN_ex, hq] at this
  exact this
 obtain ⟨k0, k1, k2, k3⟩ := h.x.cl
 have f3 := h.x.fz 3
 clear h hE hv hq
 go_enter Tryz.func49, Tryz.ntmps49
 go_wp2_with fail
 refine (HX.out _ H1.out).mono ?_
 rintro e w1 ⟨rfl, v1, h1, hf1⟩
 have H2 := hO h1
 have HF2 : Hid (Fr W w1 b (.slice none 0 0) v1) := HF1.out.trans hf1
 clear h1 hf1 H1 HF1 HX k0 k1 k2 k3 f3
 obtain ⟨k0, k1, k2, k3⟩ := H2.out.x.cl
 go_wp2_with fail
 go_ret
 exact ⟨v1, rfl, H2.out, HF2.out⟩
end Go.Proofs.YtkihfkcmcdiajaaGreatDoor.N
namespace Go.Proofs.YtkihfkcmcdiajaaGreatDoor
open Go.ChangeShapes Go.WideShapes Go.ChangeAt Go.RowKit
theorem own : ownKnob Tryz.prog.godebug = none := by kernel_rfl
theorem gTab : Tryz.prog.globalNamed "harrow/token.signs" = some 0 := by kernel_rfl
theorem gTabType : (Tryz.prog.globals[0]?).map (·.type) = some 161 := by kernel_rfl
theorem gBlk : Tryz.prog.globalNamed "harrow/runes.blocks" = some 2 := by kernel_rfl
theorem gBlkType : (Tryz.prog.globals[2]?).map (·.type) = some 187 := by kernel_rfl
theorem Tryz.cells150 : Tryz.prog.cellsOf 150 = 2 := by kernel_rfl
theorem Tryz.cellsInt : Tryz.prog.cellsOf 3 = 1 := by kernel_rfl
theorem Tryz.cellsStr : Tryz.prog.cellsOf 9 = 1 := by kernel_rfl
theorem Tryz.cells187 : Tryz.prog.cellsOf 187 = 10 := by kernel_rfl
theorem Tryz.cells186 : Tryz.prog.cellsOf 186 = 2 := by kernel_rfl
theorem Tryz.cells21 : Tryz.prog.cellsOf 21 = 1 := by kernel_rfl
theorem znl {H : Type} {enc : TypeId × Value -> H} {W : World} {base fuel : Nat} {sp : Nat -> Bool} {held : Bool} {cs : List Value} {z : DataW H × List MemPlace}
  (h : DataW.trod enc Tryz.prog W base sp held fuel 150 cs = some z) : ∃ a s, cs = [.int .i64 a, .string s] /\ z.1 = .agg [.lit (.int .i64 a), .lit (.string s.data.toList)] := by
 obtain ⟨y0, y1, n, rfl, hl, h0, h1⟩ := trod_struct2 Tryz.underlying150 h
 rw [Tryz.cells150] at hl
 match cs, hl with
 | [c0, c1], _ =>
  dsimp only at h0 h1
  rw [Tryz.cellsInt] at h0
  rw [Tryz.cellsStr] at h1
  obtain ⟨a, e0, e0', _⟩ := DataW.trod_int Tryz.underlying3 h0
  obtain ⟨b, e1, e1', _⟩ := DataW.trod_string Tryz.underlying9 h1
  have e0 : [c0] = [Value.int .i64 a] := e0
  have e1 : [c1] = [Value.string b] := e1
  cases e0
  cases e1
  exact ⟨a, b, rfl, by rw [e0', e1']⟩
theorem znm {H : Type} : (Rows.laid_harrow_token_signs : DataW H) = .agg (sgTab.map fun p => .agg [.lit (.int .i64 p.1), .lit (.string p.2)]) := rfl
theorem zp1 : ∀ (i : Nat) v, tabL[i]? = some v -> ∃ j p, sgTab[j]? = some p /\ ((i = 2 * j /\ v = .int .i64 p.1) ∨ (i = 2 * j + 1 /\ v = .string ⟨p.2.toArray⟩)) := by
 have key : ∀ (l : List (Int × List UInt8)) (i : Nat) (v : Value), (l.flatMap fun p => [Value.int .i64 p.1, .string ⟨p.2.toArray⟩])[i]? = some v -> ∃ j p, l[j]? = some p /\ ((i = 2 * j /\ v = .int .i64 p.1) ∨ (i = 2 * j + 1 /\ v = .string ⟨p.2.toArray⟩)) := by
  intro l
  induction l with
  | nil => intro i v h; simp at h
  | cons p l ih =>
   intro i v h
   rw [List.flatMap_cons] at h
   match i, h with
   | 0, h => exact ⟨0, p, rfl, .inl ⟨rfl, by simpa using h.symm⟩⟩
   | 1, h => exact ⟨0, p, rfl, .inr ⟨rfl, by simpa using h.symm⟩⟩
   | i + 2, h =>
    obtain ⟨j, q, h1, h2⟩ := ih i v (by simpa using h)
    exact ⟨j + 1, q, by simpa using h1, by
     rcases h2 with ⟨x, y⟩ | ⟨x, y⟩
     ·exact .inl ⟨by omega, y⟩
     ·exact .inr ⟨by omega, y⟩⟩
 exact key sgTab
theorem zjb {W : World} {ps : List MemPlace} (h : DataW.LaidVars Tryz.prog W [("harrow/token.signs", Rows.laid_harrow_token_signs)] ps) : SG W := by
 obtain ⟨g', t', cs, fuel, p, q, hg', ht', hvar, hd, _, _⟩ := h
 obtain rfl := Option.some.inj (gTab.symm.trans hg')
 obtain rfl := Option.some.inj (gTabType.symm.trans ht')
 obtain ⟨xs, m, rfl, hx, hl, hn, hel⟩ := DataW.trod_array Tryz.underlying161 hd
 have hx1 := congrArg Prod.fst hx
 dsimp only at hx1
 rw [znm] at hx1
 injection hx1 with hx1
 rw [Tryz.cells150] at hel
 have hcell := World.var?_cell gTab hvar
 have key : ∀ j p, sgTab[j]? = some p -> W.cell? ⟨0, 2 * j, none⟩ = some (.int .i64 p.1) /\ W.cell? ⟨0, 2 * j + 1, none⟩ = some (.string ⟨p.2.toArray⟩) := fun j p hp => by
  have hj : j < 24 := (List.getElem?_eq_some_iff.1 hp).1
  have k0 := hel j hj
  obtain ⟨x, hxj⟩ : ∃ x, xs[j]? = some x := ⟨_, List.getElem?_eq_getElem (by omega)⟩
  rw [hxj] at k0
  obtain ⟨a, s, e1, e2⟩ := znl k0
  have h3 : (xs.map (·.1))[j]? = some x.1 := by rw [List.getElem?_map, hxj]; rfl
  rw [<- hx1, List.getElem?_map, hp] at h3
  have h3 : DataW.agg [.lit (.int .i64 p.1), .lit (.string p.2)] = x.1 := Option.some.inj h3
  rw [e2] at h3
  injection h3 with h3
  injection h3 with h4 h5
  injection h5 with h5 _
  injection h4 with h4
  injection h4 with h4 h4
  injection h5 with h5
  injection h5 with h5
  have hs : s = ⟨p.2.toArray⟩ := by rw [h5]
  have c0 : cs.toList[2 * j]? = some (.int .i64 p.1) := by
   have := congrArg (fun l => l[0]?) e1
   simp only [List.getElem?_take, List.getElem?_drop, List.getElem?_cons_zero] at this
   rw [if_pos (by omega), show j * 2 + 0 = 2 * j from by omega, <- h4] at this
   exact this
  have c1 : cs.toList[2 * j + 1]? = some (.string ⟨p.2.toArray⟩) := by
   have := congrArg (fun l => l[1]?) e1
   simp only [List.getElem?_take, List.getElem?_drop, List.getElem?_cons_succ, List.getElem?_cons_zero] at this
   rw [if_pos (by omega), show j * 2 + 1 = 2 * j + 1 from by omega, hs] at this
   exact this
  exact ⟨(hcell (2 * j)).trans (by simpa using c0), (hcell (2 * j + 1)).trans (by simpa using c1)⟩
 refine ⟨World.block_lt_of_cell? W _ (key 0 _ rfl).1, fun i v hv => ?_⟩
 obtain ⟨j, p, hp, hor⟩ := zp1 i v hv
 obtain ⟨h1, h2⟩ := key j p hp
 rw [Nat.zero_add]
 rcases hor with ⟨rfl, rfl⟩ | ⟨rfl, rfl⟩
 ·exact h1
 ·exact h2
theorem zlD {P : Program} {W : World} {x : String × DataW Unit} {r : List (String × DataW Unit)} {ps : List MemPlace} (h : DataW.LaidVars P W (x :: r) ps) : ∃ q, DataW.LaidVars P W r q := by
 obtain ⟨_, _, _, _, _, q, _, _, _, _, hq, _⟩ := h
 exact ⟨q, hq⟩
theorem zc2 {H : Type} {enc : TypeId × Value -> H} {W : World} {base fuel : Nat} {sp : Nat -> Bool} {held : Bool} {c0 c1 : Value} {z : DataW H × List MemPlace}
  (h : DataW.trod enc Tryz.prog W base sp held fuel 186 [c0, c1] = some z) : ∃ a b, c0 = .int .i32 a /\ c1 = .int .i32 b /\ z.1 = .agg [.lit (.int .i32 a), .lit (.int .i32 b)] := by
 obtain ⟨y0, y1, n, rfl, _, h0, h1⟩ := trod_struct2 Tryz.underlying186 h
 dsimp only at h0 h1
 rw [Tryz.cells21] at h0 h1
 obtain ⟨a, e0, e0', _⟩ := DataW.trod_int Tryz.underlying21 h0
 obtain ⟨b, e1, e1', _⟩ := DataW.trod_int Tryz.underlying21 h1
 have e0 : [c0] = [Value.int .i32 a] := e0
 have e1 : [c1] = [Value.int .i32 b] := e1
 cases e0
 cases e1
 exact ⟨a, b, rfl, rfl, by rw [e0', e1']⟩
theorem zjc {W : World} {rest : List (String × DataW Unit)} {ps : List MemPlace} (h : DataW.LaidVars Tryz.prog W (("harrow/runes.blocks", Rows.laid_harrow_runes_blocks) :: rest) ps) : R.VB W := by
 obtain ⟨g', t', cs, fuel, p, q, hg', ht', hvar, hd, _, _⟩ := h
 obtain rfl := Option.some.inj (gBlk.symm.trans hg')
 obtain rfl := Option.some.inj (gBlkType.symm.trans ht')
 obtain ⟨xs, m, rfl, hx, hl, hn, hel⟩ := DataW.trod_array Tryz.underlying187 hd
 have hx1 := congrArg Prod.fst hx
 dsimp only at hx1
 rw [Tryz.cells187] at hl
 have hcell := World.var?_cell gBlk hvar
 obtain ⟨l⟩ := cs
 match l, hl with
 | [a0, a1, a2, a3, a4, a5, a6, a7, a8, a9], _ =>
  match xs, hn with
  | [x0, x1, x2, x3, x4], _ =>
   have k0 := hel 0 (by omega)
   have k1 := hel 1 (by omega)
   have k2 := hel 2 (by omega)
   have k3 := hel 3 (by omega)
   have k4 := hel 4 (by omega)
   rw [Tryz.cells186] at k0 k1 k2 k3 k4
   obtain ⟨p0, q0, rfl, rfl, r0⟩ := zc2 (show DataW.trod _ Tryz.prog _ _ _ _ m 186 [a0, a1] = some x0 from k0)
   obtain ⟨p1, q1, rfl, rfl, r1⟩ := zc2 (show DataW.trod _ Tryz.prog _ _ _ _ m 186 [a2, a3] = some x1 from k1)
   obtain ⟨p2, q2, rfl, rfl, r2⟩ := zc2 (show DataW.trod _ Tryz.prog _ _ _ _ m 186 [a4, a5] = some x2 from k2)
   obtain ⟨p3, q3, rfl, rfl, r3⟩ := zc2 (show DataW.trod _ Tryz.prog _ _ _ _ m 186 [a6, a7] = some x3 from k3)
   obtain ⟨p4, q4, rfl, rfl, r4⟩ := zc2 (show DataW.trod _ Tryz.prog _ _ _ _ m 186 [a8, a9] = some x4 from k4)
   simp only [Rows.laid_harrow_runes_blocks, List.map_cons, List.map_nil, r0, r1, r2, r3, r4, DataW.agg.injEq, List.cons.injEq, DataW.lit.injEq, Lit.int.injEq, and_true, true_and] at hx1
   obtain ⟨⟨e0, e1⟩, ⟨e2, e3⟩, ⟨e4, e5⟩, ⟨e6, e7⟩, e8, e9⟩ := hx1
   subst e0 e1 e2 e3 e4 e5 e6 e7 e8 e9
   have c0 := hcell 0
   exact ⟨World.block_lt_of_cell? W _ c0, c0, hcell 1, hcell 2, hcell 3, hcell 4, hcell 5, hcell 6, hcell 7, hcell 8, hcell 9⟩
abbrev laidL : List (String × DataW Unit) := [("harrow/runes.blocks", Rows.laid_harrow_runes_blocks), ("harrow/token.signs", Rows.laid_harrow_token_signs)]
theorem zjd {W : World} (h : laidMetH Tryz.prog laidL W) : N.GW W := by
 have h : laidMet Tryz.prog laidL W := h
 obtain ⟨ps, h1, _⟩ := h
 obtain ⟨q2, h2⟩ := zlD h1
 exact ⟨zjb h2, zjc h1⟩
def layAt (k : Nat) (cs : Array Value) (w : World) : World := { w with heap := w.heap.modify k fun
   | .cells _ t frozen => .cells cs t frozen
   | o => o }
def zlE (w : World) : World := layAt 2 #[.int .i32 0, .int .i32 127, .int .i32 128, .int .i32 2047, .int .i32 2048, .int .i32 55295, .int .i32 57344, .int .i32 65535, .int .i32 65536, .int .i32 1114111] (layAt 0 #[.int .i64 29, .string ⟨#[37, 101]⟩, .int .i64 30, .string ⟨#[37, 102]⟩, .int .i64 14, .string ⟨#[94, 43]⟩, .int .i64 15, .string ⟨#[94, 45]⟩, .int .i64 13, .string ⟨#[94]⟩, .int .i64 6, .string ⟨#[60, 45]⟩, .int .i64 27, .string ⟨#[45, 62]⟩, .int .i64 7, .string ⟨#[47]⟩, .int .i64 8, .string ⟨#[38]⟩, .int .i64 9, .string ⟨#[33]⟩, .int .i64 10, .string ⟨#[63]⟩, .int .i64 11, .string ⟨#[42]⟩, .int .i64 12, .string ⟨#[43]⟩, .int .i64 16, .string ⟨#[40]⟩, .int .i64 17, .string ⟨#[41]⟩, .int .i64 18, .string ⟨#[46]⟩, .int .i64 21, .string ⟨#[123, 58]⟩, .int .i64 22, .string ⟨#[58, 125]⟩, .int .i64 23, .string ⟨#[123, 124]⟩, .int .i64 24, .string ⟨#[124, 125]⟩, .int .i64 25, .string ⟨#[123, 126]⟩, .int .i64 26, .string ⟨#[126, 125]⟩, .int .i64 19, .string ⟨#[123]⟩, .int .i64 20, .string ⟨#[125]⟩] w)
end Go.Proofs.YtkihfkcmcdiajaaGreatDoor
namespace Go.Proofs.YtkihfkcmcdiajaaGreatDoor.N
open Go.RowKit
structure PX (W : World) (k : Nat) (a b c : Value) : Prop where
 heap : W.heap[k]? = some (.cells #[a, b, c] 62 (0, 0))
theorem PX.lt {W : World} {k : Nat} {a b c : Value} (h : PX W k a b c) : k < W.heap.size := (Array.getElem?_eq_some_iff.1 h.heap).1
theorem PX.same {W W' : World} {k : Nat} {a b c : Value} (h : PX W k a b c) (hb : W'.heap[k]? = W.heap[k]?) : PX W' k a b c := ⟨hb.trans h.heap⟩
theorem PX.cl {W : World} {k : Nat} {a b c : Value} (h : PX W k a b c) : W.cell? ⟨k, 0, none⟩ = some a /\ W.cell? ⟨k, 1, none⟩ = some b /\ W.cell? ⟨k, 2, none⟩ = some c := by
 have key : ∀ (j : Nat) u, (#[a, b, c] : Array Value)[j]? = some u -> W.cell? ⟨k, j, none⟩ = some u := fun j u hu => by
  rw [cell_of_row W k j _ 62 (0, 0) h.heap]; exact hu
 exact ⟨key 0 _ rfl, key 1 _ rfl, key 2 _ rfl⟩
theorem PX.fz {W : World} {k : Nat} {a b c : Value} (h : PX W k a b c) (j : Nat) : W.frozen? ⟨k, j, none⟩ = false := frozen_of_row W k j _ 62 h.heap
abbrev st3 (W : World) (k : Nat) (a b c : Value) : World := ((W.setCell ⟨k, 0, none⟩ a).setCell ⟨k, 1, none⟩ b).setCell ⟨k, 2, none⟩ c
theorem znZ {W : World} {k : Nat} {a0 b0 c0 : Value} (h : PX W k a0 b0 c0) (a b c : Value) : PX (st3 W k a b c) k a b c := by
 have h0 := heap_setCell_same _ k 0 _ 62 a h.heap
 have h1 := heap_setCell_same _ k 1 _ 62 b h0
 have h2 := heap_setCell_same _ k 2 _ 62 c h1
 refine ⟨?_⟩
 rw [h2]
 simp
theorem zdL {W : World} {k j : Nat} (a b c : Value) (h : j ≠ k) : (st3 W k a b c).heap[j]? = W.heap[j]? :=
 (Below.heap_setCell _ _ _ _ h).trans ((Below.heap_setCell _ _ _ _ h).trans (Below.heap_setCell _ _ _ _ h))
theorem zlF {B : Nat} {w W : World} {k : Nat} (h : Below B w W) (hk : B <= k) (a b c : Value) : Below B w (st3 W k a b c) := ((h.setCell (p := ⟨k, 0, none⟩) hk _).setCell (p := ⟨k, 1, none⟩) hk _).setCell (p := ⟨k, 2, none⟩) hk _
theorem PX.ne {W : World} {k B e s n : Nat} {u a b c : Value} {xs : List Value} (h : PX W k a b c) (ho : W.ownsRow B e s u n xs) (he : e ≠ 62) {j : Nat} (hj : u.ownBlock = some j) : j ≠ k := fun q => by
 subst q
 obtain ⟨cs, hc⟩ := zfm ho hj
 rw [h.heap] at hc
 injection hc with h4
 injection h4 with _ h5
 exact he h5.symm
theorem PX.neb {W : World} {k b : Nat} {tv v x y u : Value} {i d : Nat} (h : PX W k x y u) (hx : RX W b tv i d v) : b ≠ k := fun q => by
 subst q
 have := hx.heap
 rw [h.heap] at this
 injection this with h4
 injection h4 with _ h5
 cases h5
theorem RS.st3 {E : PE} {z : Nat} {w0 W : World} {b : Nat} {tv : Value} {i d : Nat} {v : Value} {L : List Nd} {k : Nat} {a0 b0 c0 : Value} (h : RS E z w0 W b tv i d v L) (hp : PX W k a0 b0 c0) (hk : w0.heap.size <= k) (x y u : Value) : RS E z w0 (st3 W k x y u) b tv i d v L :=
 ⟨zlF h.bl hk x y u, h.lo, h.x.same (zdL x y u (hp.neb h.x)), zaM h.t fun j hj => zdL x y u (hp.ne h.t (by decide) hj), zaM h.o fun j hj => zdL x y u (hp.ne h.o (by decide) hj), h.hi, h.hd⟩
theorem Fr.st3 {W W' : World} {b k : Nat} {v v' : Value} (h : Fr W W' b v v') (hk : W.heap.size <= k) (x y u : Value) : Fr W (st3 W' k x y u) b v v' :=
 ⟨Nat.le_trans h.size (by simp [World.setCell]), fun j hj hb hv => (zdL x y u (by omega)).trans (h.block j hj hb hv), h.own⟩
theorem zn0 {fn : Func} {R : Ending -> World -> Prop} {act : Act} {W : World} {k : Nat} {a b c : Value} (hF : fn.results = #[.cell 2 62]) (hd : act.defers = []) (h2 : act.tmps.getD 2 undef = .pointer (some ⟨k, 0, none⟩)) (hT : PX W k a b c) (hR : R (.returned (.agg #[a, b, c])) W) : bodyPost Tryz.prog fn R .ret act W := by
 obtain ⟨c0, c1, c2⟩ := hT.cl
 refine bodyPost_ret (v := .agg #[a, b, c]) ?_ hd hR
 simp only [Array.getD_eq_getD_getElem?] at h2
 simp [results, hF, go_sem, h2, c0, c1, c2]
theorem zp2 {E : PE} (hE : OkE E) {z : Nat} {w0 : World} (hv : R.VB w0) {b : Nat} {tv : Value} {W : World} {v : Value} {L : List Nd} (h : RS E z w0 W b tv 0 0 v L) (q : Nat × Int) (hq : exN E 0 = .inr q) : Calls Tryz.prog 26 #[.pointer (some ⟨b, 0, none⟩)] W fun e W' => e = pnc (plA E z q.1) q.2 /\ Below w0.heap.size w0 W' := by
 obtain ⟨t, ht, hk, hpl, _⟩ := zav E z h.hi
 have HH : Hid (∀ W, RS E z w0 W b tv 0 0 v L -> Calls Tryz.prog 46 #[.pointer (some ⟨b, 0, none⟩)] W fun e W' => e = .returned (.agg #[.int .i64 t.kd, .int .i64 t.nn, .int .i64 (plA E z 0), .int .i64 t.en, .string t.tx, .int .u64 t.s0, .int .u64 t.s1, .int .u64 t.s2, .int .u64 t.s3]) /\ Below W.heap.size W W') := fun W h => by
  have := zay h t ht
  rw [hpl] at this
  exact this
 have fl2 := fld2
 have fl0 := zjn
 have HP : Hid (PX (W.alloc (.cells #[.int .i64 0, .string ⟨#[]⟩, .slice none 0 0] 62)) W.heap.size (.int .i64 0) (.string ⟨#[]⟩) (.slice none 0 0)) := ⟨heap_alloc_new W _⟩
 have H : Hid (RS E z w0 (W.alloc (.cells #[.int .i64 0, .string ⟨#[]⟩, .slice none 0 0] 62)) b tv 0 0 v L) := h.later (zaa _ _)
 have HF : Hid (Fr W (W.alloc (.cells #[.int .i64 0, .string ⟨#[]⟩, .slice none 0 0] 62)) b (.slice none 0 0) (.slice none 0 0)) := Fr.below b _ (zaa _ _)
 have hnb := h.x.lt
 have hw0 := h.bl.size
 have HBo : Hid (∀ W, RS E z w0 W b tv 0 0 v L -> Calls Tryz.prog 49 #[.pointer (some ⟨b, 0, none⟩)] W fun e W' => e = pnc (plA E z q.1) q.2 /\ Below w0.heap.size w0 W') := fun W h => zlC hE hv h q hq
 clear h ht hk hpl hE hv hq
 generalize plA E z 0 = p0 at *
 go_enter Tryz.func26, Tryz.ntmps26
 go_wp2_with fail
 generalize W.alloc (.cells #[.int .i64 0, .string ⟨#[]⟩, .slice none 0 0] 62) = w1 at *
 refine (HH.out _ H.out).mono ?_
 rintro e w2 ⟨rfl, hb⟩
 have H2 := hO (H.out.later hb)
 have HF2 : Hid (Fr W w2 b (.slice none 0 0) (.slice none 0 0)) := HF.out.trans (Fr.below b _ hb)
 have HP2 := hO (HP.out.same (hb.block _ HP.out.lt))
 clear hb HH H HF HP
 go_wp2_with fail
 refine (HBo.out _ H2.out).mono ?_
 rintro e w3 ⟨rfl, hb⟩
 exact zaf rfl ⟨rfl, hb⟩
theorem zp3 {E : PE} (hE : OkE E) {z : Nat} {w0 : World} (hv : R.VB w0) {b : Nat} {tv : Value} {W : World} {v : Value} {L : List Nd} (h : RS E z w0 W b tv 0 0 v L) (a : Nat) (ns : List Nd) (hq : exN E 0 = .inl (a, ns)) (hz : ¬ kdA E a = 0) : Calls Tryz.prog 26 #[.pointer (some ⟨b, 0, none⟩)] W fun e W' => e = pnc (plA E z a) 60 /\ Below w0.heap.size w0 W' := by
 obtain ⟨t, ht, hk, hpl, _⟩ := zav E z h.hi
 have HH : Hid (∀ W, RS E z w0 W b tv 0 0 v L -> Calls Tryz.prog 46 #[.pointer (some ⟨b, 0, none⟩)] W fun e W' => e = .returned (.agg #[.int .i64 t.kd, .int .i64 t.nn, .int .i64 (plA E z 0), .int .i64 t.en, .string t.tx, .int .u64 t.s0, .int .u64 t.s1, .int .u64 t.s2, .int .u64 t.s3]) /\ Below W.heap.size W W') := fun W h => by
  have := zay h t ht
  rw [hpl] at this
  exact this
 have fl2 := fld2
 have fl0 := zjn
 have HP : Hid (PX (W.alloc (.cells #[.int .i64 0, .string ⟨#[]⟩, .slice none 0 0] 62)) W.heap.size (.int .i64 0) (.string ⟨#[]⟩) (.slice none 0 0)) := ⟨heap_alloc_new W _⟩
 have H : Hid (RS E z w0 (W.alloc (.cells #[.int .i64 0, .string ⟨#[]⟩, .slice none 0 0] 62)) b tv 0 0 v L) := h.later (zaa _ _)
 have HF : Hid (Fr W (W.alloc (.cells #[.int .i64 0, .string ⟨#[]⟩, .slice none 0 0] 62)) b (.slice none 0 0) (.slice none 0 0)) := Fr.below b _ (zaa _ _)
 have hnb := h.x.lt
 have hw0 := h.bl.size
 have HBo : Hid (∀ W, RS E z w0 W b tv 0 0 v L -> Calls Tryz.prog 49 #[.pointer (some ⟨b, 0, none⟩)] W fun e W' => ∃ v', e = .returned v' /\ RS E z w0 W' b tv a 0 v' ns /\ Fr W W' b (.slice none 0 0) v') := fun W h => zhD hE hv h a ns hq
 have hal : a <= E.l.length := (zey (Nat.zero_le _) hq).2
 obtain ⟨t2, ht2, hk2, hpl2, _⟩ := zav E z hal
 have HH2 : Hid (∀ W v, RS E z w0 W b tv a 0 v ns -> Calls Tryz.prog 46 #[.pointer (some ⟨b, 0, none⟩)] W fun e W' => e = .returned (.agg #[.int .i64 t2.kd, .int .i64 t2.nn, .int .i64 t2.fr, .int .i64 t2.en, .string t2.tx, .int .u64 t2.s0, .int .u64 t2.s1, .int .u64 t2.s2, .int .u64 t2.s3]) /\ Below W.heap.size W W') := fun W v h => zay h t2 ht2
 have HRf : Hid (∀ W v, RS E z w0 W b tv a 0 v ns -> Calls Tryz.prog 50 #[.pointer (some ⟨b, 0, none⟩), .int .i64 60] W fun e W' => e = pnc (plA E z a) 60 /\ Below W.heap.size W W') := fun W v h => zbG h 60
 have t1 : (t2.kd != 0) = true := by rw [hk2]; simpa using hz
 clear h ht hk hpl hE hv hq ht2 hk2 hpl2 hz
 generalize plA E z 0 = p0 at *
 go_enter Tryz.func26, Tryz.ntmps26
 go_wp2_with fail
 generalize W.alloc (.cells #[.int .i64 0, .string ⟨#[]⟩, .slice none 0 0] 62) = w1 at *
 refine (HH.out _ H.out).mono ?_
 rintro e w2 ⟨rfl, hb⟩
 have H2 := hO (H.out.later hb)
 have HF2 : Hid (Fr W w2 b (.slice none 0 0) (.slice none 0 0)) := HF.out.trans (Fr.below b _ hb)
 have HP2 := hO (HP.out.same (hb.block _ HP.out.lt))
 clear hb HH H HF HP
 go_wp2_with fail
 refine (HBo.out _ H2.out).mono ?_
 rintro e w3 ⟨v3, rfl, h3, hf3⟩
 have H3 := hO h3
 have HF3 : Hid (Fr W w3 b (.slice none 0 0) v3) := HF2.out.trans hf3
 have HP3 := hO (HP2.out.same (hf3.block _ HP2.out.lt (by omega) (by intro q; cases q)))
 clear h3 hf3 H2 HF2 HP2 HBo
 go_wp2_with fail
 refine (HH2.out _ _ H3.out).mono ?_
 rintro e w4 ⟨rfl, hb⟩
 have H4 := hO (H3.out.later hb)
 have HF4 : Hid (Fr W w4 b (.slice none 0 0) v3) := HF3.out.trans (Fr.below b _ hb)
 have HP4 := hO (HP3.out.same (hb.block _ HP3.out.lt))
 clear hb H3 HF3 HP3 HH2
 obtain ⟨c0, c1, c2⟩ := HP4.out.cl
 have f0 := HP4.out.fz 0
 have f1' := HP4.out.fz 1
 have f2' := HP4.out.fz 2
 go_wp2_with fail
 refine (HRf.out _ _ H4.out).mono ?_
 rintro e w5 ⟨rfl, hb⟩
 exact zaf rfl ⟨rfl, H4.out.bl.trans (hb.mono H4.out.bl.size)⟩
theorem znn {E : PE} (hE : OkE E) {z : Nat} {w0 : World} (hv : R.VB w0) {b : Nat} {tv : Value} {W : World} {v : Value} {L : List Nd} (h : RS E z w0 W b tv 0 0 v L) (a : Nat) (ns : List Nd) (hq : exN E 0 = .inl (a, ns)) (hz : kdA E a = 0) : Calls Tryz.prog 26 #[.pointer (some ⟨b, 0, none⟩)] W fun e W' => ∃ v', e = .returned (.agg #[.int .i64 (plA E z 0), .string ⟨#[]⟩, v']) /\ RS E z w0 W' b tv a 0 v' ns /\ Fr W W' b (.slice none 0 0) v' := by
 obtain ⟨t, ht, hk, hpl, _⟩ := zav E z h.hi
 have HH : Hid (∀ W, RS E z w0 W b tv 0 0 v L -> Calls Tryz.prog 46 #[.pointer (some ⟨b, 0, none⟩)] W fun e W' => e = .returned (.agg #[.int .i64 t.kd, .int .i64 t.nn, .int .i64 (plA E z 0), .int .i64 t.en, .string t.tx, .int .u64 t.s0, .int .u64 t.s1, .int .u64 t.s2, .int .u64 t.s3]) /\ Below W.heap.size W W') := fun W h => by
  have := zay h t ht
  rw [hpl] at this
  exact this
 have fl2 := fld2
 have fl0 := zjn
 have HP : Hid (PX (W.alloc (.cells #[.int .i64 0, .string ⟨#[]⟩, .slice none 0 0] 62)) W.heap.size (.int .i64 0) (.string ⟨#[]⟩) (.slice none 0 0)) := ⟨heap_alloc_new W _⟩
 have H : Hid (RS E z w0 (W.alloc (.cells #[.int .i64 0, .string ⟨#[]⟩, .slice none 0 0] 62)) b tv 0 0 v L) := h.later (zaa _ _)
 have HF : Hid (Fr W (W.alloc (.cells #[.int .i64 0, .string ⟨#[]⟩, .slice none 0 0] 62)) b (.slice none 0 0) (.slice none 0 0)) := Fr.below b _ (zaa _ _)
 have hnb := h.x.lt
 have hw0 := h.bl.size
 have HBo : Hid (∀ W, RS E z w0 W b tv 0 0 v L -> Calls Tryz.prog 49 #[.pointer (some ⟨b, 0, none⟩)] W fun e W' => ∃ v', e = .returned v' /\ RS E z w0 W' b tv a 0 v' ns /\ Fr W W' b (.slice none 0 0) v') := fun W h => zhD hE hv h a ns hq
 have hal : a <= E.l.length := (zey (Nat.zero_le _) hq).2
 obtain ⟨t2, ht2, hk2, hpl2, _⟩ := zav E z hal
 have HH2 : Hid (∀ W v, RS E z w0 W b tv a 0 v ns -> Calls Tryz.prog 46 #[.pointer (some ⟨b, 0, none⟩)] W fun e W' => e = .returned (.agg #[.int .i64 t2.kd, .int .i64 t2.nn, .int .i64 t2.fr, .int .i64 t2.en, .string t2.tx, .int .u64 t2.s0, .int .u64 t2.s1, .int .u64 t2.s2, .int .u64 t2.s3]) /\ Below W.heap.size W W') := fun W v h => zay h t2 ht2
 have t1 : (t2.kd != 0) = false := by rw [hk2, hz]; simp
 clear h ht hk hpl hE hv hq ht2 hk2 hpl2 hz
 generalize plA E z 0 = p0 at *
 go_enter Tryz.func26, Tryz.ntmps26
 go_wp2_with fail
 generalize W.alloc (.cells #[.int .i64 0, .string ⟨#[]⟩, .slice none 0 0] 62) = w1 at *
 refine (HH.out _ H.out).mono ?_
 rintro e w2 ⟨rfl, hb⟩
 have H2 := hO (H.out.later hb)
 have HF2 : Hid (Fr W w2 b (.slice none 0 0) (.slice none 0 0)) := HF.out.trans (Fr.below b _ hb)
 have HP2 := hO (HP.out.same (hb.block _ HP.out.lt))
 clear hb HH H HF HP
 go_wp2_with fail
 refine (HBo.out _ H2.out).mono ?_
 rintro e w3 ⟨v3, rfl, h3, hf3⟩
 have H3 := hO h3
 have HF3 : Hid (Fr W w3 b (.slice none 0 0) v3) := HF2.out.trans hf3
 have HP3 := hO (HP2.out.same (hf3.block _ HP2.out.lt (by omega) (by intro q; cases q)))
 clear h3 hf3 H2 HF2 HP2 HBo
 go_wp2_with fail
 refine (HH2.out _ _ H3.out).mono ?_
 rintro e w4 ⟨rfl, hb⟩
 have H4 := hO (H3.out.later hb)
 have HF4 : Hid (Fr W w4 b (.slice none 0 0) v3) := HF3.out.trans (Fr.below b _ hb)
 have HP4 := hO (HP3.out.same (hb.block _ HP3.out.lt))
 clear hb H3 HF3 HP3 HH2
 obtain ⟨c0, c1, c2⟩ := HP4.out.cl
 have f0 := HP4.out.fz 0
 have f1' := HP4.out.fz 1
 have f2' := HP4.out.fz 2
 obtain ⟨A3, n3, rfl⟩ := zbV H4.out.o
 go_wp2_with fail
 refine zn0 rfl rfl rfl (znZ HP4.out (.int .i64 p0) (.string ⟨#[]⟩) (.slice A3 ns.length n3)) ?_
 exact ⟨_, rfl, H4.out.st3 HP4.out hw0 _ _ _, HF4.out.st3 (Nat.le_refl _) _ _ _⟩
end Go.Proofs.YtkihfkcmcdiajaaGreatDoor.N
namespace Go.Proofs.YtkihfkcmcdiajaaGreatDoor.T
open Go.RowKit
theorem zn1 {W : World} {B n : Nat} {v : Value} {L : List Nd} (h : W.ownsRow B 51 7 v n (ndc L)) (hn : n = L.length) : ∃ A c, v = .slice A L.length c /\ RdN W A L := by
 subst hn
 have hc := h
 rcases h.2 with ⟨rfl, h0⟩ | ⟨g, cap, cur, rfl, _⟩
 ·exact ⟨none, 0, by rw [h0], fun hl => absurd (List.eq_nil_of_length_eq_zero h0) hl⟩
 ·have hc2 : W.ownsRow B 51 7 (.slice (some ⟨g, 0, none⟩) L.length cap) L.length (ndc L ++ []) := by rw [List.append_nil]; exact hc
  exact ⟨_, cap, rfl, fun _ => ⟨g, 0, rfl, (hc.lt g rfl).2, zjU hc2⟩⟩
theorem zje {F : Nat} (hen : ∀ args w, (callFunc F args).run Tryz.prog w = .ok (.enter F args) w) {ops : Array Oper} {o : Oper} {a : Act} {w : World} {K : Act -> World -> Prop} {Q : Exit -> Act -> World -> Prop} {E : Prop} (hgd : o.guard = none) (x : Operand) (T : TypeId) (ho : o.op = .call { callee := .value (.func F), args := #[x], argTypes := #[T] }) (v : Value) (hx : a.eval x = v)
  (hc : Calls Tryz.prog F #[v] w fun e w' => ∃ r, e = .returned r /\ K (a.put o.dst r) w') :
  if Region.wanted o (yielded ops a.tmps) = true then Oper.wp Tryz.prog o a w K Q else E := by
 have hw : Region.wanted o (yielded ops a.tmps) = true := by simp [Region.wanted, hgd]
 rw [if_pos hw]
 have he : (execOp a.eval o).run Tryz.prog w = .ok (.enter F #[v]) w := by
  unfold execOp
  simp [ho, go_sem, invoke, hen]
  rw [<- hx]
  cases x <;> simp [Act.eval]
 unfold Oper.wp
 rw [he, Oper.upon_enter]
 refine hc.mono ?_
 rintro e w' ⟨r, rfl, hk⟩
 exact hk
end Go.Proofs.YtkihfkcmcdiajaaGreatDoor.T
