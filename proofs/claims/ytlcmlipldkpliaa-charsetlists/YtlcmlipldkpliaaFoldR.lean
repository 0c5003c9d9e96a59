/- DERIVED. Walks: Fold, by the document. -/
import Derived.Test.YtlcmlipldkpliaaFoldP
import Derived.Test.YtlcmlipldkpliaaRefs
namespace Go.Proofs.Ytlcmlipldkpliaa
open Go.RowKit

theorem put4_belowR {B : Nat} {w w' : World} {b : Nat} (h : Below B w w') (hb : B ≤ b) (y : BitVec 256) : Below B w (put4 w' b y) :=
  (((h.setCell (p := ⟨b, 0, none⟩) hb _).setCell (p := ⟨b, 1, none⟩) hb _).setCell (p := ⟨b, 2, none⟩) hb _).setCell (p := ⟨b, 3, none⟩) hb _

set_option maxRecDepth 100000 in
set_option maxHeartbeats 4000000 in
theorem foldR_any (x : BitVec 256) (w : World) :
    Calls Try.prog 42 #[sv x] w fun e w' => e = .returned (sv (foldR x 26)) ∧ Below w.heap.size w w' := by
  have hF := Holds.new ((w.alloc (c4 x)).alloc z4) x
  rw [size2] at hF
  have hO := (Holds.zero (w.alloc (c4 x))).alloc (c4 x)
  rw [size1] at hO
  have HF0 := (show Hid _ from hF)
  have HO0 := (show Hid _ from hO)
  have HX0 := (show Hid _ from ((Holds.new w x).alloc z4).alloc (c4 x))
  have HB0 := (show Hid _ from below3 w (c4 x) z4 (c4 x))
  clear hF hO
  go_enter Try.func42, Try.ntmps42
  go_wp2
  go_loopw [4] (fun t wr => ∃ k : Nat, k ≤ 26 ∧ t = .int .i32 (97 + (k : Int)) ∧ Holds wr w.heap.size x ∧ Holds wr (w.heap.size + 1 + 1) (foldR x k) ∧ Holds wr (w.heap.size + 1) 0#256 ∧ Below w.heap.size w wr) (fun t _ => (123 - intOf t).toNat)
  case atStart => exact ⟨0, by omega, rfl, HX0.out, HF0.out, HO0.out, HB0.out⟩
  case round =>
    obtain ⟨k, hk, rfl, hx, hf, ho, hbel⟩ := hrel
    have HX := (show Hid _ from hx)
    have HF := (show Hid _ from hf)
    have HO := (show Hid _ from ho)
    have HB := (show Hid _ from hbel)
    have hsz : w.heap.size + 1 + 1 < wr.heap.size := hf.lt
    clear HX0 HF0 HO0 HB0
    by_cases hlt : k < 26
    · have hw1 : IntKind.i64.wrap (97 + (k : Int)) = 97 + (k : Int) := by rw [IntKind.wrap_i64]; omega
      have hk0 : (0 : Int) ≤ (k : Int) := by omega
      have hk1 : (k : Int) < 26 := by omega
      have HG1 := (show Hid _ from hasB_yes x (97 + (k : Int)) (by omega) (by omega))
      have HG2 := (show Hid _ from hasB_yes x (97 + (k : Int) - 32) (by omega) (by omega))
      have HFE : Hid (foldR x (k + 1) = if x.getLsbD (97 + k) || x.getLsbD (65 + k) then foldR x k ||| bt (97 + k) ||| bt (65 + k) else foldR x k) := rfl
      generalize foldR x k = y at *
      obtain ⟨l0, c0, c1, c2, c3, f0, f1, f2, f3⟩ := hx
      obtain ⟨l1, d0, d1, d2, d3, g0, g1, g2, g3⟩ := hf
      clear ho hbel
      have step : ∀ (w1 : World), Below wr.heap.size wr w1 → Hid (Holds w1 w.heap.size x) ∧ Hid (Holds w1 (w.heap.size + 1 + 1) y) ∧ Hid (Holds w1 (w.heap.size + 1) 0#256) ∧ Hid (Below w.heap.size w w1) ∧ wr.heap.size ≤ w1.heap.size := fun w1 h =>
        ⟨HX.out.below h (by omega), HF.out.below h (by omega), HO.out.below h (by omega), HB.out.trans (h.mono (by omega)), h.size⟩
      have STEP := (show Hid _ from step)
      clear step
      have hd : decide (97 + (k : Int) ≤ 122) = true := decide_eq_true (by omega)
      have hwi : IntKind.i32.wrap (97 + (k : Int) + 1) = 97 + (k : Int) + 1 := by rw [IntKind.wrap_i32]; omega
      cases ha : hasB x (97 + (k : Int))
      · cases hb : hasB x (97 + (k : Int) - 32)
        · have HE : Hid (foldR x (k + 1) = y) := (by
            have h1 := ha
            rw [HG1.out, show (97 + (k : Int)).toNat = 97 + k from by omega] at h1
            have h2 := hb
            rw [HG2.out, show (97 + (k : Int) - 32).toNat = 65 + k from by omega] at h2
            have h := HFE.out; rw [h1, h2] at h; exact h)
          go_wp2_with fail
          refine (hasR_any x (97 + (k : Int)) _).mono ?_
          rintro e w1 ⟨rfl, hb1⟩
          have hbb1 : Below wr.heap.size wr w1 := hb1
          obtain ⟨HX1, HF1, HO1, HB1, hs1⟩ := STEP.out w1 hbb1
          clear c0 c1 c2 c3 f0 f1 f2 f3 d0 d1 d2 d3 g0 g1 g2 g3
          obtain ⟨_, c0, c1, c2, c3, f0, f1, f2, f3⟩ := HX1.out
          obtain ⟨_, d0, d1, d2, d3, g0, g1, g2, g3⟩ := HF1.out
          go_wp2_with fail
          refine (hasR_any x (97 + (k : Int) - 32) _).mono ?_
          rintro e w2 ⟨rfl, hb2⟩
          have hbb2 : Below wr.heap.size wr w2 := hbb1.trans (hb2.mono hbb1.size)
          obtain ⟨HX1, HF1, HO1, HB1, hs1⟩ := STEP.out w2 hbb2
          clear c0 c1 c2 c3 f0 f1 f2 f3 d0 d1 d2 d3 g0 g1 g2 g3
          obtain ⟨_, c0, c1, c2, c3, f0, f1, f2, f3⟩ := HX1.out
          obtain ⟨_, d0, d1, d2, d3, g0, g1, g2, g3⟩ := HF1.out
          go_wp2
          go_roundw
          case rel => exact ⟨k + 1, by omega, by go_num, HX1.out, (by rw [HE.out]; exact HF1.out), HO1.out, HB1.out⟩
          case measure => simp [intOf]; omega
        · have HE : Hid (foldR x (k + 1) = y ||| bt (97 + k) ||| bt (65 + k)) := (by
            have h1 := ha
            rw [HG1.out, show (97 + (k : Int)).toNat = 97 + k from by omega] at h1
            have h2 := hb
            rw [HG2.out, show (97 + (k : Int) - 32).toNat = 65 + k from by omega] at h2
            have h := HFE.out; rw [h1, h2] at h; exact h)
          go_wp2_with fail
          refine (hasR_any x (97 + (k : Int)) _).mono ?_
          rintro e w1 ⟨rfl, hb1⟩
          have hbb1 : Below wr.heap.size wr w1 := hb1
          obtain ⟨HX1, HF1, HO1, HB1, hs1⟩ := STEP.out w1 hbb1
          clear c0 c1 c2 c3 f0 f1 f2 f3 d0 d1 d2 d3 g0 g1 g2 g3
          obtain ⟨_, c0, c1, c2, c3, f0, f1, f2, f3⟩ := HX1.out
          obtain ⟨_, d0, d1, d2, d3, g0, g1, g2, g3⟩ := HF1.out
          go_wp2_with fail
          refine (hasR_any x (97 + (k : Int) - 32) _).mono ?_
          rintro e w2 ⟨rfl, hb2⟩
          have hbb2 : Below wr.heap.size wr w2 := hbb1.trans (hb2.mono hbb1.size)
          obtain ⟨HX1, HF1, HO1, HB1, hs1⟩ := STEP.out w2 hbb2
          clear c0 c1 c2 c3 f0 f1 f2 f3 d0 d1 d2 d3 g0 g1 g2 g3
          obtain ⟨_, c0, c1, c2, c3, f0, f1, f2, f3⟩ := HX1.out
          obtain ⟨_, d0, d1, d2, d3, g0, g1, g2, g3⟩ := HF1.out
          go_wp2_with fail
          refine (withR_any y (97 + (k : Int)) _ (by omega) (by omega)).mono ?_
          rintro e w3 ⟨rfl, hb3⟩
          rw [show (97 + (k : Int)).toNat = 97 + k from by omega]
          have hbb3 : Below wr.heap.size wr w3 := hbb2.trans (hb3.mono hbb2.size)
          go_wp2_with fail
          refine (withR_any (y ||| bt (97 + k)) (97 + (k : Int) - 32) _ (by omega) (by omega)).mono ?_
          rintro e w4 ⟨rfl, hb4⟩
          rw [show (97 + (k : Int) - 32).toNat = 65 + k from by omega]
          have hbb4 : Below wr.heap.size wr w4 := hbb3.trans (hb4.mono hbb3.size)
          obtain ⟨HX1, HF1, HO1, HB1, hs1⟩ := STEP.out w4 hbb4
          clear c0 c1 c2 c3 f0 f1 f2 f3 d0 d1 d2 d3 g0 g1 g2 g3
          obtain ⟨_, d0, d1, d2, d3, g0, g1, g2, g3⟩ := HF1.out
          go_wp2
          go_roundw
          case rel => exact ⟨k + 1, by omega, by go_num, HX1.out.put_other (by omega) _, (by rw [HE.out]; exact HF1.out.put _), HO1.out.put_other (by omega) _, put4_belowR HB1.out (by omega) _⟩
          case measure => simp [intOf]; omega
      · have HE : Hid (foldR x (k + 1) = y ||| bt (97 + k) ||| bt (65 + k)) := (by
            have h1 := ha
            rw [HG1.out, show (97 + (k : Int)).toNat = 97 + k from by omega] at h1
            have h := HFE.out; rw [h1, Bool.true_or] at h; exact h)
        go_wp2_with fail
        refine (hasR_any x (97 + (k : Int)) _).mono ?_
        rintro e w1 ⟨rfl, hb1⟩
        have hbb1 : Below wr.heap.size wr w1 := hb1
        obtain ⟨HX1, HF1, HO1, HB1, hs1⟩ := STEP.out w1 hbb1
        clear c0 c1 c2 c3 f0 f1 f2 f3 d0 d1 d2 d3 g0 g1 g2 g3
        obtain ⟨_, c0, c1, c2, c3, f0, f1, f2, f3⟩ := HX1.out
        obtain ⟨_, d0, d1, d2, d3, g0, g1, g2, g3⟩ := HF1.out
        go_wp2_with fail
        refine (withR_any y (97 + (k : Int)) _ (by omega) (by omega)).mono ?_
        rintro e w3 ⟨rfl, hb3⟩
        rw [show (97 + (k : Int)).toNat = 97 + k from by omega]
        have hbb3 : Below wr.heap.size wr w3 := hbb1.trans (hb3.mono hbb1.size)
        go_wp2_with fail
        refine (withR_any (y ||| bt (97 + k)) (97 + (k : Int) - 32) _ (by omega) (by omega)).mono ?_
        rintro e w4 ⟨rfl, hb4⟩
        rw [show (97 + (k : Int) - 32).toNat = 65 + k from by omega]
        have hbb4 : Below wr.heap.size wr w4 := hbb3.trans (hb4.mono hbb3.size)
        obtain ⟨HX1, HF1, HO1, HB1, hs1⟩ := STEP.out w4 hbb4
        clear c0 c1 c2 c3 f0 f1 f2 f3 d0 d1 d2 d3 g0 g1 g2 g3
        obtain ⟨_, d0, d1, d2, d3, g0, g1, g2, g3⟩ := HF1.out
        go_wp2
        go_roundw
        case rel => exact ⟨k + 1, by omega, by go_num, HX1.out.put_other (by omega) _, (by rw [HE.out]; exact HF1.out.put _), HO1.out.put_other (by omega) _, put4_belowR HB1.out (by omega) _⟩
        case measure => simp [intOf]; omega
    · obtain rfl : k = 26 := by omega
      have hd : decide (97 + ((26 : Nat) : Int) ≤ 122) = false := by decide
      generalize hy : foldR x 26 = y at *
      have HY := (show Hid _ from hy)
      clear hy hx hbel
      obtain ⟨l0, c0, c1, c2, c3, f0, f1, f2, f3⟩ := hf
      obtain ⟨l1, d0, d1, d2, d3, g0, g1, g2, g3⟩ := ho
      go_wp2
      rw [HY.out]
      exact bodyPost_ret (v := sv y) (by simp [results, Try.results42, go_sem, *]) rfl ⟨rfl, put4_belowR HB.out (by omega) _⟩
end Go.Proofs.Ytlcmlipldkpliaa
