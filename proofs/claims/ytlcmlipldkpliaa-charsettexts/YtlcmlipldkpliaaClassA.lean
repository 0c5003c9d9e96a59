/- DERIVED. Walks: Class, by the program. -/
import Derived.Test.YtlcmlipldkpliaaSmall
namespace Go.Proofs.Ytlcmlipldkpliaa
open Go.RowKit

theorem cls_small (n : Nat) (h : ¬ (65 ≤ n ∧ n ≤ 90)) : cls n = sml n := by unfold cls; rw [if_neg h]
theorem cls_yes (n : Nat) (h : 65 ≤ n ∧ n ≤ 90) (he : (sml (n + 32)).2 = 0) : cls n = (~~~ (sml (n + 32)).1, 0) := by unfold cls; rw [if_pos h, if_pos he]
theorem cls_no (n : Nat) (h : 65 ≤ n ∧ n ≤ 90) (he : (sml (n + 32)).2 = 10) : cls n = (0#256, 10) := by
  unfold cls; rw [if_pos h, if_neg (by omega), he]
theorem put4_below {B : Nat} {w w' : World} {b : Nat} (h : Below B w w') (hb : B ≤ b) (y : BitVec 256) : Below B w (put4 w' b y) :=
  (((h.setCell hb _).setCell hb _).setCell hb _).setCell hb _

set_option maxHeartbeats 1000000 in
theorem class_any (n : Nat) (hn : n < 256) (w : World) :
    Calls Try.prog 24 #[.int .u8 n] w fun e w' => e = .returned (.tuple #[sv (cls n).1, .int .i64 (cls n).2]) ∧ Below w.heap.size w w' := by
  have HH := (show Hid _ from Holds.zero w)
  have HR := (show Hid _ from below1 w z4)
  have hw8 : IntKind.i64.wrap (n : Int) = (n : Int) := by rw [IntKind.wrap_i64]; omega
  by_cases hc : 65 ≤ n ∧ n ≤ 90
  · have hcap : capB (n : Int) = true := by simp [capB]; omega
    have hn1 : (n : Int) ≤ 90 := by omega
    have Hc := (show Hid _ from hc)
    clear hc
    rcases sml_err (n + 32) with he | he
    · have HE := (show Hid _ from cls_yes n Hc.out he)
      go_enter Try.func24, Try.ntmps24
      go_wp2_with fail
      refine (isCapital_any _ _).mono ?_
      rintro e w1 ⟨rfl, rfl⟩
      go_wp2_with fail
      rw [show (n : Int) + 32 = ((n + 32 : Nat) : Int) from by omega]
      refine (small_any (n + 32) _).mono ?_
      rintro e w1 ⟨rfl, hb⟩
      have hl : w.heap.size < w1.heap.size := by have h := hb.size; simp at h; omega
      have HR1 := (show Hid _ from HR.out.trans (hb.mono (by simp)))
      have HH1 := (show Hid _ from HH.out.below hb (by simp))
      rw [he]
      clear he hb HH HR
      generalize (sml (n + 32)).1 = r at *
      go_wp2_with fail
      refine (not_any r _).mono ?_
      rintro e w2 ⟨rfl, hb⟩
      have HR2 := (show Hid _ from (HR1.out.alloc (by omega) (c4 r)).trans (hb.mono (by simp; omega)))
      have hl2 : w.heap.size < w2.heap.size := by have h := hb.size; simp at h; omega
      obtain ⟨l0, c0, c1, c2, c3, f0, f1, f2, f3⟩ := (HH1.out.alloc (c4 r)).below hb (by simp; omega)
      generalize hr : ~~~ r = q at *
      clear hr hb
      go_wp2
      rw [HE.out]
      refine bodyPost_ret (v := .tuple #[sv q, .int .i64 0]) (by simp [results, Try.results24, go_sem, *]) rfl ⟨rfl, put4_below HR2.out (Nat.le_refl _) _⟩
    · have HE := (show Hid _ from cls_no n Hc.out he)
      go_enter Try.func24, Try.ntmps24
      go_wp2_with fail
      refine (isCapital_any _ _).mono ?_
      rintro e w1 ⟨rfl, rfl⟩
      go_wp2_with fail
      rw [show (n : Int) + 32 = ((n + 32 : Nat) : Int) from by omega]
      refine (small_any (n + 32) _).mono ?_
      rintro e w1 ⟨rfl, hb⟩
      have hl : w.heap.size < w1.heap.size := by have h := hb.size; simp at h; omega
      have HR1 := (show Hid _ from HR.out.trans (hb.mono (by simp)))
      obtain ⟨l0, c0, c1, c2, c3, f0, f1, f2, f3⟩ := HH.out.below hb (by simp)
      rw [he]
      clear he hb HH HR
      generalize (sml (n + 32)).1 = r at *
      go_wp2
      rw [HE.out]
      refine bodyPost_ret (v := .tuple #[sv 0#256, .int .i64 10]) (by simp [results, Try.results24, go_sem, wd_zero, *]) rfl ⟨rfl, ?_⟩
      repeat (first | exact HR1.out | (refine Below.setCell ?_ (by first | omega | (simp <;> omega)) _) | (refine Below.alloc ?_ (by first | omega | (simp <;> omega)) _))
  · have hcap : capB (n : Int) = false := by simp [capB]; omega
    have HE := (show Hid _ from cls_small n hc)
    clear hc
    go_enter Try.func24, Try.ntmps24
    go_wp2_with fail
    refine (isCapital_any _ _).mono ?_
    rintro e w1 ⟨rfl, rfl⟩
    go_wp2_with fail
    refine (small_any n _).mono ?_
    rintro e w1 ⟨rfl, hb⟩
    have hl : w.heap.size < w1.heap.size := by have h := hb.size; simp at h; omega
    have HR1 := (show Hid _ from HR.out.trans (hb.mono (by simp)))
    obtain ⟨l0, c0, c1, c2, c3, f0, f1, f2, f3⟩ := HH.out.below hb (by simp)
    clear hb HH HR
    generalize sml n = rq at *
    obtain ⟨r, q⟩ := rq
    dsimp only
    go_wp2
    refine bodyPost_ret (v := .tuple #[sv r, .int .i64 q]) (by simp [results, Try.results24, go_sem, *]) rfl ⟨by rw [HE.out], put4_below HR1.out (Nat.le_refl _) _⟩
end Go.Proofs.Ytlcmlipldkpliaa
