/- DERIVED. Single; the law CharsetCounts, walked. -/
import Derived.Test.YtlcmlipldkpliaaLeast
import Derived.Test.YtlcmlipldkpliaaSmallB
namespace Go.Proofs.Ytlcmlipldkpliaa
open Go.RowKit

/-- The only byte of a set. -/
def sgl (x : BitVec 256) : Int × Bool := if cnt x = 1 then lst x else (0, false)

set_option maxHeartbeats 1000000 in
theorem single_any (x : BitVec 256) (w : World) :
    Calls Try.prog 29 #[sv x] w fun e w' => e = .returned (.tuple #[.int .i64 (sgl x).1, .bool (sgl x).2]) ∧ Below w.heap.size w w' := by
  have HR := (show Hid _ from below1 w (c4 x))
  have HX := (show Hid _ from Holds.new w x)
  by_cases hc : cnt x = 1
  · have HE : Hid (sgl x = lst x) := (by show sgl x = _; unfold sgl; rw [if_pos hc])
    have hne : ((cnt x : Int) != 1) = false := by rw [hc]; rfl
    clear hc
    go_enter Try.func29, Try.ntmps29
    go_wp2_with fail
    refine (count_any x _).mono ?_
    rintro e w1 ⟨rfl, hb⟩
    have HR1 := (show Hid _ from HR.out.trans (hb.mono (by simp)))
    have hl : w.heap.size < w1.heap.size := by have h := hb.size; simp at h; omega
    obtain ⟨l0, c0, c1, c2, c3, f0, f1, f2, f3⟩ := HX.out.below hb (by simp)
    clear hb
    go_wp2_with fail
    refine (least_any x _).mono ?_
    rintro e w2 ⟨rfl, hb⟩
    have HR2 := (show Hid _ from HR1.out.trans (hb.mono (by omega)))
    clear hb
    go_wp2
    go_ret2
    exact ⟨by rw [HE.out]; rfl, HR2.out⟩
  · have HE : Hid (sgl x = (0, false)) := (by show sgl x = _; unfold sgl; rw [if_neg hc])
    have hne : ((cnt x : Int) != 1) = true := by rw [bne_iff_ne]; omega
    clear hc
    go_enter Try.func29, Try.ntmps29
    go_wp2_with fail
    refine (count_any x _).mono ?_
    rintro e w1 ⟨rfl, hb⟩
    have HR1 := (show Hid _ from HR.out.trans (hb.mono (by simp)))
    clear hb
    go_wp2
    go_ret2
    exact ⟨by rw [HE.out]; rfl, HR1.out⟩

theorem cnt_zero (x : BitVec 256) : (x == 0#256) = ((cnt x : Int) == 0) := by
  rw [Bool.eq_iff_iff]
  simp only [beq_iff_eq]
  constructor
  · rintro rfl
    have : ∀ k, cntTo (0#256).getLsbD k = 0 := fun k => by induction k with
      | zero => rfl
      | succ n ih => rw [cntTo_succ, ih]; simp
    have h := this 256
    show ((cntTo (0#256).getLsbD 256 : Nat) : Int) = 0
    omega
  · intro h
    have hz : ∀ k, cntTo x.getLsbD k = 0 → ∀ j, j < k → x.getLsbD j = false := fun k => by induction k with
      | zero => intro _ j hj; omega
      | succ n ih =>
        intro h j hj
        rw [cntTo_succ] at h
        by_cases e : j = n
        · subst e; cases hb : x.getLsbD j with
          | false => rfl
          | true => rw [hb] at h; simp at h
        · exact ih (by omega) j (by omega)
    refine set_eq _ _ fun j hj => ?_
    rw [hz 256 (by unfold cnt at h; omega) j hj]; simp
theorem cnt_not (x : BitVec 256) : cnt x + cnt (~~~ x) = 256 := by
  have : ∀ k, k ≤ 256 → cntTo x.getLsbD k + cntTo (~~~ x).getLsbD k = k := fun k => by induction k with
    | zero => intro _; rfl
    | succ n ih =>
      intro hk
      have h := ih (by omega)
      rw [cntTo_succ, cntTo_succ, BitVec.getLsbD_not]
      have : n < 256 := by omega
      cases x.getLsbD n <;> simp [this] <;> omega
  exact this 256 (Nat.le_refl _)
theorem cnt_full (x : BitVec 256) : (x == ~~~ 0#256) = ((cnt x : Int) == 256) := by
  have h1 := cnt_zero (~~~ x)
  have h2 := cnt_not x
  have e : (x == ~~~ 0#256) = (~~~ x == 0#256) := by
    rw [Bool.eq_iff_iff]; simp only [beq_iff_eq]
    constructor
    · rintro rfl; exact BitVec.not_not
    · intro h; rw [← h, BitVec.not_not]
  rw [e, h1, Bool.eq_iff_iff]
  simp only [beq_iff_eq]
  omega
theorem cnt_within (x y : BitVec 256) : (x &&& y == x) = ((cnt (x &&& ~~~ y) : Int) == 0) := by
  rw [← cnt_zero, Bool.eq_iff_iff]
  simp only [beq_iff_eq]
  constructor
  · intro h
    refine set_eq _ _ fun j hj => ?_
    have h2 := congrArg (fun z => z.getLsbD j) h
    simp only [BitVec.getLsbD_and, BitVec.getLsbD_not] at h2 ⊢
    cases a : x.getLsbD j <;> cases b : y.getLsbD j <;> simp_all
  · intro h
    refine set_eq _ _ fun j hj => ?_
    have h2 := congrArg (fun z => z.getLsbD j) h
    simp only [BitVec.getLsbD_and, BitVec.getLsbD_not] at h2 ⊢
    cases a : x.getLsbD j <;> cases b : y.getLsbD j <;> simp_all
end Go.Proofs.Ytlcmlipldkpliaa
