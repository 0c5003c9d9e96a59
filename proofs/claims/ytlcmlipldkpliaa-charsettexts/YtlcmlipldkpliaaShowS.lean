/- DERIVED. Walks: the text of one span, by the program. -/
import Derived.Test.YtlcmlipldkpliaaItem
namespace Go.Proofs.Ytlcmlipldkpliaa
open Go.RowKit

/-- The text of one span. -/
def spT (lo hi : Nat) : List UInt8 := if hi - lo = 0 then itm lo else if hi - lo = 1 then itm lo ++ itm hi else itm lo ++ [45] ++ itm hi
theorem catL (a b : List UInt8) : (⟨a.toArray⟩ : ByteArray) ++ ⟨b.toArray⟩ = ⟨(a ++ b).toArray⟩ := by apply ByteArray.ext; simp
/-- The text of one byte, as a value. -/
def itB (b : Nat) : ByteArray := ⟨(itm b).toArray⟩
theorem itB_size (b : Nat) : (itB b).size ≤ 4 := by
  show (itm b).toArray.size ≤ 4
  unfold itm
  repeat' split
  all_goals simp
theorem box2 (w : World) (a b : Value) (t : TypeId) : (w.alloc (.cells #[a, b] t)).cell? ⟨w.heap.size, 0, none⟩ = some a ∧ (w.alloc (.cells #[a, b] t)).cell? ⟨w.heap.size, 1, none⟩ = some b := by
  constructor <;> simp [go_sem]

set_option maxRecDepth 100000 in
set_option maxHeartbeats 1000000 in
theorem showSpan_any (lo hi : Nat) (hle : lo ≤ hi) (hh : hi < 256) (w : World) :
    Calls Try.prog 72 #[.agg #[.int .i64 lo, .int .i64 hi]] w fun e w' => e = .returned (.string ⟨(spT lo hi).toArray⟩) ∧ Below w.heap.size w w' := by
  obtain ⟨c0, c1⟩ := box2 w (.int .i64 lo) (.int .i64 hi) 52
  have C0 := (show Hid _ from c0)
  have C1 := (show Hid _ from c1)
  have HI : Hid (∀ b : Nat, b < 256 → ∀ w, Calls Try.prog 83 #[.int .i64 (b : Int)] w fun e w' => e = .returned (.string (itB b)) ∧ Below w.heap.size w w') := fun b hb w => item_any b hb w
  have z1 := itB_size lo
  have z2 := itB_size hi
  have HB := (show Hid _ from below1 w (.cells #[.int .i64 lo, .int .i64 hi] 52))
  by_cases h0 : hi - lo = 0
  · have e0 : ((hi : Int) - (lo : Int) == 0) = true := beq_iff_eq.2 (by omega)
    have HE : Hid (spT lo hi = itm lo) := (by show spT lo hi = _; unfold spT; rw [if_pos h0])
    go_enter Try.func72, Try.ntmps72
    go_wp2_with fail
    refine (HI.out lo (by omega) _).mono ?_
    rintro e w1 ⟨rfl, hb⟩
    have HR := (show Hid _ from HB.out.trans (hb.mono (by simp)))
    clear hb
    go_wp2
    go_ret
    exact ⟨by rw [HE.out]; rfl, HR.out⟩
  · have e0 : ((hi : Int) - (lo : Int) == 0) = false := beq_eq_false_iff_ne.2 (by omega)
    have HR : Hid (Below (w.heap.size + 1) (w.alloc (.cells #[.int .i64 lo, .int .i64 hi] 52)) (w.alloc (.cells #[.int .i64 lo, .int .i64 hi] 52))) := Below.refl _ _
    by_cases h1 : hi - lo = 1
    · have e1 : ((hi : Int) - (lo : Int) == 1) = true := beq_iff_eq.2 (by omega)
      have HE : Hid (spT lo hi = itm lo ++ itm hi) := (by show spT lo hi = _; unfold spT; rw [if_neg h0, if_pos h1])
      go_enter Try.func72, Try.ntmps72
      go_wp2
      go_region_with ((go_at_call 83; refine (HI.out _ (by omega) _).mono ?_; rintro e w1 ⟨rfl, hb⟩; have hz1 := hb.size; (try simp at hz1); have hr2 := (show Below (w.heap.size + 1) (w.alloc (.cells #[.int .i64 lo, .int .i64 hi] 52)) w1 from (by first | exact HR.out.trans (hb.mono (by omega)) | exact HR.out.drew.trans (hb.mono (by simp)))); replace HR := (show Hid _ from hr2); have d0 := (HR.out.cell (p := ⟨w.heap.size, 0, none⟩) (by simp)).trans C0.out; have d1 := (HR.out.cell (p := ⟨w.heap.size, 1, none⟩) (by simp)).trans C1.out))
      all_goals
        go_wp2
        go_ret
        exact ⟨by rw [HE.out]; exact ret_str (catL (itm lo) (itm hi)), HB.out.trans (HR.out.mono (by omega))⟩
    · have e1 : ((hi : Int) - (lo : Int) == 1) = false := beq_eq_false_iff_ne.2 (by omega)
      have HE : Hid (spT lo hi = itm lo ++ [45] ++ itm hi) := (by show spT lo hi = _; unfold spT; rw [if_neg h0, if_neg h1])
      go_enter Try.func72, Try.ntmps72
      go_wp2
      go_region_with ((go_at_call 83; refine (HI.out _ (by omega) _).mono ?_; rintro e w1 ⟨rfl, hb⟩; have hz1 := hb.size; (try simp at hz1); have hr2 := (show Below (w.heap.size + 1) (w.alloc (.cells #[.int .i64 lo, .int .i64 hi] 52)) w1 from (by first | exact HR.out.trans (hb.mono (by omega)) | exact HR.out.drew.trans (hb.mono (by simp)))); replace HR := (show Hid _ from hr2); have d0 := (HR.out.cell (p := ⟨w.heap.size, 0, none⟩) (by simp)).trans C0.out; have d1 := (HR.out.cell (p := ⟨w.heap.size, 1, none⟩) (by simp)).trans C1.out))
      all_goals
        go_wp2
        go_ret
        exact ⟨by rw [HE.out]; exact ret_str (by exact (congrArg (· ++ itB hi) (catL (itm lo) [45])).trans (catL (itm lo ++ [45]) (itm hi))), HB.out.trans (HR.out.mono (by omega))⟩
end Go.Proofs.Ytlcmlipldkpliaa
