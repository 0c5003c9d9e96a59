/- DERIVED. Walks: Count by the document; Greatest, Empty, Full, Apart, Within by the program. -/
import Derived.Test.YtlcmlipldkpliaaBytesR
import Derived.Test.YtlcmlipldkpliaaRefs
import Derived.Test.YtlcmlipldkpliaaEqs
import Derived.Test.YtlcmlipldkpliaaClass
namespace Go.Proofs.Ytlcmlipldkpliaa
open Go.RowKit

set_option maxHeartbeats 1000000 in
theorem countR_any (x : BitVec 256) (w : World) :
    Calls Try.prog 31 #[sv x] w fun e w' => e = .returned (.int .i64 (cnt x)) ∧ Below w.heap.size w w' := by
  have HR := (show Hid _ from below1 w (c4 x))
  have HL : Hid ((asText (bys x)).size = cnt x) := (by show (asText (bys x)).size = cnt x; rw [asText_size, bys_len])
  go_enter Try.func31, Try.ntmps31
  go_wp2_with fail
  refine (bytesR_any x _).mono ?_
  rintro e w1 ⟨rfl, hb⟩
  have HR1 := (show Hid _ from HR.out.trans (hb.mono (by simp)))
  clear hb
  go_wp2
  go_ret
  exact ⟨ret_int (by rw [HL.out]), HR1.out⟩

/-- The greatest byte of a set. -/
def grt (x : BitVec 256) : Int × Bool := match (bys x).getLast? with
  | some b => (b, true)
  | none => (0, false)
theorem grt_some (x : BitVec 256) (k : Nat) (h : bysTo x (k + 1) = bys x) (hb : x.getLsbD k = true) : grt x = ((k : Int), true) := by
  have e : bys x = bysTo x k ++ [(k : Int)] := by rw [← h, bysTo_succ, hb]; rfl
  unfold grt; rw [e]; simp
theorem grt_none (x : BitVec 256) (h : bysTo x 0 = bys x) : grt x = (0, false) := by
  unfold grt; rw [← h]; rfl

set_option maxHeartbeats 1000000 in
theorem greatest_any (x : BitVec 256) (w : World) :
    Calls Try.prog 28 #[sv x] w fun e w' => e = .returned (.tuple #[.int .i64 (grt x).1, .bool (grt x).2]) ∧ Below w.heap.size w w' := by
  go_enter Try.func28, Try.ntmps28
  go_wp2
  go_loopw [4] (fun t wr => ∃ k : Nat, k ≤ 256 ∧ t = .int .i64 ((k : Int) - 1) ∧ Hid (bysTo x k = bys x) ∧ Holds wr w.heap.size x ∧ Below w.heap.size w wr) (fun t _ => (intOf t + 1).toNat)
  case atStart => exact ⟨256, by omega, rfl, rfl, Holds.new w x, (Below.refl _ _).alloc (Nat.le_refl _) _⟩
  case round =>
    obtain ⟨k, hk, rfl, HK, hx, hbel⟩ := hrel
    have hsz : w.heap.size < wr.heap.size := hx.lt
    have HX := (show Hid _ from hx)
    have HB := (show Hid _ from hbel)
    cases k with
    | zero =>
      have HE := (show Hid _ from grt_none x HK.out)
      clear hx hbel
      go_wp2
      go_ret2
      exact ⟨by rw [HE.out]; rfl, HB.out⟩
    | succ k =>
      have HG := (show Hid _ from hasB_yes x k (by omega) (by omega))
      have hk1 : ((k + 1 : Nat) : Int) - 1 = (k : Int) := by omega
      rw [hk1]
      clear hk1
      obtain ⟨l0, c0, c1, c2, c3, f0, f1, f2, f3⟩ := hx
      clear hbel
      cases hb : hasB x k
      · have HE : Hid (bysTo x k = bys x) := (by
          rw [HG.out, Int.toNat_natCast] at hb
          have h := HK.out; rw [bysTo_succ, hb] at h; exact h)
        go_wp2_with fail
        refine (has_any x k _).mono ?_
        rintro e w1 ⟨rfl, hb1⟩
        have hB1 := (show Hid _ from HB.out.trans (hb1.mono (by omega)))
        have hX1 := (show Hid _ from HX.out.below hb1 (by omega))
        clear hb1
        go_wp2
        go_roundw
        case rel => exact ⟨k, by omega, by go_num, HE.out, hX1.out, hB1.out⟩
        case measure => simp [intOf]
      · have HE : Hid (grt x = ((k : Int), true)) := (by
          rw [HG.out, Int.toNat_natCast] at hb
          exact grt_some x k HK.out hb)
        go_wp2_with fail
        refine (has_any x k _).mono ?_
        rintro e w1 ⟨rfl, hb1⟩
        have hB1 := (show Hid _ from HB.out.trans (hb1.mono (by omega)))
        clear hb1
        go_wp2
        go_ret2
        exact ⟨by rw [HE.out]; rfl, hB1.out⟩

theorem eq24z (x : BitVec 256) (w : World) : (Op.equalIn 10000 24 (.agg #[.int .u64 (wd x 0), .int .u64 (wd x 1), .int .u64 (wd x 2), .int .u64 (wd x 3)]) (.agg #[.int .u64 0, .int .u64 0, .int .u64 0, .int .u64 0])).run Try.prog w = .ok (x == 0#256) w := by
  have h := eq24 x 0#256 w
  rw [wd_zero, wd_zero, wd_zero, wd_zero] at h
  exact h

set_option maxRecDepth 100000 in
set_option maxHeartbeats 1000000 in
theorem empty_any (x : BitVec 256) (w : World) :
    Calls Try.prog 32 #[sv x] w fun e w' => e = .returned (.bool (x == 0#256)) ∧ Below w.heap.size w w' := by
  have heq := eq24z
  go_enter Try.func32, Try.ntmps32
  go_wp2
  go_ret
  exact ⟨rfl, (Below.refl _ _).alloc (Nat.le_refl _) _⟩

theorem not0_any (w : World) :
    Calls Try.prog 20 #[.agg #[.int .u64 0, .int .u64 0, .int .u64 0, .int .u64 0]] w fun e w' => e = .returned (sv (~~~ 0#256)) ∧ Below w.heap.size w w' := by
  have h := not_any 0#256 w
  rw [sv, wd_zero, wd_zero, wd_zero, wd_zero] at h
  exact h

set_option maxRecDepth 100000 in
set_option maxHeartbeats 1000000 in
theorem full_any (x : BitVec 256) (w : World) :
    Calls Try.prog 33 #[sv x] w fun e w' => e = .returned (.bool (x == ~~~ 0#256)) ∧ Below w.heap.size w w' := by
  have heq := eq24
  have HR := (show Hid _ from below1 w (c4 x))
  have HX := (show Hid _ from Holds.new w x)
  generalize hq : ~~~ 0#256 = q
  have n0 : ∀ w, Calls Try.prog 20 #[.agg #[.int .u64 0, .int .u64 0, .int .u64 0, .int .u64 0]] w fun e w' => e = .returned (sv q) ∧ Below w.heap.size w w' := by rw [← hq]; exact not0_any
  have N0 := (show Hid _ from n0)
  clear n0 hq
  go_enter Try.func33, Try.ntmps33
  go_wp2
  go_region_with ((go_at_call 20; refine (N0.out _).mono ?_; rintro e w1 ⟨rfl, hb⟩; obtain ⟨l0, c0, c1, c2, c3, f0, f1, f2, f3⟩ := (by first | exact HX.out.drew.below hb (by simp) | exact HX.out.below hb (by simp)); replace HR := (show Hid _ from (by first | exact HR.out.drew.trans (hb.mono (by simp)) | exact HR.out.trans (hb.mono (by simp))))))
  all_goals
    go_wp2
    go_ret
    exact ⟨rfl, HR.out⟩

set_option maxHeartbeats 1000000 in
theorem apart_any (x y : BitVec 256) (w : World) :
    Calls Try.prog 34 #[sv x, sv y] w fun e w' => e = .returned (.bool (x &&& y == 0#256)) ∧ Below w.heap.size w w' := by
  have HR := (show Hid _ from below2 w (c4 x) (c4 y))
  have hsz := size2 w (c4 x) (c4 y)
  go_enter Try.func34, Try.ntmps34
  go_wp2_with fail
  refine (meet_any x y _).mono ?_
  rintro e w1 ⟨rfl, hb⟩
  have hl := hb.size
  rw [hsz] at hl
  have HR1 := (show Hid _ from HR.out.trans (hb.mono (by rw [hsz]; omega)))
  clear hb hsz
  go_wp2_with fail
  refine (empty_any _ _).mono ?_
  rintro e w2 ⟨rfl, hb⟩
  have HR2 := (show Hid _ from HR1.out.trans (hb.mono (by omega)))
  clear hb
  go_wp2
  go_ret
  exact ⟨rfl, HR2.out⟩

set_option maxRecDepth 100000 in
set_option maxHeartbeats 1000000 in
theorem within_any (x y : BitVec 256) (w : World) :
    Calls Try.prog 35 #[sv x, sv y] w fun e w' => e = .returned (.bool (x &&& y == x)) ∧ Below w.heap.size w w' := by
  have heq := eq24
  have HR := (show Hid _ from below2 w (c4 x) (c4 y))
  have HX := (show Hid _ from (Holds.new w x).alloc (c4 y))
  have hsz := size2 w (c4 x) (c4 y)
  have HS := (show Hid _ from hsz)
  clear hsz
  go_enter Try.func35, Try.ntmps35
  go_wp2
  go_region_with ((go_at_call 16; refine (meet_any _ _ _).mono ?_; rintro e w1 ⟨rfl, hb⟩; obtain ⟨l0, c0, c1, c2, c3, f0, f1, f2, f3⟩ := (by first | exact HX.out.drew.below hb (by simp; omega) | exact HX.out.below hb (by simp; omega)); replace HR := (show Hid _ from (by first | exact HR.out.drew.trans (hb.mono (by simp; omega)) | exact HR.out.trans (hb.mono (by simp; omega))))))
  all_goals
    go_wp2
    go_ret
    exact ⟨rfl, HR.out⟩
end Go.Proofs.Ytlcmlipldkpliaa
