/- DERIVED. Plain: Mix. -/
import Derived.Test.YtlcmlipldkpliaaSlots
import Derived.Test.YtlcmlipldkpliaaHasA
namespace Go.Proofs.Ytlcmlipldkpliaa
open Go.RowKit
/-- What Mix takes of a byte that is in a, in b. -/
def mixB (m : Nat) (a b : Bool) : Bool := (m == 0 && (a || b)) || ((m == 1 && a && b) || ((m == 2 && a && !b) || (m == 3 && !a)))
def mixTo (m : Nat) (x y : BitVec 256) (k : Nat) : BitVec 256 := ofB (fun j => mixB m (x.getLsbD j) (y.getLsbD j)) k
def mixS (m : Nat) (x y : BitVec 256) : BitVec 256 := mixTo m x y 256
theorem mixTo_succ (m : Nat) (x y : BitVec 256) (k : Nat) (hk : k < 256) : mixTo m x y (k + 1) = if mixB m (hasB x k) (hasB y k) then mixTo m x y k ||| bt k else mixTo m x y k := by
  rw [hasB_yes x k (by omega) (by omega), hasB_yes y k (by omega) (by omega), Int.toNat_natCast]; rfl
theorem mixS_get (m : Nat) (x y : BitVec 256) (j : Nat) (hj : j < 256) : (mixS m x y).getLsbD j = mixB m (x.getLsbD j) (y.getLsbD j) := by
  unfold mixS mixTo; rw [ofB_get _ _ (by omega)]; simp [hj]
theorem mixS_union (x y : BitVec 256) : mixS 0 x y = x ||| y := set_eq _ _ fun j hj => by rw [mixS_get _ _ _ _ hj, BitVec.getLsbD_or]; simp [mixB]
theorem mixS_meet (x y : BitVec 256) : mixS 1 x y = x &&& y := set_eq _ _ fun j hj => by rw [mixS_get _ _ _ _ hj, BitVec.getLsbD_and]; simp [mixB]
theorem mixS_less (x y : BitVec 256) : mixS 2 x y = x &&& ~~~ y := set_eq _ _ fun j hj => by rw [mixS_get _ _ _ _ hj, BitVec.getLsbD_and, BitVec.getLsbD_not]; simp [mixB, hj]
theorem mixS_not (x y : BitVec 256) : mixS 3 x y = ~~~ x := set_eq _ _ fun j hj => by rw [mixS_get _ _ _ _ hj, BitVec.getLsbD_not]; simp [mixB, hj]

abbrev c4 (x : BitVec 256) : Obj := .cells #[.int .u64 (wd x 0), .int .u64 (wd x 1), .int .u64 (wd x 2), .int .u64 (wd x 3)] 24
abbrev z4 : Obj := .cells #[.int .u64 0, .int .u64 0, .int .u64 0, .int .u64 0] 24
theorem mix_start0 (w : World) (x y : BitVec 256) : Holds ((((w.alloc (c4 x)).alloc (c4 y)).alloc z4).alloc z4) w.heap.size x := (((Holds.new w x).alloc _).alloc _).alloc _
theorem mix_start1 (w : World) (x y : BitVec 256) : Holds ((((w.alloc (c4 x)).alloc (c4 y)).alloc z4).alloc z4) (w.heap.size + 1) y := by
  have h := ((Holds.new (w.alloc (c4 x)) y).alloc z4).alloc z4
  rw [show (w.alloc (c4 x)).heap.size = w.heap.size + 1 from by simp] at h
  exact h
theorem mix_start2 (w : World) (x y : BitVec 256) : Holds ((((w.alloc (c4 x)).alloc (c4 y)).alloc z4).alloc z4) (w.heap.size + 2) 0#256 := by
  have h := (Holds.zero ((w.alloc (c4 x)).alloc (c4 y))).alloc z4
  rw [show ((w.alloc (c4 x)).alloc (c4 y)).heap.size = w.heap.size + 2 from by simp] at h
  exact h
theorem mix_start3 (w : World) (x y : BitVec 256) : Holds ((((w.alloc (c4 x)).alloc (c4 y)).alloc z4).alloc z4) (w.heap.size + 3) 0#256 := by
  have h := Holds.zero (((w.alloc (c4 x)).alloc (c4 y)).alloc z4)
  rw [show (((w.alloc (c4 x)).alloc (c4 y)).alloc z4).heap.size = w.heap.size + 3 from by simp] at h
  exact h
theorem mix_startB (w : World) (x y : BitVec 256) : Below w.heap.size w ((((w.alloc (c4 x)).alloc (c4 y)).alloc z4).alloc z4) :=
  (((((Below.refl _ _).alloc (Nat.le_refl _) _).alloc (by simp) _).alloc (by simp; omega) _).alloc (by simp; omega) _)
end Go.Proofs.Ytlcmlipldkpliaa
