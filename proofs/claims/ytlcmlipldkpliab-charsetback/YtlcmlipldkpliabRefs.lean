/- DERIVED. Walks: Union, Meet, Less, Not by the document; Less by the program; names. -/
import Derived.Test.YtlcmlipldkpliabSlots
import Derived.Test.YtlcmlipldkpliabWithA
import Derived.Test.YtlcmlipldkpliabHasA
import Derived.Test.YtlcmlipldkpliabMixP
import Derived.Test.YtlcmlipldkpliabOps
namespace Go.Proofs.Ytlcmlipldkpliab
open Go.RowKit

theorem size1 (w : World) (a : Obj) : (w.alloc a).heap.size = w.heap.size + 1 := by simp
theorem size2 (w : World) (a b : Obj) : ((w.alloc a).alloc b).heap.size = w.heap.size + 1 + 1 := by simp
theorem size3 (w : World) (a b c : Obj) : (((w.alloc a).alloc b).alloc c).heap.size = w.heap.size + 1 + 1 + 1 := by simp
theorem holds3 (w : World) (a b : Obj) : Holds (((w.alloc a).alloc b).alloc z4) (w.heap.size + 1 + 1) 0#256 := by
  have h := Holds.zero ((w.alloc a).alloc b)
  rw [size2] at h
  exact h
theorem below3 (w : World) (a b c : Obj) : Below w.heap.size w (((w.alloc a).alloc b).alloc c) :=
  (((Below.refl _ _).alloc (Nat.le_refl _) _).alloc (by simp) _).alloc (by simp; omega) _
theorem below2 (w : World) (a b : Obj) : Below w.heap.size w ((w.alloc a).alloc b) :=
  ((Below.refl _ _).alloc (Nat.le_refl _) _).alloc (by simp) _

set_option maxHeartbeats 1000000 in
theorem less_any (x y : BitVec 256) (w : World) :
    Calls Try.prog 10 #[sv x, sv y] w fun e w' => e = .returned (sv (x &&& ~~~ y)) ∧ Below w.heap.size w w' := by
  have hsz := size3 w (c4 x) (c4 y) z4
  have HX := (show Hid _ from ((Holds.new w x).alloc (c4 y)).alloc z4)
  have HH := (show Hid _ from holds3 w (c4 x) (c4 y))
  have HB := (show Hid _ from below3 w (c4 x) (c4 y) z4)
  have HR : Hid (Below (w.heap.size + 1 + 1 + 1) (((w.alloc (c4 x)).alloc (c4 y)).alloc z4) (((w.alloc (c4 x)).alloc (c4 y)).alloc z4)) := Below.refl _ _
  go_enter Try.func10, Try.ntmps10
  go_wp2
  go_region_with (first | (go_at_call 9; refine (not_any _ _).mono ?_; rintro e w1 ⟨rfl, hb⟩; have hz1 := hb.size; (try simp at hz1); replace HR : Hid (Below (w.heap.size + 1 + 1 + 1) (((w.alloc (c4 x)).alloc (c4 y)).alloc z4) w1) := (by first | exact HR.out.trans (hb.mono (by omega)) | exact HR.out.drew.trans (hb.mono (by simp))); obtain ⟨l5, p0, p1, p2, p3, q0, q1, q2, q3⟩ := HH.out.below HR.out (by omega); obtain ⟨l0, c0, c1, c2, c3, f0, f1, f2, f3⟩ := HX.out.below HR.out (by omega)) | (go_at_call 8; refine (meet_any _ _ _).mono ?_; rintro e w1 ⟨rfl, hb⟩; have hz1 := hb.size; (try simp at hz1); replace HR : Hid (Below (w.heap.size + 1 + 1 + 1) (((w.alloc (c4 x)).alloc (c4 y)).alloc z4) w1) := (by first | exact HR.out.trans (hb.mono (by omega)) | exact HR.out.drew.trans (hb.mono (by simp))); obtain ⟨l5, p0, p1, p2, p3, q0, q1, q2, q3⟩ := HH.out.below HR.out (by omega); obtain ⟨l0, c0, c1, c2, c3, f0, f1, f2, f3⟩ := HX.out.below HR.out (by omega)))
  all_goals
    go_wp2
    exact bodyPost_ret (v := sv (x &&& ~~~ y)) (by simp [results, Try.results10, go_sem, *]) rfl ⟨rfl, ((((HB.out.trans (HR.out.mono (by omega))).setCell (by simp; omega) _).setCell (by simp; omega) _).setCell (by simp; omega) _).setCell (by simp; omega) _⟩
end Go.Proofs.Ytlcmlipldkpliab
