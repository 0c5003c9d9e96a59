/- DERIVED. Walks: Union, Meet, Less, Not by the document; Less by the program; names. -/
import Derived.Test.YtlcmlipldkpliaaTmMix
import Derived.Test.YtlcmlipldkpliaaOps
namespace Go.Proofs.Ytlcmlipldkpliaa
open Go.RowKit

theorem size1 (w : World) (a : Obj) : (w.alloc a).heap.size = w.heap.size + 1 := by simp
theorem size2 (w : World) (a b : Obj) : ((w.alloc a).alloc b).heap.size = w.heap.size + 1 + 1 := by simp
theorem size3 (w : World) (a b c : Obj) : (((w.alloc a).alloc b).alloc c).heap.size = w.heap.size + 1 + 1 + 1 := by simp
theorem holds3 (w : World) (a b : Obj) : Holds (((w.alloc a).alloc b).alloc z4) (w.heap.size + 1 + 1) 0#256 := by
  have h := Holds.zero ((w.alloc a).alloc b)
  rw [size2] at h
  exact h
theorem below3 (w : World) (a b c : Obj) : Below w.heap.size w (((w.alloc a).alloc b).alloc c) :=
  (((Below.refl _ _).alloc (Nat.le_refl _) _).alloc (by simp) _).alloc (by simp; omega) _
theorem below2 (w : World) (a b : Obj) : Below w.heap.size w ((w.alloc a).alloc b) :=
  ((Below.refl _ _).alloc (Nat.le_refl _) _).alloc (by simp) _

set_option maxHeartbeats 400000 in
theorem names_any (w : World) : Calls Try.prog 9 #[] w fun e w' => e = .returned (.bool true) ∧ w' = w := by
  go_enter Try.func9, Try.ntmps9
  go_wp2
  go_ret
  exact ⟨rfl, rfl⟩

set_option maxHeartbeats 400000 in
theorem unionR_any (x y : BitVec 256) (w : World) :
    Calls Try.prog 15 #[sv x, sv y] w fun e w' => e = .returned (sv (x ||| y)) ∧ Below w.heap.size w w' := by
  have hsz := size3 w (c4 x) (c4 y) z4
  have HH := (show Hid _ from holds3 w (c4 x) (c4 y))
  have HB := (show Hid _ from below3 w (c4 x) (c4 y) z4)
  go_enter Try.func15, Try.ntmps15
  go_wp2_with fail
  refine (mix0_any x y _).mono ?_
  rintro e w1 ⟨rfl, hb⟩
  have hl := hb.size
  have HR := (show Hid _ from HB.out.trans (hb.mono (by rw [hsz]; omega)))
  obtain ⟨l0, c0, c1, c2, c3, f0, f1, f2, f3⟩ := HH.out.below hb (by rw [hsz]; omega)
  rw [mixS_union]
  generalize hr : x ||| y = r
  have Hr := (show Hid _ from hr)
  clear hr
  clear hsz hl
  go_wp2
  exact bodyPost_ret (v := sv r) (by simp [results, Try.results15, go_sem, *]) rfl ⟨by rw [Hr.out], (((HR.out.setCell (by simp; omega) _).setCell (by simp; omega) _).setCell (by simp; omega) _).setCell (by simp; omega) _⟩

set_option maxHeartbeats 400000 in
theorem meetR_any (x y : BitVec 256) (w : World) :
    Calls Try.prog 17 #[sv x, sv y] w fun e w' => e = .returned (sv (x &&& y)) ∧ Below w.heap.size w w' := by
  have hsz := size3 w (c4 x) (c4 y) z4
  have HH := (show Hid _ from holds3 w (c4 x) (c4 y))
  have HB := (show Hid _ from below3 w (c4 x) (c4 y) z4)
  go_enter Try.func17, Try.ntmps17
  go_wp2_with fail
  refine (mix1_any x y _).mono ?_
  rintro e w1 ⟨rfl, hb⟩
  have hl := hb.size
  have HR := (show Hid _ from HB.out.trans (hb.mono (by rw [hsz]; omega)))
  obtain ⟨l0, c0, c1, c2, c3, f0, f1, f2, f3⟩ := HH.out.below hb (by rw [hsz]; omega)
  rw [mixS_meet]
  generalize hr : x &&& y = r
  have Hr := (show Hid _ from hr)
  clear hr
  clear hsz hl
  go_wp2
  exact bodyPost_ret (v := sv r) (by simp [results, Try.results17, go_sem, *]) rfl ⟨by rw [Hr.out], (((HR.out.setCell (by simp; omega) _).setCell (by simp; omega) _).setCell (by simp; omega) _).setCell (by simp; omega) _⟩

set_option maxHeartbeats 400000 in
theorem lessR_any (x y : BitVec 256) (w : World) :
    Calls Try.prog 19 #[sv x, sv y] w fun e w' => e = .returned (sv (x &&& ~~~ y)) ∧ Below w.heap.size w w' := by
  have hsz := size3 w (c4 x) (c4 y) z4
  have HH := (show Hid _ from holds3 w (c4 x) (c4 y))
  have HB := (show Hid _ from below3 w (c4 x) (c4 y) z4)
  go_enter Try.func19, Try.ntmps19
  go_wp2_with fail
  refine (mix2_any x y _).mono ?_
  rintro e w1 ⟨rfl, hb⟩
  have hl := hb.size
  have HR := (show Hid _ from HB.out.trans (hb.mono (by rw [hsz]; omega)))
  obtain ⟨l0, c0, c1, c2, c3, f0, f1, f2, f3⟩ := HH.out.below hb (by rw [hsz]; omega)
  rw [mixS_less]
  generalize hr : x &&& ~~~ y = r
  have Hr := (show Hid _ from hr)
  clear hr
  clear hsz hl
  go_wp2
  exact bodyPost_ret (v := sv r) (by simp [results, Try.results19, go_sem, *]) rfl ⟨by rw [Hr.out], (((HR.out.setCell (by simp; omega) _).setCell (by simp; omega) _).setCell (by simp; omega) _).setCell (by simp; omega) _⟩

set_option maxHeartbeats 400000 in
theorem notR_any (x : BitVec 256) (w : World) :
    Calls Try.prog 21 #[sv x] w fun e w' => e = .returned (sv (~~~ x)) ∧ Below w.heap.size w w' := by
  have hsz := size2 w (c4 x) z4
  have HH := (show Hid _ from Holds.zero' w (c4 x))
  have HB := (show Hid _ from below2 w (c4 x) z4)
  go_enter Try.func21, Try.ntmps21
  go_wp2_with fail
  refine (mix3_any x x _).mono ?_
  rintro e w1 ⟨rfl, hb⟩
  have hl := hb.size
  have HR := (show Hid _ from HB.out.trans (hb.mono (by rw [hsz]; omega)))
  obtain ⟨l0, c0, c1, c2, c3, f0, f1, f2, f3⟩ := HH.out.below hb (by rw [hsz]; omega)
  rw [mixS_not]
  generalize hr : ~~~ x = r
  have Hr := (show Hid _ from hr)
  clear hr
  clear hsz hl
  go_wp2
  exact bodyPost_ret (v := sv r) (by simp [results, Try.results21, go_sem, *]) rfl ⟨by rw [Hr.out], (((HR.out.setCell (by simp) _).setCell (by simp) _).setCell (by simp) _).setCell (by simp) _⟩

set_option maxHeartbeats 1000000 in
theorem less_any (x y : BitVec 256) (w : World) :
    Calls Try.prog 18 #[sv x, sv y] w fun e w' => e = .returned (sv (x &&& ~~~ y)) ∧ Below w.heap.size w w' := by
  have hsz := size3 w (c4 x) (c4 y) z4
  have HX := (show Hid _ from ((Holds.new w x).alloc (c4 y)).alloc z4)
  have HH := (show Hid _ from holds3 w (c4 x) (c4 y))
  have HB := (show Hid _ from below3 w (c4 x) (c4 y) z4)
  have HR : Hid (Below (w.heap.size + 1 + 1 + 1) (((w.alloc (c4 x)).alloc (c4 y)).alloc z4) (((w.alloc (c4 x)).alloc (c4 y)).alloc z4)) := Below.refl _ _
  go_enter Try.func18, Try.ntmps18
  go_wp2
  go_region_with (first | (go_at_call 20; refine (not_any _ _).mono ?_; rintro e w1 ⟨rfl, hb⟩; have hz1 := hb.size; (try simp at hz1); replace HR : Hid (Below (w.heap.size + 1 + 1 + 1) (((w.alloc (c4 x)).alloc (c4 y)).alloc z4) w1) := (by first | exact HR.out.trans (hb.mono (by omega)) | exact HR.out.drew.trans (hb.mono (by simp))); obtain ⟨l5, p0, p1, p2, p3, q0, q1, q2, q3⟩ := HH.out.below HR.out (by omega); obtain ⟨l0, c0, c1, c2, c3, f0, f1, f2, f3⟩ := HX.out.below HR.out (by omega)) | (go_at_call 16; refine (meet_any _ _ _).mono ?_; rintro e w1 ⟨rfl, hb⟩; have hz1 := hb.size; (try simp at hz1); replace HR : Hid (Below (w.heap.size + 1 + 1 + 1) (((w.alloc (c4 x)).alloc (c4 y)).alloc z4) w1) := (by first | exact HR.out.trans (hb.mono (by omega)) | exact HR.out.drew.trans (hb.mono (by simp))); obtain ⟨l5, p0, p1, p2, p3, q0, q1, q2, q3⟩ := HH.out.below HR.out (by omega); obtain ⟨l0, c0, c1, c2, c3, f0, f1, f2, f3⟩ := HX.out.below HR.out (by omega)))
  all_goals
    go_wp2
    exact bodyPost_ret (v := sv (x &&& ~~~ y)) (by simp [results, Try.results18, go_sem, *]) rfl ⟨rfl, ((((HB.out.trans (HR.out.mono (by omega))).setCell (by simp; omega) _).setCell (by simp; omega) _).setCell (by simp; omega) _).setCell (by simp; omega) _⟩
end Go.Proofs.Ytlcmlipldkpliaa
