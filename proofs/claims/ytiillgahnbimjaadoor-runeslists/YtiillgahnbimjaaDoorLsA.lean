/- DERIVED. Walks: the law RunesLists. -/
import Derived.Test.YtiillgahnbimjaaDoorLnA
import Derived.Test.YtiillgahnbimjaaDoorWks
namespace Go.Proofs.YtiillgahnbimjaaDoor
open Go.RowKit

theorem fpV_cases (l : List Int) : ∃ x c, fpV l = .tuple #[.string x, .int .i64 c] := by
  unfold fpV
  split
  · exact ⟨_, _, rfl⟩
  · split
    · exact ⟨_, _, rfl⟩
    · exact ⟨_, _, rfl⟩

set_option maxRecDepth 100000 in
set_option maxHeartbeats 8000000 in
theorem lists_any (A : Option Addr) (c : Nat) (l : List Int) (hl : l.length * 8 ≤ 140737488351232) (w : World) (h : InI w A c l) (hv : VB w) :
    Calls Tryd.prog 4 #[.slice A l.length c] w fun e w' => e = .returned (.bool true) ∧ Below w.heap.size w w' := by
  have H1 : Hid (Calls Tryd.prog 18 #[.slice A l.length c] w fun e w' => LentI w w' l e ∧ Below w.heap.size w w') := lendInts_any A c l w hl h
  have HR := (show Hid (∀ w', Below w.heap.size w w' → RdI w' A l) from fun w' hb => h.rd.below hb)
  have HV := (show Hid _ from hv)
  obtain ⟨x, ec, hE⟩ := fpV_cases l
  have HE := (show Hid _ from hE)
  clear h hv hE
  go_enter Tryd.func4, Tryd.ntmps4
  go_wp2_with fail
  refine H1.out.mono ?_
  rintro e w1 ⟨⟨g, cap, rfl, ho⟩, hb1⟩
  have HO1 := (show Hid (w1.ownsRow w.heap.size 3 1 (.slice (some ⟨g, 0, none⟩) (l.length + 1) cap) (l.length + 1) (inc (l ++ [-77]))) from ho)
  have HB1 := (show Hid _ from hb1)
  clear ho hb1
  have H2 : Hid (Calls Tryd.prog 19 #[.slice (some ⟨g, 0, none⟩) l.length cap] w1 fun e w' => e = .returned (.tuple #[.string x, .int .i64 ec]) ∧ Below w1.heap.size w1 w') := by
    have e := fromPoints_any (some ⟨g, 0, none⟩) cap l w1 (lent_rd HO1.out)
    rw [HE.out] at e
    exact e
  go_wp2_with fail
  refine H2.out.mono ?_
  rintro e w2 ⟨rfl, hb2⟩
  have HO2 := (show Hid (w2.ownsRow w.heap.size 3 1 (.slice (some ⟨g, 0, none⟩) (l.length + 1) cap) (l.length + 1) (inc (l ++ [-77]))) from own_below HO1.out hb2)
  have HB2 := (show Hid (Below w.heap.size w w2) from HB1.out.trans (hb2.mono HB1.out.size))
  clear HO1 HB1 H2 hb2
  have H3 : Hid (Calls Tryd.prog 20 #[.slice A l.length c] w2 fun e w' => e = .returned (.tuple #[.string x, .int .i64 ec]) ∧ Below w2.heap.size w2 w') := by
    have e := fromPointsR_any A c l w2 (HR.out w2 HB2.out)
    rw [HE.out] at e
    exact e
  go_wp2_with fail
  refine H3.out.mono ?_
  rintro e w3 ⟨rfl, hb3⟩
  have HO3 := (show Hid (w3.ownsRow w.heap.size 3 1 (.slice (some ⟨g, 0, none⟩) (l.length + 1) cap) (l.length + 1) (inc (l ++ [-77]))) from own_below HO2.out hb3)
  have HB3 := (show Hid (Below w.heap.size w w3) from HB2.out.trans (hb3.mono HB2.out.size))
  clear HO2 HB2 H3 hb3
  have H4 : Hid (Calls Tryd.prog 21 #[.slice (some ⟨g, 0, none⟩) l.length cap, .slice A l.length c] w3 fun e w' => e = .returned (.bool true) ∧ Below w3.heap.size w3 w') := keptInts_any A c g cap _ l hl w3 (HR.out w3 HB3.out) HO3.out
  go_wp2_with fail
  refine H4.out.mono ?_
  rintro e w4 ⟨rfl, hb4⟩
  have HB4 := (show Hid (Below w.heap.size w w4) from HB3.out.trans (hb4.mono HB3.out.size))
  clear HO3 HB3 H4 hb4
  go_wp2_with fail
  refine (works_any _ (HV.out.below HB4.out HV.out.lt)).mono ?_
  rintro e w5 ⟨rfl, hb5⟩
  have HB5 := (show Hid (Below w.heap.size w w5) from HB4.out.trans (hb5.mono HB4.out.size))
  clear HB4 hb5
  go_wp2
  go_ret
  exact ⟨rfl, HB5.out⟩
end Go.Proofs.YtiillgahnbimjaaDoor
