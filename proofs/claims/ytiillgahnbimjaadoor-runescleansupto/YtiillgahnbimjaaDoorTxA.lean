/- DERIVED. Walks: the law RunesTexts. -/
import Derived.Test.YtiillgahnbimjaaDoorLiA
import Derived.Test.YtiillgahnbimjaaDoorPoB
import Derived.Test.YtiillgahnbimjaaDoorWks
namespace Go.Proofs.YtiillgahnbimjaaDoor
open Go.RowKit

theorem ptF_len (s : ByteArray) : ∀ (f p : Nat) (l m : List Int), ptF s f p l = .inl m → m.length ≤ l.length + f
  | 0, p, l, m, h => by cases h; omega
  | f + 1, p, l, m, h => by
    rw [ptF] at h
    split at h
    · cases hd : dcd s p with
      | none => rw [hd] at h; cases h
      | some x =>
        obtain ⟨r, n⟩ := x
        rw [hd] at h
        have := ptF_len s f (p + n) (l ++ [r]) m h
        rw [List.length_append] at this
        simp at this
        omega
    · cases h; omega
/-- What Points tells: the points, a place, an error. -/
def ptT (s : ByteArray) : List Int × Int × Int := if 65536 < s.size then ([], 0, 2) else match pts s with
  | .inr p => ([], (p : Int), 6)
  | .inl l => (l, 0, 0)
theorem ptT_len (s : ByteArray) : (ptT s).1.length ≤ 65536 := by
  unfold ptT
  split
  · simp
  · cases h : pts s with
    | inr p => simp
    | inl l => have := ptF_len s _ _ _ _ h; simp at this; show l.length ≤ _; omega
theorem PtV.get {w w' : World} {s : ByteArray} {e : Ending} (h : PtV w w' s e) : ∃ v, e = .returned (.tuple #[v, .agg #[.int .i64 (ptT s).2.1, .int .i64 (ptT s).2.2]]) ∧ w'.ownsRow w.heap.size 3 1 v (ptT s).1.length (inc (ptT s).1) := by
  unfold PtV at h
  unfold ptT
  split at h
  · next q => rw [if_pos q]; exact ⟨_, h, World.ownsRow_nil _ _ _ _⟩
  · next q =>
    rw [if_neg q]
    cases hp : pts s with
    | inr p => rw [hp] at h; exact ⟨_, h, World.ownsRow_nil _ _ _ _⟩
    | inl l => rw [hp] at h; exact h
theorem PrV.get {w w' : World} {s : ByteArray} {e : Ending} (h : PrV w w' s e) : ∃ v, e = .returned (.tuple #[v, .int .i64 (ptT s).2.1, .int .i64 (ptT s).2.2]) ∧ w'.ownsRow w.heap.size 3 1 v (ptT s).1.length (inc (ptT s).1) := by
  unfold PrV at h
  unfold ptT
  split at h
  · next q => rw [if_pos q]; exact ⟨_, h, World.ownsRow_nil _ _ _ _⟩
  · next q =>
    rw [if_neg q]
    cases hp : pts s with
    | inr p => rw [hp] at h; exact ⟨_, h, World.ownsRow_nil _ _ _ _⟩
    | inl l => rw [hp] at h; exact h

theorem al_size (w : World) (o : Obj) : (w.alloc o).heap.size = w.heap.size + 1 := by simp
/-- What holds in the law. -/
structure AtT (w wr : World) (b1 : Nat) (x g y : Value) (l : List Int) (a c : Int) : Prop where
  ox : wr.ownsRow w.heap.size 3 1 x l.length (inc l)
  og : wr.ownsRow w.heap.size 3 1 g l.length (inc l)
  oy : wr.ownsRow w.heap.size 3 1 y l.length (inc l)
  f : FHolds wr b1 a c
  b : Below w.heap.size w wr
  ng : g.ownBlock = none ∨ g.ownBlock ≠ x.ownBlock
  ny : y.ownBlock = none ∨ y.ownBlock ≠ x.ownBlock
theorem AtT.below {w wr w2 : World} {b1 : Nat} {x g y : Value} {l : List Int} {a c : Int} (h : AtT w wr b1 x g y l a c) (hb : Below wr.heap.size wr w2) : AtT w w2 b1 x g y l a c :=
  ⟨own_below h.ox hb, own_below h.og hb, own_below h.oy hb, h.f.below hb h.f.lt, h.b.trans (hb.mono h.b.size), h.ng, h.ny⟩
theorem own_far {W : World} {B n : Nat} {v u : Value} {xs : List Value} {e size : Nat} (h : W.ownsRow B e size v n xs) (hu : ∀ k, u.ownBlock = some k → k < B) : v.ownBlock = none ∨ v.ownBlock ≠ u.ownBlock := by
  cases hv : v.ownBlock with
  | none => exact .inl rfl
  | some k => exact .inr fun e => by have := hu k e.symm; have := (h.lt k hv).1; omega

set_option maxRecDepth 100000 in
set_option maxHeartbeats 8000000 in
theorem texts_any (s : ByteArray) (hs : s.size ≤ 1048576) (w : World) (hv : VB w) : Calls Tryd.prog 3 #[.string s] w fun e w' => e = .returned (.bool true) ∧ Below w.heap.size w w' := by
  have H1 : Hid (∀ w, Calls Tryd.prog 8 #[] w fun e w' => e = .returned (.bool true) ∧ w' = w) := fun w => names_any w
  have H2 : Hid (∀ w, Calls Tryd.prog 9 #[.string s] w fun e w' => (∃ v, e = .returned (.tuple #[v, .agg #[.int .i64 (ptT s).2.1, .int .i64 (ptT s).2.2]]) ∧ w'.ownsRow w.heap.size 3 1 v (ptT s).1.length (inc (ptT s).1)) ∧ Below w.heap.size w w') := fun w => (points_any s w).mono fun e w' ⟨h1, h2⟩ => ⟨h1.get, h2⟩
  have H3 : Hid (∀ w, Calls Tryd.prog 10 #[.string s] w fun e w' => (∃ v, e = .returned (.tuple #[v, .int .i64 (ptT s).2.1, .int .i64 (ptT s).2.2]) ∧ w'.ownsRow w.heap.size 3 1 v (ptT s).1.length (inc (ptT s).1)) ∧ Below w.heap.size w w') := fun w => (pointsR_any s w).mono fun e w' ⟨h1, h2⟩ => ⟨h1.get, h2⟩
  have H4 : Hid (∀ w, Calls Tryd.prog 12 #[.string s] w fun e w' => e = .returned (.bool (vld s)) ∧ Below w.heap.size w w') := fun w => valid_any s w
  have H5 : Hid (∀ w, Calls Tryd.prog 13 #[.string s] w fun e w' => e = .returned (.bool (vld s)) ∧ Below w.heap.size w w') := fun w => validR_any s (by omega) w
  have H6 : Hid (∀ w, Calls Tryd.prog 14 #[.string s] w fun e w' => e = .returned (.string (asText (cln s))) ∧ Below w.heap.size w w') := fun w => clean_any s (by omega) w
  have H7 : Hid (∀ w, Calls Tryd.prog 15 #[.string s] w fun e w' => e = .returned (.string (asText (cln s))) ∧ Below w.heap.size w w') := fun w => cleanR_any s (by omega) w
  have H8 : Hid (∀ w, VB w → Calls Tryd.prog 17 #[] w fun e w' => e = .returned (.bool true) ∧ Below w.heap.size w w') := fun w h => works_any w h
  have HL := (show Hid _ from ptT_len s)
  have HV := (show Hid _ from hv)
  generalize (ptT s).1 = l at *
  generalize (ptT s).2.1 = a at *
  generalize (ptT s).2.2 = c at *
  generalize vld s = vb at *
  generalize asText (cln s) = ct at *
  clear hv hs
  go_enter Tryd.func3, Tryd.ntmps3
  go_wp2_with fail
  refine (H1.out _).mono ?_
  rintro e w' ⟨rfl, rfl⟩
  go_wp2_with fail
  refine (H2.out _).mono ?_
  rintro e w1 ⟨⟨x, rfl, hx⟩, hb1⟩
  have HX := (show Hid _ from hx)
  have HB1 := (show Hid _ from hb1)
  clear hx hb1
  go_wp2_with fail
  refine (H2.out _).mono ?_
  rintro e w2 ⟨⟨g, rfl, hg⟩, hb2⟩
  have HG := (show Hid _ from hg)
  have HB2 := (show Hid _ from hb2)
  clear hg hb2
  go_wp2_with fail
  refine (H3.out _).mono ?_
  rintro e w3 ⟨⟨y, rfl, hy⟩, hb3⟩
  have hz1 := HB1.out.size
  have hz2 := HB2.out.size
  have hz3 := hb3.size
  rw [al_size] at hz2 hz3
  have HT := (show Hid (AtT w' w3 w1.heap.size x g y l a c) from (by
    have k1 : Below w1.heap.size w1 w2 := ((Below.refl _ _).alloc (Nat.le_refl _) _).trans (HB2.out.mono (by simp))
    have k2 : Below w2.heap.size w2 w3 := ((Below.refl _ _).alloc (Nat.le_refl _) _).trans (hb3.mono (by simp))
    have ox := own_below (own_below HX.out k1) k2
    have og := own_base (own_below HG.out k2) (show w'.heap.size ≤ _ by rw [al_size]; omega)
    have oy := own_base hy (show w'.heap.size ≤ _ by rw [al_size]; omega)
    refine ⟨ox, og, oy, ?_, HB1.out.trans ((k1.mono hz1).trans (k2.mono (by omega))), own_far HG.out (fun k e => by have := (World.ownsRow.lt (w := w1) (base := w'.heap.size) (e := 3) (size := 1) (n := l.length) (xs := inc l) HX.out k e).2; rw [al_size]; omega), own_far hy (fun k e => by have := (World.ownsRow.lt (w := w1) (base := w'.heap.size) (e := 3) (size := 1) (n := l.length) (xs := inc l) HX.out k e).2; rw [al_size]; omega)⟩
    have hf := FHolds.new w1 a c
    exact (hf.below HB2.out (by simp)).below k2 (by omega)))
  clear hy hb3 HX HG HB1 HB2 hz1 hz2 hz3
  obtain ⟨A1, c1, rfl, _⟩ := own_rd HT.out.ox rfl
  obtain ⟨A2, c2, rfl, _⟩ := own_rd HT.out.og rfl
  obtain ⟨A3, c3, rfl, _⟩ := own_rd HT.out.oy rfl
  have HRD := (show Hid (∀ W v A c, W.ownsRow w'.heap.size 3 1 v l.length (inc l) → v = .slice A l.length c → RdI W A l) from fun W v A c ho hv => by
    obtain ⟨A', c', e, r⟩ := own_rd ho rfl
    rw [e] at hv
    cases hv
    exact r)
  go_wp2_with fail
  refine (sameInts_any A1 A3 c1 c3 l (by have := HL.out; omega) _ (HRD.out _ _ _ _ HT.out.ox rfl) (HRD.out _ _ _ _ HT.out.oy rfl)).mono ?_
  rintro e w4 ⟨rfl, hb4⟩
  have HT4 := (show Hid _ from HT.out.below hb4)
  clear HT hb4
  have k0 := HT4.out.f.c0
  have k1 := HT4.out.f.c1
  go_wp2_with fail
  refine (H4.out _).mono ?_
  rintro e w5 ⟨rfl, hb5⟩
  have HT5 := (show Hid _ from HT4.out.below hb5)
  clear HT4 hb5 k0 k1
  go_wp2_with fail
  refine (H5.out _).mono ?_
  rintro e w6 ⟨rfl, hb6⟩
  have HT6 := (show Hid _ from HT5.out.below hb6)
  clear HT5 hb6
  go_wp2_with fail
  refine (H6.out _).mono ?_
  rintro e w7 ⟨rfl, hb7⟩
  have HT7 := (show Hid _ from HT6.out.below hb7)
  clear HT6 hb7
  go_wp2_with fail
  refine (H7.out _).mono ?_
  rintro e w8 ⟨rfl, hb8⟩
  have HT8 := (show Hid _ from HT7.out.below hb8)
  clear HT7 hb8
  go_wp2_with fail
  refine (spoilInts_any _ _ _ _ _ HT8.out.ox HT8.out.b.size HL.out).mono ?_
  rintro e w9 ⟨⟨u, rfl⟩, hg⟩
  have HG := (show Hid (w9.ownsRow w'.heap.size 3 1 (.slice A2 l.length c2) l.length (inc l)) from HT8.out.og.kept hg HT8.out.ng)
  have HY := (show Hid (w9.ownsRow w'.heap.size 3 1 (.slice A3 l.length c3) l.length (inc l)) from HT8.out.oy.kept hg HT8.out.ny)
  have HB9 := (show Hid (Below w'.heap.size w' w9) from HT8.out.b.grown hg HT8.out.b.size (fun k e => (HT8.out.ox.lt k e).1))
  clear HT8 hg
  go_wp2_with fail
  refine (sameInts_any A2 A3 c2 c3 l (by have := HL.out; omega) _ (HRD.out _ _ _ _ HG.out rfl) (HRD.out _ _ _ _ HY.out rfl)).mono ?_
  rintro e w10 ⟨rfl, hb10⟩
  have HB10 := (show Hid (Below w'.heap.size w' w10) from HB9.out.trans (hb10.mono HB9.out.size))
  clear HB9 hb10 HG HY
  go_wp2_with fail
  refine (H8.out _ (HV.out.below HB10.out HV.out.lt)).mono ?_
  rintro e w11 ⟨rfl, hb11⟩
  have HB11 := (show Hid (Below w'.heap.size w' w11) from HB10.out.trans (hb11.mono HB10.out.size))
  clear HB10 hb11
  go_wp2
  go_ret
  exact ⟨rfl, HB11.out⟩
end Go.Proofs.YtiillgahnbimjaaDoor
