/- DERIVED. Walks: appendShapes. -/
import Derived.Test.YtiillgahnbimjabDoorRrA
import Derived.Test.YtiillgahnbimjabDoorSmB
namespace Go.Proofs.YtiillgahnbimjabDoor
open Go.RowKit

theorem Tryd.info54 : (Tryd.prog.info? 30).map (fun i => (i.zero, i.size, i.bytes)) = some (some (.slice none 0 0), 1, 24) := by kernel_rfl

/-- What appendShapes does. -/
def AppS (lo hi : Int) : Prop := ∀ (w : World) (B : Nat) (v : Value) (ss : List Shape) (xs : List Value), RR w B v ss xs → B ≤ w.heap.size → ss.length + (hi - lo + 1).toNat ≤ 1114112 →
  Calls Tryd.prog 11 #[v, .agg #[.int .i32 lo, .int .i32 hi]] w fun e w' => ∃ v' xs', e = .returned v' ∧ RR w' B v' (ss ++ shs lo hi) xs' ∧ w.grownBy w' v.ownBlock ∧ ∀ k, v'.ownBlock = some k → v.ownBlock = some k ∨ w.heap.size ≤ k

set_option maxRecDepth 100000 in
set_option maxHeartbeats 8000000 in
theorem appendShapes_leaf (lo hi : Int) (h : Blk lo hi) (hs : seam lo hi = none) : AppS lo hi := by
  intro w B v ss xs hR hB hn
  obtain ⟨i0, hinf, hz0, hz1, hz2⟩ := info_parts Tryd.info54
  have HS : Hid (∀ w, Calls Tryd.prog 16 #[.agg #[.int .i32 lo, .int .i32 hi]] w fun e w' => e = .returned (.tuple #[.int .i32 0, .bool false]) ∧ Below w.heap.size w w') := fun w => by
    have e := seam_any lo hi h w
    rw [hs] at e
    exact e
  have HO : Hid (∀ w, Calls Tryd.prog 17 #[.agg #[.int .i32 lo, .int .i32 hi]] w fun e w' => ∃ v, e = .returned v ∧ w'.ownsRow (w.heap.size + 1) 34 2 v (shp (lo, hi)).length (spc (shp (lo, hi))) ∧ Below w.heap.size w w') := fun w => shapeOf_any lo hi h w
  have HE := (show Hid _ from shs_none hs)
  have hl1 : 1 ≤ (shp (lo, hi)).length := by rw [shp_len h]; exact (szI_bd lo).1
  have hxl := hR.len
  have hn2 : xs.length + 1 ≤ 1114112 := by have := h.cpl.2.2.2.2.1; omega
  have HR := (show Hid _ from hR)
  clear hR hs h hxl
  generalize shp (lo, hi) = s at *
  have HX := (show Hid _ from (RBox.new w lo hi))
  have HB1 := (show Hid _ from ((Below.refl w.heap.size w).alloc (Nat.le_refl _) (.cells #[.int .i32 lo, .int .i32 hi] 42)))
  obtain ⟨_, c0, c1⟩ := HX.out
  go_enter Tryd.func11, Tryd.ntmps11
  go_wp2_with fail
  refine (HS.out _).mono ?_
  rintro e w1 ⟨rfl, hb1⟩
  have HX1 := (show Hid (RBox w1 w.heap.size lo hi) from HX.out.below hb1 (by simp))
  have HB2 := (show Hid (Below w.heap.size w w1) from HB1.out.trans (hb1.mono (by simp)))
  clear c0 c1 HX HB1 hb1
  obtain ⟨hlt1, c0, c1⟩ := HX1.out
  go_wp2_with fail
  refine (HO.out _).mono ?_
  rintro e w2 ⟨y, rfl, hy, hb2⟩
  have HB3 := (show Hid (Below w.heap.size w w2) from HB2.out.trans (hb2.mono (by omega)))
  have hz := hb2.size
  clear c0 c1 HX1 HB2 hb2
  obtain ⟨g0, cy, rfl, hyb, hyl⟩ := hy.form hl1
  have HR2 := (show Hid (RR w2 B v ss xs) from HR.out.below HB3.out)
  have hO2 := HR2.out.o
  go_wp2_with (at_builtin; refine wpList_append_lies _ rfl _ _ 24 rfl B 30 i0 (.slice none 0 0) 1 24 Tryd.underlying24 hinf hz0 hz1 hz2 rfl (by decide) v xs.length xs rfl (hO2.alloc _) ⟨w2.heap.size, 0, none⟩ 1 1 [.slice (some ⟨g0, 0, none⟩) s.length cy] rfl rfl (cell_one_new _ _ _) ?c2 (by decide) ?c3 ?c4 ?c5 (w2.heap.size + 1) (by simp) ?_)
  case c2 => intro u hu; simp at hu; subst hu; rfl
  case c3 => unfold maxLen; omega
  case c4 => omega
  case c5 => simp; omega
  intro g cap w3 hown hgrow hat hlt
  have hyo : w2.ownsRow B 34 2 (.slice (some ⟨g0, 0, none⟩) s.length cy) s.length (spc s) := own_base hy (by omega)
  have HR3 := (show Hid (RR w3 B (.slice (some ⟨g, 0, none⟩) (xs.length + 1) cap) (ss ++ [s]) (xs ++ [.slice (some ⟨g0, 0, none⟩) s.length cy])) from
    HR2.out.push (g0 := g0) hyo rfl (fun e => by have := (HR.out.o.lt _ e).2; omega) (fun i x hx e => by
      obtain ⟨k, hk, _, hlt2⟩ := HR.out.lt hx
      rw [hk] at e
      cases e
      omega) hown hgrow hat)
  have HG := (show Hid (w.grownBy w3 v.ownBlock) from (Below.grow HB3.out _).trans ((World.grownBy_alloc w2 _ _).trans hgrow))
  have HK := (show Hid (∀ k, (Value.slice (some ⟨g, 0, none⟩) (xs.length + 1) cap).ownBlock = some k → v.ownBlock = some k ∨ w.heap.size ≤ k) from fun k e => by
    have e2 : g = k := Option.some.inj e
    rcases hat with q | q
    · exact .inl (by rw [q, e2])
    · right; omega)
  clear hown hgrow hat hlt hO2 HR2 hyo hy HR HB3
  go_wp2
  go_ret
  exact ⟨_, _, rfl, by rw [HE.out]; exact HR3.out, HG.out, HK.out⟩

set_option maxRecDepth 100000 in
set_option maxHeartbeats 8000000 in
theorem appendShapes_cut (lo hi c : Int) (h : Blk lo hi) (hs : seam lo hi = some c) (hA : AppS lo (c - 1)) (hA2 : AppS c hi) : AppS lo hi := by
  intro w B v ss xs hR hB hn
  have HS : Hid (∀ w, Calls Tryd.prog 16 #[.agg #[.int .i32 lo, .int .i32 hi]] w fun e w' => e = .returned (.tuple #[.int .i32 c, .bool true]) ∧ Below w.heap.size w w') := fun w => by
    have e := seam_any lo hi h w
    rw [hs] at e
    exact e
  have h0 := h.cpl.2.2.2.1
  have h1 := h.cpl.2.2.2.2.1
  have h2 := h.cpl.2.2.2.2.2
  have hcb := seam_bd h0 h1 hs
  have HE := (show Hid _ from shs_some h0 h1 hs)
  have hll := shs_len (lo := lo) (hi := c - 1) h0 (by omega)
  have q1 : IntKind.i32.wrap (c - 1) = c - 1 := by rw [IntKind.wrap_i32]; omega
  have HA := (show Hid _ from hA)
  have HA2 := (show Hid _ from hA2)
  have HR := (show Hid _ from hR)
  have HN := (show Hid _ from hn)
  have HLL := (show Hid _ from hll)
  clear hR hs h hA hA2 hn hll
  have HX := (show Hid _ from (RBox.new w lo hi))
  have HB1 := (show Hid _ from ((Below.refl w.heap.size w).alloc (Nat.le_refl _) (.cells #[.int .i32 lo, .int .i32 hi] 42)))
  obtain ⟨_, c0, c1⟩ := HX.out
  go_enter Tryd.func11, Tryd.ntmps11
  go_wp2_with fail
  refine (HS.out _).mono ?_
  rintro e w1 ⟨rfl, hb1⟩
  have HX1 := (show Hid (RBox w1 w.heap.size lo hi) from HX.out.below hb1 (by simp))
  have HB2 := (show Hid (Below w.heap.size w w1) from HB1.out.trans (hb1.mono (by simp)))
  clear c0 c1 HX HB1 hb1
  obtain ⟨hlt1, c0, c1⟩ := HX1.out
  have HR1 := (show Hid (RR w1 B v ss xs) from HR.out.below HB2.out)
  go_wp2_with fail
  refine (HA.out w1 B v ss xs HR1.out (by omega) (by have := HN.out; omega)).mono ?_
  rintro e w2 ⟨v2, xs2, rfl, hR2, hg2, hk2⟩
  have HX2 := (show Hid (RBox w2 w.heap.size lo hi) from HX1.out.grown hg2 (fun e => by have := (HR.out.o.lt _ e).2; omega))
  have HR2 := (show Hid _ from hR2)
  have HG2 := (show Hid _ from hg2)
  have HK2 := (show Hid _ from hk2)
  clear c0 c1 HX1 hR2 hg2 hk2
  obtain ⟨hlt2, c0, c1⟩ := HX2.out
  go_wp2_with fail
  refine (HA2.out w2 B v2 _ xs2 HR2.out (by have := HG2.out.size; omega) (by have := HN.out; have := HLL.out; rw [List.length_append]; omega)).mono ?_
  rintro e w3 ⟨v3, xs3, rfl, hR3, hg3, hk3⟩
  have HR3 := (show Hid _ from hR3)
  have HG3 := (show Hid (w.grownBy w3 v.ownBlock) from ((Below.grow HB2.out _).trans HG2.out).andThen hg3 (fun j e => by
    rcases HK2.out j e with q | q
    · exact .inr q
    · have := HB2.out.size; left; omega))
  have HK3 := (show Hid (∀ k, v3.ownBlock = some k → v.ownBlock = some k ∨ w.heap.size ≤ k) from fun k e => by
    rcases hk3 k e with q | q
    · rcases HK2.out k q with q2 | q2
      · exact .inl q2
      · have := HB2.out.size; right; omega
    · have := HB2.out.size; have := HG2.out.size; right; omega)
  clear hR3 hg3 hk3 HX2 c0 c1
  go_wp2
  go_ret
  exact ⟨_, xs3, rfl, by rw [HE.out, ← List.append_assoc]; exact HR3.out, HG3.out, HK3.out⟩

theorem appendShapes_any : ∀ (f : Nat) (lo hi : Int), Blk lo hi → (hi - lo).toNat ≤ f → AppS lo hi
  | 0, lo, hi, h, hf => by
    refine appendShapes_leaf lo hi h ?_
    cases hs : seam lo hi with
    | none => rfl
    | some c => have := seam_bd h.cpl.2.2.2.1 h.cpl.2.2.2.2.1 hs; omega
  | f + 1, lo, hi, h, hf => by
    cases hs : seam lo hi with
    | none => exact appendShapes_leaf lo hi h hs
    | some c =>
      have := seam_bd h.cpl.2.2.2.1 h.cpl.2.2.2.2.1 hs
      exact appendShapes_cut lo hi c h hs (appendShapes_any f lo (c - 1) (h.cut hs).1 (by omega)) (appendShapes_any f c hi (h.cut hs).2 (by omega))
end Go.Proofs.YtiillgahnbimjabDoor
