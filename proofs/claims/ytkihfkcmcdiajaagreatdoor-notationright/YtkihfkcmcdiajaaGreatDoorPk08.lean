/- DERIVED. Plain mathematics and walks, laid together (8). -/
import Derived.Deep.RegionHeld3
import Derived.ProofKit
import Derived.LoopN
import Derived.Lib.OthersKept
import Derived.Laws.MakeOwn
import Derived.WalkSmall
import Derived.Test.YtkihfkcmcdiajaaGreatDoorPk07
namespace Go.Proofs.YtkihfkcmcdiajaaGreatDoor.R
open Go.RowKit
theorem Tryz.info56 : (Tryz.prog.info? 133).map (fun i => (i.zero, i.size, i.bytes)) = some (some (.agg #[.int .i64 0, .int .i64 0]), 2, 16) := by kernel_rfl

/-- What holds while a shape is laid. -/
structure AtS (w wr : World) (v : Value) (s : Shape) : Prop where
  o : wr.ownsRow (w.heap.size + 1) 133 2 v s.length (spc s)
  lt : w.heap.size < wr.heap.size
  b : Below w.heap.size w wr

set_option maxRecDepth 100000 in
set_option maxHeartbeats 8000000 in
theorem shapeOf_any (lo hi : Int) (h : Blk lo hi) (w : World) :
    Calls Tryz.prog 203 #[.agg #[.int .i32 lo, .int .i32 hi]] w fun e w' => ∃ v, e = .returned v ∧ w'.ownsRow (w.heap.size + 1) 133 2 v (shp (lo, hi)).length (spc (shp (lo, hi))) ∧ Below w.heap.size w w' := by
  obtain ⟨i0, hinf, hz0, hz1, hz2⟩ := info_parts Tryz.info56
  have hsz := szI_bd lo
  have HG := (show Hid (∀ k, k < szI lo → (shp (lo, hi)).take (k + 1) = (shp (lo, hi)).take k ++ [(chr (Utf8.encode lo) k, chr (Utf8.encode hi) k)]) from fun k hk => shp_take h k hk)
  have HL := (show Hid ((shp (lo, hi)).length = szI lo) from shp_len h)
  have hX := enc_size h.cpl.1
  have hY := enc_size h.cpl.2.1
  rw [← h.cpl.2.2.1] at hY
  have c0 := (RBox.new w lo hi).c0
  have c1 := (RBox.new w lo hi).c1
  have HA := (show Hid (AtS w (w.alloc (.cells #[.int .i32 lo, .int .i32 hi] 186)) (.slice none 0 0) []) from ⟨World.ownsRow_nil _ _ _ _, by simp, (Below.refl _ _).alloc (Nat.le_refl _) _⟩)
  generalize shp (lo, hi) = S at *
  generalize szI lo = K at *
  generalize hXe : Utf8.encode lo = X at *
  generalize hYe : Utf8.encode hi = Y at *
  clear h
  have hXi : (X.size : Int) = (K : Int) := by omega
  go_enter Tryz.func203, Tryz.ntmps203
  go_wp2_with fail
  go_quiet (fail)
  have HA1 := (show Hid (AtS w ((w.alloc (.cells #[.int .i32 lo, .int .i32 hi] 186)).drewN nq) (.slice none 0 0) []) from ⟨World.ownsRow_nil _ _ _ _, HA.out.lt, HA.out.b.trans (below_drewN (Below.refl _ _) _)⟩)
  clear HA c0 c1
  generalize (w.alloc (.cells #[.int .i32 lo, .int .i32 hi] 186)).drewN nq = w0 at *
  go_wp2_with fail
  go_loopw [5, 15] (fun v t wr => ∃ k : Nat, k ≤ K ∧ t = .int .i64 k ∧ Hid (AtS w wr v (S.take k))) (fun _ t _ => 5 - (intOf t).toNat)
  case atStart => exact ⟨0, by omega, by go_num, HA1⟩
  case round =>
    obtain ⟨k, hk, rfl, HW⟩ := hrel
    clear HA1
    by_cases hlt : k < K
    · have z0 : (0 : Int) ≤ (k : Int) := by omega
      have z1 : (k : Int) < (X.size : Int) := by omega
      have z2 : (k : Int) < (Y.size : Int) := by omega
      have z3 : (k : Int) < (K : Int) := by omega
      have hxk : k < X.size := by omega
      have hyk : k < Y.size := by omega
      have HT := (show Hid _ from HG.out k hlt)
      have e1 := chr_in hxk
      have e2 := chr_in hyk
      rw [e1, e2] at HT
      clear e1 e2
      have hO := HW.out.o
      have hbl := HW.out.lt
      have HTl := (show Hid ((S.take k).length ≤ 4) from (by show _ ≤ _; have := List.length_take_le k S; omega))
      have wa : IntKind.i64.wrap (X[k].toNat : Int) = (X[k].toNat : Int) := by have := X[k].toNat_lt; rw [IntKind.wrap_i64]; omega
      have wb : IntKind.i64.wrap (Y[k].toNat : Int) = (Y[k].toNat : Int) := by have := Y[k].toNat_lt; rw [IntKind.wrap_i64]; omega
      generalize hxx : (X[k].toNat : Int) = a at *
      generalize hyy : (Y[k].toNat : Int) = b at *
      generalize S.take k = T at *
      go_wp2_with fail
      go_region_held3 (fun _ => True) (trivial) ((refine step_append_lies _ (by rfl) _ _ _ (by rfl) (w.heap.size + 1) 133 i0 _ 2 16 Tryz.underlying130 hinf hz0 hz1 hz2 rfl (by omega) _ _ (spc T) (by rfl) ((hO.alloc _).drew) ⟨wr.heap.size, 0, none⟩ 1 1 [.int .i64 a, .int .i64 b] (by rfl) (by rfl) (World.news_of_block (cs := #[.int .i64 a, .int .i64 b]) (t := 133) (fr := (0, 0)) (heap_alloc_new wr _)) (by simp [Value.oneCell']) (by omega) (by have := HTl.out; unfold maxLen; omega) (by have := HTl.out; omega) (by simp; omega) (wr.heap.size + 1) (by simp) ?_; intro g cap w1 hown1 hgrow hat hltg))
      all_goals
        have hle := fun j e => (hO.lt j e).1
        have HW2 := (show Hid (AtS w w1 (.slice (some ⟨g, 0, none⟩) (T.length + 1) cap) (S.take (k + 1))) from (by
          rw [HT.out]
          refine ⟨?_, Nat.lt_of_lt_of_le (by simp; omega) hgrow.size, ?_⟩
          · rw [List.length_append, spc_append]; exact hown1
          · exact ((HW.out.b.alloc (by omega) (.cells #[.int .i64 a, .int .i64 b] 133)).drew).grown hgrow (by simp; omega) (fun j e => by have := hle j e; omega)))
        clear hown1 hgrow hat hltg hO HT HTl HW hle hxx hyy wa wb
        go_wp2
        go_roundw
        case rel => exact ⟨k + 1, by omega, by go_num, HW2⟩
        case measure => simp [intOf]; omega
    · obtain rfl : K = k := by omega
      have HE := (show Hid (S.take K = S) from List.take_of_length_le (by have := HL.out; omega))
      rw [HE.out] at HW
      have o := HW.out.o
      have b := HW.out.b
      clear HG HL HE
      go_wp2
      go_ret
      exact ⟨_, rfl, o, b⟩
end Go.Proofs.YtkihfkcmcdiajaaGreatDoor.R

namespace Go.Proofs.YtkihfkcmcdiajaaGreatDoor.R
open Go.RowKit
theorem Tryz.info54 : (Tryz.prog.info? 130).map (fun i => (i.zero, i.size, i.bytes)) = some (some (.slice none 0 0), 1, 24) := by kernel_rfl

/-- What appendShapes does. -/
def AppS (lo hi : Int) : Prop := ∀ (w : World) (B : Nat) (v : Value) (ss : List Shape) (xs : List Value), RR w B v ss xs → B ≤ w.heap.size → ss.length + (hi - lo + 1).toNat ≤ 1114112 →
  Calls Tryz.prog 200 #[v, .agg #[.int .i32 lo, .int .i32 hi]] w fun e w' => ∃ v' xs', e = .returned v' ∧ RR w' B v' (ss ++ shs lo hi) xs' ∧ w.grownBy w' v.ownBlock ∧ ∀ k, v'.ownBlock = some k → v.ownBlock = some k ∨ w.heap.size ≤ k

set_option maxRecDepth 100000 in
set_option maxHeartbeats 8000000 in
theorem appendShapes_leaf (lo hi : Int) (h : Blk lo hi) (hs : seam lo hi = none) : AppS lo hi := by
  intro w B v ss xs hR hB hn
  obtain ⟨i0, hinf, hz0, hz1, hz2⟩ := info_parts Tryz.info54
  have HS : Hid (∀ w, Calls Tryz.prog 202 #[.agg #[.int .i32 lo, .int .i32 hi]] w fun e w' => e = .returned (.tuple #[.int .i32 0, .bool false]) ∧ Below w.heap.size w w') := fun w => by
    have e := seam_any lo hi h w
    rw [hs] at e
    exact e
  have HO : Hid (∀ w, Calls Tryz.prog 203 #[.agg #[.int .i32 lo, .int .i32 hi]] w fun e w' => ∃ v, e = .returned v ∧ w'.ownsRow (w.heap.size + 1) 133 2 v (shp (lo, hi)).length (spc (shp (lo, hi))) ∧ Below w.heap.size w w') := fun w => shapeOf_any lo hi h w
  have HE := (show Hid _ from shs_none hs)
  have hl1 : 1 ≤ (shp (lo, hi)).length := by rw [shp_len h]; exact (szI_bd lo).1
  have hxl := hR.len
  have hn2 : xs.length + 1 ≤ 1114112 := by have := h.cpl.2.2.2.2.1; omega
  have HR := (show Hid _ from hR)
  clear hR hs h hxl
  generalize shp (lo, hi) = s at *
  have HX := (show Hid _ from (RBox.new w lo hi))
  have HB1 := (show Hid _ from ((Below.refl w.heap.size w).alloc (Nat.le_refl _) (.cells #[.int .i32 lo, .int .i32 hi] 186)))
  obtain ⟨_, c0, c1⟩ := HX.out
  go_enter Tryz.func200, Tryz.ntmps200
  go_wp2_with fail
  refine (HS.out _).mono ?_
  rintro e w1 ⟨rfl, hb1⟩
  have HX1 := (show Hid (RBox w1 w.heap.size lo hi) from HX.out.below hb1 (by simp))
  have HB2 := (show Hid (Below w.heap.size w w1) from HB1.out.trans (hb1.mono (by simp)))
  clear c0 c1 HX HB1 hb1
  obtain ⟨hlt1, c0, c1⟩ := HX1.out
  go_wp2_with fail
  refine (HO.out _).mono ?_
  rintro e w2 ⟨y, rfl, hy, hb2⟩
  have HB3 := (show Hid (Below w.heap.size w w2) from HB2.out.trans (hb2.mono (by omega)))
  have hz := hb2.size
  clear c0 c1 HX1 HB2 hb2
  obtain ⟨g0, cy, rfl, hyb, hyl⟩ := hy.form hl1
  have HR2 := (show Hid (RR w2 B v ss xs) from HR.out.below HB3.out)
  have hO2 := HR2.out.o
  go_wp2_with (at_builtin; refine wpList_append_lies _ rfl _ _ 173 rfl B 130 i0 (.slice none 0 0) 1 24 Tryz.underlying173 hinf hz0 hz1 hz2 rfl (by decide) v xs.length xs rfl (hO2.alloc _) ⟨w2.heap.size, 0, none⟩ 1 1 [.slice (some ⟨g0, 0, none⟩) s.length cy] rfl rfl (cell_one_new _ _ _) ?c2 (by decide) ?c3 ?c4 ?c5 (w2.heap.size + 1) (by simp) ?_)
  case c2 => intro u hu; simp at hu; subst hu; rfl
  case c3 => unfold maxLen; omega
  case c4 => omega
  case c5 => simp; omega
  intro g cap w3 hown hgrow hat hlt
  have hyo : w2.ownsRow B 133 2 (.slice (some ⟨g0, 0, none⟩) s.length cy) s.length (spc s) := own_base hy (by omega)
  have HR3 := (show Hid (RR w3 B (.slice (some ⟨g, 0, none⟩) (xs.length + 1) cap) (ss ++ [s]) (xs ++ [.slice (some ⟨g0, 0, none⟩) s.length cy])) from
    HR2.out.push (g0 := g0) hyo rfl (fun e => by have := (HR.out.o.lt _ e).2; omega) (fun i x hx e => by
      obtain ⟨k, hk, _, hlt2⟩ := HR.out.lt hx
      rw [hk] at e
      cases e
      omega) hown hgrow hat)
  have HG := (show Hid (w.grownBy w3 v.ownBlock) from (Below.grow HB3.out _).trans ((World.grownBy_alloc w2 _ _).trans hgrow))
  have HK := (show Hid (∀ k, (Value.slice (some ⟨g, 0, none⟩) (xs.length + 1) cap).ownBlock = some k → v.ownBlock = some k ∨ w.heap.size ≤ k) from fun k e => by
    have e2 : g = k := Option.some.inj e
    rcases hat with q | q
    · exact .inl (by rw [q, e2])
    · right; omega)
  clear hown hgrow hat hlt hO2 HR2 hyo hy HR HB3
  go_wp2
  go_ret
  exact ⟨_, _, rfl, by rw [HE.out]; exact HR3.out, HG.out, HK.out⟩

set_option maxRecDepth 100000 in
set_option maxHeartbeats 8000000 in
theorem appendShapes_cut (lo hi c : Int) (h : Blk lo hi) (hs : seam lo hi = some c) (hA : AppS lo (c - 1)) (hA2 : AppS c hi) : AppS lo hi := by
  intro w B v ss xs hR hB hn
  have HS : Hid (∀ w, Calls Tryz.prog 202 #[.agg #[.int .i32 lo, .int .i32 hi]] w fun e w' => e = .returned (.tuple #[.int .i32 c, .bool true]) ∧ Below w.heap.size w w') := fun w => by
    have e := seam_any lo hi h w
    rw [hs] at e
    exact e
  have h0 := h.cpl.2.2.2.1
  have h1 := h.cpl.2.2.2.2.1
  have h2 := h.cpl.2.2.2.2.2
  have hcb := seam_bd h0 h1 hs
  have HE := (show Hid _ from shs_some h0 h1 hs)
  have hll := shs_len (lo := lo) (hi := c - 1) h0 (by omega)
  have q1 : IntKind.i32.wrap (c - 1) = c - 1 := by rw [IntKind.wrap_i32]; omega
  have HA := (show Hid _ from hA)
  have HA2 := (show Hid _ from hA2)
  have HR := (show Hid _ from hR)
  have HN := (show Hid _ from hn)
  have HLL := (show Hid _ from hll)
  clear hR hs h hA hA2 hn hll
  have HX := (show Hid _ from (RBox.new w lo hi))
  have HB1 := (show Hid _ from ((Below.refl w.heap.size w).alloc (Nat.le_refl _) (.cells #[.int .i32 lo, .int .i32 hi] 186)))
  obtain ⟨_, c0, c1⟩ := HX.out
  go_enter Tryz.func200, Tryz.ntmps200
  go_wp2_with fail
  refine (HS.out _).mono ?_
  rintro e w1 ⟨rfl, hb1⟩
  have HX1 := (show Hid (RBox w1 w.heap.size lo hi) from HX.out.below hb1 (by simp))
  have HB2 := (show Hid (Below w.heap.size w w1) from HB1.out.trans (hb1.mono (by simp)))
  clear c0 c1 HX HB1 hb1
  obtain ⟨hlt1, c0, c1⟩ := HX1.out
  have HR1 := (show Hid (RR w1 B v ss xs) from HR.out.below HB2.out)
  go_wp2_with fail
  refine (HA.out w1 B v ss xs HR1.out (by omega) (by have := HN.out; omega)).mono ?_
  rintro e w2 ⟨v2, xs2, rfl, hR2, hg2, hk2⟩
  have HX2 := (show Hid (RBox w2 w.heap.size lo hi) from HX1.out.grown hg2 (fun e => by have := (HR.out.o.lt _ e).2; omega))
  have HR2 := (show Hid _ from hR2)
  have HG2 := (show Hid _ from hg2)
  have HK2 := (show Hid _ from hk2)
  clear c0 c1 HX1 hR2 hg2 hk2
  obtain ⟨hlt2, c0, c1⟩ := HX2.out
  go_wp2_with fail
  refine (HA2.out w2 B v2 _ xs2 HR2.out (by have := HG2.out.size; omega) (by have := HN.out; have := HLL.out; rw [List.length_append]; omega)).mono ?_
  rintro e w3 ⟨v3, xs3, rfl, hR3, hg3, hk3⟩
  have HR3 := (show Hid _ from hR3)
  have HG3 := (show Hid (w.grownBy w3 v.ownBlock) from ((Below.grow HB2.out _).trans HG2.out).andThen hg3 (fun j e => by
    rcases HK2.out j e with q | q
    · exact .inr q
    · have := HB2.out.size; left; omega))
  have HK3 := (show Hid (∀ k, v3.ownBlock = some k → v.ownBlock = some k ∨ w.heap.size ≤ k) from fun k e => by
    rcases hk3 k e with q | q
    · rcases HK2.out k q with q2 | q2
      · exact .inl q2
      · have := HB2.out.size; right; omega
    · have := HB2.out.size; have := HG2.out.size; right; omega)
  clear hR3 hg3 hk3 HX2 c0 c1
  go_wp2
  go_ret
  exact ⟨_, xs3, rfl, by rw [HE.out, ← List.append_assoc]; exact HR3.out, HG3.out, HK3.out⟩

theorem appendShapes_any : ∀ (f : Nat) (lo hi : Int), Blk lo hi → (hi - lo).toNat ≤ f → AppS lo hi
  | 0, lo, hi, h, hf => by
    refine appendShapes_leaf lo hi h ?_
    cases hs : seam lo hi with
    | none => rfl
    | some c => have := seam_bd h.cpl.2.2.2.1 h.cpl.2.2.2.2.1 hs; omega
  | f + 1, lo, hi, h, hf => by
    cases hs : seam lo hi with
    | none => exact appendShapes_leaf lo hi h hs
    | some c =>
      have := seam_bd h.cpl.2.2.2.1 h.cpl.2.2.2.2.1 hs
      exact appendShapes_cut lo hi c h hs (appendShapes_any f lo (c - 1) (h.cut hs).1 (by omega)) (appendShapes_any f c hi (h.cut hs).2 (by omega))
end Go.Proofs.YtkihfkcmcdiajaaGreatDoor.R

namespace Go.Proofs.YtkihfkcmcdiajaaGreatDoor.R
open Go.RowKit
/-- The table's variable. -/
structure VB (W : World) : Prop where
  lt : 2 < W.heap.size
  c0 : W.cell? ⟨2, 0, none⟩ = some (.int .i32 0)
  c1 : W.cell? ⟨2, 1, none⟩ = some (.int .i32 127)
  c2 : W.cell? ⟨2, 2, none⟩ = some (.int .i32 128)
  c3 : W.cell? ⟨2, 3, none⟩ = some (.int .i32 2047)
  c4 : W.cell? ⟨2, 4, none⟩ = some (.int .i32 2048)
  c5 : W.cell? ⟨2, 5, none⟩ = some (.int .i32 55295)
  c6 : W.cell? ⟨2, 6, none⟩ = some (.int .i32 57344)
  c7 : W.cell? ⟨2, 7, none⟩ = some (.int .i32 65535)
  c8 : W.cell? ⟨2, 8, none⟩ = some (.int .i32 65536)
  c9 : W.cell? ⟨2, 9, none⟩ = some (.int .i32 1114111)
theorem VB.below {B : Nat} {W W' : World} (h : VB W) (hb : Below B W W') (hB : 2 < B) : VB W' := by
  have key : ∀ k, W'.cell? ⟨2, k, none⟩ = W.cell? ⟨2, k, none⟩ := fun k => hb.cell (p := ⟨2, k, none⟩) hB
  exact ⟨Nat.lt_of_lt_of_le h.lt hb.size, (key 0).trans h.c0, (key 1).trans h.c1, (key 2).trans h.c2, (key 3).trans h.c3, (key 4).trans h.c4, (key 5).trans h.c5, (key 6).trans h.c6, (key 7).trans h.c7, (key 8).trans h.c8, (key 9).trans h.c9⟩

/-- What Shapes answers. -/
def ShV (w w' : World) (lo hi : Int) (e : Ending) : Prop :=
  if bdB lo = true ∧ bdB hi = true then
    (if lo ≤ hi then ∃ v xs, e = .returned (.tuple #[v, .int .i64 0]) ∧ RR w' w.heap.size v (shAll lo hi) xs else e = .returned (.tuple #[.slice none 0 0, .int .i64 1]))
  else e = .returned (.tuple #[.slice none 0 0, .int .i64 30])

/-- The table's value. -/
def tabV : Value := .agg #[.int .i32 0, .int .i32 127, .int .i32 128, .int .i32 2047, .int .i32 2048, .int .i32 55295, .int .i32 57344, .int .i32 65535, .int .i32 65536, .int .i32 1114111]
theorem idx_tab (k : Nat) (b : Int × Int) (h : blks[k]? = some b) (W : World) : (Instr.index 187 tabV (.int .i64 (k : Int))).run Tryz.prog W = .ok (.agg #[.int .i32 b.1, .int .i32 b.2]) W := by
  match k, h with
  | 0, h => cases h; simp [tabV, Instr.index, run_underlying Tryz.underlying187, asIntOf, go_sem]
  | 1, h => cases h; simp [tabV, Instr.index, run_underlying Tryz.underlying187, asIntOf, go_sem]
  | 2, h => cases h; simp [tabV, Instr.index, run_underlying Tryz.underlying187, asIntOf, go_sem]
  | 3, h => cases h; simp [tabV, Instr.index, run_underlying Tryz.underlying187, asIntOf, go_sem]
  | 4, h => cases h; simp [tabV, Instr.index, run_underlying Tryz.underlying187, asIntOf, go_sem]
structure AtB (w wr : World) (v : Value) (ss : List Shape) : Prop where
  r : ∃ xs, RR wr w.heap.size v ss xs
  b : Below w.heap.size w wr

set_option maxRecDepth 100000 in
set_option maxHeartbeats 8000000 in
theorem shapes_in (lo hi : Int) (h0 : 0 ≤ lo) (h1 : lo ≤ hi) (h2 : hi ≤ 1114111) (w : World) (hv : VB w) :
    Calls Tryz.prog 195 #[.int .i64 lo, .int .i64 hi] w fun e w' => (∃ v xs, e = .returned (.tuple #[v, .int .i64 0]) ∧ RR w' w.heap.size v (shAll lo hi) xs) ∧ Below w.heap.size w w' := by
  have HB1 : Hid (∀ w, Calls Tryz.prog 199 #[.int .i64 lo] w fun e w' => e = .returned (.bool true) ∧ w' = w) := fun w => by
    have e := inBounds_any lo w
    rwa [bdB_t ⟨h0, by omega⟩] at e
  have HB2 : Hid (∀ w, Calls Tryz.prog 199 #[.int .i64 hi] w fun e w' => e = .returned (.bool true) ∧ w' = w) := fun w => by
    have e := inBounds_any hi w
    rwa [bdB_t ⟨by omega, h2⟩] at e
  have HV := (show Hid _ from hv)
  obtain ⟨_, c0, c1, c2, c3, c4, c5, c6, c7, c8, c9⟩ := hv
  have hnl : decide (hi < lo) = false := decide_eq_false (by omega)
  go_enter Tryz.func195, Tryz.ntmps195
  go_wp2_with fail
  refine (HB1.out _).mono ?_
  rintro e w' ⟨rfl, rfl⟩
  go_wp2_with fail
  refine (HB2.out _).mono ?_
  rintro e w' ⟨rfl, rfl⟩
  go_wp2_with fail
  clear c0 c1 c2 c3 c4 c5 c6 c7 c8 c9 HB1 HB2
  have hidx := fun k b h => idx_tab k b h
  unfold tabV at hidx
  have HI := (show Hid _ from hidx)
  clear hidx
  go_loopw [6, 22] (fun v t wr => ∃ k : Nat, k ≤ 5 ∧ t = .int .i64 k ∧ Hid (AtB w' wr v (shTo lo hi k))) (fun _ t _ => 6 - (intOf t).toNat)
  case atStart => exact ⟨0, by omega, by go_num, ⟨⟨[], RR.nil _ _⟩, Below.refl _ _⟩⟩
  case round =>
    obtain ⟨k, hk, rfl, HW⟩ := hrel
    by_cases hk5 : k < 5
    · obtain ⟨b, hb⟩ : ∃ b, blks[k]? = some b := ⟨_, List.getElem?_eq_getElem (by show k < 5; exact hk5)⟩
      have hix := HI.out k b hb wr
      obtain ⟨hb0, hb1, hb2, hbB⟩ := blk_get hb
      have HT := (show Hid _ from shTo_succ lo hi k b hb)
      have HLen := (show Hid _ from shTo_room lo hi k b hb)
      have HO := (show Hid (ofBlk lo hi b = if max b.1 lo ≤ min b.2 hi then shs (max b.1 lo) (min b.2 hi) else []) from rfl)
      have HBB := (show Hid _ from hbB lo hi)
      obtain ⟨b1, b2⟩ := b
      dsimp only at *
      have hz5 : (k : Int) < 5 := by omega
      clear hbB hb
      have q1 : IntKind.i32.wrap lo = lo := by rw [IntKind.wrap_i32]; omega
      have q2 : IntKind.i32.wrap hi = hi := by rw [IntKind.wrap_i32]; omega
      by_cases hmm : max b1 lo ≤ min b2 hi
      · have HT2 := (show Hid (shTo lo hi (k + 1) = shTo lo hi k ++ shs (max b1 lo) (min b2 hi)) from (by show _ = _; rw [HT.out, HO.out, if_pos hmm]))
        have HA := (show Hid (AppS (max b1 lo) (min b2 hi)) from appendShapes_any _ _ _ (HBB.out hmm) (Nat.le_refl _))
        have HN := (show Hid ((shTo lo hi k).length + (min b2 hi - max b1 lo + 1).toNat ≤ 1114112) from (by have e := HLen.out; show _ ≤ _; omega))
        clear HT HO HBB HLen
        obtain ⟨⟨xs, hR⟩, hBw⟩ := HW.out
        have HR := (show Hid _ from hR)
        have HBw := (show Hid _ from hBw)
        clear hR hBw HW
        have HR2 := (show Hid (RR ((wr.alloc (.cells #[.int .i32 b1, .int .i32 b2] 186)).alloc (.cells #[.int .i32 (max b1 lo), .int .i32 (min b2 hi)] 186)) w'.heap.size u6 (shTo lo hi k) xs) from (HR.out.alloc _).alloc _)
        have HB2 := (show Hid (Below w'.heap.size w' ((wr.alloc (.cells #[.int .i32 b1, .int .i32 b2] 186)).alloc (.cells #[.int .i32 (max b1 lo), .int .i32 (min b2 hi)] 186))) from (HBw.out.alloc HBw.out.size _).alloc (by simp; exact Nat.le_succ_of_le HBw.out.size) _)
        go_wp2_with fail
        refine (HA.out _ _ _ _ _ HR2.out HB2.out.size HN.out).mono ?_
        rintro e w2 ⟨v2, xs2, rfl, hR3, hg3, _⟩
        have HW2 := (show Hid (AtB w' w2 v2 (shTo lo hi (k + 1))) from (by
          rw [HT2.out]
          exact ⟨⟨xs2, hR3⟩, HB2.out.grown hg3 HB2.out.size (fun j e => (HR.out.o.lt j e).1)⟩))
        clear hR3 hg3 HR HBw HR2 HB2 hix
        go_wp2
        go_roundw
        case rel => exact ⟨k + 1, by omega, by go_num, HW2⟩
        case measure => simp [intOf]; omega
      · have HT2 := (show Hid (shTo lo hi (k + 1) = shTo lo hi k) from (by show _ = _; rw [HT.out, HO.out, if_neg hmm, List.append_nil]))
        clear HT HO HBB HLen
        obtain ⟨⟨xs, hR⟩, hBw⟩ := HW.out
        have HW2 := (show Hid (AtB w' ((wr.alloc (.cells #[.int .i32 b1, .int .i32 b2] 186)).alloc (.cells #[.int .i32 (max b1 lo), .int .i32 (min b2 hi)] 186)) u6 (shTo lo hi (k + 1))) from (by
          rw [HT2.out]
          exact ⟨⟨xs, (hR.alloc _).alloc _⟩, (hBw.alloc hBw.size _).alloc (by simp; exact Nat.le_succ_of_le hBw.size) _⟩))
        clear hR hBw HW
        go_wp2
        go_roundw
        case rel => exact ⟨k + 1, by omega, by go_num, HW2⟩
        case measure => simp [intOf]; omega
    · obtain rfl : k = 5 := by omega
      rw [shTo_all] at HW
      obtain ⟨⟨xs, hR⟩, hBw⟩ := HW.out
      go_wp2
      go_ret2
      exact ⟨⟨_, xs, rfl, hR⟩, hBw⟩
set_option maxRecDepth 100000 in
set_option maxHeartbeats 4000000 in
theorem shapes_any (lo hi : Int) (w : World) (hv : VB w) :
    Calls Tryz.prog 195 #[.int .i64 lo, .int .i64 hi] w fun e w' => ShV w w' lo hi e ∧ Below w.heap.size w w' := by
  have HB1 : Hid (∀ w, Calls Tryz.prog 199 #[.int .i64 lo] w fun e w' => e = .returned (.bool (bdB lo)) ∧ w' = w) := fun w => inBounds_any lo w
  have HB2 : Hid (∀ w, Calls Tryz.prog 199 #[.int .i64 hi] w fun e w' => e = .returned (.bool (bdB hi)) ∧ w' = w) := fun w => inBounds_any hi w
  by_cases h0 : 0 ≤ lo ∧ lo ≤ 1114111
  · by_cases h1 : 0 ≤ hi ∧ hi ≤ 1114111
    · by_cases h2 : lo ≤ hi
      · refine (shapes_in lo hi h0.1 h2 h1.2 w hv).mono fun e w' ⟨h3, h4⟩ => ⟨?_, h4⟩
        unfold ShV
        rw [if_pos ⟨bdB_t h0, bdB_t h1⟩, if_pos h2]
        exact h3
      · have HE := (show Hid (∀ w' e, e = .returned (.tuple #[.slice none 0 0, .int .i64 1]) → ShV w w' lo hi e) from fun w' e he => by
          unfold ShV
          rw [if_pos ⟨bdB_t h0, bdB_t h1⟩, if_neg h2]
          exact he)
        rw [bdB_t h0] at HB1
        rw [bdB_t h1] at HB2
        have h3 : hi < lo := by omega
        clear h0 h1 h2 hv
        go_enter Tryz.func195, Tryz.ntmps195
        go_wp2_with fail
        refine (HB1.out _).mono ?_
        rintro e w' ⟨rfl, rfl⟩
        go_wp2_with fail
        refine (HB2.out _).mono ?_
        rintro e w' ⟨rfl, rfl⟩
        go_wp2
        go_ret2
        exact ⟨HE.out _ _ rfl, Below.refl _ _⟩
    · have HE := (show Hid (∀ w' e, e = .returned (.tuple #[.slice none 0 0, .int .i64 30]) → ShV w w' lo hi e) from fun w' e he => by
        unfold ShV
        rw [if_neg (by rw [bdB_f h1]; simp)]
        exact he)
      rw [bdB_t h0] at HB1
      rw [bdB_f h1] at HB2
      clear h0 h1 hv
      go_enter Tryz.func195, Tryz.ntmps195
      go_wp2_with fail
      refine (HB1.out _).mono ?_
      rintro e w' ⟨rfl, rfl⟩
      go_wp2_with fail
      refine (HB2.out _).mono ?_
      rintro e w' ⟨rfl, rfl⟩
      go_wp2
      go_ret2
      exact ⟨HE.out _ _ rfl, Below.refl _ _⟩
  · have HE := (show Hid (∀ w' e, e = .returned (.tuple #[.slice none 0 0, .int .i64 30]) → ShV w w' lo hi e) from fun w' e he => by
      unfold ShV
      rw [if_neg (by rw [bdB_f h0]; simp)]
      exact he)
    rw [bdB_f h0] at HB1
    clear h0 hv
    go_enter Tryz.func195, Tryz.ntmps195
    go_wp2_with fail
    refine (HB1.out _).mono ?_
    rintro e w' ⟨rfl, rfl⟩
    go_wp2
    go_ret2
    exact ⟨HE.out _ _ rfl, Below.refl _ _⟩
end Go.Proofs.YtkihfkcmcdiajaaGreatDoor.R

namespace Go.Proofs.YtkihfkcmcdiajaaGreatDoor.R
open Go.RowKit Go.Shelf
attribute [local go_sem] Oper.semAt_some

theorem iter_below (w : World) (s : ByteArray) (p : Nat) : Below w.heap.size w (w.iter s p) := (Below.refl _ _).alloc (Nat.le_refl _) _
end Go.Proofs.YtkihfkcmcdiajaaGreatDoor.R

namespace Go.Proofs.YtkihfkcmcdiajaaGreatDoor.R
open Go.RowKit
/-- A cell's byte. -/
def byO : Option Value → Int
  | some (.int .u8 x) => x
  | _ => 0
def isO : Option Value → Bool
  | some (.int .u8 _) => true
  | _ => false
theorem byO_some (x : Int) : byO (some (.int .u8 x)) = x := rfl
theorem isO_some (x : Int) : isO (some (.int .u8 x)) = true := rfl
theorem isO_eq {o : Option Value} (h : isO o = true) : o = some (.int .u8 (byO o)) := by
  cases o with
  | none => cases h
  | some v =>
    cases v with
    | int k x => cases k <;> first | rfl | cases h
    | _ => cases h
/-- The text of bytes that lie one behind the other. -/
theorem conv_cells (W : World) (B c : Nat) (l : List Int) (h : ∀ (j : Nat) (x : Int), l[j]? = some x → W.cell? ⟨B, j, none⟩ = some (.int .u8 x)) :
    (convert 84 9 (.slice (some ⟨B, 0, none⟩) l.length c)).run Tryz.prog W = .ok (.string (asText l)) W := by
  rw [run_convert_bytes_string W 84 9 5 _ _ _ Tryz.underlying84 Tryz.underlying5 Tryz.underlying9]
  refine run_bytesToString W ⟨B, 0, none⟩ l.length c l ?_
  have h2 := run_loadCells_list (P := Tryz.prog) (w := W) ⟨B, 0, none⟩ (l.map (Value.int .u8)) (fun j u hj => by
    rw [List.getElem?_map] at hj
    cases hq : l[j]? with
    | none => rw [hq] at hj; cases hj
    | some x => rw [hq] at hj; cases hj; rw [Addr.add_lit, Nat.zero_add]; exact h j x hq)
  rwa [List.length_map] at h2
theorem conv1 (W : World) (B c : Nat) (h0 : isO (W.cell? ⟨B, 0, none⟩) = true) :
    (convert 84 9 (.slice (some ⟨B, 0, none⟩) 1 c)).run Tryz.prog W = .ok (.string (asText [byO (W.cell? ⟨B, 0, none⟩)])) W :=
  conv_cells W B c [_] fun j x hj => by
    match j, hj with
    | 0, hj => cases hj; exact isO_eq h0
theorem conv2 (W : World) (B c : Nat) (h0 : isO (W.cell? ⟨B, 0, none⟩) = true) (h1 : isO (W.cell? ⟨B, 1, none⟩) = true) :
    (convert 84 9 (.slice (some ⟨B, 0, none⟩) 2 c)).run Tryz.prog W = .ok (.string (asText [byO (W.cell? ⟨B, 0, none⟩), byO (W.cell? ⟨B, 1, none⟩)])) W :=
  conv_cells W B c [_, _] fun j x hj => by
    match j, hj with
    | 0, hj => cases hj; exact isO_eq h0
    | 1, hj => cases hj; exact isO_eq h1
theorem conv3 (W : World) (B c : Nat) (h0 : isO (W.cell? ⟨B, 0, none⟩) = true) (h1 : isO (W.cell? ⟨B, 1, none⟩) = true) (h2 : isO (W.cell? ⟨B, 2, none⟩) = true) :
    (convert 84 9 (.slice (some ⟨B, 0, none⟩) 3 c)).run Tryz.prog W = .ok (.string (asText [byO (W.cell? ⟨B, 0, none⟩), byO (W.cell? ⟨B, 1, none⟩), byO (W.cell? ⟨B, 2, none⟩)])) W :=
  conv_cells W B c [_, _, _] fun j x hj => by
    match j, hj with
    | 0, hj => cases hj; exact isO_eq h0
    | 1, hj => cases hj; exact isO_eq h1
    | 2, hj => cases hj; exact isO_eq h2
theorem conv4 (W : World) (B c : Nat) (h0 : isO (W.cell? ⟨B, 0, none⟩) = true) (h1 : isO (W.cell? ⟨B, 1, none⟩) = true) (h2 : isO (W.cell? ⟨B, 2, none⟩) = true) (h3 : isO (W.cell? ⟨B, 3, none⟩) = true) :
    (convert 84 9 (.slice (some ⟨B, 0, none⟩) 4 c)).run Tryz.prog W = .ok (.string (asText [byO (W.cell? ⟨B, 0, none⟩), byO (W.cell? ⟨B, 1, none⟩), byO (W.cell? ⟨B, 2, none⟩), byO (W.cell? ⟨B, 3, none⟩)])) W :=
  conv_cells W B c [_, _, _, _] fun j x hj => by
    match j, hj with
    | 0, hj => cases hj; exact isO_eq h0
    | 1, hj => cases hj; exact isO_eq h1
    | 2, hj => cases hj; exact isO_eq h2
    | 3, hj => cases hj; exact isO_eq h3
attribute [local go_sem] byO_some isO_some conv1 conv2 conv3 conv4

theorem Tryz.info5 : (Tryz.prog.info? 5).map (fun i => (i.zero, i.size, i.bytes)) = some (some (.int .u8 0), 1, 1) := by kernel_rfl
theorem make2 (w : World) : (Instr.makeSlice 84 (.int .i64 2) (.int .i64 2)).run Tryz.prog w = .ok (.slice (some ⟨w.heap.size, 0, none⟩) 2 2) (w.alloc (.cells #[.int .u8 0, .int .u8 0] 5)) := by
  obtain ⟨i0, hinf, hz0, hz1, hz2⟩ := info_parts Tryz.info5
  rw [run_make w 84 5 i0 (.int .u8 0) Tryz.underlying84 hinf hz0 .i64 .i64 2 2 (by omega) (by omega) (by rw [hz2]; decide) (by omega), hz1]
  kernel_rfl
theorem make3 (w : World) : (Instr.makeSlice 84 (.int .i64 3) (.int .i64 3)).run Tryz.prog w = .ok (.slice (some ⟨w.heap.size, 0, none⟩) 3 3) (w.alloc (.cells #[.int .u8 0, .int .u8 0, .int .u8 0] 5)) := by
  obtain ⟨i0, hinf, hz0, hz1, hz2⟩ := info_parts Tryz.info5
  rw [run_make w 84 5 i0 (.int .u8 0) Tryz.underlying84 hinf hz0 .i64 .i64 3 3 (by omega) (by omega) (by rw [hz2]; decide) (by omega), hz1]
  kernel_rfl
theorem make4 (w : World) : (Instr.makeSlice 84 (.int .i64 4) (.int .i64 4)).run Tryz.prog w = .ok (.slice (some ⟨w.heap.size, 0, none⟩) 4 4) (w.alloc (.cells #[.int .u8 0, .int .u8 0, .int .u8 0, .int .u8 0] 5)) := by
  obtain ⟨i0, hinf, hz0, hz1, hz2⟩ := info_parts Tryz.info5
  rw [run_make w 84 5 i0 (.int .u8 0) Tryz.underlying84 hinf hz0 .i64 .i64 4 4 (by omega) (by omega) (by rw [hz2]; decide) (by omega), hz1]
  kernel_rfl
attribute [local go_sem] make2 make3 make4
end Go.Proofs.YtkihfkcmcdiajaaGreatDoor.R

namespace Go.Proofs.YtkihfkcmcdiajaaGreatDoor.R
open Go.RowKit
/-- The heads' box. -/
structure AtH (w wr : World) : Prop where
  lt : w.heap.size < wr.heap.size
  c : ∀ n, n ≤ 4 → wr.cell? ⟨w.heap.size, n, none⟩ = some (.int .i64 (hdI n))
  b : Below w.heap.size w wr
theorem AtH.new (w : World) : AtH w (w.alloc (.cells #[.int .i64 0, .int .i64 0, .int .i64 192, .int .i64 224, .int .i64 240] 190)) := by
  refine ⟨by simp, fun n hn => ?_, (Below.refl _ _).alloc (Nat.le_refl _) _⟩
  match n, hn with
  | 0, _ => simp [hdI]
  | 1, _ => simp [hdI]
  | 2, _ => simp [hdI]
  | 3, _ => simp [hdI]
  | 4, _ => simp [hdI]
theorem AtH.below {w wr w2 : World} (h : AtH w wr) (hb : Below wr.heap.size wr w2) : AtH w w2 :=
  ⟨Nat.lt_of_lt_of_le h.lt hb.size, fun n hn => (hb.cell (p := ⟨w.heap.size, n, none⟩) h.lt).trans (h.c n hn), h.b.trans (hb.mono (Nat.le_of_lt h.lt))⟩
theorem AtH.drew {w wr : World} (h : AtH w wr) : AtH w wr.drew := h.below (Below.refl _ _).drew
end Go.Proofs.YtkihfkcmcdiajaaGreatDoor.R

namespace Go.Proofs.YtkihfkcmcdiajaaGreatDoor.R
open Go.RowKit Go.Shelf
attribute [local go_sem] Oper.semAt_some

/-- Within a range over a text. -/
structure AtI (B k0 : Nat) (w wr : World) (s : ByteArray) (p : Nat) : Prop where
  i : wr.heap[k0]? = some (.stringIter s p)
  b : Below B w wr
  le : B ≤ k0
theorem AtI.new (w : World) (s : ByteArray) : AtI w.heap.size w.heap.size w (w.iter s 0) s 0 := ⟨World.iter_heap w s 0, iter_below w s 0, Nat.le_refl _⟩
theorem AtI.next {B k0 : Nat} {w wr : World} {s : ByteArray} {p : Nat} (h : AtI B k0 w wr s p) (q : Nat) : AtI B k0 w (wr.iterAt k0 s q) s q :=
  ⟨Lib.iterAt_heap wr k0 s p q h.i, Lib.below_iterAt h.b h.le _ _, h.le⟩
end Go.Proofs.YtkihfkcmcdiajaaGreatDoor.R

namespace Go.Proofs.YtkihfkcmcdiajaaGreatDoor.R
open Go.RowKit Go.Shelf
attribute [local go_sem] Oper.semAt_some

/-- The cells of bytes. -/
abbrev u8c (l : List Int) : List Value := l.map (Value.int .u8)
/-- The text of a row of bytes that the call owns. -/
theorem text_own {w : World} {base : Nat} {v : Value} {l : List Int} (h : w.ownsRow base 5 1 v l.length (u8c l)) :
    (convert 84 9 v).run Tryz.prog w = .ok (.string (asText l)) w := by
  have hc := h
  obtain ⟨hlen, h2⟩ := h
  rcases h2 with ⟨rfl, hn⟩ | ⟨g, cap, cur, rfl, _⟩
  · obtain rfl : l = [] := List.eq_nil_of_length_eq_zero hn
    rw [run_convert_bytes_string w 84 9 5 _ _ _ Tryz.underlying84 Tryz.underlying5 Tryz.underlying9]
    rfl
  · rw [run_convert_bytes_string w 84 9 5 _ _ _ Tryz.underlying84 Tryz.underlying5 Tryz.underlying9]
    refine run_bytesToString w ⟨g, 0, none⟩ l.length cap l ?_
    have := run_loadCells_list (P := Tryz.prog) (w := w) ⟨g, 0, none⟩ (u8c l) (hc.cells rfl)
    rwa [List.length_map] at this

/-- What holds in the loop. -/
structure AtC (w wr : World) (s : ByteArray) (p : Nat) (v : Value) (l : List Int) : Prop where
  i : AtI w.heap.size w.heap.size w wr s p
  o : wr.ownsRow (w.heap.size + 1) 5 1 v l.length (u8c l)
theorem AtC.next {w wr : World} {s : ByteArray} {p : Nat} {v : Value} {l : List Int} (h : AtC w wr s p v l) (q : Nat) : AtC w (wr.iterAt w.heap.size s q) s q v l :=
  ⟨h.i.next q, ownsRow_iterAt h.o (by omega) s q⟩
end Go.Proofs.YtkihfkcmcdiajaaGreatDoor.R

namespace Go.Proofs.YtkihfkcmcdiajaaGreatDoor.R
open Go.RowKit
/-- The cells of a shape. -/
def SpL (W : World) (g off : Nat) (s : Shape) : Prop := ∀ (j : Nat) p, s[j]? = some p → W.cell? ⟨g, off + j * 2, none⟩ = some (.int .i64 p.1) ∧ W.cell? ⟨g, off + j * 2 + 1, none⟩ = some (.int .i64 p.2)
theorem spc_get (s : Shape) (j : Nat) (p : Int × Int) (h : s[j]? = some p) : (spc s)[j * 2]? = some (.int .i64 p.1) ∧ (spc s)[j * 2 + 1]? = some (.int .i64 p.2) := by
  induction s generalizing j with
  | nil => cases h
  | cons a s ih =>
    have e : spc (a :: s) = .int .i64 a.1 :: .int .i64 a.2 :: spc s := rfl
    rw [e]
    cases j with
    | zero => cases h; exact ⟨rfl, rfl⟩
    | succ j =>
      have h2 : s[j]? = some p := by simpa using h
      rw [show (j + 1) * 2 = j * 2 + 1 + 1 from by omega]
      exact ih j h2
theorem own_spl {W : World} {B g n cap : Nat} {s : Shape} (h : W.ownsRow B 133 2 (.slice (some ⟨g, 0, none⟩) n cap) s.length (spc s)) : SpL W g 0 s := fun j p hp => by
  have hc := h.cells (g := g) rfl
  obtain ⟨h1, h2⟩ := spc_get s j p hp
  have c1 := hc _ _ h1
  have c2 := hc _ _ h2
  rw [Addr.add_lit] at c1 c2
  exact ⟨c1, by rw [Nat.add_assoc]; exact c2⟩
/-- A shape of a list of shapes. -/
theorem RR.get {W : World} {B : Nat} {v : Value} {ss : List Shape} {xs : List Value} (h : RR W B v ss xs) {i : Nat} {s : Shape} (hs : ss[i]? = some s) :
    ∃ g cap gx cx, v = .slice (some ⟨g, 0, none⟩) ss.length cap ∧ g < W.heap.size ∧ xs[i]? = some (.slice (some ⟨gx, 0, none⟩) s.length cx) ∧ W.cell? ⟨g, i, none⟩ = some (.slice (some ⟨gx, 0, none⟩) s.length cx) ∧ gx < W.heap.size ∧ SpL W gx 0 s := by
  have hi : i < ss.length := by
    by_cases q : i < ss.length
    · exact q
    · rw [List.getElem?_eq_none (by omega)] at hs; cases hs
  have hx : xs[i]? = some (xs[i]'(by rw [h.len]; exact hi)) := List.getElem?_eq_getElem (by rw [h.len]; exact hi)
  obtain ⟨h1, h2, _⟩ := h.each i _ s hx hs
  obtain ⟨g, cap, hv, _, hlt⟩ := h.o.form (by rw [h.len]; omega)
  obtain ⟨gx, hgx, _, hlt2⟩ := h.lt hx
  have hform : ∃ cx, xs[i]'(by rw [h.len]; exact hi) = .slice (some ⟨gx, 0, none⟩) s.length cx := by
    rcases h1.2 with ⟨q, _⟩ | ⟨g2, cx, cur, q, _⟩
    · rw [q] at h2; exact absurd rfl h2
    · rw [q] at hgx
      have e : g2 = gx := Option.some.inj hgx
      exact ⟨cx, by rw [q, e]⟩
  obtain ⟨cx, hq⟩ := hform
  rw [hq] at hx h1
  have hcell := h.o.cells (g := g) (by rw [hv]; rfl) i _ hx
  rw [Addr.add_lit, Nat.zero_add] at hcell
  exact ⟨g, cap, gx, cx, by rw [hv, h.len], hlt, hx, hcell, hlt2, own_spl h1⟩
end Go.Proofs.YtkihfkcmcdiajaaGreatDoor.R

namespace Go.Proofs.YtkihfkcmcdiajaaGreatDoor.R
open Go.RowKit
theorem al_size' (w : World) (o : Obj) : (w.alloc o).heap.size = w.heap.size + 1 := by simp
/-- A node: its kind, its set. -/
abbrev Nd := Int × BitVec 256
def ndV (n : Nd) : List Value := [.int .i64 n.1, .int .i64 0, .string ⟨#[]⟩, .int .u64 (wd n.2 0), .int .u64 (wd n.2 1), .int .u64 (wd n.2 2), .int .u64 (wd n.2 3)]
def ndc (l : List Nd) : List Value := l.flatMap ndV
theorem ndc_append (a b : List Nd) : ndc (a ++ b) = ndc a ++ ndc b := List.flatMap_append
theorem ndc_one (n : Nd) : ndc [n] = ndV n := by unfold ndc; rw [List.flatMap_cons, List.flatMap_nil, List.append_nil]
/-- The nodes of a span, of the first spans of a shape. -/
def ndI (s : Shape) (i : Nat) : List Nd := match s[i]? with
  | some p => (5, spn p.1 p.2) :: (if 0 < i then [(7, 0#256)] else [])
  | none => []
def ndTo (s : Shape) (k : Nat) : List Nd := (List.range k).flatMap (ndI s)
theorem ndTo_succ (s : Shape) (k : Nat) : ndTo s (k + 1) = ndTo s k ++ ndI s k := by unfold ndTo; rw [List.range_succ, List.flatMap_append]; simp
/-- The nodes of a list of shapes. -/
def ptI (ss : List Shape) (i : Nat) : List Nd := match ss[i]? with
  | some s => ndTo s s.length ++ (if 0 < i then [(8, 0#256)] else [])
  | none => []
def ptTo (ss : List Shape) (k : Nat) : List Nd := (List.range k).flatMap (ptI ss)
theorem ptTo_succ (ss : List Shape) (k : Nat) : ptTo ss (k + 1) = ptTo ss k ++ ptI ss k := by unfold ptTo; rw [List.range_succ, List.flatMap_append]; simp
theorem ndI_len (s : Shape) (i : Nat) : (ndI s i).length ≤ 2 := by
  unfold ndI
  split
  · split <;> simp
  · simp
theorem ndTo_len (s : Shape) (k : Nat) : (ndTo s k).length ≤ 2 * k := by
  induction k with
  | zero => simp [ndTo]
  | succ k ih => rw [ndTo_succ, List.length_append]; have := ndI_len s k; omega
theorem ptTo_len (ss : List Shape) (k : Nat) (h : ∀ s ∈ ss, s.length ≤ 4) : (ptTo ss k).length ≤ 9 * k := by
  induction k with
  | zero => simp [ptTo]
  | succ k ih =>
    rw [ptTo_succ, List.length_append]
    have : (ptI ss k).length ≤ 9 := by
      unfold ptI
      split
      · next s hs =>
        have h1 := h s (List.mem_of_getElem? hs)
        have h2 := ndTo_len s s.length
        rw [List.length_append]
        split <;> simp <;> omega
      · simp
    omega

theorem Tryz.info80 : (Tryz.prog.info? 51).map (fun i => (i.zero, i.size, i.bytes)) = some (some (.agg #[.int .i64 0, .int .i64 0, .string ⟨#[]⟩, .int .u64 0, .int .u64 0, .int .u64 0, .int .u64 0]), 7, 64) := by kernel_rfl
/-- A node's cells, as they are laid. -/
abbrev ndA (op : Int) (x : BitVec 256) : Array Value := #[.int .i64 op, .int .i64 0, .string ⟨#[]⟩, .int .u64 (wd x 0), .int .u64 (wd x 1), .int .u64 (wd x 2), .int .u64 (wd x 3)]
abbrev ndZ (op : Int) : Array Value := #[.int .i64 op, .int .i64 0, .string ⟨#[]⟩, .int .u64 0, .int .u64 0, .int .u64 0, .int .u64 0]
theorem ndZ_eq (op : Int) : (ndZ op).toList = ndV (op, 0#256) := by unfold ndV; simp only [wd_zero]
theorem news_two (w : World) (a : Obj) (cs : Array Value) : ∀ (j : Nat) u, cs.toList[j]? = some u → ((w.alloc a).alloc (.cells cs 51)).cell? ((⟨w.heap.size + 1, 0, none⟩ : Addr).add j) = some u :=
  World.news_of_block (t := 51) (fr := (0, 0)) (by have h := heap_alloc_new (w.alloc a) (.cells cs 51); rwa [al_size'] at h)
theorem news_one (w : World) (cs : Array Value) : ∀ (j : Nat) u, cs.toList[j]? = some u → (w.alloc (.cells cs 51)).cell? ((⟨w.heap.size, 0, none⟩ : Addr).add j) = some u :=
  World.news_of_block (t := 51) (fr := (0, 0)) (heap_alloc_new w _)
theorem nd_one (n : Nd) : ∀ u ∈ ndV n, u.oneCell' = true := fun u hu => by
  unfold ndV at hu
  simp only [List.mem_cons, List.not_mem_nil, or_false] at hu
  rcases hu with rfl | rfl | rfl | rfl | rfl | rfl | rfl <;> rfl
theorem spl_grown {W W' : World} {g off : Nat} {s : Shape} {row : Option Nat} (h : SpL W g off s) (hg : W.grownBy W' row) (hlt : g < W.heap.size) (hne : some g ≠ row) : SpL W' g off s := fun j p hp =>
  ⟨(hg.cell_far ⟨g, off + j * 2, none⟩ hlt hne).trans (h j p hp).1, (hg.cell_far ⟨g, off + j * 2 + 1, none⟩ hlt hne).trans (h j p hp).2⟩
/-- What holds while nodes are laid onto a row. -/
structure AtN (w wr : World) (B : Nat) (v v' : Value) (L : List Nd) : Prop where
  o : wr.ownsRow B 51 7 v' L.length (ndc L)
  g : w.grownBy wr v.ownBlock
  k : ∀ k, v'.ownBlock = some k → v.ownBlock = some k ∨ w.heap.size ≤ k
theorem AtN.below {w wr w2 : World} {B : Nat} {v v' : Value} {L : List Nd} (h : AtN w wr B v v' L) (hb : Below wr.heap.size wr w2) : AtN w w2 B v v' L :=
  ⟨own_below h.o hb, h.g.trans (Below.grow hb _), h.k⟩
theorem AtN.alloc {w wr : World} {B : Nat} {v v' : Value} {L : List Nd} (h : AtN w wr B v v' L) (o : Obj) : AtN w (wr.alloc o) B v v' L := h.below ((Below.refl _ _).alloc (Nat.le_refl _) _)
theorem AtN.push {w wr w1 : World} {B g cap : Nat} {v v' : Value} {L : List Nd} {n : Nd} {ob : Obj} (h : AtN w wr B v v' L) (hown : w1.ownsRow B 51 7 (.slice (some ⟨g, 0, none⟩) (L.length + 1) cap) (L.length + 1) (ndc L ++ ndV n)) (hgrow : (wr.alloc ob).grownBy w1 v'.ownBlock) (hat : v'.ownBlock = some g ∨ g = wr.heap.size + 1) :
    AtN w w1 B v (.slice (some ⟨g, 0, none⟩) (L.length + 1) cap) (L ++ [n]) := by
  refine ⟨by rw [List.length_append, ndc_append, ndc_one]; exact hown, (h.g.trans (World.grownBy_alloc wr ob _)).andThen hgrow (fun j e => ?_), fun k e => ?_⟩
  · rcases h.k j e with q | q
    · exact .inr q
    · exact .inl q
  · have e2 : g = k := Option.some.inj e
    rcases hat with q | q
    · rcases h.k g q with q2 | q2
      · exact .inl (by rw [q2, e2])
      · exact .inr (by omega)
    · have := h.g.size
      exact .inr (by omega)

set_option maxRecDepth 100000 in
set_option maxHeartbeats 8000000 in
theorem appendShape_any (v : Value) (L : List Nd) (B gx cx : Nat) (s : Shape) (hs : ∀ p ∈ s, 0 ≤ p.1 ∧ p.1 ≤ p.2 ∧ p.2 ≤ 255) (hsl : s.length ≤ 4) (hL : L.length ≤ 20000000) (w : World) (ho : w.ownsRow B 51 7 v L.length (ndc L)) (hB : B ≤ w.heap.size) (hx : SpL w gx 0 s) (hgx : gx < w.heap.size) (hne : v.ownBlock ≠ some gx) :
    Calls Tryz.prog 196 #[v, .slice (some ⟨gx, 0, none⟩) s.length cx] w fun e w' => ∃ v', e = .returned v' ∧ AtN w w' B v v' (L ++ ndTo s s.length) := by
  obtain ⟨i0, hinf, hz0, hz1, hz2⟩ := info_parts Tryz.info80
  have HA := (show Hid (AtN w w B v v (L ++ ndTo s 0)) from ⟨by unfold ndTo; simpa using ho, World.grownBy.refl _ _, fun k e => .inl e⟩)
  have HX := (show Hid _ from hx)
  have HNe := (show Hid (some gx ≠ v.ownBlock) from Ne.symm hne)
  have HS := (show Hid _ from hs)
  have HG := (show Hid (∀ k, k < s.length → ∃ p, s[k]? = some p) from fun k hk => ⟨_, List.getElem?_eq_getElem hk⟩)
  clear ho hx hne hs
  go_enter Tryz.func196, Tryz.ntmps196
  go_wp2_with fail
  go_loopw [0, 11] (fun u t wr => ∃ k : Nat, k ≤ s.length ∧ t = .int .i64 k ∧ Hid (AtN w wr B v u (L ++ ndTo s k))) (fun _ t _ => s.length - (intOf t).toNat)
  case atStart => exact ⟨0, by omega, by go_num, HA⟩
  case round =>
    obtain ⟨k, hk, rfl, HW⟩ := hrel
    clear HA
    by_cases hlt : k < s.length
    · obtain ⟨⟨p1, p2⟩, hp⟩ := HG.out k hlt
      have HN := (show Hid (ndTo s (k + 1) = ndTo s k ++ ((5, spn p1 p2) :: (if 0 < k then [(7, 0#256)] else []))) from (by show _ = _; rw [ndTo_succ]; unfold ndI; rw [hp]))
      obtain ⟨b0, b1, b2⟩ := HS.out _ (List.mem_of_getElem? hp)
      obtain ⟨c0, c1⟩ := (spl_grown HX.out HW.out.g hgx HNe.out) k _ hp
      dsimp only at b0 b1 b2 c0 c1
      rw [Nat.zero_add] at c0 c1
      have HR : Hid (∀ w, Calls Tryz.prog 201 #[.int .i64 p1, .int .i64 p2] w fun e w' => e = .returned (.tuple #[sv (spn p1 p2), .int .i64 0]) ∧ Below w.heap.size w w') := fun w => range_yes p1 p2 w b0 b1 b2
      have hll := ndTo_len s k
      have z0 : (0 : Int) ≤ (k : Int) := by omega
      have z1 : (k : Int) < (s.length : Int) := by omega
      have hLl : (L ++ ndTo s k).length ≤ 20000008 := by rw [List.length_append]; omega
      have hwB : B ≤ wr.heap.size := Nat.le_trans hB HW.out.g.size
      generalize ndTo s k = T at *
      generalize hM : L ++ T = M at *
      have HM := (show Hid _ from hM)
      clear hp hM HG HS hll
      generalize spn p1 p2 = x at *
      generalize s.length = m at *
      go_wp2_with fail
      refine (HR.out _).mono ?_
      rintro e w2 ⟨rfl, hb2⟩
      have HW2 := (show Hid (AtN w w2 B v u0 M) from (HW.out.alloc _).below hb2)
      have hsz2 := hb2.size
      rw [al_size'] at hsz2
      clear hb2 HW c0 c1
      have hO2 := HW2.out.o
      go_wp2_with (at_builtin; refine wpList_append_lies _ rfl _ _ 34 rfl B 51 i0 (.agg #[.int .i64 0, .int .i64 0, .string ⟨#[]⟩, .int .u64 0, .int .u64 0, .int .u64 0, .int .u64 0]) 7 64 Tryz.underlying34 hinf hz0 hz1 hz2 rfl (by decide) _ _ _ rfl ((hO2.alloc _).alloc _) ⟨w2.heap.size + 1, 0, none⟩ 1 1 (ndV (5, x)) rfl rfl (news_two w2 _ (ndA 5 x)) (nd_one _) (by decide) ?c3 ?c4 ?c5 (w2.heap.size + 1 + 1) (by simp) ?_)
      case c3 => unfold maxLen; omega
      case c4 => omega
      case c5 => simp; omega
      intro g cap w3 hown hgrow hat hlt3
      have HW3 := (show Hid (AtN w w3 B v (.slice (some ⟨g, 0, none⟩) (M.length + 1) cap) (M ++ [(5, x)])) from (HW2.out.alloc _).push hown hgrow (by rw [al_size']; exact hat))
      have hsz3 := hgrow.size
      rw [al_size', al_size'] at hsz3
      clear hown hgrow hat hO2 HW2
      by_cases hk0 : 0 < k
      · have z2 : (0 : Int) < (k : Int) := by omega
        have hO3 := HW3.out.o
        have HN2 := (show Hid (L ++ ndTo s (k + 1) = (M ++ [(5, x)]) ++ [(7, 0#256)]) from (by show _ = _; rw [HN.out, if_pos hk0, ← HM.out]; simp))
        go_wp2_with (at_builtin; refine wpList_append_lies _ rfl _ _ 34 rfl B 51 i0 (.agg #[.int .i64 0, .int .i64 0, .string ⟨#[]⟩, .int .u64 0, .int .u64 0, .int .u64 0, .int .u64 0]) 7 64 Tryz.underlying34 hinf hz0 hz1 hz2 rfl (by decide) _ _ _ rfl (hO3.alloc _) ⟨w3.heap.size, 0, none⟩ 1 1 (ndZ 7).toList rfl rfl (news_one w3 (ndZ 7)) (by rw [ndZ_eq]; exact nd_one _) (by decide) ?c3 ?c4 ?c5 (w3.heap.size + 1) (by simp) ?_)
        case c3 => simp; unfold maxLen; omega
        case c4 => simp; omega
        case c5 => simp; omega
        intro g2 cap2 w4 hown hgrow hat hlt4
        have HW4 := (show Hid (AtN w w4 B v (.slice (some ⟨g2, 0, none⟩) (M.length + 1 + 1) cap2) (L ++ ndTo s (k + 1))) from (by
          have e : (M ++ [(5, x)]).length = M.length + 1 := by simp
          rw [HN2.out]
          have hp := HW3.out.push (g := g2) (cap := cap2) (n := (7, 0#256)) (by rw [e, ← ndZ_eq]; exact hown) hgrow hat
          rwa [e] at hp))
        clear hown hgrow hat hO3 HW3
        go_wp2
        go_roundw
        case rel => exact ⟨k + 1, by omega, by go_num, HW4⟩
        case measure => simp [intOf]; omega
      · have hk00 : k = 0 := by omega
        have HN2 := (show Hid (L ++ ndTo s (k + 1) = M ++ [(5, x)]) from (by show _ = _; rw [HN.out, if_neg hk0, ← HM.out]; simp))
        rw [← HN2.out] at HW3
        subst hk00
        go_wp2
        go_roundw
        case rel => exact ⟨0 + 1, by omega, by go_num, HW3⟩
        case measure => simp [intOf]; omega
    · obtain rfl : k = s.length := by omega
      clear HG HS HX
      go_wp2
      go_ret
      exact ⟨_, rfl, HW.out⟩
end Go.Proofs.YtkihfkcmcdiajaaGreatDoor.R

namespace Go.Proofs.YtkihfkcmcdiajaaGreatDoor.R
open Go.RowKit
theorem pcs_leaf : ∀ (f : Nat) (lo hi : Int), Blk lo hi → (hi - lo).toNat ≤ f → ∀ p ∈ pcs f lo hi, Blk p.1 p.2 ∧ seam p.1 p.2 = none
  | 0, lo, hi, h, hf, p, hp => by
    have hs : seam lo hi = none := by
      cases hs : seam lo hi with
      | none => rfl
      | some c => have := seam_bd h.cpl.2.2.2.1 h.cpl.2.2.2.2.1 hs; omega
    rw [pcs_none hs, List.mem_singleton] at hp
    rw [hp]; exact ⟨h, hs⟩
  | f + 1, lo, hi, h, hf, p, hp => by
    cases hs : seam lo hi with
    | none =>
      rw [pcs_none hs, List.mem_singleton] at hp
      rw [hp]; exact ⟨h, hs⟩
    | some c =>
      have := seam_bd h.cpl.2.2.2.1 h.cpl.2.2.2.2.1 hs
      rw [pcs_some hs] at hp
      rcases List.mem_append.1 hp with hp | hp
      · exact pcs_leaf f lo (c - 1) (h.cut hs).1 (by omega) p hp
      · exact pcs_leaf f c hi (h.cut hs).2 (by omega) p hp
theorem seamAt_none {lo hi m : Int} (h : seamAt lo hi m = none) : lo / m = hi / m ∨ (lo % m = 0 ∧ (hi + 1) % m = 0) := by
  unfold seamAt at h
  split at h
  · next q => exact .inl q
  · split at h
    · cases h
    · split at h
      · cases h
      · next q1 q2 q3 => exact .inr ⟨by omega, by omega⟩
/-- What a piece is that is not cut any more. -/
theorem leaf_at {lo hi : Int} (h : seam lo hi = none) : (2 ≤ szI lo → lo / 64 = hi / 64 ∨ (lo % 64 = 0 ∧ (hi + 1) % 64 = 0)) ∧ (3 ≤ szI lo → lo / 4096 = hi / 4096 ∨ (lo % 4096 = 0 ∧ (hi + 1) % 4096 = 0)) ∧ (4 ≤ szI lo → lo / 262144 = hi / 262144 ∨ (lo % 262144 = 0 ∧ (hi + 1) % 262144 = 0)) := by
  unfold seam at h
  have hb := szI_bd lo
  have key : ∀ (k : Nat) (m : Int), seamK lo hi (k + 1) m = none → seamAt lo hi (m * 64) = none ∧ seamK lo hi k (m * 64) = none := fun k m hk => by
    rw [seamK] at hk
    split at hk
    · cases hk
    · next q => exact ⟨q, hk⟩
  refine ⟨fun h2 => ?_, fun h3 => ?_, fun h4 => ?_⟩
  · rw [show szI lo - 1 = (szI lo - 2) + 1 from by omega] at h
    exact seamAt_none (key _ _ h).1
  · rw [show szI lo - 1 = (szI lo - 3) + 1 + 1 from by omega] at h
    exact seamAt_none (key _ _ (key _ _ h).2).1
  · rw [show szI lo - 1 = (szI lo - 4) + 1 + 1 + 1 from by omega] at h
    exact seamAt_none (key _ _ (key _ _ (key _ _ h).2).2).1
/-- The spans are in order. -/
def ordS (s : Shape) : Prop := ∀ p ∈ s, 0 ≤ p.1 ∧ p.1 ≤ p.2 ∧ p.2 ≤ 255
set_option maxRecDepth 100000 in
theorem leaf_ord {lo hi : Int} (h : Blk lo hi) (hs : seam lo hi = none) : ordS (shp (lo, hi)) := by
  obtain ⟨h1, h2, h3, h4, h5, h6⟩ := h.cpl
  obtain ⟨k2, k3, k4⟩ := leaf_at hs
  unfold ordS shp
  unfold szI at *
  unfold Blk at h
  intro p hp
  rcases cp_cases h1 with q | q | q | q
  · dsimp only at hp
    rw [enL_one q.1 q.2, enL_one (by omega) (by omega)] at hp
    simp only [List.zip_cons_cons, List.zip_nil_right, List.mem_cons, List.not_mem_nil, or_false] at hp
    rw [hp]; dsimp only; omega
  · rw [if_neg (by omega), if_pos (by omega)] at k2
    have k2 := k2 (by omega)
    dsimp only at hp
    rw [enL_two q.1 q.2, enL_two (by omega) (by omega)] at hp
    simp only [List.zip_cons_cons, List.zip_nil_right, List.mem_cons, List.not_mem_nil, or_false] at hp
    rcases hp with hp | hp
    · rw [hp]; dsimp only; omega
    · rw [hp]; dsimp only; omega
  · rw [if_neg (by omega), if_neg (by omega), if_pos (by omega)] at k2 k3
    have k2 := k2 (by omega)
    have k3 := k3 (by omega)
    dsimp only at hp
    rw [enL_three q, enL_three (by omega)] at hp
    simp only [List.zip_cons_cons, List.zip_nil_right, List.mem_cons, List.not_mem_nil, or_false] at hp
    rcases hp with hp | hp | hp
    · rw [hp]; dsimp only; omega
    · rw [hp]; dsimp only; omega
    · rw [hp]; dsimp only; omega
  · rw [if_neg (by omega), if_neg (by omega), if_neg (by omega)] at k2 k3 k4
    have k2 := k2 (by omega)
    have k3 := k3 (by omega)
    have k4 := k4 (by omega)
    dsimp only at hp
    rw [enL_four q.1 q.2, enL_four (by omega) (by omega)] at hp
    simp only [List.zip_cons_cons, List.zip_nil_right, List.mem_cons, List.not_mem_nil, or_false] at hp
    rcases hp with hp | hp | hp | hp
    · rw [hp]; dsimp only; omega
    · rw [hp]; dsimp only; omega
    · rw [hp]; dsimp only; omega
    · rw [hp]; dsimp only; omega
theorem shs_ord {lo hi : Int} (h : Blk lo hi) : ∀ s ∈ shs lo hi, ordS s ∧ 1 ≤ s.length ∧ s.length ≤ 4 := fun s hs => by
  obtain ⟨p, hp, rfl⟩ := List.mem_map.1 hs
  obtain ⟨h1, h2⟩ := pcs_leaf _ _ _ h (Nat.le_refl _) p hp
  have hl := shp_len h1
  have := szI_bd p.1
  exact ⟨leaf_ord h1 h2, by rw [show p = (p.1, p.2) from rfl, hl]; omega, by rw [show p = (p.1, p.2) from rfl, hl]; omega⟩
theorem shAll_ord (lo hi : Int) : ∀ s ∈ shAll lo hi, ordS s ∧ 1 ≤ s.length ∧ s.length ≤ 4 := fun s hs => by
  unfold shAll at hs
  obtain ⟨b, hb, h2⟩ := List.mem_flatMap.1 hs
  unfold ofBlk at h2
  obtain ⟨k, hk, rfl⟩ := List.getElem_of_mem hb
  split at h2
  · next q => exact shs_ord ((blk_get (List.getElem?_eq_getElem hk)).2.2.2 lo hi q) s h2
  · cases h2
end Go.Proofs.YtkihfkcmcdiajaaGreatDoor.R
