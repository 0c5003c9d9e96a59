/- DERIVED. Plain mathematics and walks, laid together (4). -/
import Derived.Deep.MidRow
import Derived.Test.YthffklhojdldkaaDoorCards
import Derived.Test.YthffklhojdldkaaDoorTie
import Derived.WalkKit
import Derived.ProofKit
import Derived.OpenShut
import Derived.ShutString
import Derived.ChangeOld
import Derived.ChangeSame
import Derived.SizedLaws
import Derived.FnData
import Derived.Deep.DeepHandedRow
import Derived.Deep.WholeRow
import Derived.Lib.Builder
import Derived.Lib.UnsafeStr
import Derived.Lib.AppendStr
import Derived.Lib.ConvBytes
import Derived.Lib.AtoiErrMem
import Derived.Test.YthffklhojdldkaaDoorLx03
namespace Go.Proofs.YthffklhojdldkaaDoor
open Go.RowKit
/-- The signs, in the table's order. -/
def sgTab : List (Int × List UInt8) := [(29, [37, 101]), (30, [37, 102]), (14, [94, 43]), (15, [94, 45]), (13, [94]), (6, [60, 45]), (27, [45, 62]), (7, [47]), (8, [38]), (9, [33]), (10, [63]), (11, [42]), (12, [43]), (16, [40]), (17, [41]), (18, [46]), (21, [123, 58]), (22, [58, 125]), (23, [123, 124]), (24, [124, 125]), (25, [123, 126]), (26, [126, 125]), (19, [123]), (20, [125])]
/-- The first sign that fits. -/
def sgGo (s : ByteArray) (i : Nat) : List (Int × List UInt8) → Int × List UInt8
  | [] => (0, [])
  | p :: l => if pfx s i p.2 = true then p else sgGo s i l
def sgAt (s : ByteArray) (i : Nat) : Int × List UInt8 := sgGo s i sgTab
/-- The table's cells. -/
def tabL : List Value := [.int .i64 29, .string ⟨#[37, 101]⟩, .int .i64 30, .string ⟨#[37, 102]⟩, .int .i64 14, .string ⟨#[94, 43]⟩, .int .i64 15, .string ⟨#[94, 45]⟩, .int .i64 13, .string ⟨#[94]⟩, .int .i64 6, .string ⟨#[60, 45]⟩, .int .i64 27, .string ⟨#[45, 62]⟩, .int .i64 7, .string ⟨#[47]⟩, .int .i64 8, .string ⟨#[38]⟩, .int .i64 9, .string ⟨#[33]⟩, .int .i64 10, .string ⟨#[63]⟩, .int .i64 11, .string ⟨#[42]⟩, .int .i64 12, .string ⟨#[43]⟩, .int .i64 16, .string ⟨#[40]⟩, .int .i64 17, .string ⟨#[41]⟩, .int .i64 18, .string ⟨#[46]⟩, .int .i64 21, .string ⟨#[123, 58]⟩, .int .i64 22, .string ⟨#[58, 125]⟩, .int .i64 23, .string ⟨#[123, 124]⟩, .int .i64 24, .string ⟨#[124, 125]⟩, .int .i64 25, .string ⟨#[123, 126]⟩, .int .i64 26, .string ⟨#[126, 125]⟩, .int .i64 19, .string ⟨#[123]⟩, .int .i64 20, .string ⟨#[125]⟩]
/-- The table's variable. -/
structure SG (W : World) : Prop where
  lt : 0 < W.heap.size
  rng : W.rangeAt 0 0 tabL
theorem SG.below {B : Nat} {W W' : World} (h : SG W) (hb : Below B W W') (hB : 0 < B) : SG W' :=
  ⟨Nat.lt_of_lt_of_le h.lt hb.size, fun j v hv => (hb.cell (p := ⟨0, 0 + j, none⟩) hB).trans (h.rng j v hv)⟩
theorem SG.later {W W' : World} (h : SG W) (hb : Below W.heap.size W W') : SG W' := h.below hb h.lt
theorem idx_tab (k : Nat) (p : Int × List UInt8) (h : sgTab[k]? = some p) (W : World) : (Instr.index 84 (.agg tabL.toArray) (.int .i64 (k : Int))).run Tryd.prog W = .ok (.agg #[.int .i64 p.1, .string ⟨p.2.toArray⟩]) W := by
  match k, h with
  | 0, h => cases h; simp [tabL, Instr.index, run_underlying Tryd.underlying84, asIntOf, go_sem]
  | 1, h => cases h; simp [tabL, Instr.index, run_underlying Tryd.underlying84, asIntOf, go_sem]
  | 2, h => cases h; simp [tabL, Instr.index, run_underlying Tryd.underlying84, asIntOf, go_sem]
  | 3, h => cases h; simp [tabL, Instr.index, run_underlying Tryd.underlying84, asIntOf, go_sem]
  | 4, h => cases h; simp [tabL, Instr.index, run_underlying Tryd.underlying84, asIntOf, go_sem]
  | 5, h => cases h; simp [tabL, Instr.index, run_underlying Tryd.underlying84, asIntOf, go_sem]
  | 6, h => cases h; simp [tabL, Instr.index, run_underlying Tryd.underlying84, asIntOf, go_sem]
  | 7, h => cases h; simp [tabL, Instr.index, run_underlying Tryd.underlying84, asIntOf, go_sem]
  | 8, h => cases h; simp [tabL, Instr.index, run_underlying Tryd.underlying84, asIntOf, go_sem]
  | 9, h => cases h; simp [tabL, Instr.index, run_underlying Tryd.underlying84, asIntOf, go_sem]
  | 10, h => cases h; simp [tabL, Instr.index, run_underlying Tryd.underlying84, asIntOf, go_sem]
  | 11, h => cases h; simp [tabL, Instr.index, run_underlying Tryd.underlying84, asIntOf, go_sem]
  | 12, h => cases h; simp [tabL, Instr.index, run_underlying Tryd.underlying84, asIntOf, go_sem]
  | 13, h => cases h; simp [tabL, Instr.index, run_underlying Tryd.underlying84, asIntOf, go_sem]
  | 14, h => cases h; simp [tabL, Instr.index, run_underlying Tryd.underlying84, asIntOf, go_sem]
  | 15, h => cases h; simp [tabL, Instr.index, run_underlying Tryd.underlying84, asIntOf, go_sem]
  | 16, h => cases h; simp [tabL, Instr.index, run_underlying Tryd.underlying84, asIntOf, go_sem]
  | 17, h => cases h; simp [tabL, Instr.index, run_underlying Tryd.underlying84, asIntOf, go_sem]
  | 18, h => cases h; simp [tabL, Instr.index, run_underlying Tryd.underlying84, asIntOf, go_sem]
  | 19, h => cases h; simp [tabL, Instr.index, run_underlying Tryd.underlying84, asIntOf, go_sem]
  | 20, h => cases h; simp [tabL, Instr.index, run_underlying Tryd.underlying84, asIntOf, go_sem]
  | 21, h => cases h; simp [tabL, Instr.index, run_underlying Tryd.underlying84, asIntOf, go_sem]
  | 22, h => cases h; simp [tabL, Instr.index, run_underlying Tryd.underlying84, asIntOf, go_sem]
  | 23, h => cases h; simp [tabL, Instr.index, run_underlying Tryd.underlying84, asIntOf, go_sem]
abbrev sgO (p : Int × List UInt8) : Obj := .cells #[.int .i64 p.1, .string ⟨p.2.toArray⟩] 67
/-- A sign in a box. -/
structure SX (W : World) (b : Nat) (p : Int × List UInt8) : Prop where
  heap : W.heap[b]? = some (.cells #[.int .i64 p.1, .string ⟨p.2.toArray⟩] 67 (0, 0))
theorem SX.lt {W : World} {b : Nat} {p : Int × List UInt8} (h : SX W b p) : b < W.heap.size := (Array.getElem?_eq_some_iff.1 h.heap).1
theorem SX.below {W W' : World} {b : Nat} {p : Int × List UInt8} (h : SX W b p) (hb : Below W.heap.size W W') : SX W' b p := ⟨(hb.block b h.lt).trans h.heap⟩
theorem SX.new (W : World) (p : Int × List UInt8) : SX (W.alloc (sgO p)) W.heap.size p := ⟨heap_alloc_new W _⟩
theorem SX.c0 {W : World} {b : Nat} {p : Int × List UInt8} (h : SX W b p) : W.cell? ⟨b, 0, none⟩ = some (.int .i64 p.1) := by rw [cell_of_row W b 0 _ 67 (0, 0) h.heap]; rfl
theorem SX.c1 {W : World} {b : Nat} {p : Int × List UInt8} (h : SX W b p) : W.cell? ⟨b, 1, none⟩ = some (.string ⟨p.2.toArray⟩) := by rw [cell_of_row W b 1 _ 67 (0, 0) h.heap]; rfl
theorem SX.f0 {W : World} {b : Nat} {p : Int × List UInt8} (h : SX W b p) : W.frozen? ⟨b, 0, none⟩ = false := frozen_of_row W b 0 _ 67 h.heap
theorem SX.f1 {W : World} {b : Nat} {p : Int × List UInt8} (h : SX W b p) : W.frozen? ⟨b, 1, none⟩ = false := frozen_of_row W b 1 _ 67 h.heap
theorem SX.put {W : World} {b : Nat} {p0 : Int × List UInt8} (h : SX W b p0) (p : Int × List UInt8) : SX ((W.setCell ⟨b, 0, none⟩ (.int .i64 p.1)).setCell ⟨b, 1, none⟩ (.string ⟨p.2.toArray⟩)) b p := by
  have h := h.heap
  have h0 := heap_setCell_same _ b 0 _ 67 (.int .i64 p.1) h
  have h1 := heap_setCell_same _ b 1 _ 67 (.string ⟨p.2.toArray⟩) h0
  refine ⟨?_⟩
  rw [h1]
  simp
theorem ret_sx {fn : Func} {R : Ending → World → Prop} {a : Act} {W : World} {b : Nat} {p : Int × List UInt8} (hF : fn.results = #[.cell 4 67]) (hd : a.defers = []) (h4 : a.tmps.getD 4 undef = .pointer (some ⟨b, 0, none⟩)) (hT : SX W b p) (hR : R (.returned (.agg #[.int .i64 p.1, .string ⟨p.2.toArray⟩])) W) : bodyPost Tryd.prog fn R .ret a W := by
  have c0 := hT.c0
  have c1 := hT.c1
  refine bodyPost_ret (v := .agg #[.int .i64 p.1, .string ⟨p.2.toArray⟩]) ?_ hd hR
  simp only [Array.getD_eq_getD_getElem?] at h4
  simp [results, hF, go_sem, h4, c0, c1]
/-- While the table is gone through. -/
structure AtTab (w wr : World) : Prop where
  b : Below w.heap.size w wr
  x : SX wr w.heap.size (0, [])
set_option maxRecDepth 100000 in
set_option maxHeartbeats 8000000 in
theorem signAt_any (s : ByteArray) (i : Nat) (hi : i ≤ s.size) (w : World) (hg : SG w) : Calls Tryd.prog 52 #[.string s, .int .i64 i] w fun e w' => e = .returned (.agg #[.int .i64 (sgAt s i).1, .string ⟨(sgAt s i).2.toArray⟩]) ∧ Below w.heap.size w w' := by
  have HS : Hid (∀ (l : List UInt8) w, Calls Tryd.prog 15 #[.string s, .int .i64 i, .string ⟨l.toArray⟩] w fun e w' => e = .returned (.bool (pfx s i l)) ∧ w' = w) := fun l w => by
    have e := stands_any s i ⟨l.toArray⟩ hi w
    rw [show (⟨l.toArray⟩ : ByteArray).data.toList = l from by simp] at e
    exact e
  have H0 := (show Hid (AtTab w (w.alloc (sgO (0, [])))) from ⟨below_box _ _, SX.new w (0, [])⟩)
  have HI := (show Hid (∀ (k : Nat) p, sgTab[k]? = some p → ∀ W : World, (Instr.index 84 (.agg tabL.toArray) (.int .i64 (k : Int))).run Tryd.prog W = .ok (.agg #[.int .i64 p.1, .string ⟨p.2.toArray⟩]) W) from idx_tab)
  have hR : (w.alloc (sgO (0, []))).rangeAt 0 0 tabL := (hg.later (below_box _ _)).rng
  have HL := (show Hid (sgGo s i (sgTab.drop 0) = sgAt s i) from rfl)
  clear hg
  generalize htv : tabL.toArray = TV at HI
  go_enter Tryd.func52, Tryd.ntmps52
  go_wp2_with (refine wpList_load_mid rfl 84 _ rfl 0 0 rfl tabL _ hR Tryd.underlying84 rfl (by kernel_rfl) ?_)
  clear hR htv
  go_loopw [8] (fun t wr => ∃ k : Nat, k ≤ 24 ∧ t = .int .i64 k ∧ Hid (AtTab w wr) ∧ Hid (sgGo s i (sgTab.drop k) = sgAt s i)) (fun t _ => 24 - (intOf t).toNat)
  case atStart => exact ⟨0, by omega, by go_num, H0, HL⟩
  case round =>
    obtain ⟨k, hk, rfl, HW, HD⟩ := hrel
    clear H0 HL
    by_cases hk4 : k < 24
    · obtain ⟨p, hp⟩ : ∃ p, sgTab[k]? = some p := ⟨_, List.getElem?_eq_getElem (by show k < 24; exact hk4)⟩
      have hix := HI.out k p hp
      have z1 : (k : Int) < 24 := by omega
      have HSk := (show Hid _ from HS.out p.2)
      have HU : Hid (sgAt s i = if pfx s i p.2 = true then p else sgGo s i (sgTab.drop (k + 1))) := by
        show sgAt s i = _
        have hd : sgTab.drop k = p :: sgTab.drop (k + 1) := by
          obtain ⟨h1, h2⟩ := List.getElem?_eq_some_iff.1 hp
          rw [List.drop_eq_getElem_cons h1, h2]
        rw [← HD.out, hd, sgGo]
      clear HS hp HD
      cases hf : pfx s i p.2 with
      | true =>
        have HE : Hid (sgAt s i = p) := by show sgAt s i = p; rw [HU.out, if_pos hf]
        rw [hf] at HSk
        clear HU hf
        go_wp2_with fail
        refine (HSk.out _).mono ?_
        rintro e w3 ⟨rfl, hw3⟩
        have HX3 := (show Hid (SX w3 w.heap.size (0, [])) from by rw [hw3]; exact HW.out.x.below (below_box _ _))
        have HY3 := (show Hid (SX w3 wr.heap.size p) from by rw [hw3]; exact SX.new wr p)
        have HB3 := (show Hid (Below w.heap.size w w3) from by rw [hw3]; exact HW.out.b.alloc HW.out.b.size _)
        clear hw3 HW HSk hix HI
        have f0 := HX3.out.f0
        have f1' := HX3.out.f1
        have c0 := HX3.out.c0
        have c1 := HX3.out.c1
        have d0 := HY3.out.c0
        have d1 := HY3.out.c1
        go_wp2_with fail
        exact ret_sx rfl rfl rfl (HX3.out.put p) ⟨by rw [HE.out], (HB3.out.setCell (p := ⟨w.heap.size, 0, none⟩) (Nat.le_refl _) _).setCell (p := ⟨w.heap.size, 1, none⟩) (Nat.le_refl _) _⟩
      | false =>
        have HE : Hid (sgGo s i (sgTab.drop (k + 1)) = sgAt s i) := by show _ = sgAt s i; rw [HU.out, if_neg (by rw [hf]; decide)]
        rw [hf] at HSk
        clear HU hf
        go_wp2_with fail
        refine (HSk.out _).mono ?_
        rintro e w3 ⟨rfl, hw3⟩
        have HW3 := (show Hid (AtTab w w3) from by rw [hw3]; exact ⟨HW.out.b.alloc HW.out.b.size _, HW.out.x.below (below_box _ _)⟩)
        clear hw3 HW HSk hix
        go_wp2_with fail
        go_roundw
        case rel => exact ⟨k + 1, by omega, by go_num, HW3, HE⟩
        case measure => simp [intOf]; omega
    · obtain rfl : k = 24 := by omega
      have HE : Hid (sgAt s i = (0, [])) := by show sgAt s i = _; rw [← HD.out]; rfl
      have f0 := HW.out.x.f0
      have f1' := HW.out.x.f1
      have c0 := HW.out.x.c0
      have c1 := HW.out.x.c1
      clear HS HI HD
      go_wp2_with fail
      exact ret_sx rfl rfl rfl (HW.out.x.put (0, [])) ⟨by rw [HE.out], (HW.out.b.setCell (p := ⟨w.heap.size, 0, none⟩) (Nat.le_refl _) _).setCell (p := ⟨w.heap.size, 1, none⟩) (Nat.le_refl _) _⟩
end Go.Proofs.YthffklhojdldkaaDoor

namespace Go.Proofs.YthffklhojdldkaaDoor
open Go.ChangeShapes Go.WideShapes Go.ChangeAt Go.RowKit
theorem own : ownKnob Tryd.prog.godebug = none := by kernel_rfl
theorem gTab : Tryd.prog.globalNamed "harrow/token.signs" = some 0 := by kernel_rfl
theorem gTabType : (Tryd.prog.globals[0]?).map (·.type) = some 84 := by kernel_rfl
theorem Tryd.cells67 : Tryd.prog.cellsOf 67 = 2 := by kernel_rfl
theorem Tryd.cellsInt : Tryd.prog.cellsOf 3 = 1 := by kernel_rfl
theorem Tryd.cellsStr : Tryd.prog.cellsOf 9 = 1 := by kernel_rfl
theorem run_trod {H : Type} {enc : TypeId × Value → H} {W : World} {base fuel : Nat} {sp : Nat → Bool} {held : Bool} {cs : List Value} {z : DataW H × List MemPlace}
    (h : DataW.trod enc Tryd.prog W base sp held fuel 67 cs = some z) : ∃ a s, cs = [.int .i64 a, .string s] ∧ z.1 = .agg [.lit (.int .i64 a), .lit (.string s.data.toList)] := by
  obtain ⟨y0, y1, n, rfl, hl, h0, h1⟩ := trod_struct2 Tryd.underlying67 h
  rw [Tryd.cells67] at hl
  match cs, hl with
  | [c0, c1], _ =>
    dsimp only at h0 h1
    rw [Tryd.cellsInt] at h0
    rw [Tryd.cellsStr] at h1
    obtain ⟨a, e0, e0', _⟩ := DataW.trod_int Tryd.underlying3 h0
    obtain ⟨b, e1, e1', _⟩ := DataW.trod_string Tryd.underlying9 h1
    have e0 : [c0] = [Value.int .i64 a] := e0
    have e1 : [c1] = [Value.string b] := e1
    cases e0
    cases e1
    exact ⟨a, b, rfl, by rw [e0', e1']⟩
theorem tab_laid {H : Type} : (Rows.laid_harrow_token_signs : DataW H) = .agg (sgTab.map fun p => .agg [.lit (.int .i64 p.1), .lit (.string p.2)]) := rfl
theorem tab_get : ∀ (i : Nat) v, tabL[i]? = some v → ∃ j p, sgTab[j]? = some p ∧ ((i = 2 * j ∧ v = .int .i64 p.1) ∨ (i = 2 * j + 1 ∧ v = .string ⟨p.2.toArray⟩)) := by
  have key : ∀ (l : List (Int × List UInt8)) (i : Nat) (v : Value), (l.flatMap fun p => [Value.int .i64 p.1, .string ⟨p.2.toArray⟩])[i]? = some v → ∃ j p, l[j]? = some p ∧ ((i = 2 * j ∧ v = .int .i64 p.1) ∨ (i = 2 * j + 1 ∧ v = .string ⟨p.2.toArray⟩)) := by
    intro l
    induction l with
    | nil => intro i v h; simp at h
    | cons p l ih =>
      intro i v h
      rw [List.flatMap_cons] at h
      match i, h with
      | 0, h => exact ⟨0, p, rfl, .inl ⟨rfl, by simpa using h.symm⟩⟩
      | 1, h => exact ⟨0, p, rfl, .inr ⟨rfl, by simpa using h.symm⟩⟩
      | i + 2, h =>
        obtain ⟨j, q, h1, h2⟩ := ih i v (by simpa using h)
        exact ⟨j + 1, q, by simpa using h1, by
          rcases h2 with ⟨x, y⟩ | ⟨x, y⟩
          · exact .inl ⟨by omega, y⟩
          · exact .inr ⟨by omega, y⟩⟩
  exact key sgTab
theorem sg_of_laid {W : World} (h : laidMetH Tryd.prog [("harrow/token.signs", Rows.laid_harrow_token_signs)] W) : SG W := by
  have h : laidMet Tryd.prog [("harrow/token.signs", Rows.laid_harrow_token_signs)] W := h
  obtain ⟨ps, ⟨g', t', cs, fuel, p, q, hg', ht', hvar, hd, _, _⟩, _⟩ := h
  obtain rfl := Option.some.inj (gTab.symm.trans hg')
  obtain rfl := Option.some.inj (gTabType.symm.trans ht')
  obtain ⟨xs, m, rfl, hx, hl, hn, hel⟩ := DataW.trod_array Tryd.underlying84 hd
  have hx1 := congrArg Prod.fst hx
  dsimp only at hx1
  rw [tab_laid] at hx1
  injection hx1 with hx1
  rw [Tryd.cells67] at hel
  have hcell := World.var?_cell gTab hvar
  have key : ∀ j p, sgTab[j]? = some p → W.cell? ⟨0, 2 * j, none⟩ = some (.int .i64 p.1) ∧ W.cell? ⟨0, 2 * j + 1, none⟩ = some (.string ⟨p.2.toArray⟩) := fun j p hp => by
    have hj : j < 24 := (List.getElem?_eq_some_iff.1 hp).1
    have k0 := hel j hj
    obtain ⟨x, hxj⟩ : ∃ x, xs[j]? = some x := ⟨_, List.getElem?_eq_getElem (by omega)⟩
    rw [hxj] at k0
    obtain ⟨a, s, e1, e2⟩ := run_trod k0
    have h3 : (xs.map (·.1))[j]? = some x.1 := by rw [List.getElem?_map, hxj]; rfl
    rw [← hx1, List.getElem?_map, hp] at h3
    have h3 : DataW.agg [.lit (.int .i64 p.1), .lit (.string p.2)] = x.1 := Option.some.inj h3
    rw [e2] at h3
    injection h3 with h3
    injection h3 with h4 h5
    injection h5 with h5 _
    injection h4 with h4
    injection h4 with h4 h4
    injection h5 with h5
    injection h5 with h5
    have hs : s = ⟨p.2.toArray⟩ := by rw [h5]
    have c0 : cs.toList[2 * j]? = some (.int .i64 p.1) := by
      have := congrArg (fun l => l[0]?) e1
      simp only [List.getElem?_take, List.getElem?_drop, List.getElem?_cons_zero] at this
      rw [if_pos (by omega), show j * 2 + 0 = 2 * j from by omega, ← h4] at this
      exact this
    have c1 : cs.toList[2 * j + 1]? = some (.string ⟨p.2.toArray⟩) := by
      have := congrArg (fun l => l[1]?) e1
      simp only [List.getElem?_take, List.getElem?_drop, List.getElem?_cons_succ, List.getElem?_cons_zero] at this
      rw [if_pos (by omega), show j * 2 + 1 = 2 * j + 1 from by omega, hs] at this
      exact this
    exact ⟨(hcell (2 * j)).trans (by simpa using c0), (hcell (2 * j + 1)).trans (by simpa using c1)⟩
  refine ⟨World.block_lt_of_cell? W _ (key 0 _ rfl).1, fun i v hv => ?_⟩
  obtain ⟨j, p, hp, hor⟩ := tab_get i v hv
  obtain ⟨h1, h2⟩ := key j p hp
  rw [Nat.zero_add]
  rcases hor with ⟨rfl, rfl⟩ | ⟨rfl, rfl⟩
  · exact h1
  · exact h2
/-- A world with the table laid. -/
def layTab (w : World) : World :=
  { w with heap := w.heap.modify 0 fun
      | .cells _ t frozen => .cells #[.int .i64 29, .string ⟨#[37, 101]⟩, .int .i64 30, .string ⟨#[37, 102]⟩, .int .i64 14, .string ⟨#[94, 43]⟩, .int .i64 15, .string ⟨#[94, 45]⟩, .int .i64 13, .string ⟨#[94]⟩, .int .i64 6, .string ⟨#[60, 45]⟩, .int .i64 27, .string ⟨#[45, 62]⟩, .int .i64 7, .string ⟨#[47]⟩, .int .i64 8, .string ⟨#[38]⟩, .int .i64 9, .string ⟨#[33]⟩, .int .i64 10, .string ⟨#[63]⟩, .int .i64 11, .string ⟨#[42]⟩, .int .i64 12, .string ⟨#[43]⟩, .int .i64 16, .string ⟨#[40]⟩, .int .i64 17, .string ⟨#[41]⟩, .int .i64 18, .string ⟨#[46]⟩, .int .i64 21, .string ⟨#[123, 58]⟩, .int .i64 22, .string ⟨#[58, 125]⟩, .int .i64 23, .string ⟨#[123, 124]⟩, .int .i64 24, .string ⟨#[124, 125]⟩, .int .i64 25, .string ⟨#[123, 126]⟩, .int .i64 26, .string ⟨#[126, 125]⟩, .int .i64 19, .string ⟨#[123]⟩, .int .i64 20, .string ⟨#[125]⟩] t frozen
      | o => o }
end Go.Proofs.YthffklhojdldkaaDoor

namespace Go.Proofs.YthffklhojdldkaaDoor
open Go.RowKit
def zS : Array Value := Array.replicate 31 (.string ⟨#[]⟩)
theorem build88 (w : World) : (Instr.build 88 #[]).run Tryd.prog w = .ok (.agg zS) w := by kernel_rfl
theorem alloc88 (w : World) : (Instr.alloc 88 true (.tuple #[])).run Tryd.prog w = .ok (.pointer (some ⟨w.heap.size, 0, none⟩)) (w.alloc (.cells zS 88)) := by kernel_rfl
theorem store88 (w : World) : (Instr.storeAt 88 (.pointer (some ⟨w.heap.size, 0, none⟩)) (.agg zS)).run Tryd.prog (w.alloc (.cells zS 88)) = .ok () (w.alloc (.cells zS 88)) := run_storeAt_new w 88 zS zS (by kernel_rfl) rfl (by kernel_rfl)
theorem wpList_build88 {ops : Array Oper} {rest : List Oper} {op : Oper} {a : Act} {w : World} {Q : Exit → Act → World → Prop} (hgd : op.guard = none) (ho : op.op = .build 88 #[])
    (h : wpList Tryd.prog ops Q rest (a.put op.dst (.agg zS)) w) : wpList Tryd.prog ops Q (op :: rest) a w :=
  wpList_plain hgd fun K hK => by
    unfold Oper.wp execOp
    simp only [ho, List.map_toArray, List.map_nil, Sem.run_bind, build88, Result.andThen_ok]
    exact hK _ _ h
theorem wpList_alloc88 {ops : Array Oper} {rest : List Oper} {op : Oper} {a : Act} {w : World} {Q : Exit → Act → World → Prop} (hgd : op.guard = none) (ho : op.op = .alloc 88)
    (h : wpList Tryd.prog ops Q rest (a.put op.dst (.pointer (some ⟨w.heap.size, 0, none⟩))) (w.alloc (.cells zS 88))) : wpList Tryd.prog ops Q (op :: rest) a w :=
  wpList_plain hgd fun K hK => by
    unfold Oper.wp execOp
    simp only [ho, Sem.run_bind, alloc88, Result.andThen_ok]
    exact hK _ _ h
theorem wpList_store88 {ops : Array Oper} {rest : List Oper} {op : Oper} {a : Act} {w : World} {Q : Exit → Act → World → Prop} (hgd : op.guard = none) (x y : Operand) (ho : op.op = .store 88 x y)
    (hx : a.eval x = .pointer (some ⟨w.heap.size, 0, none⟩)) (hy : a.eval y = .agg zS)
    (h : wpList Tryd.prog ops Q rest (a.put op.dst undef) (w.alloc (.cells zS 88))) : wpList Tryd.prog ops Q (op :: rest) a (w.alloc (.cells zS 88)) :=
  wpList_plain hgd fun K hK => by
    unfold Oper.wp execOp
    simp only [ho, hx, hy, Sem.run_bind, store88, Result.andThen_ok]
    exact hK _ _ h
/-- The document's texts of signs, in an array of their own. -/
structure ZX (W : World) (b : Nat) (c : Array Value) : Prop where
  heap : W.heap[b]? = some (.cells c 88 (0, 0))
theorem ZX.put {W : World} {b : Nat} {c : Array Value} (h : ZX W b c) (j : Nat) (v : Value) : ZX (W.setCell ⟨b, j, none⟩ v) b (c.setIfInBounds j v) := ⟨by
  rw [heap_setCell_same _ b j _ 88 v h.heap]⟩
theorem ZX.cell {W : World} {b : Nat} {c : Array Value} (h : ZX W b c) (j : Nat) : W.cell? ⟨b, j, none⟩ = c[j]? := cell_of_row W b j _ 88 (0, 0) h.heap
theorem ZX.fz {W : World} {b : Nat} {c : Array Value} (h : ZX W b c) (j : Nat) : W.frozen? ⟨b, j, none⟩ = false := frozen_of_row W b j _ 88 h.heap
def finS : Array Value := ((((((((((((((((((zS.setIfInBounds 6 (.string ⟨#[60, 45]⟩)).setIfInBounds 27 (.string ⟨#[45, 62]⟩)).setIfInBounds 7 (.string ⟨#[47]⟩)).setIfInBounds 8 (.string ⟨#[38]⟩)).setIfInBounds 9 (.string ⟨#[33]⟩)).setIfInBounds 10 (.string ⟨#[63]⟩)).setIfInBounds 11 (.string ⟨#[42]⟩)).setIfInBounds 12 (.string ⟨#[43]⟩)).setIfInBounds 16 (.string ⟨#[40]⟩)).setIfInBounds 17 (.string ⟨#[41]⟩)).setIfInBounds 18 (.string ⟨#[46]⟩)).setIfInBounds 22 (.string ⟨#[58, 125]⟩)).setIfInBounds 23 (.string ⟨#[123, 124]⟩)).setIfInBounds 24 (.string ⟨#[124, 125]⟩)).setIfInBounds 25 (.string ⟨#[123, 126]⟩)).setIfInBounds 26 (.string ⟨#[126, 125]⟩)).setIfInBounds 19 (.string ⟨#[123]⟩)).setIfInBounds 20 (.string ⟨#[125]⟩))
theorem finS_get (k : Nat) (hk : k ≤ 30) : finS[k]? = some (.string ⟨(sgn k).toArray⟩) := by
  match k, hk with
  | 0, _ => rfl
  | 1, _ => rfl
  | 2, _ => rfl
  | 3, _ => rfl
  | 4, _ => rfl
  | 5, _ => rfl
  | 6, _ => rfl
  | 7, _ => rfl
  | 8, _ => rfl
  | 9, _ => rfl
  | 10, _ => rfl
  | 11, _ => rfl
  | 12, _ => rfl
  | 13, _ => rfl
  | 14, _ => rfl
  | 15, _ => rfl
  | 16, _ => rfl
  | 17, _ => rfl
  | 18, _ => rfl
  | 19, _ => rfl
  | 20, _ => rfl
  | 21, _ => rfl
  | 22, _ => rfl
  | 23, _ => rfl
  | 24, _ => rfl
  | 25, _ => rfl
  | 26, _ => rfl
  | 27, _ => rfl
  | 28, _ => rfl
  | 29, _ => rfl
  | 30, _ => rfl
  | n + 31, h => omega
theorem store9 {W : World} {b j : Nat} {c : Array Value} {u : Value} (h : ZX W b c) (hj : c[j]? = some u) (s : ByteArray) : (Instr.storeAt 9 (.pointer (some ⟨b, j, none⟩)) (.string s)).run Tryd.prog W = .ok () (W.setCell ⟨b, j, none⟩ (.string s)) := by
  have h1 := (h.cell j).trans hj
  have h2 := h.fz j
  simp [Instr.storeAt, Instr.sureAddr, storeVar, go_sem, h1, h2]
theorem wpList_put88 {ops : Array Oper} {rest : List Oper} {op : Oper} {a : Act} {w W : World} {Q : Exit → Act → World → Prop} {b j : Nat} {c : Array Value} {u : Value} {s : ByteArray} (hgd : op.guard = none) (x y : Operand) (ho : op.op = .store 9 x y)
    (hx : a.eval x = .pointer (some ⟨b, j, none⟩)) (hy : a.eval y = .string s) (hz : ZX W b c ∧ Below w.heap.size w W) (hb : w.heap.size ≤ b) (hj : c[j]? = some u)
    (h : ∀ W', (ZX W' b (c.setIfInBounds j (.string s)) ∧ Below w.heap.size w W') → wpList Tryd.prog ops Q rest (a.put op.dst undef) W') : wpList Tryd.prog ops Q (op :: rest) a W :=
  wpList_plain hgd fun K hK => by
    unfold Oper.wp execOp
    simp only [ho, hx, hy, Sem.run_bind, store9 hz.1 hj, Result.andThen_ok]
    exact hK _ _ (h _ ⟨hz.1.put j _, hz.2.setCell (p := ⟨b, j, none⟩) hb _⟩)
set_option maxRecDepth 100000 in
set_option maxHeartbeats 8000000 in
theorem sign_in (k : Nat) (h1 : 1 ≤ k) (h2 : k ≤ 30) (w : World) : Calls Tryd.prog 63 #[.int .i64 k] w fun e w' => e = .returned (.string ⟨(sgn k).toArray⟩) ∧ Below w.heap.size w w' := by
  have HZ := (show Hid (ZX (w.alloc (.cells zS 88)) w.heap.size zS ∧ Below w.heap.size w (w.alloc (.cells zS 88))) from ⟨⟨heap_alloc_new w _⟩, below_box w _⟩)
  have HC := (show Hid (∀ W, ZX W w.heap.size finS → W.cell? ⟨w.heap.size, k, none⟩ = some (.string ⟨(sgn k).toArray⟩)) from fun W h => by rw [h.cell]; exact finS_get k h2)
  have t1 : ¬ (k : Int) < 1 := by omega
  have t2 : ¬ (30 : Int) < (k : Int) := by omega
  have z0 : (0 : Int) ≤ (k : Int) := by omega
  have z1 : (k : Int) < 31 := by omega
  generalize ByteArray.mk (sgn k).toArray = tx at *
  go_enter Tryd.func63, Tryd.ntmps63
  go_wp2_with (first | refine wpList_build88 rfl rfl ?_ | refine wpList_alloc88 rfl rfl ?_ | (refine wpList_store88 rfl _ _ rfl rfl rfl ?_; generalize w.alloc (.cells zS 88) = W1 at *) | (refine wpList_put88 rfl _ _ rfl rfl rfl HZ.out (Nat.le_refl _) rfl ?_; clear HZ; intro W1 hz; have HZ := (show Hid _ from hz); clear hz; try (have hC := HC.out _ HZ.out.1; clear HC)))
  go_ret
  exact ⟨rfl, HZ.out.2⟩
end Go.Proofs.YthffklhojdldkaaDoor

namespace Go.Proofs.YthffklhojdldkaaDoor
open Go.RowKit
def nuV : Sum Int Int → Value
  | .inl n => .tuple #[.int .i64 n, .int .i64 0]
  | .inr e => .tuple #[.int .i64 0, .int .i64 e]
set_option maxRecDepth 100000 in
set_option maxHeartbeats 4000000 in
theorem number_any (s : ByteArray) (a i : Nat) (most : Int) (hs : s.size ≤ 140737488355328) (hi : i ≤ s.size) (w : World) : Calls Tryd.prog 34 #[.string s, .int .i64 a, .int .i64 i, .int .i64 most] w fun e w' => e = .returned (nuV (numR s i most)) ∧ w' = w := by
  have HD : Hid (∀ w, Calls Tryd.prog 35 #[.string s, .int .i64 i] w fun e w' => e = .returned (.int .i64 (spN dgB s i)) ∧ w' = w) := fun w => digits_any s i hs (by omega) w
  have hge := spN_ge dgB s (by decide) i
  have hle := spN_le dgB s (by decide) i hi
  obtain ⟨n, hn⟩ : ∃ n, n = spN dgB s i := ⟨_, rfl⟩
  have HW : Hid (n - i ≤ 6 → ∀ w, Calls Tryd.prog 55 #[.string (s.extract i n), .int .i64 10] w fun e w' => e = .returned (.int .i64 (wthR s i 10 (n - i))) ∧ w' = w) := fun h6 w => by
    have hsz : (s.extract i n).size = n - i := by rw [ByteArray.size_extract]; omega
    have h := worth_any (s.extract i n) 10 (by omega) (by omega) w
    rw [hsz, wthR_ext (by omega) (n - i) (by omega)] at h
    exact h
  have HN : Hid (numR s i most = if n - i = 0 ∨ (1 < n - i ∧ chr s i = 48) then .inr 50 else if 6 < n - i ∨ most < wthR s i 10 (n - i) then .inr 1 else .inl (wthR s i 10 (n - i))) := by show numR s i most = _; unfold numR; rw [← hn]
  rw [← hn] at HD hge hle
  clear hn
  have u1 : IntKind.i64.wrap ((n : Int) - (i : Int)) = ((n - i : Nat) : Int) := by rw [IntKind.wrap_i64]; omega
  go_enter Tryd.func34, Tryd.ntmps34
  go_wp2_with fail
  refine (HD.out _).mono ?_
  rintro e w ⟨rfl, rfl⟩
  clear HD
  obtain ⟨m, hm⟩ : ∃ m, m = n - i := ⟨_, rfl⟩
  rw [← hm] at HW HN u1
  have hmn : i + m = n := by omega
  have z0 : (0 : Int) ≤ (i : Int) := by omega
  have z1 : (i : Int) ≤ (n : Int) := by omega
  have z2 : (n : Int) ≤ (s.size : Int) := by omega
  clear hm
  by_cases h0 : m = 0
  · have HE : Hid (numR s i most = .inr 50) := by show numR s i most = _; rw [HN.out, if_pos (.inl h0)]
    have t0 : ((m : Int) == 0) = true := by rw [h0]; rfl
    clear HN HW h0 hmn
    go_wp2_with fail
    go_ret2
    exact ⟨by rw [HE.out]; rfl, rfl⟩
  have t0 : ((m : Int) == 0) = false := by rw [beq_eq_false_iff_ne]; omega
  have hi2 : i < s.size := by omega
  have z3 : (i : Int) < (s.size : Int) := by omega
  have hci := chr_in hi2
  have tail : ∀ (hq : ¬ (m = 0 ∨ (1 < m ∧ chr s i = 48))), numR s i most = if 6 < m ∨ most < wthR s i 10 m then .inr 1 else .inl (wthR s i 10 m) := fun hq => by rw [HN.out, if_neg hq]
  by_cases h1 : 1 < m
  · have t1 : decide (1 < m) = true := decide_eq_true h1
    by_cases h48 : chr s i = 48
    · have HE : Hid (numR s i most = .inr 50) := by show numR s i most = _; rw [HN.out, if_pos (.inr ⟨h1, h48⟩)]
      have t2 : ((s[i].toNat : Int) == 48) = true := by rw [← hci, h48]; rfl
      clear HN HW h0 hmn tail h48 hci
      go_wp2_with fail
      go_ret2
      exact ⟨by rw [HE.out]; rfl, rfl⟩
    · have t2 : ((s[i].toNat : Int) == 48) = false := by rw [← hci]; exact beq_eq_false_iff_ne.2 h48
      have HT : Hid (numR s i most = if 6 < m ∨ most < wthR s i 10 m then .inr 1 else .inl (wthR s i 10 m)) := tail (by omega)
      clear HN tail h48 hci hmn
      by_cases h6 : 6 < m
      · have t3 : decide (6 < m) = true := decide_eq_true h6
        have HE : Hid (numR s i most = .inr 1) := by show numR s i most = _; rw [HT.out, if_pos (.inl h6)]
        clear HT HW
        go_wp2_with fail
        go_ret2
        exact ⟨by rw [HE.out]; rfl, rfl⟩
      · have t3 : decide (6 < m) = false := decide_eq_false h6
        have HW2 := (show Hid _ from HW.out (by omega))
        by_cases hx : most < wthR s i 10 m
        · have HE : Hid (numR s i most = .inr 1) := by show numR s i most = _; rw [HT.out, if_pos (.inr hx)]
          clear HT HW
          go_wp2_with fail
          refine (HW2.out _).mono ?_
          rintro e w ⟨rfl, rfl⟩
          clear HW2
          go_wp2_with fail
          go_ret2
          exact ⟨by rw [HE.out]; rfl, rfl⟩
        · have HE : Hid (numR s i most = .inl (wthR s i 10 m)) := by show numR s i most = _; rw [HT.out, if_neg (by omega)]
          clear HT HW
          go_wp2_with fail
          refine (HW2.out _).mono ?_
          rintro e w ⟨rfl, rfl⟩
          go_wp2_with fail
          refine (HW2.out _).mono ?_
          rintro e w ⟨rfl, rfl⟩
          clear HW2
          go_wp2_with fail
          go_ret2
          exact ⟨by rw [HE.out]; rfl, rfl⟩
  · have t1 : decide (1 < m) = false := decide_eq_false h1
    have HT : Hid (numR s i most = if 6 < m ∨ most < wthR s i 10 m then .inr 1 else .inl (wthR s i 10 m)) := tail (by omega)
    clear HN tail hci hmn
    have t3 : decide (6 < m) = false := decide_eq_false (by omega)
    have HW2 := (show Hid _ from HW.out (by omega))
    by_cases hx : most < wthR s i 10 m
    · have HE : Hid (numR s i most = .inr 1) := by show numR s i most = _; rw [HT.out, if_pos (.inr hx)]
      clear HT HW
      go_wp2_with fail
      refine (HW2.out _).mono ?_
      rintro e w ⟨rfl, rfl⟩
      clear HW2
      go_wp2_with fail
      go_ret2
      exact ⟨by rw [HE.out]; rfl, rfl⟩
    · have HE : Hid (numR s i most = .inl (wthR s i 10 m)) := by show numR s i most = _; rw [HT.out, if_neg (by omega)]
      clear HT HW
      go_wp2_with fail
      refine (HW2.out _).mono ?_
      rintro e w ⟨rfl, rfl⟩
      go_wp2_with fail
      refine (HW2.out _).mono ?_
      rintro e w ⟨rfl, rfl⟩
      clear HW2
      go_wp2_with fail
      go_ret2
      exact ⟨by rw [HE.out]; rfl, rfl⟩
theorem numR_ne {s : ByteArray} {i : Nat} {m e : Int} (h : numR s i m = .inr e) : e ≠ 0 := by
  unfold numR at h
  split at h
  · cases h; decide
  · split at h
    · cases h; decide
    · cases h
def tokV : Sum Tk (Nat × Int) → Value
  | .inl t => .tuple #[tkG t, .int .i64 0, .int .i64 0]
  | .inr p => .tuple #[tkG tk0, .int .i64 p.1, .int .i64 p.2]
end Go.Proofs.YthffklhojdldkaaDoor

namespace Go.Proofs.YthffklhojdldkaaDoor.Q
open Go.RowKit
/-- What a reading answers: a value, or a place and an error's number. -/
abbrev Rd (α : Type) := Sum α (Int × Int)

/-- The byte of a text at a place, or -1. -/
def chr (s : ByteArray) (i : Nat) : Int := if h : i < s.size then (s[i].toNat : Int) else -1
theorem chr_in {s : ByteArray} {i : Nat} (h : i < s.size) : chr s i = (s[i].toNat : Int) := by unfold chr; rw [dif_pos h]
theorem chr_out {s : ByteArray} {i : Nat} (h : ¬ i < s.size) : chr s i = -1 := by unfold chr; rw [dif_neg h]
theorem chr_le (s : ByteArray) (i : Nat) : -1 ≤ chr s i ∧ chr s i ≤ 255 := by
  unfold chr
  split
  · have := s[i].toNat_lt; omega
  · omega
theorem chr_lt {s : ByteArray} {i : Nat} (h : 0 ≤ chr s i) : i < s.size := by
  by_cases hi : i < s.size
  · exact hi
  · rw [chr_out hi] at h; omega
theorem chr_bd {s : ByteArray} {i : Nat} (h : i < s.size) : 0 ≤ chr s i ∧ chr s i ≤ 255 := by
  rw [chr_in h]; have := s[i].toNat_lt; omega

/-- What a digit is worth, or -1. -/
def hexV (c : Int) : Int := if 48 ≤ c ∧ c ≤ 57 then c - 48 else if 97 ≤ c ∧ c ≤ 102 then c - 87 else -1
theorem hexV_bd (c : Int) : -1 ≤ hexV c ∧ hexV c ≤ 15 := by unfold hexV; split <;> (try split) <;> omega
theorem hexV_lo {c : Int} (h : 0 ≤ hexV c) : 0 ≤ c := by
  unfold hexV at h; split at h
  · omega
  · split at h <;> omega
/-- A byte told by its number, behind a backslash. -/
def rdHex (s : ByteArray) (i : Nat) : Option (Int × Nat) :=
  if 0 ≤ hexV (chr s (i + 2)) ∧ 0 ≤ hexV (chr s (i + 3)) then some (16 * hexV (chr s (i + 2)) + hexV (chr s (i + 3)), i + 4) else none
def rdEsc (s : ByteArray) (i : Nat) : Option (Int × Nat) :=
  if chr s (i + 1) = 110 then some (10, i + 2) else if chr s (i + 1) = 114 then some (13, i + 2) else if chr s (i + 1) = 116 then some (9, i + 2) else
  if chr s (i + 1) = 92 ∨ chr s (i + 1) = 39 ∨ chr s (i + 1) = 34 then some (chr s (i + 1), i + 2) else
  if chr s (i + 1) = 120 then rdHex s i else none
/-- One byte of a literal, or an error's number. -/
def rdByte (s : ByteArray) (i : Nat) : Rd (Int × Nat) :=
  if chr s i = 92 then (match rdEsc s i with | none => .inr (i, 21) | some p => .inl p) else
  if chr s i < 32 ∨ chr s i = 127 then .inr (i, 22) else .inl (chr s i, i + 1)
/-- What stands behind a literal's first mark, its second one too. -/
def rdBody (s : ByteArray) (m : Int) : Nat → Nat → List Int → Rd (List Int × Nat)
  | 0, i, _ => .inr (i, 22)
  | f + 1, i, l => if chr s i = m then .inl (l, i + 1) else if s.size ≤ i then .inr (s.size, 22) else
    match rdByte s i with
    | .inr (a, c) => .inr (a, c)
    | .inl (b, n) => rdBody s m f n (l ++ [b])
/-- A literal that begins at a place. -/
def rdCut (s : ByteArray) (i : Int) : Rd (List Int × Nat) :=
  if 65536 < s.size then .inr (0, 2) else
  if i < 0 ∨ (s.size : Int) < i then .inr (0, 1) else
  if chr s i.toNat = 39 ∨ chr s i.toNat = 34 then rdBody s (chr s i.toNat) (s.size + 1) (i.toNat + 1) [] else .inr (i, 20)
theorem rdHex_bd {s : ByteArray} {i : Nat} {b : Int} {n : Nat} (h : rdHex s i = some (b, n)) : 0 ≤ b ∧ b ≤ 255 ∧ i < n ∧ n ≤ s.size := by
  unfold rdHex at h
  split at h
  · next q =>
    cases h
    have h1 := hexV_bd (chr s (i + 2)); have h2 := hexV_bd (chr s (i + 3))
    have h3 := chr_lt (hexV_lo q.2)
    exact ⟨by omega, by omega, by omega, by omega⟩
  · cases h
theorem rdEsc_bd {s : ByteArray} {i : Nat} {b : Int} {n : Nat} (h : rdEsc s i = some (b, n)) : 0 ≤ b ∧ b ≤ 255 ∧ i < n ∧ n ≤ s.size := by
  unfold rdEsc at h
  have hb := chr_le s (i + 1)
  split at h
  · next q => cases h; have := chr_lt (s := s) (i := i + 1) (by omega); omega
  · split at h
    · next q => cases h; have := chr_lt (s := s) (i := i + 1) (by omega); omega
    · split at h
      · next q => cases h; have := chr_lt (s := s) (i := i + 1) (by omega); omega
      · split at h
        · next q => cases h; have := chr_lt (s := s) (i := i + 1) (by omega); omega
        · split at h
          · exact rdHex_bd h
          · cases h
theorem rdByte_bd {s : ByteArray} {i : Nat} {b : Int} {n : Nat} (h : rdByte s i = .inl (b, n)) : 0 ≤ b ∧ b ≤ 255 ∧ i < n ∧ n ≤ s.size := by
  unfold rdByte at h
  split at h
  · split at h
    · cases h
    · next p hp => cases h; exact rdEsc_bd hp
  · split at h
    · cases h
    · next q => cases h; have := chr_le s i; have := chr_lt (s := s) (i := i) (by omega); omega
theorem rdByte_err {s : ByteArray} {i : Nat} {a c : Int} (h : rdByte s i = .inr (a, c)) : a = i ∧ (c = 21 ∨ c = 22) := by
  unfold rdByte at h
  split at h
  · split at h
    · cases h; exact ⟨rfl, .inl rfl⟩
    · cases h
  · split at h
    · cases h; exact ⟨rfl, .inr rfl⟩
    · cases h
theorem rdBody_end {s : ByteArray} {m : Int} {f i : Nat} {l : List Int} (h : chr s i = m) : rdBody s m (f + 1) i l = .inl (l, i + 1) := by
  unfold rdBody; rw [if_pos h]
theorem rdBody_out {s : ByteArray} {m : Int} {f i : Nat} {l : List Int} (h : s.size ≤ i) (hm : 0 ≤ m) : rdBody s m (f + 1) i l = .inr (s.size, 22) := by
  unfold rdBody; rw [if_neg (by rw [chr_out (by omega)]; omega), if_pos h]
theorem rdBody_err {s : ByteArray} {m : Int} {f i : Nat} {l : List Int} {a c : Int} (h : chr s i ≠ m) (hi : i < s.size) (hb : rdByte s i = .inr (a, c)) : rdBody s m (f + 1) i l = .inr (a, c) := by
  unfold rdBody; rw [if_neg h, if_neg (by omega), hb]
theorem rdBody_step {s : ByteArray} {m : Int} {f i : Nat} {l : List Int} {b : Int} {n : Nat} (h : chr s i ≠ m) (hi : i < s.size) (hb : rdByte s i = .inl (b, n)) : rdBody s m (f + 1) i l = rdBody s m f n (l ++ [b]) := by
  rw [rdBody, if_neg h, if_neg (by omega), hb]
/-- A list of numbers as a text. -/
def asText (l : List Int) : ByteArray := l.foldl (fun r n => r.push (UInt8.ofNat n.toNat)) ByteArray.empty
theorem asText_data (l : List Int) : (asText l).data.toList = l.map (fun n => UInt8.ofNat n.toNat) := by
  have key : ∀ (l : List Int) (s : ByteArray), (l.foldl (fun r n => r.push (UInt8.ofNat n.toNat)) s).data.toList = s.data.toList ++ l.map (fun n => UInt8.ofNat n.toNat) := by
    intro l
    induction l with
    | nil => intro s; simp
    | cons b l ih => intro s; rw [List.foldl_cons, ih]; simp [ByteArray.push]
  have := key l ByteArray.empty
  simpa [asText] using this

/-- The answers. -/
def byV : Rd (Int × Nat) → Value
  | .inl (b, n) => .tuple #[.int .u8 b, .int .i64 n, .int .i64 0]
  | .inr (_, c) => .tuple #[.int .u8 0, .int .i64 0, .int .i64 c]
def esV : Option (Int × Nat) → Value
  | some (b, n) => .tuple #[.int .u8 b, .int .i64 n, .int .i64 0]
  | none => .tuple #[.int .u8 0, .int .i64 0, .int .i64 21]
def cuV : Rd (List Int × Nat) → Value
  | .inl (l, n) => .tuple #[.string (asText l), .int .i64 n, .agg #[.int .i64 0, .int .i64 0]]
  | .inr (a, c) => .tuple #[.string ⟨#[]⟩, .int .i64 0, .agg #[.int .i64 a, .int .i64 c]]
end Go.Proofs.YthffklhojdldkaaDoor.Q

namespace Go.Proofs.YthffklhojdldkaaDoor.Q
open Go.RowKit
/-- The bytes of a text, as numbers. -/
def byl (s : ByteArray) : List Int := s.data.toList.map fun c => (c.toNat : Int)
/-- All are bytes. -/
def By (l : List Int) : Prop := ∀ n ∈ l, 0 ≤ n ∧ n ≤ 255

theorem By.nil : By [] := fun n hn => by cases hn
theorem By.cons {x : Int} {l : List Int} (hx : 0 ≤ x ∧ x ≤ 255) (h : By l) : By (x :: l) := fun n hn => by
  rcases List.mem_cons.1 hn with rfl | h1
  · exact hx
  · exact h n h1
theorem byl_len (s : ByteArray) : (byl s).length = s.size := by unfold byl; rw [List.length_map]; rfl
theorem byl_get (s : ByteArray) (k : Nat) (h : k < s.size) : (byl s)[k]? = some (s[k].toNat : Int) := by
  unfold byl
  rw [List.getElem?_map, List.getElem?_eq_getElem (by simpa using h)]
  rfl
theorem asText_eq (l : List Int) : asText l = ⟨(l.map fun n => UInt8.ofNat n.toNat).toArray⟩ := by
  have h := asText_data l
  cases ht : asText l with
  | mk d =>
    rw [ht] at h
    cases d with
    | mk x => simp at h; rw [h]
theorem asText_size (l : List Int) : (asText l).size = l.length := by
  rw [asText_eq]; show (List.toArray _).size = _; simp
theorem asText_byl (s : ByteArray) : asText (byl s) = s := by
  rw [asText_eq]
  unfold byl
  rw [List.map_map]
  have : (List.map ((fun n : Int => UInt8.ofNat n.toNat) ∘ fun c : UInt8 => (c.toNat : Int)) s.data.toList) = s.data.toList := by
    conv => rhs; rw [← List.map_id s.data.toList]
    refine List.map_congr_left fun c _ => ?_
    simp
  rw [this]
end Go.Proofs.YthffklhojdldkaaDoor.Q

namespace Go.Proofs.YthffklhojdldkaaDoor
open Go.RowKit
/-- A text, as new bytes, and as a text again. -/
theorem conv_bytes (s : ByteArray) (w : World) : (convert 9 39 (.string s)).run Tryd.prog w = .ok (.slice (some ⟨w.heap.size, 0, none⟩) s.size (grownCap w s.size 0 5)) (Lib.bytesWorld w 5 s) :=
  Lib.run_convert_string_bytes w 9 39 5 s Tryd.underlying9 Tryd.underlying39 Tryd.underlying5
theorem conv_again (s : ByteArray) (w : World) (c : Nat) : (convert 39 9 (.slice (some ⟨w.heap.size, 0, none⟩) s.size c)).run Tryd.prog (Lib.bytesWorld w 5 s) = .ok (.string s) (Lib.bytesWorld w 5 s) := by
  rw [run_convert_bytes_string _ 39 9 5 _ _ _ Tryd.underlying39 Tryd.underlying5 Tryd.underlying9]
  have h := run_bytesToString (P := Tryd.prog) (Lib.bytesWorld w 5 s) ⟨w.heap.size, 0, none⟩ s.size c (Q.byl s) ?_
  · rw [h]; exact congrArg (fun x => Result.ok (Value.string x) _) (Q.asText_byl s)
  · have h2 := run_loadCells_list (P := Tryd.prog) (w := Lib.bytesWorld w 5 s) ⟨w.heap.size, 0, none⟩ ((Q.byl s).map (Value.int .u8)) (fun j u hj => by
      rw [List.getElem?_map] at hj
      have hlt : j < s.size := by
        by_cases q : j < s.size
        · exact q
        · rw [List.getElem?_eq_none (by rw [Q.byl_len]; omega)] at hj; cases hj
      rw [Q.byl_get s j hlt] at hj
      cases hj
      have h3 := Lib.bytesWorld_cell w 5 s j hlt
      rw [Addr.add_lit, Nat.zero_add, h3]
      have : s.data.toList.getD j 0 = s[j] := by
        rw [List.getD_eq_getElem?_getD, List.getElem?_eq_getElem (by simpa using hlt)]; rfl
      rw [this])
    rwa [List.length_map, Q.byl_len] at h2
set_option maxRecDepth 100000 in
set_option maxHeartbeats 4000000 in
theorem copied_any (s : ByteArray) (w : World) : Calls Tryd.prog 46 #[.string s] w fun e w' => e = .returned (.string s) ∧ Below w.heap.size w w' := by
  have hc1 := conv_bytes s
  have hc2 := conv_again s
  go_enter Tryd.func46, Tryd.ntmps46
  go_wp2_with fail
  go_ret
  exact ⟨rfl, Lib.bytesWorld_below w 5 s⟩
def gtK (k : Int) : Int := if k = 4 then 999999 else if k = 13 ∨ k = 14 ∨ k = 15 then 50 else 0
set_option maxRecDepth 100000 in
set_option maxHeartbeats 4000000 in
theorem greatest_any (k : Int) (w : World) : Calls Tryd.prog 48 #[.int .i64 k] w fun e w' => e = .returned (.int .i64 (gtK k)) ∧ w' = w := by
  by_cases h4 : k = 4
  · subst h4; go_enter Tryd.func48, Tryd.ntmps48; go_wp2_with fail; go_ret; exact ⟨rfl, rfl⟩
  by_cases h13 : k = 13
  · subst h13; go_enter Tryd.func48, Tryd.ntmps48; go_wp2_with fail; go_ret; exact ⟨rfl, rfl⟩
  by_cases h14 : k = 14
  · subst h14; go_enter Tryd.func48, Tryd.ntmps48; go_wp2_with fail; go_ret; exact ⟨rfl, rfl⟩
  by_cases h15 : k = 15
  · subst h15; go_enter Tryd.func48, Tryd.ntmps48; go_wp2_with fail; go_ret; exact ⟨rfl, rfl⟩
  have HE : Hid (gtK k = 0) := by show gtK k = 0; unfold gtK; rw [if_neg h4, if_neg (by omega)]
  have v4 : (k == 4) = false := beq_eq_false_iff_ne.2 h4
  have v13 : (k == 13) = false := beq_eq_false_iff_ne.2 h13
  have v14 : (k == 14) = false := beq_eq_false_iff_ne.2 h14
  have v15 : (k == 15) = false := beq_eq_false_iff_ne.2 h15
  clear h4 h13 h14 h15
  go_enter Tryd.func48, Tryd.ntmps48
  go_wp2_with fail
  go_ret
  exact ⟨by rw [HE.out]; rfl, rfl⟩
set_option maxRecDepth 100000 in
set_option maxHeartbeats 4000000 in
theorem numberOf_any (s : ByteArray) (base : Int) (hb : 0 ≤ base ∧ base ≤ 16) (hs : s.size ≤ 7) (w : World) : Calls Tryd.prog 47 #[.string s, .int .i64 base] w fun e w' => e = .returned (.int .i64 (wthR s 0 base s.size)) ∧ w' = w := by
  have HX : Hid (∀ k (h : k < s.size) w, Calls Tryd.prog 64 #[.string ⟨#[48, 49, 50, 51, 52, 53, 54, 55, 56, 57, 97, 98, 99, 100, 101, 102]⟩, .int .u8 (s[k].toNat : Int)] w fun e w' => e = .returned (.int .i64 (hexV (chr s k))) ∧ w' = w) := fun k h w => by
    rw [chr_in h]
    exact index_hex s[k] w
  have HB : Hid (∀ k, k ≤ 7 → -268435456 ≤ wthR s 0 base k ∧ wthR s 0 base k ≤ 268435456) := fun k hk => by
    have h1 := wthR_bd s 0 base hb k
    have h2 : (16 : Int) ^ k ≤ 16 ^ 7 := by
      have : (16 : Nat) ^ k ≤ 16 ^ 7 := Nat.pow_le_pow_right (by omega) hk
      exact_mod_cast this
    omega
  go_enter Tryd.func47, Tryd.ntmps47
  go_wp2_with fail
  go_loopw [5, 9] (fun v t wr => ∃ k : Nat, k ≤ s.size ∧ t = .int .i64 k ∧ v = .int .i64 (wthR s 0 base k) ∧ wr = w) (fun _ t _ => s.size - (intOf t).toNat)
  case atStart => exact ⟨0, by omega, by go_num, rfl, rfl⟩
  case round =>
    obtain ⟨k, hk, rfl, rfl, rfl⟩ := hrel
    by_cases hlt : k < s.size
    · have z0 : (0 : Int) ≤ (k : Int) := by omega
      have z1 : (k : Int) < (s.size : Int) := by omega
      have h1 := HB.out k (by omega)
      have h2 := HB.out (k + 1) (by omega)
      have HE : Hid (wthR s 0 base (k + 1) = base * wthR s 0 base k + hexV (chr s k)) := by show wthR s 0 base (k + 1) = _; rw [wthR, Nat.zero_add, Int.mul_comm]
      have hx := hexV_bd (chr s k)
      have h3 : -4294967296 ≤ base * wthR s 0 base k ∧ base * wthR s 0 base k ≤ 4294967296 := by
        rw [HE.out] at h2
        omega
      have u1 : IntKind.i64.wrap (base * wthR s 0 base k) = base * wthR s 0 base k := by rw [IntKind.wrap_i64]; omega
      have u2 : IntKind.i64.wrap (base * wthR s 0 base k + hexV (chr s k)) = wthR s 0 base (k + 1) := by rw [HE.out, IntKind.wrap_i64]; omega
      have HXk := (show Hid (∀ w, Calls Tryd.prog 64 #[.string ⟨#[48, 49, 50, 51, 52, 53, 54, 55, 56, 57, 97, 98, 99, 100, 101, 102]⟩, .int .u8 (s[k].toNat : Int)] w fun e w' => e = .returned (.int .i64 (hexV (chr s k))) ∧ w' = w) from HX.out k hlt)
      clear HX HB HE h1 h2 h3
      go_wp2_with fail
      refine (HXk.out _).mono ?_
      rintro e w ⟨rfl, rfl⟩
      clear HXk
      go_wp2_with fail
      go_roundw
      case rel => exact ⟨k + 1, by omega, by go_num, rfl, trivial⟩
      case measure => simp [intOf]; omega
    · obtain rfl : k = s.size := by omega
      have z1 : ¬ (s.size : Int) < (s.size : Int) := by omega
      clear HX HB
      go_wp2_with fail
      go_ret
      exact ⟨rfl, rfl⟩
def nameR (s : ByteArray) (b : Nat) : Sum Tk (Nat × Int) := if 32 < spN nmB s b - b then .inr (b, 2) else .inl ⟨1, 0, b, spN nmB s b, s.extract b (spN nmB s b), 0, 0, 0, 0⟩
set_option maxRecDepth 100000 in
set_option maxHeartbeats 4000000 in
theorem readName_any (s : ByteArray) (b : Nat) (hs : s.size ≤ 140737488355000) (hb : b ≤ s.size) (w : World) : Calls Tryd.prog 22 #[.string s, .int .i64 b] w fun e w' => e = .returned (tokP (nameR s b)) ∧ Below w.heap.size w w' := by
  have HR : Hid (∀ w, Calls Tryd.prog 43 #[.string s, .int .i64 b, .func (.func 44) #[] #[]] w fun e w' => e = .returned (.int .i64 (spN nmB s b)) ∧ w' = w) := fun w => runName_any s b (by omega) hb w
  have HF : Hid (∀ i e w, Calls Tryd.prog 45 #[.int .i64 i, .int .i64 e] w fun e' w' => e' = .returned (pairV tk0 i e) ∧ Below w.heap.size w w') := fun i e w => fault_any i e w
  have HC : Hid (∀ t w, Calls Tryd.prog 46 #[.string t] w fun e w' => e = .returned (.string t) ∧ Below w.heap.size w w') := fun t w => copied_any t w
  have HX := (show Hid (BX w ((w.alloc (tkO tk0)).alloc (fxO 0 0)) tk0 0 0) from BX.new w)
  have hge := spN_ge nmB s (by decide) b
  have hle := spN_le nmB s (by decide) b (by omega)
  have HU := (show Hid (nameR s b = if 32 < spN nmB s b - b then .inr (b, 2) else .inl ⟨1, 0, b, spN nmB s b, s.extract b (spN nmB s b), 0, 0, 0, 0⟩) from rfl)
  generalize spN nmB s b = n at *
  obtain ⟨m, hm⟩ : ∃ m, m = n - b := ⟨_, rfl⟩
  have u1 : IntKind.i64.wrap ((n : Int) - (b : Int)) = (m : Int) := by rw [IntKind.wrap_i64]; omega
  have z0 : (0 : Int) ≤ (b : Int) := by omega
  have z1 : (b : Int) ≤ (n : Int) := by omega
  have z2 : (n : Int) ≤ (s.size : Int) := by omega
  rw [← hm] at HU
  clear hm
  by_cases h32 : 32 < m
  · have HE : Hid (nameR s b = .inr (b, 2)) := by show nameR s b = _; rw [HU.out, if_pos h32]
    have t2 : decide (32 < m) = true := decide_eq_true h32
    clear HU HC
    go_enter Tryd.func22, Tryd.ntmps22
    go_wp2_with fail
    refine (HR.out _).mono ?_
    rintro e w2 ⟨rfl, rfl⟩
    clear HR
    go_wp2_with fail
    refine (HF.out _ _ _).mono ?_
    rintro e w3 ⟨rfl, b3⟩
    have HX3 := (show Hid (BX w w3 tk0 0 0) from HX.out.below b3)
    clear b3 HX HF
    obtain ⟨f0, f1', f2', f3, f4, f5, f6, f7, f8, g0, g1⟩ := HX3.out.fz
    obtain ⟨c0, c1, c2, c3, c4, c5, c6, c7, c8, d0, d1⟩ := HX3.out.cells
    unfold pairV
    go_wp2_with fail
    have HP := HX3.out.put tk0 b 2
    exact ret_bx rfl rfl rfl rfl HP ⟨by rw [HE.out]; rfl, HP.b⟩
  · have HE : Hid (nameR s b = .inl ⟨1, 0, b, n, s.extract b n, 0, 0, 0, 0⟩) := by show nameR s b = _; rw [HU.out, if_neg h32]
    have t2 : decide (32 < m) = false := decide_eq_false h32
    clear HU HF
    go_enter Tryd.func22, Tryd.ntmps22
    go_wp2_with fail
    refine (HR.out _).mono ?_
    rintro e w2 ⟨rfl, rfl⟩
    clear HR
    go_wp2_with fail
    refine (HC.out _ _).mono ?_
    rintro e w3 ⟨rfl, b3⟩
    have HX3 := (show Hid (BX w w3 tk0 0 0) from HX.out.below b3)
    clear b3 HX HC
    obtain ⟨f0, f1', f2', f3, f4, f5, f6, f7, f8, g0, g1⟩ := HX3.out.fz
    obtain ⟨c0, c1, c2, c3, c4, c5, c6, c7, c8, d0, d1⟩ := HX3.out.cells
    go_wp2_with fail
    have HP := HX3.out.put ⟨1, 0, b, n, s.extract b n, 0, 0, 0, 0⟩ 0 0
    exact ret_bx rfl rfl rfl rfl HP ⟨by rw [HE.out]; rfl, HP.b⟩
end Go.Proofs.YthffklhojdldkaaDoor
