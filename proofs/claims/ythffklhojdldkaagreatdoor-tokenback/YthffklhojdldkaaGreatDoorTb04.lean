/- DERIVED. Plain mathematics and walks, laid together (4). -/
import Derived.Deep.WholeRow
import Derived.Deep.MidRow
import Derived.WalkKit
import Derived.Lib.Builder
import Derived.Lib.UnsafeStr
import Derived.Lib.AppendStr
import Derived.Lib.ConvBytes
import Derived.Lib.AtoiErrMem
import Derived.BigQuiet
import Derived.Test.YthffklhojdldkaaGreatDoorTb03
namespace Go.Proofs.YthffklhojdldkaaGreatDoor
open Go.RowKit
abbrev fxO (p e : Int) : Obj := .cells #[.int .i64 p, .int .i64 e] 37
structure FX (W : World) (b : Nat) (p e : Int) : Prop where
  heap : W.heap[b]? = some (.cells #[.int .i64 p, .int .i64 e] 37 (0, 0))
theorem FX.lt {W : World} {b : Nat} {p e : Int} (h : FX W b p e) : b < W.heap.size := (Array.getElem?_eq_some_iff.1 h.heap).1
theorem FX.below {W W' : World} {b : Nat} {p e : Int} (h : FX W b p e) (hb : Below W.heap.size W W') : FX W' b p e := ⟨(hb.block b h.lt).trans h.heap⟩
theorem FX.c0 {W : World} {b : Nat} {p e : Int} (h : FX W b p e) : W.cell? ⟨b, 0, none⟩ = some (.int .i64 p) := by rw [cell_of_row W b 0 _ 37 (0, 0) h.heap]; rfl
theorem FX.c1 {W : World} {b : Nat} {p e : Int} (h : FX W b p e) : W.cell? ⟨b, 1, none⟩ = some (.int .i64 e) := by rw [cell_of_row W b 1 _ 37 (0, 0) h.heap]; rfl
theorem FX.f0 {W : World} {b : Nat} {p e : Int} (h : FX W b p e) : W.frozen? ⟨b, 0, none⟩ = false := frozen_of_row W b 0 _ 37 h.heap
theorem FX.f1 {W : World} {b : Nat} {p e : Int} (h : FX W b p e) : W.frozen? ⟨b, 1, none⟩ = false := frozen_of_row W b 1 _ 37 h.heap
/-- The call's two boxes. -/
structure BX (w W : World) (t : Tk) (p e : Int) : Prop where
  b : Below w.heap.size w W
  x : TX W w.heap.size t
  f : FX W (w.heap.size + 1) p e
theorem BX.made (w : World) (t : Tk) (p e : Int) : BX w ((w.alloc (tkO t)).alloc (fxO p e)) t p e := by
  have h1 : (w.alloc (tkO t)).heap.size = w.heap.size + 1 := World.size_alloc _ _
  refine ⟨(below_box w _).alloc (by omega) _, (TX.new w t).below (below_box _ _), ⟨?_⟩⟩
  have h := heap_alloc_new (w.alloc (tkO t)) (fxO p e)
  rw [h1] at h
  exact h
theorem BX.new (w : World) : BX w ((w.alloc (tkO tk0)).alloc (fxO 0 0)) tk0 0 0 := BX.made w tk0 0 0
theorem BX.below {w W W' : World} {t : Tk} {p e : Int} (h : BX w W t p e) (hb : Below W.heap.size W W') : BX w W' t p e := ⟨h.b.trans (hb.mono h.b.size), h.x.below hb, h.f.below hb⟩
theorem BX.size {w W : World} {t : Tk} {p e : Int} (h : BX w W t p e) : w.heap.size + 1 < W.heap.size := h.f.lt
/-- What must be known of the boxes to store into them. -/
structure BF (w W : World) : Prop where
  x0 : W.frozen? ⟨w.heap.size, 0, none⟩ = false
  x1 : W.frozen? ⟨w.heap.size, 1, none⟩ = false
  x2 : W.frozen? ⟨w.heap.size, 2, none⟩ = false
  x3 : W.frozen? ⟨w.heap.size, 3, none⟩ = false
  x4 : W.frozen? ⟨w.heap.size, 4, none⟩ = false
  x5 : W.frozen? ⟨w.heap.size, 5, none⟩ = false
  x6 : W.frozen? ⟨w.heap.size, 6, none⟩ = false
  x7 : W.frozen? ⟨w.heap.size, 7, none⟩ = false
  x8 : W.frozen? ⟨w.heap.size, 8, none⟩ = false
  f0 : W.frozen? ⟨w.heap.size + 1, 0, none⟩ = false
  f1 : W.frozen? ⟨w.heap.size + 1, 1, none⟩ = false
structure BC (w W : World) (t : Tk) (p e : Int) : Prop where
  c0 : W.cell? ⟨w.heap.size, 0, none⟩ = some (.int .i64 t.kd)
  c1 : W.cell? ⟨w.heap.size, 1, none⟩ = some (.int .i64 t.nn)
  c2 : W.cell? ⟨w.heap.size, 2, none⟩ = some (.int .i64 t.fr)
  c3 : W.cell? ⟨w.heap.size, 3, none⟩ = some (.int .i64 t.en)
  c4 : W.cell? ⟨w.heap.size, 4, none⟩ = some (.string t.tx)
  c5 : W.cell? ⟨w.heap.size, 5, none⟩ = some (.int .u64 t.s0)
  c6 : W.cell? ⟨w.heap.size, 6, none⟩ = some (.int .u64 t.s1)
  c7 : W.cell? ⟨w.heap.size, 7, none⟩ = some (.int .u64 t.s2)
  c8 : W.cell? ⟨w.heap.size, 8, none⟩ = some (.int .u64 t.s3)
  d0 : W.cell? ⟨w.heap.size + 1, 0, none⟩ = some (.int .i64 p)
  d1 : W.cell? ⟨w.heap.size + 1, 1, none⟩ = some (.int .i64 e)
theorem BX.fz {w W : World} {t : Tk} {p e : Int} (h : BX w W t p e) : BF w W := by
  obtain ⟨a, b, c, d, e, f, g, i, j⟩ := h.x.fz
  exact ⟨a, b, c, d, e, f, g, i, j, h.f.f0, h.f.f1⟩
theorem BX.cells {w W : World} {t : Tk} {p e : Int} (h : BX w W t p e) : BC w W t p e := by
  obtain ⟨a, b, c, d, e, f, g, i, j⟩ := h.x.cells
  exact ⟨a, b, c, d, e, f, g, i, j, h.f.c0, h.f.c1⟩
/-- Both laid. -/
abbrev stF (W : World) (b : Nat) (p e : Int) : World := (W.setCell ⟨b, 0, none⟩ (.int .i64 p)).setCell ⟨b, 1, none⟩ (.int .i64 e)
theorem stF_fx {W : World} {b : Nat} {p0 e0 : Int} (h : FX W b p0 e0) (p e : Int) : FX (stF W b p e) b p e := by
  have h := h.heap
  have h0 := heap_setCell_same _ b 0 _ 37 (.int .i64 p) h
  have h1 := heap_setCell_same _ b 1 _ 37 (.int .i64 e) h0
  refine ⟨?_⟩
  rw [h1]
  simp
theorem stF_other {W : World} {b k : Nat} (p e : Int) (hk : k ≠ b) : (stF W b p e).heap[k]? = W.heap[k]? := by
  rw [Below.heap_setCell _ _ _ _ hk, Below.heap_setCell _ _ _ _ hk]
theorem st9_other {W : World} {b k : Nat} (t : Tk) (hk : k ≠ b) : (st9 W b t).heap[k]? = W.heap[k]? := by
  rw [Below.heap_setCell _ _ _ _ hk, Below.heap_setCell _ _ _ _ hk, Below.heap_setCell _ _ _ _ hk, Below.heap_setCell _ _ _ _ hk, Below.heap_setCell _ _ _ _ hk, Below.heap_setCell _ _ _ _ hk, Below.heap_setCell _ _ _ _ hk, Below.heap_setCell _ _ _ _ hk, Below.heap_setCell _ _ _ _ hk]
theorem BX.put {w W : World} {t0 : Tk} {p0 e0 : Int} (h : BX w W t0 p0 e0) (t : Tk) (p e : Int) : BX w (stF (st9 W w.heap.size t) (w.heap.size + 1) p e) t p e := by
  refine ⟨?_, ⟨?_⟩, ?_⟩
  · exact ((st9_below h.b (Nat.le_refl _) t).setCell (p := ⟨w.heap.size + 1, 0, none⟩) (by show w.heap.size ≤ w.heap.size + 1; omega) _).setCell (p := ⟨w.heap.size + 1, 1, none⟩) (by show w.heap.size ≤ w.heap.size + 1; omega) _
  · rw [stF_other p e (by omega)]; exact (st9_tx h.x t).heap
  · exact stF_fx ⟨(st9_other t (by omega)).trans h.f.heap⟩ p e
/-- What a reader answers. -/
abbrev pairV (t : Tk) (p e : Int) : Value := .tuple #[tkG t, .agg #[.int .i64 p, .int .i64 e]]
def tokP : Sum Tk (Nat × Int) → Value
  | .inl t => pairV t 0 0
  | .inr q => pairV tk0 q.1 q.2
theorem ret_bx {fn : Func} {R : Ending → World → Prop} {a : Act} {w W : World} {t : Tk} {p e : Int} {i j : Nat} (hF : fn.results = #[.cell i 45, .cell j 37]) (hd : a.defers = []) (h4 : a.tmps.getD i undef = .pointer (some ⟨w.heap.size, 0, none⟩)) (h5 : a.tmps.getD j undef = .pointer (some ⟨w.heap.size + 1, 0, none⟩)) (hT : BX w W t p e) (hR : R (.returned (pairV t p e)) W) : bodyPost Tryz.prog fn R .ret a W := by
  obtain ⟨c0, c1, c2, c3, c4, c5, c6, c7, c8, d0, d1⟩ := hT.cells
  refine bodyPost_ret (v := pairV t p e) ?_ hd hR
  simp only [Array.getD_eq_getD_getElem?] at h4 h5
  simp [results, hF, go_sem, h4, h5, c0, c1, c2, c3, c4, c5, c6, c7, c8, d0, d1]

set_option maxRecDepth 100000 in
set_option maxHeartbeats 4000000 in
theorem fault_any (i e0 : Int) (w : World) : Calls Tryz.prog 79 #[.int .i64 i, .int .i64 e0] w fun e w' => e = .returned (pairV tk0 i e0) ∧ Below w.heap.size w w' := by
  go_enter Tryz.func79, Tryz.ntmps79
  go_wp2_with fail
  exact ret_bx rfl rfl rfl rfl (BX.made w tk0 i e0) ⟨rfl, (BX.made w tk0 i e0).b⟩
/-- Does a text of some bytes stand at a place? -/
def pfx (s : ByteArray) (i : Nat) : List UInt8 → Bool
  | [] => true
  | c :: l => chr s i == (c.toNat : Int) && pfx s (i + 1) l
theorem pfx_tail (s : ByteArray) : ∀ (p : List UInt8) (i : Nat), i ≤ s.size → p.isPrefixOf (s.extract i s.size).data.toList = pfx s i p := by
  intro p
  induction p with
  | nil => intro i _; simp [pfx]
  | cons c p ih =>
    intro i hi
    rw [pfx]
    by_cases h : i < s.size
    · have e : (s.extract i s.size).data.toList = s[i] :: (s.extract (i + 1) s.size).data.toList := by
        have h1 : s.data.size = s.size := rfl
        have hd : i < s.data.size := h
        rw [ByteArray.data_extract, ByteArray.data_extract, Array.toList_extract, Array.toList_extract, List.extract_eq_take_drop, List.extract_eq_take_drop,
          List.take_of_length_le (by rw [List.length_drop, Array.length_toList]; omega), List.take_of_length_le (by rw [List.length_drop, Array.length_toList]; omega),
          List.drop_eq_getElem_cons (by rw [Array.length_toList]; omega)]
        rfl
      rw [e, List.isPrefixOf, ih (i + 1) (by omega), chr_in h]
      congr 1
      by_cases q : c = s[i]
      · subst q; simp
      · have h2 : ¬ (s[i].toNat : Int) = (c.toNat : Int) := fun e => q (UInt8.toNat_inj.1 (by omega))
        rw [beq_eq_false_iff_ne.2 q, beq_eq_false_iff_ne.2 h2]
    · have e : (s.extract i s.size).data.toList = [] := by
        have h1 : (s.extract i s.size).size = 0 := by rw [ByteArray.size_extract]; omega
        exact List.eq_nil_of_length_eq_zero h1
      have : ((-1 : Int) == (c.toNat : Int)) = false := by rw [beq_eq_false_iff_ne]; omega
      rw [e, chr_out h, this]; rfl
set_option maxRecDepth 100000 in
set_option maxHeartbeats 4000000 in
theorem stands_any (s : ByteArray) (i : Nat) (p : ByteArray) (hi : i ≤ s.size) (w : World) : Calls Tryz.prog 24 #[.string s, .int .i64 i, .string p] w fun e w' => e = .returned (.bool (pfx s i p.data.toList)) ∧ w' = w := by
  have H : Hid (∀ w, Calls Tryz.prog 45 #[.string (s.extract i s.size), .string p] w fun e w' => e = .returned (.bool (pfx s i p.data.toList)) ∧ w' = w) := fun w => by
    have h := Tryz.strings_HasPrefix (s.extract i s.size) p w
    rw [Lib.hasPrefix, pfx_tail s _ i hi] at h
    exact h
  have z0 : (0 : Int) ≤ (i : Int) := by omega
  have z1 : (i : Int) ≤ (s.size : Int) := by omega
  go_enter Tryz.func24, Tryz.ntmps24
  go_wp2_with fail
  refine (H.out _).mono ?_
  rintro e w ⟨rfl, rfl⟩
  go_wp2_with fail
  go_ret
  exact ⟨rfl, rfl⟩
set_option maxRecDepth 100000 in
set_option maxHeartbeats 4000000 in
theorem lineEnd_any (s : ByteArray) (i : Nat) (hs : s.size ≤ 140737488355328) (hi : i ≤ s.size) (w : World) : Calls Tryz.prog 25 #[.string s, .int .i64 i] w fun e w' => e = .returned (.int .i64 (spN lnB s i)) ∧ w' = w := by
  have HN : Hid (∀ k, lnB (chr s k) = true → spN lnB s k = spN lnB s (k + 1)) := fun k h => (spN_next (by decide) h).2
  have HS : Hid (∀ k, lnB (chr s k) = false → spN lnB s k = k) := fun k h => spN_stop h
  go_enter Tryz.func25, Tryz.ntmps25
  go_wp2_with fail
  go_loopw [1] (fun t wr => ∃ k : Nat, k ≤ s.size ∧ t = .int .i64 k ∧ wr = w ∧ Hid (spN lnB s k = spN lnB s i)) (fun t _ => s.size - (intOf t).toNat)
  case atStart => exact ⟨i, hi, rfl, rfl, rfl⟩
  case round =>
    obtain ⟨k, hk, rfl, rfl, HI⟩ := hrel
    have z0 : (0 : Int) ≤ (k : Int) := by omega
    by_cases h1 : k < s.size
    · have z1 : (k : Int) < (s.size : Int) := by omega
      have hc := chr_in h1
      have hb := chr_le s k
      by_cases h10 : chr s k = 10
      · have v : ((s[k].toNat : Int) != 10) = false := by rw [← hc, h10]; rfl
        have HI2 : Hid (spN lnB s i = k) := HI.out.symm.trans (HS.out k (by rw [h10]; rfl))
        clear HN HS HI hc hb h10
        go_wp2_with fail
        go_ret
        exact ⟨by rw [HI2.out]; rfl, rfl⟩
      · have v : ((s[k].toNat : Int) != 10) = true := by rw [← hc, bne, beq_eq_false_iff_ne.2 h10]; rfl
        have HI2 : Hid (spN lnB s (k + 1) = spN lnB s i) := (HN.out k (by unfold lnB; rw [beq_eq_false_iff_ne.2 h10, decide_eq_true (show 0 ≤ chr s k by rw [hc]; omega)]; rfl)).symm.trans HI.out
        clear HN HS HI hc hb h10
        go_wp2_with fail
        go_roundw
        case rel => exact ⟨k + 1, by omega, by go_num, trivial, HI2⟩
        case measure => simp [intOf]; omega
    · have z1 : ¬ (k : Int) < (s.size : Int) := by omega
      have HI2 : Hid (spN lnB s i = k) := HI.out.symm.trans (HS.out k (by rw [chr_out h1]; rfl))
      clear HN HS HI
      go_wp2_with fail
      go_ret
      exact ⟨by rw [HI2.out]; rfl, rfl⟩
set_option maxRecDepth 100000 in
set_option maxHeartbeats 4000000 in
theorem blanks_any (s : ByteArray) (i : Nat) (hs : s.size ≤ 140737488355328) (hi : i ≤ s.size) (w : World) : Calls Tryz.prog 23 #[.string s, .int .i64 i] w fun e w' => e = .returned (.int .i64 (spN blB s i)) ∧ w' = w := by
  have HN : Hid (∀ k, blB (chr s k) = true → spN blB s k = spN blB s (k + 1)) := fun k h => (spN_next (by decide) h).2
  have HS : Hid (∀ k, blB (chr s k) = false → spN blB s k = k) := fun k h => spN_stop h
  go_enter Tryz.func23, Tryz.ntmps23
  go_wp2_with fail
  go_step3
  go_wp2_with fail
  go_step3
  go_wp2_with fail
  go_loopw [1] (fun t wr => ∃ k : Nat, k ≤ s.size ∧ t = .int .i64 k ∧ wr = w ∧ Hid (spN blB s k = spN blB s i)) (fun t _ => s.size - (intOf t).toNat)
  case atStart => exact ⟨i, hi, rfl, rfl, rfl⟩
  case round =>
    obtain ⟨k, hk, rfl, rfl, HI⟩ := hrel
    have z0 : (0 : Int) ≤ (k : Int) := by omega
    by_cases h1 : k < s.size
    · have z1 : (k : Int) < (s.size : Int) := by omega
      have hc := chr_in h1
      cases hb : blB (chr s k) with
      | true =>
        have HI2 : Hid (spN blB s (k + 1) = spN blB s i) := (HN.out k hb).symm.trans HI.out
        have hor : chr s k = 9 ∨ chr s k = 10 ∨ chr s k = 13 ∨ chr s k = 32 := by
          unfold blB at hb
          simpa [Bool.or_eq_true, or_assoc] using hb
        rw [hc] at hor
        clear HN HS HI hc hb
        rcases hor with hv | hv | hv | hv
        · have v0 : ((s[k].toNat : Int) == 9) = true := by rw [hv]; rfl
          clear hv
          go_wp2_with fail
          go_roundw
          case rel => exact ⟨k + 1, by omega, by go_num, trivial, HI2⟩
          case measure => simp [intOf]; omega
        · have v0 : ((s[k].toNat : Int) == 9) = false := by rw [hv]; rfl
          have v1 : ((s[k].toNat : Int) == 10) = true := by rw [hv]; rfl
          clear hv
          go_wp2_with fail
          go_roundw
          case rel => exact ⟨k + 1, by omega, by go_num, trivial, HI2⟩
          case measure => simp [intOf]; omega
        · have v0 : ((s[k].toNat : Int) == 9) = false := by rw [hv]; rfl
          have v1 : ((s[k].toNat : Int) == 10) = false := by rw [hv]; rfl
          have v2 : ((s[k].toNat : Int) == 13) = true := by rw [hv]; rfl
          clear hv
          go_wp2_with fail
          go_roundw
          case rel => exact ⟨k + 1, by omega, by go_num, trivial, HI2⟩
          case measure => simp [intOf]; omega
        · have v0 : ((s[k].toNat : Int) == 9) = false := by rw [hv]; rfl
          have v1 : ((s[k].toNat : Int) == 10) = false := by rw [hv]; rfl
          have v2 : ((s[k].toNat : Int) == 13) = false := by rw [hv]; rfl
          have v3 : ((s[k].toNat : Int) == 32) = true := by rw [hv]; rfl
          clear hv
          go_wp2_with fail
          go_roundw
          case rel => exact ⟨k + 1, by omega, by go_num, trivial, HI2⟩
          case measure => simp [intOf]; omega
      | false =>
        have HI2 : Hid (spN blB s i = k) := HI.out.symm.trans (HS.out k hb)
        rw [hc] at hb
        unfold blB at hb
        simp only [Bool.or_eq_false_iff] at hb
        obtain ⟨⟨⟨v1, v2⟩, v3⟩, v4⟩ := hb
        clear HN HS HI hc
        go_wp2_with fail
        rw [Exit.noGoto_ret]
        go_ret
        exact ⟨by rw [HI2.out]; rfl, rfl⟩
    · have z1 : ¬ (k : Int) < (s.size : Int) := by omega
      have HI2 : Hid (spN blB s i = k) := HI.out.symm.trans (HS.out k (by rw [chr_out h1]; rfl))
      clear HN HS HI
      go_wp2_with fail
      first | go_ret | (rw [Exit.noGoto_ret]; go_ret)
      exact ⟨by rw [HI2.out]; rfl, rfl⟩
end Go.Proofs.YthffklhojdldkaaGreatDoor

namespace Go.Proofs.YthffklhojdldkaaGreatDoor
open Go.RowKit
def isNm (s : ByteArray) : Bool := decide (0 < s.size) && decide (s.size ≤ 32) && hdB (chr s 0) && spN nmB s 0 == s.size
theorem ne_emp {s : ByteArray} (h : 0 < s.size) : (s.toList == []) = false := by
  rw [beq_eq_false_iff_ne, ByteArray.toList_eq]
  intro e
  have h2 : s.data.toList.length = 0 := by rw [e]; rfl
  have h3 : s.data.toList.length = s.size := rfl
  omega
theorem emp_of {s : ByteArray} (h : ¬ 0 < s.size) : s = ⟨#[]⟩ := by
  apply ByteArray.ext
  apply Array.eq_empty_of_size_eq_zero
  have : s.data.size = s.size := rfl
  omega
set_option maxRecDepth 100000 in
set_option maxHeartbeats 4000000 in
theorem pisName_any (s : ByteArray) (w : World) : Calls Tryz.prog 54 #[.string s] w fun e w' => e = .returned (.bool (isNm s)) ∧ w' = w := by
  by_cases h0 : 0 < s.size
  · have e0 := ne_emp h0
    have hc := chr_in h0
    by_cases h1 : s.size ≤ 32
    · have v1 : (s.size : Int) ≤ 32 := by omega
      have v1' : ¬ (32 : Int) < (s.size : Int) := by omega
      have z0 : (0 : Int) < (s.size : Int) := by omega
      have HB : Hid (∀ w, Calls Tryz.prog 46 #[.int .u8 (s[0].toNat : Int)] w fun e w' => e = .returned (.bool (hdB (chr s 0))) ∧ w' = w) := fun w => by rw [hc]; exact pbegins_any _ w
      have HR : Hid (∀ w, Calls Tryz.prog 77 #[.string s, .int .i64 0, .func (.func 78) #[] #[]] w fun e w' => e = .returned (.int .i64 (spN nmB s 0)) ∧ w' = w) := fun w => runName_any s 0 (by omega) (by omega) w
      cases hh : hdB (chr s 0)
      · have HE : Hid (isNm s = false) := by show _ = _; unfold isNm; rw [hh]; simp
        rw [hh] at HB
        clear hc hh h1
        go_enter Tryz.func54, Tryz.ntmps54
        go_wp2_with fail
        refine (HB.out _).mono ?_
        rintro e w1 ⟨rfl, rfl⟩
        go_wp2_with fail
        go_ret
        exact ⟨by rw [HE.out]; rfl, rfl⟩
      · have HE : Hid (isNm s = ((spN nmB s 0 : Int) == (s.size : Int))) := by
          show _ = _
          unfold isNm
          rw [hh, decide_eq_true h0, decide_eq_true h1]
          by_cases q : spN nmB s 0 = s.size
          · rw [q, beq_self_eq_true, beq_self_eq_true]; rfl
          · rw [beq_eq_false_iff_ne.2 q, beq_eq_false_iff_ne.2 (show ¬ ((spN nmB s 0 : Nat) : Int) = (s.size : Int) by omega)]; rfl
        rw [hh] at HB
        clear hc hh h1
        generalize spN nmB s 0 = N at *
        go_enter Tryz.func54, Tryz.ntmps54
        go_wp2_with fail
        refine (HB.out _).mono ?_
        rintro e w1 ⟨rfl, rfl⟩
        go_wp2_with fail
        refine (HR.out _).mono ?_
        rintro e w2 ⟨rfl, rfl⟩
        go_wp2_with fail
        go_ret
        exact ⟨by rw [HE.out]; rfl, rfl⟩
    · have v1 : ¬ (s.size : Int) ≤ 32 := by omega
      have v1' : (32 : Int) < (s.size : Int) := by omega
      have HE : Hid (isNm s = false) := by show _ = _; unfold isNm; rw [decide_eq_false h1]; simp
      clear hc h1 h0
      go_enter Tryz.func54, Tryz.ntmps54
      go_wp2_with fail
      go_ret
      exact ⟨by rw [HE.out]; rfl, rfl⟩
  · obtain rfl := emp_of h0
    clear h0
    go_enter Tryz.func54, Tryz.ntmps54
    go_wp2_with fail
    go_ret
    exact ⟨rfl, rfl⟩
end Go.Proofs.YthffklhojdldkaaGreatDoor

namespace Go.Proofs.YthffklhojdldkaaGreatDoor
open Go.RowKit
/-- The document's texts of signs, in an array of their own. -/
structure ZX (W : World) (b : Nat) (c : Array Value) : Prop where
  heap : W.heap[b]? = some (.cells c 85 (0, 0))
theorem ZX.put {W : World} {b : Nat} {c : Array Value} (h : ZX W b c) (j : Nat) (v : Value) : ZX (W.setCell ⟨b, j, none⟩ v) b (c.setIfInBounds j v) := ⟨by
  rw [heap_setCell_same _ b j _ 85 v h.heap]⟩
theorem ZX.cell {W : World} {b : Nat} {c : Array Value} (h : ZX W b c) (j : Nat) : W.cell? ⟨b, j, none⟩ = c[j]? := cell_of_row W b j _ 85 (0, 0) h.heap
theorem ZX.fz {W : World} {b : Nat} {c : Array Value} (h : ZX W b c) (j : Nat) : W.frozen? ⟨b, j, none⟩ = false := frozen_of_row W b j _ 85 h.heap
end Go.Proofs.YthffklhojdldkaaGreatDoor

namespace Go.Proofs.YthffklhojdldkaaGreatDoor
open Go.RowKit
theorem below_box2 (w : World) (a b : Obj) : Below w.heap.size w ((w.alloc a).alloc b) := (below_box w a).alloc (by simp) b
end Go.Proofs.YthffklhojdldkaaGreatDoor

namespace Go.Proofs.YthffklhojdldkaaGreatDoor.Q
open Go.RowKit
/-- What a reading answers: a value, or a place and an error's number. -/
abbrev Rd (α : Type) := Sum α (Int × Int)

/-- The byte of a text at a place, or -1. -/
def chr (s : ByteArray) (i : Nat) : Int := if h : i < s.size then (s[i].toNat : Int) else -1
theorem chr_in {s : ByteArray} {i : Nat} (h : i < s.size) : chr s i = (s[i].toNat : Int) := by unfold chr; rw [dif_pos h]
theorem chr_out {s : ByteArray} {i : Nat} (h : ¬ i < s.size) : chr s i = -1 := by unfold chr; rw [dif_neg h]
theorem chr_le (s : ByteArray) (i : Nat) : -1 ≤ chr s i ∧ chr s i ≤ 255 := by
  unfold chr
  split
  · have := s[i].toNat_lt; omega
  · omega
theorem chr_lt {s : ByteArray} {i : Nat} (h : 0 ≤ chr s i) : i < s.size := by
  by_cases hi : i < s.size
  · exact hi
  · rw [chr_out hi] at h; omega
theorem chr_bd {s : ByteArray} {i : Nat} (h : i < s.size) : 0 ≤ chr s i ∧ chr s i ≤ 255 := by
  rw [chr_in h]; have := s[i].toNat_lt; omega

/-- What a digit is worth, or -1. -/
def hexV (c : Int) : Int := if 48 ≤ c ∧ c ≤ 57 then c - 48 else if 97 ≤ c ∧ c ≤ 102 then c - 87 else -1
theorem hexV_bd (c : Int) : -1 ≤ hexV c ∧ hexV c ≤ 15 := by unfold hexV; split <;> (try split) <;> omega
theorem hexV_lo {c : Int} (h : 0 ≤ hexV c) : 0 ≤ c := by
  unfold hexV at h; split at h
  · omega
  · split at h <;> omega
/-- A byte told by its number, behind a backslash. -/
def rdHex (s : ByteArray) (i : Nat) : Option (Int × Nat) :=
  if 0 ≤ hexV (chr s (i + 2)) ∧ 0 ≤ hexV (chr s (i + 3)) then some (16 * hexV (chr s (i + 2)) + hexV (chr s (i + 3)), i + 4) else none
def rdEsc (s : ByteArray) (i : Nat) : Option (Int × Nat) :=
  if chr s (i + 1) = 110 then some (10, i + 2) else if chr s (i + 1) = 114 then some (13, i + 2) else if chr s (i + 1) = 116 then some (9, i + 2) else
  if chr s (i + 1) = 92 ∨ chr s (i + 1) = 39 ∨ chr s (i + 1) = 34 then some (chr s (i + 1), i + 2) else
  if chr s (i + 1) = 120 then rdHex s i else none
/-- One byte of a literal, or an error's number. -/
def rdByte (s : ByteArray) (i : Nat) : Rd (Int × Nat) :=
  if chr s i = 92 then (match rdEsc s i with | none => .inr (i, 21) | some p => .inl p) else
  if chr s i < 32 ∨ chr s i = 127 then .inr (i, 22) else .inl (chr s i, i + 1)
/-- What stands behind a literal's first mark, its second one too. -/
def rdBody (s : ByteArray) (m : Int) : Nat → Nat → List Int → Rd (List Int × Nat)
  | 0, i, _ => .inr (i, 22)
  | f + 1, i, l => if chr s i = m then .inl (l, i + 1) else if s.size ≤ i then .inr (s.size, 22) else
    match rdByte s i with
    | .inr (a, c) => .inr (a, c)
    | .inl (b, n) => rdBody s m f n (l ++ [b])
/-- A literal that begins at a place. -/
def rdCut (s : ByteArray) (i : Int) : Rd (List Int × Nat) :=
  if 65536 < s.size then .inr (0, 2) else
  if i < 0 ∨ (s.size : Int) < i then .inr (0, 1) else
  if chr s i.toNat = 39 ∨ chr s i.toNat = 34 then rdBody s (chr s i.toNat) (s.size + 1) (i.toNat + 1) [] else .inr (i, 20)
theorem rdHex_bd {s : ByteArray} {i : Nat} {b : Int} {n : Nat} (h : rdHex s i = some (b, n)) : 0 ≤ b ∧ b ≤ 255 ∧ i < n ∧ n ≤ s.size := by
  unfold rdHex at h
  split at h
  · next q =>
    cases h
    have h1 := hexV_bd (chr s (i + 2)); have h2 := hexV_bd (chr s (i + 3))
    have h3 := chr_lt (hexV_lo q.2)
    exact ⟨by omega, by omega, by omega, by omega⟩
  · cases h
theorem rdEsc_bd {s : ByteArray} {i : Nat} {b : Int} {n : Nat} (h : rdEsc s i = some (b, n)) : 0 ≤ b ∧ b ≤ 255 ∧ i < n ∧ n ≤ s.size := by
  unfold rdEsc at h
  have hb := chr_le s (i + 1)
  split at h
  · next q => cases h; have := chr_lt (s := s) (i := i + 1) (by omega); omega
  · split at h
    · next q => cases h; have := chr_lt (s := s) (i := i + 1) (by omega); omega
    · split at h
      · next q => cases h; have := chr_lt (s := s) (i := i + 1) (by omega); omega
      · split at h
        · next q => cases h; have := chr_lt (s := s) (i := i + 1) (by omega); omega
        · split at h
          · exact rdHex_bd h
          · cases h
theorem rdByte_bd {s : ByteArray} {i : Nat} {b : Int} {n : Nat} (h : rdByte s i = .inl (b, n)) : 0 ≤ b ∧ b ≤ 255 ∧ i < n ∧ n ≤ s.size := by
  unfold rdByte at h
  split at h
  · split at h
    · cases h
    · next p hp => cases h; exact rdEsc_bd hp
  · split at h
    · cases h
    · next q => cases h; have := chr_le s i; have := chr_lt (s := s) (i := i) (by omega); omega
theorem rdByte_err {s : ByteArray} {i : Nat} {a c : Int} (h : rdByte s i = .inr (a, c)) : a = i ∧ (c = 21 ∨ c = 22) := by
  unfold rdByte at h
  split at h
  · split at h
    · cases h; exact ⟨rfl, .inl rfl⟩
    · cases h
  · split at h
    · cases h; exact ⟨rfl, .inr rfl⟩
    · cases h
theorem rdBody_end {s : ByteArray} {m : Int} {f i : Nat} {l : List Int} (h : chr s i = m) : rdBody s m (f + 1) i l = .inl (l, i + 1) := by
  unfold rdBody; rw [if_pos h]
theorem rdBody_out {s : ByteArray} {m : Int} {f i : Nat} {l : List Int} (h : s.size ≤ i) (hm : 0 ≤ m) : rdBody s m (f + 1) i l = .inr (s.size, 22) := by
  unfold rdBody; rw [if_neg (by rw [chr_out (by omega)]; omega), if_pos h]
theorem rdBody_err {s : ByteArray} {m : Int} {f i : Nat} {l : List Int} {a c : Int} (h : chr s i ≠ m) (hi : i < s.size) (hb : rdByte s i = .inr (a, c)) : rdBody s m (f + 1) i l = .inr (a, c) := by
  unfold rdBody; rw [if_neg h, if_neg (by omega), hb]
theorem rdBody_step {s : ByteArray} {m : Int} {f i : Nat} {l : List Int} {b : Int} {n : Nat} (h : chr s i ≠ m) (hi : i < s.size) (hb : rdByte s i = .inl (b, n)) : rdBody s m (f + 1) i l = rdBody s m f n (l ++ [b]) := by
  rw [rdBody, if_neg h, if_neg (by omega), hb]
/-- A list of numbers as a text. -/
def asText (l : List Int) : ByteArray := l.foldl (fun r n => r.push (UInt8.ofNat n.toNat)) ByteArray.empty
theorem asText_data (l : List Int) : (asText l).data.toList = l.map (fun n => UInt8.ofNat n.toNat) := by
  have key : ∀ (l : List Int) (s : ByteArray), (l.foldl (fun r n => r.push (UInt8.ofNat n.toNat)) s).data.toList = s.data.toList ++ l.map (fun n => UInt8.ofNat n.toNat) := by
    intro l
    induction l with
    | nil => intro s; simp
    | cons b l ih => intro s; rw [List.foldl_cons, ih]; simp [ByteArray.push]
  have := key l ByteArray.empty
  simpa [asText] using this

/-- The answers. -/
def byV : Rd (Int × Nat) → Value
  | .inl (b, n) => .tuple #[.int .u8 b, .int .i64 n, .int .i64 0]
  | .inr (_, c) => .tuple #[.int .u8 0, .int .i64 0, .int .i64 c]
def esV : Option (Int × Nat) → Value
  | some (b, n) => .tuple #[.int .u8 b, .int .i64 n, .int .i64 0]
  | none => .tuple #[.int .u8 0, .int .i64 0, .int .i64 21]
def cuV : Rd (List Int × Nat) → Value
  | .inl (l, n) => .tuple #[.string (asText l), .int .i64 n, .agg #[.int .i64 0, .int .i64 0]]
  | .inr (a, c) => .tuple #[.string ⟨#[]⟩, .int .i64 0, .agg #[.int .i64 a, .int .i64 c]]
end Go.Proofs.YthffklhojdldkaaGreatDoor.Q

namespace Go.Proofs.YthffklhojdldkaaGreatDoor.Q
open Go.RowKit
/-- The digit of a number below 16. -/
def hexD (m : Int) : Int := if m < 10 then 48 + m else 87 + m
/-- A byte as it stands in a literal. -/
def shB (b : Int) : List Int :=
  if b = 10 then [92, 110] else if b = 13 then [92, 114] else if b = 9 then [92, 116] else if b = 39 ∨ b = 92 then [92, b] else
  if 32 ≤ b ∧ b ≤ 126 then [b] else [92, 120, hexD (b / 16), hexD (b % 16)]
/-- The bytes of a text, as numbers. -/
def byl (s : ByteArray) : List Int := s.data.toList.map fun c => (c.toNat : Int)
/-- The first bytes of a literal. -/
def qTo (s : ByteArray) (k : Nat) : List Int := 39 :: ((byl s).take k).flatMap shB
def qT (s : ByteArray) : List Int := 39 :: (byl s).flatMap shB ++ [39]
/-- All are bytes. -/
def By (l : List Int) : Prop := ∀ n ∈ l, 0 ≤ n ∧ n ≤ 255

theorem By.append {a b : List Int} (h : By a) (k : By b) : By (a ++ b) := fun n hn => by
  rcases List.mem_append.1 hn with h1 | h1
  · exact h n h1
  · exact k n h1
theorem By.nil : By [] := fun n hn => by cases hn
theorem By.cons {x : Int} {l : List Int} (hx : 0 ≤ x ∧ x ≤ 255) (h : By l) : By (x :: l) := fun n hn => by
  rcases List.mem_cons.1 hn with rfl | h1
  · exact hx
  · exact h n h1
theorem hexD_bd {m : Int} (h0 : 0 ≤ m) (h1 : m < 16) : 48 ≤ hexD m ∧ hexD m ≤ 102 := by unfold hexD; split <;> omega
theorem shB_by {b : Int} (h0 : 0 ≤ b) (h1 : b ≤ 255) : By (shB b) := by
  have d1 := hexD_bd (m := b / 16) (by omega) (by omega)
  have d2 := hexD_bd (m := b % 16) (by omega) (by omega)
  unfold shB
  repeat' split
  all_goals
    intro n hn
    simp only [List.mem_cons, List.not_mem_nil, or_false] at hn
    omega
theorem shB_len (b : Int) : 1 ≤ (shB b).length ∧ (shB b).length ≤ 4 := by
  unfold shB
  repeat' split
  all_goals simp
theorem byl_by (s : ByteArray) : By (byl s) := fun n hn => by
  unfold byl at hn
  obtain ⟨c, _, rfl⟩ := List.mem_map.1 hn
  have := c.toNat_lt
  omega
theorem byl_len (s : ByteArray) : (byl s).length = s.size := by unfold byl; rw [List.length_map]; rfl
theorem byl_get (s : ByteArray) (k : Nat) (h : k < s.size) : (byl s)[k]? = some (s[k].toNat : Int) := by
  unfold byl
  rw [List.getElem?_map, List.getElem?_eq_getElem (by simpa using h)]
  rfl
theorem qTo_succ (s : ByteArray) (k : Nat) (h : k < s.size) : qTo s (k + 1) = qTo s k ++ shB (s[k].toNat : Int) := by
  unfold qTo
  have h2 := byl_get s k h
  rw [List.take_add_one, h2, List.flatMap_append]
  simp
theorem qTo_all (s : ByteArray) (k : Nat) (h : s.size ≤ k) : qTo s k ++ [39] = qT s := by
  unfold qTo qT
  rw [List.take_of_length_le (by rw [byl_len]; exact h)]
theorem flat_by {l : List Int} (h : By l) : By (l.flatMap shB) := fun n hn => by
  obtain ⟨b, hb, h2⟩ := List.mem_flatMap.1 hn
  exact shB_by (h b hb).1 (h b hb).2 n h2
theorem flat_len (l : List Int) : l.length ≤ (l.flatMap shB).length ∧ (l.flatMap shB).length ≤ 4 * l.length := by
  induction l with
  | nil => simp
  | cons b l ih => rw [List.flatMap_cons, List.length_append, List.length_cons]; have := shB_len b; omega
theorem qTo_len (s : ByteArray) (k : Nat) : (qTo s k).length ≤ 4 * k + 1 ∧ 1 ≤ (qTo s k).length := by
  unfold qTo
  have h := flat_len ((byl s).take k)
  have h2 : ((byl s).take k).length ≤ k := List.length_take_le _ _
  rw [List.length_cons]
  omega
theorem qT_by (s : ByteArray) : By (qT s) := (By.cons (by omega) (flat_by (byl_by s))).append (By.cons (by omega) By.nil)

theorem by_cells {l : List Int} (h : By l) : Lib.byteCells (l.map fun n => UInt8.ofNat n.toNat) = l.map (Value.int .u8) := by
  unfold Lib.byteCells
  rw [List.map_map]
  refine List.map_congr_left fun n hn => ?_
  have := h n hn
  show Value.int .u8 ((UInt8.ofNat n.toNat).toNat : Int) = _
  rw [UInt8.toNat_ofNat', Nat.mod_eq_of_lt (by omega)]
  congr 1
  omega
theorem asText_eq (l : List Int) : asText l = ⟨(l.map fun n => UInt8.ofNat n.toNat).toArray⟩ := by
  have h := asText_data l
  cases ht : asText l with
  | mk d =>
    rw [ht] at h
    cases d with
    | mk x => simp at h; rw [h]
theorem strCells_text {l : List Int} (h : By l) : Lib.strCells (asText l) = l.map (Value.int .u8) := by
  rw [asText_eq, ← by_cells h]; rfl
theorem asText_size (l : List Int) : (asText l).size = l.length := by
  rw [asText_eq]; show (List.toArray _).size = _; simp
theorem asText_byl (s : ByteArray) : asText (byl s) = s := by
  rw [asText_eq]
  unfold byl
  rw [List.map_map]
  have : (List.map ((fun n : Int => UInt8.ofNat n.toNat) ∘ fun c : UInt8 => (c.toNat : Int)) s.data.toList) = s.data.toList := by
    conv => rhs; rw [← List.map_id s.data.toList]
    refine List.map_congr_left fun c _ => ?_
    simp
  rw [this]
/-- What Quote answers. -/
def quV (s : ByteArray) : Value := if 65536 < s.size ∨ 65536 < (qT s).length then .tuple #[.string ⟨#[]⟩, .int .i64 2] else .tuple #[.string (asText (qT s)), .int .i64 0]
end Go.Proofs.YthffklhojdldkaaGreatDoor.Q

namespace Go.Proofs.YthffklhojdldkaaGreatDoor
open Go.RowKit
/-- A text, as new bytes, and as a text again. -/
theorem conv_bytes (s : ByteArray) (w : World) : (convert 9 48 (.string s)).run Tryz.prog w = .ok (.slice (some ⟨w.heap.size, 0, none⟩) s.size (grownCap w s.size 0 5)) (Lib.bytesWorld w 5 s) :=
  Lib.run_convert_string_bytes w 9 48 5 s Tryz.underlying9 Tryz.underlying48 Tryz.underlying5
theorem conv_again (s : ByteArray) (w : World) (c : Nat) : (convert 48 9 (.slice (some ⟨w.heap.size, 0, none⟩) s.size c)).run Tryz.prog (Lib.bytesWorld w 5 s) = .ok (.string s) (Lib.bytesWorld w 5 s) := by
  rw [run_convert_bytes_string _ 48 9 5 _ _ _ Tryz.underlying48 Tryz.underlying5 Tryz.underlying9]
  have h := run_bytesToString (P := Tryz.prog) (Lib.bytesWorld w 5 s) ⟨w.heap.size, 0, none⟩ s.size c (Q.byl s) ?_
  · rw [h]; exact congrArg (fun x => Result.ok (Value.string x) _) (Q.asText_byl s)
  · have h2 := run_loadCells_list (P := Tryz.prog) (w := Lib.bytesWorld w 5 s) ⟨w.heap.size, 0, none⟩ ((Q.byl s).map (Value.int .u8)) (fun j u hj => by
      rw [List.getElem?_map] at hj
      have hlt : j < s.size := by
        by_cases q : j < s.size
        · exact q
        · rw [List.getElem?_eq_none (by rw [Q.byl_len]; omega)] at hj; cases hj
      rw [Q.byl_get s j hlt] at hj
      cases hj
      have h3 := Lib.bytesWorld_cell w 5 s j hlt
      rw [Addr.add_lit, Nat.zero_add, h3]
      have : s.data.toList.getD j 0 = s[j] := by
        rw [List.getD_eq_getElem?_getD, List.getElem?_eq_getElem (by simpa using hlt)]; rfl
      rw [this])
    rwa [List.length_map, Q.byl_len] at h2
set_option maxRecDepth 100000 in
set_option maxHeartbeats 4000000 in
theorem copied_any (s : ByteArray) (w : World) : Calls Tryz.prog 80 #[.string s] w fun e w' => e = .returned (.string s) ∧ Below w.heap.size w w' := by
  have hc1 := conv_bytes s
  have hc2 := conv_again s
  go_enter Tryz.func80, Tryz.ntmps80
  go_wp2_with fail
  go_ret
  exact ⟨rfl, Lib.bytesWorld_below w 5 s⟩
def gtK (k : Int) : Int := if k = 4 then 999999 else if k = 13 ∨ k = 14 ∨ k = 15 then 50 else 0
set_option maxRecDepth 100000 in
set_option maxHeartbeats 4000000 in
theorem greatest_any (k : Int) (w : World) : Calls Tryz.prog 55 #[.int .i64 k] w fun e w' => e = .returned (.int .i64 (gtK k)) ∧ w' = w := by
  by_cases h4 : k = 4
  · subst h4; go_enter Tryz.func55, Tryz.ntmps55; go_wp2_with fail; go_ret; exact ⟨rfl, rfl⟩
  by_cases h13 : k = 13
  · subst h13; go_enter Tryz.func55, Tryz.ntmps55; go_wp2_with fail; go_ret; exact ⟨rfl, rfl⟩
  by_cases h14 : k = 14
  · subst h14; go_enter Tryz.func55, Tryz.ntmps55; go_wp2_with fail; go_ret; exact ⟨rfl, rfl⟩
  by_cases h15 : k = 15
  · subst h15; go_enter Tryz.func55, Tryz.ntmps55; go_wp2_with fail; go_ret; exact ⟨rfl, rfl⟩
  have HE : Hid (gtK k = 0) := by show gtK k = 0; unfold gtK; rw [if_neg h4, if_neg (by omega)]
  have v4 : (k == 4) = false := beq_eq_false_iff_ne.2 h4
  have v13 : (k == 13) = false := beq_eq_false_iff_ne.2 h13
  have v14 : (k == 14) = false := beq_eq_false_iff_ne.2 h14
  have v15 : (k == 15) = false := beq_eq_false_iff_ne.2 h15
  clear h4 h13 h14 h15
  go_enter Tryz.func55, Tryz.ntmps55
  go_wp2_with fail
  go_ret
  exact ⟨by rw [HE.out]; rfl, rfl⟩
set_option maxRecDepth 100000 in
set_option maxHeartbeats 4000000 in
theorem numberOf_any (s : ByteArray) (base : Int) (hb : 0 ≤ base ∧ base ≤ 16) (hs : s.size ≤ 7) (w : World) : Calls Tryz.prog 81 #[.string s, .int .i64 base] w fun e w' => e = .returned (.int .i64 (wthR s 0 base s.size)) ∧ w' = w := by
  have HX : Hid (∀ k (h : k < s.size) w, Calls Tryz.prog 101 #[.string ⟨#[48, 49, 50, 51, 52, 53, 54, 55, 56, 57, 97, 98, 99, 100, 101, 102]⟩, .int .u8 (s[k].toNat : Int)] w fun e w' => e = .returned (.int .i64 (hexV (chr s k))) ∧ w' = w) := fun k h w => by
    rw [chr_in h]
    exact index_hex s[k] w
  have HB : Hid (∀ k, k ≤ 7 → -268435456 ≤ wthR s 0 base k ∧ wthR s 0 base k ≤ 268435456) := fun k hk => by
    have h1 := wthR_bd s 0 base hb k
    have h2 : (16 : Int) ^ k ≤ 16 ^ 7 := by
      have : (16 : Nat) ^ k ≤ 16 ^ 7 := Nat.pow_le_pow_right (by omega) hk
      exact_mod_cast this
    omega
  go_enter Tryz.func81, Tryz.ntmps81
  go_wp2_with fail
  go_loopw [5, 9] (fun v t wr => ∃ k : Nat, k ≤ s.size ∧ t = .int .i64 k ∧ v = .int .i64 (wthR s 0 base k) ∧ wr = w) (fun _ t _ => s.size - (intOf t).toNat)
  case atStart => exact ⟨0, by omega, by go_num, rfl, rfl⟩
  case round =>
    obtain ⟨k, hk, rfl, rfl, rfl⟩ := hrel
    by_cases hlt : k < s.size
    · have z0 : (0 : Int) ≤ (k : Int) := by omega
      have z1 : (k : Int) < (s.size : Int) := by omega
      have h1 := HB.out k (by omega)
      have h2 := HB.out (k + 1) (by omega)
      have HE : Hid (wthR s 0 base (k + 1) = base * wthR s 0 base k + hexV (chr s k)) := by show wthR s 0 base (k + 1) = _; rw [wthR, Nat.zero_add, Int.mul_comm]
      have hx := hexV_bd (chr s k)
      have h3 : -4294967296 ≤ base * wthR s 0 base k ∧ base * wthR s 0 base k ≤ 4294967296 := by
        rw [HE.out] at h2
        omega
      have u1 : IntKind.i64.wrap (base * wthR s 0 base k) = base * wthR s 0 base k := by rw [IntKind.wrap_i64]; omega
      have u2 : IntKind.i64.wrap (base * wthR s 0 base k + hexV (chr s k)) = wthR s 0 base (k + 1) := by rw [HE.out, IntKind.wrap_i64]; omega
      have HXk := (show Hid (∀ w, Calls Tryz.prog 101 #[.string ⟨#[48, 49, 50, 51, 52, 53, 54, 55, 56, 57, 97, 98, 99, 100, 101, 102]⟩, .int .u8 (s[k].toNat : Int)] w fun e w' => e = .returned (.int .i64 (hexV (chr s k))) ∧ w' = w) from HX.out k hlt)
      clear HX HB HE h1 h2 h3
      go_wp2_with fail
      refine (HXk.out _).mono ?_
      rintro e w ⟨rfl, rfl⟩
      clear HXk
      go_wp2_with fail
      go_roundw
      case rel => exact ⟨k + 1, by omega, by go_num, rfl, trivial⟩
      case measure => simp [intOf]; omega
    · obtain rfl : k = s.size := by omega
      have z1 : ¬ (s.size : Int) < (s.size : Int) := by omega
      clear HX HB
      go_wp2_with fail
      go_ret
      exact ⟨rfl, rfl⟩
def nameR (s : ByteArray) (b : Nat) : Sum Tk (Nat × Int) := if 32 < spN nmB s b - b then .inr (b, 2) else .inl ⟨1, 0, b, spN nmB s b, s.extract b (spN nmB s b), 0, 0, 0, 0⟩
set_option maxRecDepth 100000 in
set_option maxHeartbeats 4000000 in
theorem readName_any (s : ByteArray) (b : Nat) (hs : s.size ≤ 140737488355000) (hb : b ≤ s.size) (w : World) : Calls Tryz.prog 47 #[.string s, .int .i64 b] w fun e w' => e = .returned (tokP (nameR s b)) ∧ Below w.heap.size w w' := by
  have HR : Hid (∀ w, Calls Tryz.prog 77 #[.string s, .int .i64 b, .func (.func 78) #[] #[]] w fun e w' => e = .returned (.int .i64 (spN nmB s b)) ∧ w' = w) := fun w => runName_any s b (by omega) hb w
  have HF : Hid (∀ i e w, Calls Tryz.prog 79 #[.int .i64 i, .int .i64 e] w fun e' w' => e' = .returned (pairV tk0 i e) ∧ Below w.heap.size w w') := fun i e w => fault_any i e w
  have HC : Hid (∀ t w, Calls Tryz.prog 80 #[.string t] w fun e w' => e = .returned (.string t) ∧ Below w.heap.size w w') := fun t w => copied_any t w
  have HX := (show Hid (BX w ((w.alloc (tkO tk0)).alloc (fxO 0 0)) tk0 0 0) from BX.new w)
  have hge := spN_ge nmB s (by decide) b
  have hle := spN_le nmB s (by decide) b (by omega)
  have HU := (show Hid (nameR s b = if 32 < spN nmB s b - b then .inr (b, 2) else .inl ⟨1, 0, b, spN nmB s b, s.extract b (spN nmB s b), 0, 0, 0, 0⟩) from rfl)
  generalize spN nmB s b = n at *
  obtain ⟨m, hm⟩ : ∃ m, m = n - b := ⟨_, rfl⟩
  have u1 : IntKind.i64.wrap ((n : Int) - (b : Int)) = (m : Int) := by rw [IntKind.wrap_i64]; omega
  have z0 : (0 : Int) ≤ (b : Int) := by omega
  have z1 : (b : Int) ≤ (n : Int) := by omega
  have z2 : (n : Int) ≤ (s.size : Int) := by omega
  rw [← hm] at HU
  clear hm
  by_cases h32 : 32 < m
  · have HE : Hid (nameR s b = .inr (b, 2)) := by show nameR s b = _; rw [HU.out, if_pos h32]
    have t2 : decide (32 < m) = true := decide_eq_true h32
    clear HU HC
    go_enter Tryz.func47, Tryz.ntmps47
    go_wp2_with fail
    refine (HR.out _).mono ?_
    rintro e w2 ⟨rfl, rfl⟩
    clear HR
    go_wp2_with fail
    refine (HF.out _ _ _).mono ?_
    rintro e w3 ⟨rfl, b3⟩
    have HX3 := (show Hid (BX w w3 tk0 0 0) from HX.out.below b3)
    clear b3 HX HF
    obtain ⟨f0, f1', f2', f3, f4, f5, f6, f7, f8, g0, g1⟩ := HX3.out.fz
    obtain ⟨c0, c1, c2, c3, c4, c5, c6, c7, c8, d0, d1⟩ := HX3.out.cells
    unfold pairV
    go_wp2_with fail
    have HP := HX3.out.put tk0 b 2
    exact ret_bx rfl rfl rfl rfl HP ⟨by rw [HE.out]; rfl, HP.b⟩
  · have HE : Hid (nameR s b = .inl ⟨1, 0, b, n, s.extract b n, 0, 0, 0, 0⟩) := by show nameR s b = _; rw [HU.out, if_neg h32]
    have t2 : decide (32 < m) = false := decide_eq_false h32
    clear HU HF
    go_enter Tryz.func47, Tryz.ntmps47
    go_wp2_with fail
    refine (HR.out _).mono ?_
    rintro e w2 ⟨rfl, rfl⟩
    clear HR
    go_wp2_with fail
    refine (HC.out _ _).mono ?_
    rintro e w3 ⟨rfl, b3⟩
    have HX3 := (show Hid (BX w w3 tk0 0 0) from HX.out.below b3)
    clear b3 HX HC
    obtain ⟨f0, f1', f2', f3, f4, f5, f6, f7, f8, g0, g1⟩ := HX3.out.fz
    obtain ⟨c0, c1, c2, c3, c4, c5, c6, c7, c8, d0, d1⟩ := HX3.out.cells
    go_wp2_with fail
    have HP := HX3.out.put ⟨1, 0, b, n, s.extract b n, 0, 0, 0, 0⟩ 0 0
    exact ret_bx rfl rfl rfl rfl HP ⟨by rw [HE.out]; rfl, HP.b⟩
end Go.Proofs.YthffklhojdldkaaGreatDoor

namespace Go.Proofs.YthffklhojdldkaaGreatDoor
open Go.RowKit
def txF (k : Int) (tx : ByteArray) : Bool := if k = 1 then isNm tx else if k = 21 then (tx.toList == []) || isNm tx else if k = 2 then decide ((tx.size : Int) ≤ 255) else if k = 28 then ((tx.size : Int) == 1) else (tx.toList == [])
set_option maxRecDepth 100000 in
set_option maxHeartbeats 4000000 in
theorem txf_1 (kd nn fr en s0 s1 s2 s3 : Int) (tx : ByteArray) (h : kd = 1) (w : World) : Calls Tryz.prog 27 #[.agg #[.int .i64 kd, .int .i64 nn, .int .i64 fr, .int .i64 en, .string tx, .int .u64 s0, .int .u64 s1, .int .u64 s2, .int .u64 s3]] w fun e w' => e = .returned (.bool (isNm tx)) ∧ Below w.heap.size w w' := by
  have f1 : (kd == 1) = true := by rw [h]; rfl
  clear h
  go_enter Tryz.func27, Tryz.ntmps27
  go_wp2_with fail
  refine (pisName_any tx _).mono ?_
  rintro e w1 ⟨rfl, rfl⟩
  go_wp2_with fail
  go_ret
  exact ⟨rfl, below_box _ _⟩
set_option maxRecDepth 100000 in
set_option maxHeartbeats 4000000 in
theorem txf_21 (kd nn fr en s0 s1 s2 s3 : Int) (tx : ByteArray) (h : kd = 21) (w : World) : Calls Tryz.prog 27 #[.agg #[.int .i64 kd, .int .i64 nn, .int .i64 fr, .int .i64 en, .string tx, .int .u64 s0, .int .u64 s1, .int .u64 s2, .int .u64 s3]] w fun e w' => e = .returned (.bool ((tx.toList == []) || isNm tx)) ∧ Below w.heap.size w w' := by
  have f1 : (kd == 1) = false := beq_eq_false_iff_ne.2 (by omega)
  have f21 : (kd == 21) = true := by rw [h]; rfl
  clear h
  go_enter Tryz.func27, Tryz.ntmps27
  cases he : (tx.toList == [])
  · go_wp2_with fail
    refine (pisName_any tx _).mono ?_
    rintro e w1 ⟨rfl, rfl⟩
    go_wp2_with fail
    go_ret
    exact ⟨rfl, below_box _ _⟩
  · go_wp2_with fail
    go_ret
    exact ⟨rfl, below_box _ _⟩
set_option maxRecDepth 100000 in
set_option maxHeartbeats 4000000 in
theorem txf_2 (kd nn fr en s0 s1 s2 s3 : Int) (tx : ByteArray) (h : kd = 2) (w : World) : Calls Tryz.prog 27 #[.agg #[.int .i64 kd, .int .i64 nn, .int .i64 fr, .int .i64 en, .string tx, .int .u64 s0, .int .u64 s1, .int .u64 s2, .int .u64 s3]] w fun e w' => e = .returned (.bool (decide ((tx.size : Int) ≤ 255))) ∧ Below w.heap.size w w' := by
  have f1 : (kd == 1) = false := beq_eq_false_iff_ne.2 (by omega)
  have f21 : (kd == 21) = false := beq_eq_false_iff_ne.2 (by omega)
  have f2 : (kd == 2) = true := by rw [h]; rfl
  clear h
  go_enter Tryz.func27, Tryz.ntmps27
  go_wp2_with fail
  go_ret
  exact ⟨rfl, below_box _ _⟩
set_option maxRecDepth 100000 in
set_option maxHeartbeats 4000000 in
theorem txf_28 (kd nn fr en s0 s1 s2 s3 : Int) (tx : ByteArray) (h : kd = 28) (w : World) : Calls Tryz.prog 27 #[.agg #[.int .i64 kd, .int .i64 nn, .int .i64 fr, .int .i64 en, .string tx, .int .u64 s0, .int .u64 s1, .int .u64 s2, .int .u64 s3]] w fun e w' => e = .returned (.bool (((tx.size : Int) == 1))) ∧ Below w.heap.size w w' := by
  have f1 : (kd == 1) = false := beq_eq_false_iff_ne.2 (by omega)
  have f21 : (kd == 21) = false := beq_eq_false_iff_ne.2 (by omega)
  have f2 : (kd == 2) = false := beq_eq_false_iff_ne.2 (by omega)
  have f28 : (kd == 28) = true := by rw [h]; rfl
  clear h
  go_enter Tryz.func27, Tryz.ntmps27
  go_wp2_with fail
  go_ret
  exact ⟨rfl, below_box _ _⟩
set_option maxRecDepth 100000 in
set_option maxHeartbeats 4000000 in
theorem txf_no (kd nn fr en s0 s1 s2 s3 : Int) (tx : ByteArray) (n1 : ¬ kd = 1) (n21 : ¬ kd = 21) (n2 : ¬ kd = 2) (n28 : ¬ kd = 28) (w : World) : Calls Tryz.prog 27 #[.agg #[.int .i64 kd, .int .i64 nn, .int .i64 fr, .int .i64 en, .string tx, .int .u64 s0, .int .u64 s1, .int .u64 s2, .int .u64 s3]] w fun e w' => e = .returned (.bool (tx.toList == [])) ∧ Below w.heap.size w w' := by
  have f1 : (kd == 1) = false := beq_eq_false_iff_ne.2 n1
  have f21 : (kd == 21) = false := beq_eq_false_iff_ne.2 n21
  have f2 : (kd == 2) = false := beq_eq_false_iff_ne.2 n2
  have f28 : (kd == 28) = false := beq_eq_false_iff_ne.2 n28
  go_enter Tryz.func27, Tryz.ntmps27
  have HE : Hid (tx.toList.isEmpty = (tx.toList == [])) := by show _ = _; cases tx.toList <;> rfl
  go_wp2_with fail
  go_ret
  exact ⟨by rw [← HE.out]; rfl, below_box _ _⟩
theorem textFits_any (kd nn fr en s0 s1 s2 s3 : Int) (tx : ByteArray) (w : World) : Calls Tryz.prog 27 #[.agg #[.int .i64 kd, .int .i64 nn, .int .i64 fr, .int .i64 en, .string tx, .int .u64 s0, .int .u64 s1, .int .u64 s2, .int .u64 s3]] w fun e w' => e = .returned (.bool (txF kd tx)) ∧ Below w.heap.size w w' := by
  unfold txF
  split
  · exact txf_1 _ _ _ _ _ _ _ _ _ ‹_› w
  split
  · exact txf_21 _ _ _ _ _ _ _ _ _ ‹_› w
  split
  · exact txf_2 _ _ _ _ _ _ _ _ _ ‹_› w
  split
  · exact txf_28 _ _ _ _ _ _ _ _ _ ‹_› w
  · exact txf_no _ _ _ _ _ _ _ _ _ ‹_› ‹_› ‹_› ‹_› w
end Go.Proofs.YthffklhojdldkaaGreatDoor

namespace Go.Proofs.YthffklhojdldkaaGreatDoor
open Go.RowKit
def nbF (k n s0 : Int) : Bool := decide (0 ≤ n) && decide (n ≤ if k = 5 then s0 else gtK k)
set_option maxRecDepth 100000 in
set_option maxHeartbeats 4000000 in
theorem nbf_5 (kd nn fr en s0 s1 s2 s3 : Int) (tx : ByteArray) (h : kd = 5) (hn : nn < 9223372036854775808) (w : World) : Calls Tryz.prog 28 #[.agg #[.int .i64 kd, .int .i64 nn, .int .i64 fr, .int .i64 en, .string tx, .int .u64 s0, .int .u64 s1, .int .u64 s2, .int .u64 s3]] w fun e w' => e = .returned (.bool (nbF kd nn s0)) ∧ Below w.heap.size w w' := by
  have HE : Hid (nbF kd nn s0 = (decide (0 ≤ nn) && decide (nn ≤ s0))) := by show _ = _; unfold nbF; rw [if_pos h]
  have f5 : (kd == 5) = true := by rw [h]; rfl
  clear h
  by_cases h0 : 0 ≤ nn
  · have hu : IntKind.u64.wrap nn = nn := by rw [IntKind.wrap_u64]; omega
    rw [decide_eq_true h0, Bool.true_and] at HE
    clear hn
    go_enter Tryz.func28, Tryz.ntmps28
    go_wp2_with fail
    go_ret
    exact ⟨by rw [HE.out]; rfl, below_box _ _⟩
  · rw [decide_eq_false h0, Bool.false_and] at HE
    clear hn
    go_enter Tryz.func28, Tryz.ntmps28
    go_wp2_with fail
    go_ret
    exact ⟨by rw [HE.out]; rfl, below_box _ _⟩
set_option maxRecDepth 100000 in
set_option maxHeartbeats 4000000 in
theorem nbf_no (kd nn fr en s0 s1 s2 s3 : Int) (tx : ByteArray) (h : ¬ kd = 5) (w : World) : Calls Tryz.prog 28 #[.agg #[.int .i64 kd, .int .i64 nn, .int .i64 fr, .int .i64 en, .string tx, .int .u64 s0, .int .u64 s1, .int .u64 s2, .int .u64 s3]] w fun e w' => e = .returned (.bool (nbF kd nn s0)) ∧ Below w.heap.size w w' := by
  have HE : Hid (nbF kd nn s0 = (decide (0 ≤ nn) && decide (nn ≤ gtK kd))) := by show _ = _; unfold nbF; rw [if_neg h]
  have f5 : (kd == 5) = false := beq_eq_false_iff_ne.2 h
  have HG : Hid (∀ w, Calls Tryz.prog 55 #[.int .i64 kd] w fun e w' => e = .returned (.int .i64 (gtK kd)) ∧ w' = w) := fun w => greatest_any kd w
  generalize gtK kd = G at *
  clear h
  by_cases h0 : 0 ≤ nn
  · have v0 : decide (0 ≤ nn) = true := decide_eq_true h0
    rw [v0, Bool.true_and] at HE
    go_enter Tryz.func28, Tryz.ntmps28
    go_wp2_with fail
    go_quiet ((go_at_call 55; exact Calls.quiet_of_same (HG.out _)))
    go_wp2_with fail
    go_ret
    exact ⟨by rw [HE.out]; rfl, below_drewN (below_box _ _) _⟩
  · have v0 : decide (0 ≤ nn) = false := decide_eq_false h0
    rw [v0, Bool.false_and] at HE
    go_enter Tryz.func28, Tryz.ntmps28
    go_wp2_with fail
    go_quiet (fail)
    go_wp2_with fail
    go_ret
    exact ⟨by rw [HE.out]; rfl, below_drewN (below_box _ _) _⟩
theorem numberFits_any (kd nn fr en s0 s1 s2 s3 : Int) (tx : ByteArray) (hn : nn < 9223372036854775808) (w : World) : Calls Tryz.prog 28 #[.agg #[.int .i64 kd, .int .i64 nn, .int .i64 fr, .int .i64 en, .string tx, .int .u64 s0, .int .u64 s1, .int .u64 s2, .int .u64 s3]] w fun e w' => e = .returned (.bool (nbF kd nn s0)) ∧ Below w.heap.size w w' := by
  by_cases h : kd = 5
  · exact nbf_5 kd nn fr en s0 s1 s2 s3 tx h hn w
  · exact nbf_no kd nn fr en s0 s1 s2 s3 tx h w
end Go.Proofs.YthffklhojdldkaaGreatDoor
