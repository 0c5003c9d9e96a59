/- DERIVED. Plain mathematics and walks, laid together (4). -/
import Derived.Test.YtkihfkcmcdiajaaGreatDoorRows
import Derived.Test.YtkihfkcmcdiajaaGreatDoorPk03
namespace Go.Proofs.YtkihfkcmcdiajaaGreatDoor
open Go.RowKit
abbrev fxO (p e : Int) : Obj := .cells #[.int .i64 p, .int .i64 e] 27
structure FX (W : World) (b : Nat) (p e : Int) : Prop where
  heap : W.heap[b]? = some (.cells #[.int .i64 p, .int .i64 e] 27 (0, 0))
theorem FX.lt {W : World} {b : Nat} {p e : Int} (h : FX W b p e) : b < W.heap.size := (Array.getElem?_eq_some_iff.1 h.heap).1
theorem FX.below {W W' : World} {b : Nat} {p e : Int} (h : FX W b p e) (hb : Below W.heap.size W W') : FX W' b p e := ⟨(hb.block b h.lt).trans h.heap⟩
theorem FX.c0 {W : World} {b : Nat} {p e : Int} (h : FX W b p e) : W.cell? ⟨b, 0, none⟩ = some (.int .i64 p) := by rw [cell_of_row W b 0 _ 27 (0, 0) h.heap]; rfl
theorem FX.c1 {W : World} {b : Nat} {p e : Int} (h : FX W b p e) : W.cell? ⟨b, 1, none⟩ = some (.int .i64 e) := by rw [cell_of_row W b 1 _ 27 (0, 0) h.heap]; rfl
theorem FX.f0 {W : World} {b : Nat} {p e : Int} (h : FX W b p e) : W.frozen? ⟨b, 0, none⟩ = false := frozen_of_row W b 0 _ 27 h.heap
theorem FX.f1 {W : World} {b : Nat} {p e : Int} (h : FX W b p e) : W.frozen? ⟨b, 1, none⟩ = false := frozen_of_row W b 1 _ 27 h.heap
/-- The call's two boxes. -/
structure BX (w W : World) (t : Tk) (p e : Int) : Prop where
  b : Below w.heap.size w W
  x : TX W w.heap.size t
  f : FX W (w.heap.size + 1) p e
theorem BX.made (w : World) (t : Tk) (p e : Int) : BX w ((w.alloc (tkO t)).alloc (fxO p e)) t p e := by
  have h1 : (w.alloc (tkO t)).heap.size = w.heap.size + 1 := World.size_alloc _ _
  refine ⟨(below_box w _).alloc (by omega) _, (TX.new w t).below (below_box _ _), ⟨?_⟩⟩
  have h := heap_alloc_new (w.alloc (tkO t)) (fxO p e)
  rw [h1] at h
  exact h
theorem BX.new (w : World) : BX w ((w.alloc (tkO tk0)).alloc (fxO 0 0)) tk0 0 0 := BX.made w tk0 0 0
theorem BX.below {w W W' : World} {t : Tk} {p e : Int} (h : BX w W t p e) (hb : Below W.heap.size W W') : BX w W' t p e := ⟨h.b.trans (hb.mono h.b.size), h.x.below hb, h.f.below hb⟩
theorem BX.size {w W : World} {t : Tk} {p e : Int} (h : BX w W t p e) : w.heap.size + 1 < W.heap.size := h.f.lt
/-- What must be known of the boxes to store into them. -/
structure BF (w W : World) : Prop where
  x0 : W.frozen? ⟨w.heap.size, 0, none⟩ = false
  x1 : W.frozen? ⟨w.heap.size, 1, none⟩ = false
  x2 : W.frozen? ⟨w.heap.size, 2, none⟩ = false
  x3 : W.frozen? ⟨w.heap.size, 3, none⟩ = false
  x4 : W.frozen? ⟨w.heap.size, 4, none⟩ = false
  x5 : W.frozen? ⟨w.heap.size, 5, none⟩ = false
  x6 : W.frozen? ⟨w.heap.size, 6, none⟩ = false
  x7 : W.frozen? ⟨w.heap.size, 7, none⟩ = false
  x8 : W.frozen? ⟨w.heap.size, 8, none⟩ = false
  f0 : W.frozen? ⟨w.heap.size + 1, 0, none⟩ = false
  f1 : W.frozen? ⟨w.heap.size + 1, 1, none⟩ = false
structure BC (w W : World) (t : Tk) (p e : Int) : Prop where
  c0 : W.cell? ⟨w.heap.size, 0, none⟩ = some (.int .i64 t.kd)
  c1 : W.cell? ⟨w.heap.size, 1, none⟩ = some (.int .i64 t.nn)
  c2 : W.cell? ⟨w.heap.size, 2, none⟩ = some (.int .i64 t.fr)
  c3 : W.cell? ⟨w.heap.size, 3, none⟩ = some (.int .i64 t.en)
  c4 : W.cell? ⟨w.heap.size, 4, none⟩ = some (.string t.tx)
  c5 : W.cell? ⟨w.heap.size, 5, none⟩ = some (.int .u64 t.s0)
  c6 : W.cell? ⟨w.heap.size, 6, none⟩ = some (.int .u64 t.s1)
  c7 : W.cell? ⟨w.heap.size, 7, none⟩ = some (.int .u64 t.s2)
  c8 : W.cell? ⟨w.heap.size, 8, none⟩ = some (.int .u64 t.s3)
  d0 : W.cell? ⟨w.heap.size + 1, 0, none⟩ = some (.int .i64 p)
  d1 : W.cell? ⟨w.heap.size + 1, 1, none⟩ = some (.int .i64 e)
theorem BX.fz {w W : World} {t : Tk} {p e : Int} (h : BX w W t p e) : BF w W := by
  obtain ⟨a, b, c, d, e, f, g, i, j⟩ := h.x.fz
  exact ⟨a, b, c, d, e, f, g, i, j, h.f.f0, h.f.f1⟩
theorem BX.cells {w W : World} {t : Tk} {p e : Int} (h : BX w W t p e) : BC w W t p e := by
  obtain ⟨a, b, c, d, e, f, g, i, j⟩ := h.x.cells
  exact ⟨a, b, c, d, e, f, g, i, j, h.f.c0, h.f.c1⟩
/-- Both laid. -/
abbrev stF (W : World) (b : Nat) (p e : Int) : World := (W.setCell ⟨b, 0, none⟩ (.int .i64 p)).setCell ⟨b, 1, none⟩ (.int .i64 e)
theorem stF_fx {W : World} {b : Nat} {p0 e0 : Int} (h : FX W b p0 e0) (p e : Int) : FX (stF W b p e) b p e := by
  have h := h.heap
  have h0 := heap_setCell_same _ b 0 _ 27 (.int .i64 p) h
  have h1 := heap_setCell_same _ b 1 _ 27 (.int .i64 e) h0
  refine ⟨?_⟩
  rw [h1]
  simp
theorem stF_other {W : World} {b k : Nat} (p e : Int) (hk : k ≠ b) : (stF W b p e).heap[k]? = W.heap[k]? := by
  rw [Below.heap_setCell _ _ _ _ hk, Below.heap_setCell _ _ _ _ hk]
theorem st9_other {W : World} {b k : Nat} (t : Tk) (hk : k ≠ b) : (st9 W b t).heap[k]? = W.heap[k]? := by
  rw [Below.heap_setCell _ _ _ _ hk, Below.heap_setCell _ _ _ _ hk, Below.heap_setCell _ _ _ _ hk, Below.heap_setCell _ _ _ _ hk, Below.heap_setCell _ _ _ _ hk, Below.heap_setCell _ _ _ _ hk, Below.heap_setCell _ _ _ _ hk, Below.heap_setCell _ _ _ _ hk, Below.heap_setCell _ _ _ _ hk]
theorem BX.put {w W : World} {t0 : Tk} {p0 e0 : Int} (h : BX w W t0 p0 e0) (t : Tk) (p e : Int) : BX w (stF (st9 W w.heap.size t) (w.heap.size + 1) p e) t p e := by
  refine ⟨?_, ⟨?_⟩, ?_⟩
  · exact ((st9_below h.b (Nat.le_refl _) t).setCell (p := ⟨w.heap.size + 1, 0, none⟩) (by show w.heap.size ≤ w.heap.size + 1; omega) _).setCell (p := ⟨w.heap.size + 1, 1, none⟩) (by show w.heap.size ≤ w.heap.size + 1; omega) _
  · rw [stF_other p e (by omega)]; exact (st9_tx h.x t).heap
  · exact stF_fx ⟨(st9_other t (by omega)).trans h.f.heap⟩ p e
/-- What a reader answers. -/
abbrev pairV (t : Tk) (p e : Int) : Value := .tuple #[tkG t, .agg #[.int .i64 p, .int .i64 e]]
def tokP : Sum Tk (Nat × Int) → Value
  | .inl t => pairV t 0 0
  | .inr q => pairV tk0 q.1 q.2
theorem ret_bx {fn : Func} {R : Ending → World → Prop} {a : Act} {w W : World} {t : Tk} {p e : Int} {i j : Nat} (hF : fn.results = #[.cell i 79, .cell j 27]) (hd : a.defers = []) (h4 : a.tmps.getD i undef = .pointer (some ⟨w.heap.size, 0, none⟩)) (h5 : a.tmps.getD j undef = .pointer (some ⟨w.heap.size + 1, 0, none⟩)) (hT : BX w W t p e) (hR : R (.returned (pairV t p e)) W) : bodyPost Tryz.prog fn R .ret a W := by
  obtain ⟨c0, c1, c2, c3, c4, c5, c6, c7, c8, d0, d1⟩ := hT.cells
  refine bodyPost_ret (v := pairV t p e) ?_ hd hR
  simp only [Array.getD_eq_getD_getElem?] at h4 h5
  simp [results, hF, go_sem, h4, h5, c0, c1, c2, c3, c4, c5, c6, c7, c8, d0, d1]

set_option maxRecDepth 100000 in
set_option maxHeartbeats 4000000 in
theorem fault_any (i e0 : Int) (w : World) : Calls Tryz.prog 128 #[.int .i64 i, .int .i64 e0] w fun e w' => e = .returned (pairV tk0 i e0) ∧ Below w.heap.size w w' := by
  go_enter Tryz.func128, Tryz.ntmps128
  go_wp2_with fail
  exact ret_bx rfl rfl rfl rfl (BX.made w tk0 i e0) ⟨rfl, (BX.made w tk0 i e0).b⟩
/-- Does a text of some bytes stand at a place? -/
def pfx (s : ByteArray) (i : Nat) : List UInt8 → Bool
  | [] => true
  | c :: l => chr s i == (c.toNat : Int) && pfx s (i + 1) l
theorem pfx_tail (s : ByteArray) : ∀ (p : List UInt8) (i : Nat), i ≤ s.size → p.isPrefixOf (s.extract i s.size).data.toList = pfx s i p := by
  intro p
  induction p with
  | nil => intro i _; simp [pfx]
  | cons c p ih =>
    intro i hi
    rw [pfx]
    by_cases h : i < s.size
    · have e : (s.extract i s.size).data.toList = s[i] :: (s.extract (i + 1) s.size).data.toList := by
        have h1 : s.data.size = s.size := rfl
        have hd : i < s.data.size := h
        rw [ByteArray.data_extract, ByteArray.data_extract, Array.toList_extract, Array.toList_extract, List.extract_eq_take_drop, List.extract_eq_take_drop,
          List.take_of_length_le (by rw [List.length_drop, Array.length_toList]; omega), List.take_of_length_le (by rw [List.length_drop, Array.length_toList]; omega),
          List.drop_eq_getElem_cons (by rw [Array.length_toList]; omega)]
        rfl
      rw [e, List.isPrefixOf, ih (i + 1) (by omega), chr_in h]
      congr 1
      by_cases q : c = s[i]
      · subst q; simp
      · have h2 : ¬ (s[i].toNat : Int) = (c.toNat : Int) := fun e => q (UInt8.toNat_inj.1 (by omega))
        rw [beq_eq_false_iff_ne.2 q, beq_eq_false_iff_ne.2 h2]
    · have e : (s.extract i s.size).data.toList = [] := by
        have h1 : (s.extract i s.size).size = 0 := by rw [ByteArray.size_extract]; omega
        exact List.eq_nil_of_length_eq_zero h1
      have : ((-1 : Int) == (c.toNat : Int)) = false := by rw [beq_eq_false_iff_ne]; omega
      rw [e, chr_out h, this]; rfl
set_option maxRecDepth 100000 in
set_option maxHeartbeats 4000000 in
theorem stands_any (s : ByteArray) (i : Nat) (p : ByteArray) (hi : i ≤ s.size) (w : World) : Calls Tryz.prog 77 #[.string s, .int .i64 i, .string p] w fun e w' => e = .returned (.bool (pfx s i p.data.toList)) ∧ w' = w := by
  have H : Hid (∀ w, Calls Tryz.prog 100 #[.string (s.extract i s.size), .string p] w fun e w' => e = .returned (.bool (pfx s i p.data.toList)) ∧ w' = w) := fun w => by
    have h := Tryz.strings_HasPrefix (s.extract i s.size) p w
    rw [Lib.hasPrefix, pfx_tail s _ i hi] at h
    exact h
  have z0 : (0 : Int) ≤ (i : Int) := by omega
  have z1 : (i : Int) ≤ (s.size : Int) := by omega
  go_enter Tryz.func77, Tryz.ntmps77
  go_wp2_with fail
  refine (H.out _).mono ?_
  rintro e w ⟨rfl, rfl⟩
  go_wp2_with fail
  go_ret
  exact ⟨rfl, rfl⟩
set_option maxRecDepth 100000 in
set_option maxHeartbeats 4000000 in
theorem lineEnd_any (s : ByteArray) (i : Nat) (hs : s.size ≤ 140737488355328) (hi : i ≤ s.size) (w : World) : Calls Tryz.prog 78 #[.string s, .int .i64 i] w fun e w' => e = .returned (.int .i64 (spN lnB s i)) ∧ w' = w := by
  have HN : Hid (∀ k, lnB (chr s k) = true → spN lnB s k = spN lnB s (k + 1)) := fun k h => (spN_next (by decide) h).2
  have HS : Hid (∀ k, lnB (chr s k) = false → spN lnB s k = k) := fun k h => spN_stop h
  go_enter Tryz.func78, Tryz.ntmps78
  go_wp2_with fail
  go_loopw [1] (fun t wr => ∃ k : Nat, k ≤ s.size ∧ t = .int .i64 k ∧ wr = w ∧ Hid (spN lnB s k = spN lnB s i)) (fun t _ => s.size - (intOf t).toNat)
  case atStart => exact ⟨i, hi, rfl, rfl, rfl⟩
  case round =>
    obtain ⟨k, hk, rfl, rfl, HI⟩ := hrel
    have z0 : (0 : Int) ≤ (k : Int) := by omega
    by_cases h1 : k < s.size
    · have z1 : (k : Int) < (s.size : Int) := by omega
      have hc := chr_in h1
      have hb := chr_le s k
      by_cases h10 : chr s k = 10
      · have v : ((s[k].toNat : Int) != 10) = false := by rw [← hc, h10]; rfl
        have HI2 : Hid (spN lnB s i = k) := HI.out.symm.trans (HS.out k (by rw [h10]; rfl))
        clear HN HS HI hc hb h10
        go_wp2_with fail
        go_ret
        exact ⟨by rw [HI2.out]; rfl, rfl⟩
      · have v : ((s[k].toNat : Int) != 10) = true := by rw [← hc, bne, beq_eq_false_iff_ne.2 h10]; rfl
        have HI2 : Hid (spN lnB s (k + 1) = spN lnB s i) := (HN.out k (by unfold lnB; rw [beq_eq_false_iff_ne.2 h10, decide_eq_true (show 0 ≤ chr s k by rw [hc]; omega)]; rfl)).symm.trans HI.out
        clear HN HS HI hc hb h10
        go_wp2_with fail
        go_roundw
        case rel => exact ⟨k + 1, by omega, by go_num, trivial, HI2⟩
        case measure => simp [intOf]; omega
    · have z1 : ¬ (k : Int) < (s.size : Int) := by omega
      have HI2 : Hid (spN lnB s i = k) := HI.out.symm.trans (HS.out k (by rw [chr_out h1]; rfl))
      clear HN HS HI
      go_wp2_with fail
      go_ret
      exact ⟨by rw [HI2.out]; rfl, rfl⟩
set_option maxRecDepth 100000 in
set_option maxHeartbeats 4000000 in
theorem blanks_any (s : ByteArray) (i : Nat) (hs : s.size ≤ 140737488355328) (hi : i ≤ s.size) (w : World) : Calls Tryz.prog 76 #[.string s, .int .i64 i] w fun e w' => e = .returned (.int .i64 (spN blB s i)) ∧ w' = w := by
  have HN : Hid (∀ k, blB (chr s k) = true → spN blB s k = spN blB s (k + 1)) := fun k h => (spN_next (by decide) h).2
  have HS : Hid (∀ k, blB (chr s k) = false → spN blB s k = k) := fun k h => spN_stop h
  go_enter Tryz.func76, Tryz.ntmps76
  go_wp2_with fail
  go_step3
  go_wp2_with fail
  go_step3
  go_wp2_with fail
  go_loopw [1] (fun t wr => ∃ k : Nat, k ≤ s.size ∧ t = .int .i64 k ∧ wr = w ∧ Hid (spN blB s k = spN blB s i)) (fun t _ => s.size - (intOf t).toNat)
  case atStart => exact ⟨i, hi, rfl, rfl, rfl⟩
  case round =>
    obtain ⟨k, hk, rfl, rfl, HI⟩ := hrel
    have z0 : (0 : Int) ≤ (k : Int) := by omega
    by_cases h1 : k < s.size
    · have z1 : (k : Int) < (s.size : Int) := by omega
      have hc := chr_in h1
      cases hb : blB (chr s k) with
      | true =>
        have HI2 : Hid (spN blB s (k + 1) = spN blB s i) := (HN.out k hb).symm.trans HI.out
        have hor : chr s k = 9 ∨ chr s k = 10 ∨ chr s k = 13 ∨ chr s k = 32 := by
          unfold blB at hb
          simpa [Bool.or_eq_true, or_assoc] using hb
        rw [hc] at hor
        clear HN HS HI hc hb
        rcases hor with hv | hv | hv | hv
        · have v0 : ((s[k].toNat : Int) == 9) = true := by rw [hv]; rfl
          clear hv
          go_wp2_with fail
          go_roundw
          case rel => exact ⟨k + 1, by omega, by go_num, trivial, HI2⟩
          case measure => simp [intOf]; omega
        · have v0 : ((s[k].toNat : Int) == 9) = false := by rw [hv]; rfl
          have v1 : ((s[k].toNat : Int) == 10) = true := by rw [hv]; rfl
          clear hv
          go_wp2_with fail
          go_roundw
          case rel => exact ⟨k + 1, by omega, by go_num, trivial, HI2⟩
          case measure => simp [intOf]; omega
        · have v0 : ((s[k].toNat : Int) == 9) = false := by rw [hv]; rfl
          have v1 : ((s[k].toNat : Int) == 10) = false := by rw [hv]; rfl
          have v2 : ((s[k].toNat : Int) == 13) = true := by rw [hv]; rfl
          clear hv
          go_wp2_with fail
          go_roundw
          case rel => exact ⟨k + 1, by omega, by go_num, trivial, HI2⟩
          case measure => simp [intOf]; omega
        · have v0 : ((s[k].toNat : Int) == 9) = false := by rw [hv]; rfl
          have v1 : ((s[k].toNat : Int) == 10) = false := by rw [hv]; rfl
          have v2 : ((s[k].toNat : Int) == 13) = false := by rw [hv]; rfl
          have v3 : ((s[k].toNat : Int) == 32) = true := by rw [hv]; rfl
          clear hv
          go_wp2_with fail
          go_roundw
          case rel => exact ⟨k + 1, by omega, by go_num, trivial, HI2⟩
          case measure => simp [intOf]; omega
      | false =>
        have HI2 : Hid (spN blB s i = k) := HI.out.symm.trans (HS.out k hb)
        rw [hc] at hb
        unfold blB at hb
        simp only [Bool.or_eq_false_iff] at hb
        obtain ⟨⟨⟨v1, v2⟩, v3⟩, v4⟩ := hb
        clear HN HS HI hc
        go_wp2_with fail
        rw [Exit.noGoto_ret]
        go_ret
        exact ⟨by rw [HI2.out]; rfl, rfl⟩
    · have z1 : ¬ (k : Int) < (s.size : Int) := by omega
      have HI2 : Hid (spN blB s i = k) := HI.out.symm.trans (HS.out k (by rw [chr_out h1]; rfl))
      clear HN HS HI
      go_wp2_with fail
      first | go_ret | (rw [Exit.noGoto_ret]; go_ret)
      exact ⟨by rw [HI2.out]; rfl, rfl⟩
end Go.Proofs.YtkihfkcmcdiajaaGreatDoor

namespace Go.Proofs.YtkihfkcmcdiajaaGreatDoor.N
open Go.RowKit

theorem own_same {W W' : World} {B e s n : Nat} {v : Value} {xs : List Value} (h : W.ownsRow B e s v n xs) (hk : ∀ k, v.ownBlock = some k → W'.heap[k]? = W.heap[k]?) : W'.ownsRow B e s v n xs := by
  refine ⟨h.1, ?_⟩
  rcases h.2 with hn | ⟨g, cap, cur, rfl, hB, hg, rest⟩
  · exact .inl hn
  · exact .inr ⟨g, cap, cur, rfl, hB, (hk g rfl).trans hg, rest⟩
theorem own_ty {W : World} {B e s n : Nat} {v : Value} {xs : List Value} (h : W.ownsRow B e s v n xs) {k : Nat} (hk : v.ownBlock = some k) : ∃ cur, W.heap[k]? = some (.cells cur e (0, 0)) := by
  rcases h.2 with ⟨rfl, _⟩ | ⟨g, cap, cur, rfl, _, hg, _⟩
  · cases hk
  · cases hk; exact ⟨cur, hg⟩
theorem own_apart {W : World} {B e s n B2 e2 s2 n2 : Nat} {v v2 : Value} {xs xs2 : List Value} (h : W.ownsRow B e s v n xs) (h2 : W.ownsRow B2 e2 s2 v2 n2 xs2) (hne : e ≠ e2) {k : Nat} (hk : v.ownBlock = some k) : v2.ownBlock ≠ some k := fun q => by
  obtain ⟨c1, h1⟩ := own_ty h hk
  obtain ⟨c2, h3⟩ := own_ty h2 q
  rw [h1] at h3
  injection h3 with h4
  injection h4 with _ h5
  exact hne h5
/-- The reader's box. -/
structure RX (W : World) (b : Nat) (tv : Value) (i d : Nat) (v : Value) : Prop where
  heap : W.heap[b]? = some (.cells #[tv, .int .i64 i, .int .i64 d, v] 97 (0, 0))
theorem RX.lt {W : World} {b : Nat} {tv v : Value} {i d : Nat} (h : RX W b tv i d v) : b < W.heap.size := (Array.getElem?_eq_some_iff.1 h.heap).1
theorem RX.same {W W' : World} {b : Nat} {tv v : Value} {i d : Nat} (h : RX W b tv i d v) (hb : W'.heap[b]? = W.heap[b]?) : RX W' b tv i d v := ⟨hb.trans h.heap⟩
theorem RX.cl {W : World} {b : Nat} {tv v : Value} {i d : Nat} (h : RX W b tv i d v) : W.cell? ⟨b, 0, none⟩ = some tv ∧ W.cell? ⟨b, 1, none⟩ = some (.int .i64 i) ∧ W.cell? ⟨b, 2, none⟩ = some (.int .i64 d) ∧ W.cell? ⟨b, 3, none⟩ = some v := by
  have key : ∀ (j : Nat) u, (#[tv, .int .i64 i, .int .i64 d, v] : Array Value)[j]? = some u → W.cell? ⟨b, j, none⟩ = some u := fun j u hu => by
    rw [cell_of_row W b j _ 97 (0, 0) h.heap]; exact hu
  exact ⟨key 0 _ rfl, key 1 _ rfl, key 2 _ rfl, key 3 _ rfl⟩
theorem RX.fz {W : World} {b : Nat} {tv v : Value} {i d : Nat} (h : RX W b tv i d v) (j : Nat) : W.frozen? ⟨b, j, none⟩ = false := frozen_of_row W b j _ 97 h.heap
theorem RX.s1 {W : World} {b : Nat} {tv v : Value} {i d : Nat} (h : RX W b tv i d v) (i2 : Nat) : RX (W.setCell ⟨b, 1, none⟩ (.int .i64 i2)) b tv i2 d v := ⟨by
  rw [heap_setCell_same _ b 1 _ 97 (.int .i64 i2) h.heap]; simp⟩
theorem RX.s2 {W : World} {b : Nat} {tv v : Value} {i d : Nat} (h : RX W b tv i d v) (d2 : Nat) : RX (W.setCell ⟨b, 2, none⟩ (.int .i64 d2)) b tv i d2 v := ⟨by
  rw [heap_setCell_same _ b 2 _ 97 (.int .i64 d2) h.heap]; simp⟩
theorem RX.s3 {W : World} {b : Nat} {tv v : Value} {i d : Nat} (h : RX W b tv i d v) (v2 : Value) : RX (W.setCell ⟨b, 3, none⟩ v2) b tv i d v2 := ⟨by
  rw [heap_setCell_same _ b 3 _ 97 v2 h.heap]; simp⟩
theorem RX.ne {W : World} {b B e s n : Nat} {tv v u : Value} {i d : Nat} {xs : List Value} (h : RX W b tv i d v) (ho : W.ownsRow B e s u n xs) (he : e ≠ 97) {k : Nat} (hk : u.ownBlock = some k) : k ≠ b := fun q => by
  subst q
  obtain ⟨c, hc⟩ := own_ty ho hk
  rw [h.heap] at hc
  injection hc with h4
  injection h4 with _ h5
  exact he h5.symm
/-- What stays: all that was there but the reader's box and its row of nodes. -/
structure Fr (W W' : World) (b : Nat) (v v' : Value) : Prop where
  size : W.heap.size ≤ W'.heap.size
  block : ∀ k, k < W.heap.size → k ≠ b → v.ownBlock ≠ some k → W'.heap[k]? = W.heap[k]?
  own : ∀ k, v'.ownBlock = some k → v.ownBlock = some k ∨ W.heap.size ≤ k
theorem Fr.refl (W : World) (b : Nat) (v : Value) : Fr W W b v v := ⟨Nat.le_refl _, fun _ _ _ _ => rfl, fun _ h => .inl h⟩
theorem Fr.trans {W W1 W2 : World} {b : Nat} {v v1 v2 : Value} (h : Fr W W1 b v v1) (h2 : Fr W1 W2 b v1 v2) : Fr W W2 b v v2 :=
  ⟨Nat.le_trans h.size h2.size, fun k hk hb hv => (h2.block k (Nat.lt_of_lt_of_le hk h.size) hb (fun q => by
    rcases h.own k q with r | r
    · exact hv r
    · omega)).trans (h.block k hk hb hv), fun k hk => by
    rcases h2.own k hk with r | r
    · exact h.own k r
    · exact .inr (Nat.le_trans h.size r)⟩
theorem Fr.below {W W' : World} (b : Nat) (v : Value) (h : Below W.heap.size W W') : Fr W W' b v v := ⟨h.size, fun k hk _ _ => h.block k hk, fun _ h => .inl h⟩
theorem Fr.set (W : World) (b j : Nat) (u v : Value) : Fr W (W.setCell ⟨b, j, none⟩ u) b v v := ⟨by simp [World.setCell], fun k _ hb _ => Below.heap_setCell _ _ _ _ hb, fun _ h => .inl h⟩
theorem Fr.grow {W W' : World} (b : Nat) {v : Value} {g n c : Nat} (h : W.grownBy W' v.ownBlock) (hat : v.ownBlock = some g ∨ g = W.heap.size) : Fr W W' b v (.slice (some ⟨g, 0, none⟩) n c) :=
  ⟨h.size, fun k hk _ hv => h.block k hk (fun e => hv e.symm), fun k hk => by
    have e : g = k := Option.some.inj hk
    rcases hat with q | q
    · exact .inl (by rw [q, e])
    · exact .inr (by omega)⟩
/-- The token behind the last one; the tokens with it; where a token stands. -/
def enT (z : Nat) : Tk := ⟨0, 0, z, 0, ⟨#[]⟩, 0, 0, 0, 0⟩
def toks (E : PE) (z : Nat) : List Tk := E.l ++ [enT z]
def plA (E : PE) (z i : Nat) : Int := if i < E.l.length then (tkA E i).fr else z
theorem toks_len (E : PE) (z : Nat) : (toks E z).length = E.l.length + 1 := by unfold toks; simp
theorem toks_get (E : PE) (z : Nat) {i : Nat} (hi : i ≤ E.l.length) : ∃ t, (toks E z)[i]? = some t ∧ t.kd = kdA E i ∧ t.fr = plA E z i ∧ (i < E.l.length → t = tkA E i) := by
  by_cases h : i < E.l.length
  · refine ⟨E.l[i], ?_, ?_, ?_, fun _ => ?_⟩
    · unfold toks; rw [List.getElem?_append_left h, List.getElem?_eq_getElem h]
    · unfold kdA; rw [List.getElem?_eq_getElem h]
    · unfold plA tkA; rw [if_pos h, List.getElem?_eq_getElem h]; rfl
    · unfold tkA; rw [List.getElem?_eq_getElem h]; rfl
  · obtain rfl : i = E.l.length := by omega
    refine ⟨enT z, ?_, ?_, ?_, fun q => absurd q h⟩
    · unfold toks; rw [List.getElem?_append_right (Nat.le_refl _), Nat.sub_self]; rfl
    · rw [kd_end]; rfl
    · unfold plA; rw [if_neg h]; rfl
/-- The reader at token i with d signs open and the nodes L. -/
structure RS (E : PE) (z : Nat) (w0 W : World) (b : Nat) (tv : Value) (i d : Nat) (v : Value) (L : List Nd) : Prop where
  bl : Below w0.heap.size w0 W
  lo : w0.heap.size ≤ b
  x : RX W b tv i d v
  t : W.ownsRow w0.heap.size 79 9 tv (toks E z).length (tkc (toks E z))
  o : W.ownsRow w0.heap.size 51 7 v L.length (T.ndc L)
  hi : i ≤ E.l.length
  hd : d ≤ 240
section
variable {E : PE} {z : Nat} {w0 W : World} {b : Nat} {tv : Value} {i d : Nat} {v : Value} {L : List Nd}
theorem RS.later (h : RS E z w0 W b tv i d v L) {W' : World} (hb : Below W.heap.size W W') : RS E z w0 W' b tv i d v L :=
  ⟨h.bl.trans (hb.mono h.bl.size), h.lo, h.x.same (hb.block b h.x.lt), ownB h.t hb, ownB h.o hb, h.hi, h.hd⟩
theorem RS.s1 (h : RS E z w0 W b tv i d v L) {i2 : Nat} (hi : i2 ≤ E.l.length) : RS E z w0 (W.setCell ⟨b, 1, none⟩ (.int .i64 i2)) b tv i2 d v L :=
  ⟨h.bl.setCell (p := ⟨b, 1, none⟩) h.lo _, h.lo, h.x.s1 i2, own_same h.t fun k hk => Below.heap_setCell _ _ _ _ (h.x.ne h.t (by decide) hk), own_same h.o fun k hk => Below.heap_setCell _ _ _ _ (h.x.ne h.o (by decide) hk), hi, h.hd⟩
theorem RS.s2 (h : RS E z w0 W b tv i d v L) {d2 : Nat} (hd : d2 ≤ 240) : RS E z w0 (W.setCell ⟨b, 2, none⟩ (.int .i64 d2)) b tv i d2 v L :=
  ⟨h.bl.setCell (p := ⟨b, 2, none⟩) h.lo _, h.lo, h.x.s2 d2, own_same h.t fun k hk => Below.heap_setCell _ _ _ _ (h.x.ne h.t (by decide) hk), own_same h.o fun k hk => Below.heap_setCell _ _ _ _ (h.x.ne h.o (by decide) hk), h.hi, hd⟩
theorem RS.s3 (h : RS E z w0 W b tv i d v L) {v2 : Value} {L2 : List Nd} (ho : W.ownsRow w0.heap.size 51 7 v2 L2.length (T.ndc L2)) : RS E z w0 (W.setCell ⟨b, 3, none⟩ v2) b tv i d v2 L2 :=
  ⟨h.bl.setCell (p := ⟨b, 3, none⟩) h.lo _, h.lo, h.x.s3 v2, own_same h.t fun k hk => Below.heap_setCell _ _ _ _ (h.x.ne h.t (by decide) hk), own_same ho fun k hk => Below.heap_setCell _ _ _ _ (h.x.ne ho (by decide) hk), h.hi, h.hd⟩
/-- Nodes laid onto the row: the rest of the reader stays. -/
theorem RS.grow (h : RS E z w0 W b tv i d v L) {W' : World} {v2 : Value} {L2 : List Nd} (hg : W.grownBy W' v.ownBlock) (ho : W'.ownsRow w0.heap.size 51 7 v2 L2.length (T.ndc L2)) : RS E z w0 (W'.setCell ⟨b, 3, none⟩ v2) b tv i d v2 L2 := by
  have hx : RX W' b tv i d v := h.x.same (hg.block b h.x.lt (fun e => h.x.ne h.o (by decide) e.symm rfl))
  have ht : W'.ownsRow w0.heap.size 79 9 tv (toks E z).length (tkc (toks E z)) := own_same h.t fun k hk => hg.block k (h.t.lt k hk).2 (fun e => own_apart h.t h.o (by decide) hk e.symm)
  have hbl : Below w0.heap.size w0 W' := h.bl.grown hg h.bl.size (fun k e => (h.o.lt k e).1)
  exact ⟨hbl.setCell (p := ⟨b, 3, none⟩) h.lo _, h.lo, hx.s3 v2, own_same ht fun k hk => Below.heap_setCell _ _ _ _ (hx.ne ht (by decide) hk), own_same ho fun k hk => Below.heap_setCell _ _ _ _ (hx.ne ho (by decide) hk), h.hi, h.hd⟩
/-- Its tokens, as they lie. -/
theorem RS.tk (h : RS E z w0 W b tv i d v L) : ∃ g c, tv = .slice (some ⟨g, 0, none⟩) (E.l.length + 1) c ∧ ∀ (k : Nat) t, (toks E z)[k]? = some t → TR W g (k * 9) t := by
  obtain ⟨A, c, e, hr⟩ := own_rdt h.t rfl
  obtain ⟨g, rfl, _, hc⟩ := hr.rd (by unfold toks; simp)
  exact ⟨g, c, by rw [e, toks_len], hc⟩
end
end Go.Proofs.YtkihfkcmcdiajaaGreatDoor.N

namespace Go.Proofs.YtkihfkcmcdiajaaGreatDoor.N
open Go.RowKit
abbrev tkZ : Obj := .cells #[.int .i64 0, .int .i64 0, .int .i64 0, .int .i64 0, .string ⟨#[]⟩, .int .u64 0, .int .u64 0, .int .u64 0, .int .u64 0] 79
theorem fld0 (a b c d e0 e1 e2 e3 : Value) (k : Int) (W : World) : (Instr.field 79 (.agg #[.int .i64 k, a, b, c, d, e0, e1, e2, e3]) 0).run Tryz.prog W = .ok (.int .i64 k) W := by simp [Instr.field, run_underlying Tryz.underlying79, asAgg, go_sem, Tryz.isAgg3, Tryz.sizeOf3]
theorem fld2 (a b c d e0 e1 e2 e3 : Value) (k : Int) (W : World) : (Instr.field 79 (.agg #[a, b, .int .i64 k, c, d, e0, e1, e2, e3]) 2).run Tryz.prog W = .ok (.int .i64 k) W := by simp [Instr.field, run_underlying Tryz.underlying79, asAgg, go_sem, Tryz.isAgg3, Tryz.sizeOf3]
theorem ret_tk1 {fn : Func} {R : Ending → World → Prop} {a : Act} {W : World} {b : Nat} {t : Tk} (hF : fn.results = #[.cell 2 79]) (hd : a.defers = []) (h2 : a.tmps.getD 2 undef = .pointer (some ⟨b, 0, none⟩)) (hT : TX W b t) (hR : R (.returned (tkG t)) W) : bodyPost Tryz.prog fn R .ret a W := by
  obtain ⟨c0, c1, c2, c3, c4, c5, c6, c7, c8⟩ := hT.cells
  refine bodyPost_ret (v := tkG t) ?_ hd hR
  simp only [Array.getD_eq_getD_getElem?] at h2
  simp [results, hF, go_sem, h2, c0, c1, c2, c3, c4, c5, c6, c7, c8]
set_option maxRecDepth 100000 in
set_option maxHeartbeats 8000000 in
theorem here_any {E : PE} {z : Nat} {w0 W : World} {b : Nat} {tv : Value} {i d : Nat} {v : Value} {L : List Nd} (h : RS E z w0 W b tv i d v L) (t : Tk) (ht : (toks E z)[i]? = some t) :
    Calls Tryz.prog 46 #[.pointer (some ⟨b, 0, none⟩)] W fun e W' => e = .returned (.agg #[.int .i64 t.kd, .int .i64 t.nn, .int .i64 t.fr, .int .i64 t.en, .string t.tx, .int .u64 t.s0, .int .u64 t.s1, .int .u64 t.s2, .int .u64 t.s3]) ∧ Below W.heap.size W W' := by
  have HX := (show Hid (RS E z w0 (W.alloc tkZ) b tv i d v L) from h.later (below_box _ _))
  have HT := (show Hid (TX (W.alloc tkZ) W.heap.size tk0) from TX.new W tk0)
  have HB := (show Hid (Below W.heap.size W (W.alloc tkZ)) from below_box _ _)
  have HG := (show Hid ((toks E z)[i]? = some t) from ht)
  have hi := h.hi
  have z0 : (0 : Int) ≤ (i : Int) := by omega
  have z1 : (i : Int) < ((E.l.length + 1 : Nat) : Int) := by omega
  clear h ht
  go_enter Tryz.func46, Tryz.ntmps46
  go_wp2_with fail
  generalize W.alloc tkZ = w1 at *
  obtain ⟨g, c, rfl, hc⟩ := HX.out.tk
  obtain ⟨a0, a1, a2, a3, a4, a5, a6, a7, a8⟩ := hc i t HG.out
  obtain ⟨k0, k1, k2, k3⟩ := HX.out.x.cl
  obtain ⟨f0, f1', f2', f3, f4, f5, f6, f7, f8⟩ := HT.out.fz
  obtain ⟨y0, y1, y2, y3, y4, y5, y6, y7, y8⟩ := HT.out.cells
  clear hc HX HG
  generalize E.l.length + 1 = n at *
  go_region
  go_wp2_with fail
  exact ret_tk1 rfl rfl rfl ((st9_tx HT.out t).below (Below.refl _ _).drew) ⟨rfl, (st9_below HB.out (Nat.le_refl _) t).drew⟩
theorem post_panic {P : Program} {fn : Func} {R : Ending → World → Prop} {ch : List PanicEntry} {a : Act} {w : World} (hd : a.defers = []) (h : R (.panicked ch) w) : bodyPost P fn R (.panic ch) a w := ⟨hd, h⟩
/-- A panic with a fault. -/
abbrev pnc (a c : Int) : Ending := .panicked [{ v := .iface 27 (.agg #[.int .i64 a, .int .i64 c]), recovered := false }]
set_option maxRecDepth 100000 in
set_option maxHeartbeats 8000000 in
theorem behind_any {E : PE} {z : Nat} {w0 W : World} {b : Nat} {tv : Value} {i d : Nat} {v : Value} {L : List Nd} (h : RS E z w0 W b tv i d v L) (hlt : i < E.l.length) (hz : E.l.length ≤ 1000000) :
    Calls Tryz.prog 47 #[.pointer (some ⟨b, 0, none⟩)] W fun e W' => e = .returned (.int .i64 (kdA E (i + 1))) ∧ Below W.heap.size W W' := by
  obtain ⟨t, ht, hk, _, _⟩ := toks_get E z (i := i + 1) (by omega)
  have HK := (show Hid (t.kd = kdA E (i + 1)) from hk)
  obtain ⟨j, hj⟩ : ∃ j, j = i + 1 := ⟨_, rfl⟩
  rw [← hj] at ht HK ⊢
  have u1 : IntKind.i64.wrap ((i : Int) + 1) = (j : Int) := by rw [IntKind.wrap_i64]; omega
  have z0 : (0 : Int) ≤ (j : Int) := by omega
  have z1 : (j : Int) < ((E.l.length + 1 : Nat) : Int) := by omega
  obtain ⟨g, c, rfl, hc⟩ := h.tk
  obtain ⟨a0, a1, a2, a3, a4, a5, a6, a7, a8⟩ := hc j t ht
  obtain ⟨k0, k1, k2, k3⟩ := h.x.cl
  clear hc h ht hk hj
  generalize E.l.length + 1 = n at *
  go_enter Tryz.func47, Tryz.ntmps47
  go_wp2_with fail
  go_quiet (fail)
  go_wp2_with fail
  go_ret
  exact ⟨by rw [← HK.out]; rfl, below_drewN (Below.refl _ _) _⟩
set_option maxRecDepth 100000 in
set_option maxHeartbeats 8000000 in
theorem giveUp_any (a c : Int) (W : World) : Calls Tryz.prog 45 #[.int .i64 a, .int .i64 c] W fun e W' => e = pnc a c ∧ W' = W := by
  go_enter Tryz.func45, Tryz.ntmps45
  go_wp2_with fail
  exact ⟨rfl, rfl, rfl⟩
set_option maxRecDepth 100000 in
set_option maxHeartbeats 8000000 in
theorem refuse_any {E : PE} {z : Nat} {w0 W : World} {b : Nat} {tv : Value} {i d : Nat} {v : Value} {L : List Nd} (h : RS E z w0 W b tv i d v L) (c : Int) :
    Calls Tryz.prog 50 #[.pointer (some ⟨b, 0, none⟩), .int .i64 c] W fun e W' => e = pnc (plA E z i) c ∧ Below W.heap.size W W' := by
  obtain ⟨t, ht, _, hp, _⟩ := toks_get E z h.hi
  have HP := (show Hid (t.fr = plA E z i) from hp)
  have HH := (show Hid (∀ _ : Unit, Calls Tryz.prog 46 #[.pointer (some ⟨b, 0, none⟩)] W fun e W' => e = .returned (.agg #[.int .i64 t.kd, .int .i64 t.nn, .int .i64 t.fr, .int .i64 t.en, .string t.tx, .int .u64 t.s0, .int .u64 t.s1, .int .u64 t.s2, .int .u64 t.s3]) ∧ Below W.heap.size W W') from fun _ => here_any h t ht)
  have HU : Hid (∀ a W, Calls Tryz.prog 45 #[.int .i64 a, .int .i64 c] W fun e W' => e = pnc a c ∧ W' = W) := fun a W => giveUp_any a c W
  clear h ht hp
  have fl2 := fld2
  go_enter Tryz.func50, Tryz.ntmps50
  go_wp2_with fail
  refine (HH.out ()).mono ?_
  rintro e w1 ⟨rfl, hb⟩
  have HB := (show Hid _ from hb)
  clear hb HH
  go_wp2_with fail
  refine (HU.out _ _).mono ?_
  rintro e w2 ⟨rfl, rfl⟩
  exact post_panic rfl ⟨by rw [← HP.out], HB.out⟩
end Go.Proofs.YtkihfkcmcdiajaaGreatDoor.N

namespace Go.Proofs.YtkihfkcmcdiajaaGreatDoor.T
/-- A part: its first and its last node, its height. -/
abbrev Pt := Nat × Nat × Nat

def opAt (L : List Nd) (k : Nat) : Int := match L[k]? with
  | some n => n.op
  | none => 0
def arN (op : Int) : Nat := (ar op).toNat
/-- The part that ends with node k, by the parts that are free ahead of it (the last one first). -/
def mk (L : List Nd) (k : Nat) (op : Int) (st : List Pt) : Pt :=
  if arN op = 0 then (k, k, 1) else if arN op = 1 then (match st with
    | x :: _ => (x.1, k, max 1 (x.2.2 + 1))
    | [] => (k, k, 1)) else (match st with
    | y :: x :: _ => (x.1, k, max (max 1 (if opAt L x.2.1 = op then x.2.2 else x.2.2 + 1)) (y.2.2 + 1))
    | _ => (k, k, 1))
def run (L : List Nd) : Nat → List Pt
  | 0 => []
  | k + 1 => mk L k (opAt L k) (run L k) :: (run L k).drop (arN (opAt L k))
def pt (L : List Nd) (k : Nat) : Pt := mk L k (opAt L k) (run L k)
theorem run_succ (L : List Nd) (k : Nat) : run L (k + 1) = pt L k :: (run L k).drop (arN (opAt L k)) := rfl

/-- What is wrong with node k; 0: nothing. -/
def er (L : List Nd) (k : Nat) : Int := match L[k]? with
  | none => 0
  | some n => if alE n ≠ 0 then alE n else if (run L k).length < arN n.op then 42 else if 60 < (pt L k).2.2 then 4 else 0
def ckGo (L : List Nd) : Nat → Nat → Nat × Int
  | 0, _ => if (run L L.length).length = 1 then (0, 0) else (L.length, 42)
  | m + 1, k => if er L k ≠ 0 then (k, er L k) else ckGo L m (k + 1)
def ck (L : List Nd) : Nat × Int := if 2048 < L.length then (0, 2) else ckGo L L.length 0

theorem ckGo_from (L : List Nd) : ∀ (k m : Nat), k + m = L.length → (∀ j, j < k → er L j = 0) → ckGo L L.length 0 = ckGo L m k := by
  intro k
  induction k with
  | zero => intro m hm _; rw [← hm, Nat.zero_add]
  | succ k ih =>
    intro m hm h
    rw [ih (m + 1) (by omega) (fun j hj => h j (by omega)), ckGo, if_neg (by rw [h k (by omega)]; simp)]
theorem ck_bad {L : List Nd} {k : Nat} (hl : ¬ 2048 < L.length) (hk : k < L.length) (h : ∀ j, j < k → er L j = 0) (he : er L k ≠ 0) : ck L = (k, er L k) := by
  rw [ck, if_neg hl, ckGo_from L k (L.length - k) (by omega) h, show L.length - k = (L.length - k - 1) + 1 from by omega, ckGo, if_pos he]
theorem ck_end {L : List Nd} (hl : ¬ 2048 < L.length) (h : ∀ j, j < L.length → er L j = 0) : ck L = if (run L L.length).length = 1 then (0, 0) else (L.length, 42) := by
  rw [ck, if_neg hl, ckGo_from L L.length 0 (by omega) h, ckGo]
theorem ck_long {L : List Nd} (hl : 2048 < L.length) : ck L = (0, 2) := by rw [ck, if_pos hl]
/-- Right. -/
structure Rt (L : List Nd) : Prop where
  len : ¬ 2048 < L.length
  each : ∀ j, j < L.length → er L j = 0
  one : (run L L.length).length = 1
theorem Rt.ck {L : List Nd} (h : Rt L) : ck L = (0, 0) := by rw [ck_end h.len h.each, if_pos h.one]
theorem er_of {L : List Nd} {k : Nat} {n : Nd} (h : L[k]? = some n) : er L k = if alE n ≠ 0 then alE n else if (run L k).length < arN n.op then 42 else if 60 < (pt L k).2.2 then 4 else 0 := by
  unfold er; rw [h]
theorem op_of {L : List Nd} {k : Nat} {n : Nd} (h : L[k]? = some n) : opAt L k = n.op := by unfold opAt; rw [h]
theorem alE_ar {n : Nd} (h : alE n = 0) : 0 ≤ ar n.op := by
  unfold alE at h
  split at h
  · cases h
  · omega

/-- What lies free ahead of node k lies one behind the other. -/
def Chn (L : List Nd) : Nat → List Pt → Prop
  | at', [] => at' = 0
  | at', x :: r => x.2.1 + 1 = at' ∧ x = pt L x.2.1 ∧ x.1 ≤ x.2.1 ∧ Chn L x.1 r
theorem mk_last (L : List Nd) (k : Nat) (op : Int) (st : List Pt) : (mk L k op st).2.1 = k := by
  unfold mk
  split
  · rfl
  · split
    · split <;> rfl
    · split <;> rfl
theorem arN_le (op : Int) : arN op ≤ 2 := by unfold arN; have := ar_hi op; omega
theorem chn_run (L : List Nd) : ∀ k, k ≤ L.length → (∀ j, j < k → er L j = 0) → Chn L k (run L k) := by
  intro k
  induction k with
  | zero => intro _ _; exact rfl
  | succ k ih =>
    intro hk h
    have c := ih (by omega) (fun j hj => h j (by omega))
    have hn : L[k]? = some L[k] := List.getElem?_eq_getElem (by omega)
    have he := h k (by omega)
    rw [er_of hn] at he
    have ha : alE L[k] = 0 := by
      apply Classical.byContradiction
      intro q
      rw [if_pos q] at he
      exact q he
    rw [if_neg (by simp [ha])] at he
    have hl : ¬ (run L k).length < arN L[k].op := by
      intro q
      rw [if_pos q] at he
      cases he
    have hop := op_of hn
    rw [run_succ]
    have hlast : (pt L k).2.1 = k := mk_last _ _ _ _
    refine ⟨by rw [hlast], by rw [hlast], ?_, ?_⟩
    · rw [hlast]
      unfold pt mk
      rw [hop]
      split
      · exact Nat.le_refl _
      · split
        · cases hr : run L k with
          | nil => exact Nat.le_refl _
          | cons x r => rw [hr] at c; have := c.1; have := c.2.2.1; show x.1 ≤ k; omega
        · cases hr : run L k with
          | nil => exact Nat.le_refl _
          | cons y r =>
            rw [hr] at c
            cases hr2 : r with
            | nil => exact Nat.le_refl _
            | cons x r2 =>
              rw [hr2] at c
              have h1 := c.1; have h2 := c.2.2.1; have h3 := c.2.2.2.1; have h4 := c.2.2.2.2.2.1
              show x.1 ≤ k
              omega
    · have h2 := arN_le L[k].op
      unfold pt mk
      rw [hop]
      by_cases a0 : arN L[k].op = 0
      · rw [if_pos a0, a0]
        exact c
      · rw [if_neg a0]
        by_cases a1 : arN L[k].op = 1
        · rw [if_pos a1, a1]
          rw [a1] at hl
          cases hr : run L k with
          | nil => rw [hr] at hl; exact absurd (by simp) hl
          | cons x r => rw [hr] at c; exact c.2.2.2
        · rw [if_neg a1, show arN L[k].op = 2 from by omega]
          rw [show arN L[k].op = 2 from by omega] at hl
          cases hr : run L k with
          | nil => rw [hr] at hl; exact absurd (by simp) hl
          | cons y r =>
            rw [hr] at c hl
            cases hr2 : r with
            | nil => rw [hr2] at hl; exact absurd (by simp) hl
            | cons x r2 => rw [hr2] at c; exact c.2.2.2.2.2.2
end Go.Proofs.YtkihfkcmcdiajaaGreatDoor.T

namespace Go.Proofs.YtkihfkcmcdiajaaGreatDoor.T
theorem chn_mem (L : List Nd) : ∀ (st : List Pt) (k : Nat), Chn L k st → ∀ x ∈ st, x.2.1 < k ∧ x.1 ≤ x.2.1 ∧ x = pt L x.2.1 := by
  intro st
  induction st with
  | nil => intro k _ x hx; cases hx
  | cons y r ih =>
    intro k h x hx
    obtain ⟨h1, h2, h3, h4⟩ := h
    rcases List.mem_cons.1 hx with rfl | hx
    · exact ⟨by omega, h3, h2⟩
    · obtain ⟨a, b, c⟩ := ih y.1 h4 x hx
      exact ⟨by omega, b, c⟩
structure ErOk (L : List Nd) (k : Nat) (n : Nd) : Prop where
  al : alE n = 0
  ar : arN n.op ≤ (run L k).length
  ht : (pt L k).2.2 ≤ 60
theorem er_ok {L : List Nd} {k : Nat} {n : Nd} (hn : L[k]? = some n) (h : er L k = 0) : ErOk L k n := by
  rw [er_of hn] at h
  by_cases h1 : alE n ≠ 0
  · rw [if_pos h1] at h; exact absurd h h1
  rw [if_neg h1] at h
  by_cases h2 : (run L k).length < arN n.op
  · rw [if_pos h2] at h; cases h
  rw [if_neg h2] at h
  by_cases h3 : 60 < (pt L k).2.2
  · rw [if_pos h3] at h; cases h
  exact ⟨Classical.byContradiction h1, by omega, by omega⟩
theorem run_bd {L : List Nd} {k : Nat} (hk : k ≤ L.length) (h : ∀ j, j < k → er L j = 0) : ∀ x ∈ run L k, x.1 ≤ x.2.1 ∧ x.2.1 < k ∧ x.2.2 ≤ 60 ∧ x = pt L x.2.1 := by
  intro x hx
  obtain ⟨a, b, c⟩ := chn_mem L _ k (chn_run L k hk h) x hx
  have hn : L[x.2.1]? = some L[x.2.1] := List.getElem?_eq_getElem (by omega)
  have := (er_ok hn (h _ a)).ht
  rw [← c] at this
  exact ⟨b, a, this, c⟩
theorem run_len (L : List Nd) (k : Nat) : (run L k).length ≤ k := by
  induction k with
  | zero => exact Nat.le_refl _
  | succ k ih => rw [run_succ, List.length_cons, List.length_drop]; omega
theorem arN_of {n : Nd} (h : alE n = 0) : ((arN n.op : Nat) : Int) = ar n.op := by
  have := alE_ar h
  unfold arN
  omega
/-- The top of a stack, in the order of the list. -/
theorem rev_drop {α : Type} (st : List α) (a : Nat) (h : a ≤ st.length) : st.reverse.drop (st.length - a) = (st.take a).reverse := by
  rw [List.drop_reverse]
  congr 2
  omega
theorem rev_take {α : Type} (st : List α) (a : Nat) (h : a ≤ st.length) : st.reverse.take (st.length - a) = (st.drop a).reverse := by
  rw [List.take_reverse]
  congr 2
  omega
end Go.Proofs.YtkihfkcmcdiajaaGreatDoor.T

namespace Go.Proofs.YtkihfkcmcdiajaaGreatDoor.T
open Go.RowKit
set_option maxRecDepth 100000 in
set_option maxHeartbeats 1000000 in
theorem isDigit_any (c : Int) (w : World) : Calls Tryz.prog 123 #[.int .u8 c] w fun e w' => e = .returned (.bool (dgB c)) ∧ w' = w := by
  by_cases h : 48 ≤ c
  · have HE : Hid (dgB c = decide (c ≤ 57)) := (by show dgB c = _; unfold dgB; rw [decide_eq_true h]; rfl)
    go_enter Tryz.func123, Tryz.ntmps123
    go_wp2
    go_ret
    exact ⟨by rw [HE.out]; rfl, rfl⟩
  · have HE : Hid (dgB c = false) := (by show dgB c = _; unfold dgB; rw [decide_eq_false h]; rfl)
    go_enter Tryz.func123, Tryz.ntmps123
    go_wp2
    go_ret
    exact ⟨by rw [HE.out]; rfl, rfl⟩

set_option maxRecDepth 100000 in
set_option maxHeartbeats 1000000 in
theorem isLetter_any (c : Int) (w : World) : Calls Tryz.prog 124 #[.int .u8 c] w fun e w' => e = .returned (.bool (ltB c)) ∧ w' = w := by
  have HE : Hid (ltB c = ((decide (97 ≤ c) && decide (c ≤ 122)) || (decide (65 ≤ c) && decide (c ≤ 90)))) := rfl
  by_cases h : 97 ≤ c <;> by_cases h1 : c ≤ 122 <;> by_cases h2 : 65 ≤ c <;> by_cases h3 : c ≤ 90
  all_goals
    go_enter Tryz.func124, Tryz.ntmps124
    go_wp2
    go_ret
    refine ⟨ret_bool ?_, rfl⟩
    rw [HE.out]
    simp <;> omega

set_option maxRecDepth 100000 in
set_option maxHeartbeats 2000000 in
theorem arity_any (op : Int) (w : World) : Calls Tryz.prog 40 #[.int .i64 op] w fun e w' => e = .returned (.int .i64 (ar op)) ∧ w' = w := by
  by_cases h1 : op < 1
  · have HE : Hid (ar op = -1) := (by show ar op = _; unfold ar; rw [if_pos (.inl h1)])
    go_enter Tryz.func40, Tryz.ntmps40
    go_wp2
    go_ret
    exact ⟨by rw [HE.out]; rfl, rfl⟩
  by_cases h2 : 23 < op
  · have HE : Hid (ar op = -1) := (by show ar op = _; unfold ar; rw [if_pos (.inr h2)])
    go_enter Tryz.func40, Tryz.ntmps40
    go_wp2
    go_ret
    exact ⟨by rw [HE.out]; rfl, rfl⟩
  by_cases h3 : op ≤ 6
  · have HE : Hid (ar op = 0) := (by show ar op = _; unfold ar; rw [if_neg (by omega), if_pos (.inl h3)])
    go_enter Tryz.func40, Tryz.ntmps40
    go_wp2
    go_ret
    exact ⟨by rw [HE.out]; rfl, rfl⟩
  by_cases h4 : op = 17
  · have HE : Hid (ar op = 0) := (by show ar op = _; unfold ar; rw [if_neg (by omega), if_pos (.inr h4)])
    have e4 : (op == 17) = true := beq_iff_eq.2 h4
    clear h4
    go_enter Tryz.func40, Tryz.ntmps40
    go_wp2
    go_ret
    exact ⟨by rw [HE.out]; rfl, rfl⟩
  have e4 : (op == 17) = false := beq_eq_false_iff_ne.2 h4
  by_cases h5 : op = 7
  · have HE : Hid (ar op = 2) := (by show ar op = _; unfold ar; rw [if_neg (by omega), if_neg (by omega), if_pos (.inl h5)])
    have e5 : (op == 7) = true := beq_iff_eq.2 h5
    clear h5 h4
    go_enter Tryz.func40, Tryz.ntmps40
    go_wp2
    go_ret
    exact ⟨by rw [HE.out]; rfl, rfl⟩
  have e5 : (op == 7) = false := beq_eq_false_iff_ne.2 h5
  by_cases h6 : op = 8
  · have HE : Hid (ar op = 2) := (by show ar op = _; unfold ar; rw [if_neg (by omega), if_neg (by omega), if_pos (.inr h6)])
    have e6 : (op == 8) = true := beq_iff_eq.2 h6
    clear h6 h5 h4
    go_enter Tryz.func40, Tryz.ntmps40
    go_wp2
    go_ret
    exact ⟨by rw [HE.out]; rfl, rfl⟩
  have e6 : (op == 8) = false := beq_eq_false_iff_ne.2 h6
  have HE : Hid (ar op = 1) := (by show ar op = _; unfold ar; rw [if_neg (by omega), if_neg (by omega), if_neg (by omega)])
  clear h6 h5 h4
  go_enter Tryz.func40, Tryz.ntmps40
  go_wp2
  go_ret
  exact ⟨by rw [HE.out]; rfl, rfl⟩
end Go.Proofs.YtkihfkcmcdiajaaGreatDoor.T

namespace Go.Proofs.YtkihfkcmcdiajaaGreatDoor.T
open Go.RowKit
set_option maxRecDepth 100000 in
set_option maxHeartbeats 4000000 in
theorem isName_any (s : ByteArray) (hs : s.size ≤ 140737488355328) (w : World) : Calls Tryz.prog 98 #[.string s] w fun e w' => e = .returned (.bool (nmB s)) ∧ w' = w := by
  have HD : Hid (∀ c w, Calls Tryz.prog 123 #[.int .u8 c] w fun e w' => e = .returned (.bool (dgB c)) ∧ w' = w) := fun c w => isDigit_any c w
  have HL : Hid (∀ c w, Calls Tryz.prog 124 #[.int .u8 c] w fun e w' => e = .returned (.bool (ltB c)) ∧ w' = w) := fun c w => isLetter_any c w
  by_cases h0 : s.size = 0
  · have HE : Hid (nmB s = false) := nmB_f (fun h => by have := h.1; omega)
    have q0 := emp_t h0
    clear h0 HD HL hs
    go_enter Tryz.func98, Tryz.ntmps98
    go_wp2_with fail
    go_ret
    exact ⟨by rw [HE.out]; rfl, rfl⟩
  have q0 := emp_f h0
  by_cases h1 : 32 < s.size
  · have HE : Hid (nmB s = false) := nmB_f (fun h => by have := h.2.1; omega)
    have z1 : (32 : Int) < (s.size : Int) := by omega
    clear h0 HD HL hs
    go_enter Tryz.func98, Tryz.ntmps98
    go_wp2_with fail
    go_ret
    exact ⟨by rw [HE.out]; rfl, rfl⟩
  have z1 : ¬ (32 : Int) < (s.size : Int) := by omega
  have hp : 0 < s.size := by omega
  cases hd : dgB (s[0].toNat : Int) with
  | true =>
    have HE : Hid (nmB s = false) := nmB_f (fun h => by have := h.2.2.1 hp; rw [hd] at this; cases this)
    go_enter Tryz.func98, Tryz.ntmps98
    go_wp2_with fail
    refine (HD.out _ _).mono ?_
    rintro e w ⟨rfl, rfl⟩
    rw [hd]
    clear HD HL hd
    go_wp2_with fail
    go_ret
    exact ⟨by rw [HE.out]; rfl, rfl⟩
  | false =>
    have HN : Hid ((∀ (j : Nat) (h : j < s.size), nmC (s[j].toNat : Int) = true) → nmB s = true) := fun h => nmB_t ⟨hp, by omega, fun _ => hd, h⟩
    have HM : Hid (∀ (j : Nat) (h : j < s.size), nmC (s[j].toNat : Int) = false → nmB s = false) := fun j h e => nmB_f (fun q => by have := q.2.2.2 j h; rw [e] at this; cases this)
    go_enter Tryz.func98, Tryz.ntmps98
    go_wp2_with fail
    refine (HD.out _ _).mono ?_
    rintro e w ⟨rfl, rfl⟩
    rw [hd]
    clear hd
    go_wp2_with fail
    go_loopw [18] (fun t wr => ∃ k : Nat, k ≤ s.size ∧ t = .int .i64 k ∧ wr = w ∧ Hid (∀ (j : Nat) (h : j < s.size), j < k → nmC (s[j].toNat : Int) = true)) (fun t _ => s.size - (intOf t).toNat)
    case atStart => exact ⟨0, by omega, by go_num, rfl, fun j h q => by omega⟩
    case round =>
      obtain ⟨k, hk, rfl, rfl, HI⟩ := hrel
      by_cases hlt : k < s.size
      · have z3 : (0 : Int) ≤ (k : Int) := by omega
        have z4 : (k : Int) < (s.size : Int) := by omega
        have HC : Hid (nmC (s[k].toNat : Int) = (dgB (s[k].toNat : Int) || ltB (s[k].toNat : Int) || (s[k].toNat : Int) == 95)) := rfl
        cases hd2 : dgB (s[k].toNat : Int) with
        | true =>
          have HI2 : Hid (∀ (j : Nat) (h : j < s.size), j < k + 1 → nmC (s[j].toNat : Int) = true) := fun j h q => by
            by_cases hj : j < k
            · exact HI.out j h hj
            · obtain rfl : j = k := by omega
              rw [HC.out, hd2]; rfl
          clear HI HC HN HM
          go_wp2_with fail
          refine (HD.out _ _).mono ?_
          rintro e w ⟨rfl, rfl⟩
          rw [hd2]
          clear hd2 HD HL
          go_wp2_with fail
          go_roundw
          case rel => exact ⟨k + 1, by omega, by go_num, trivial, HI2⟩
          case measure => simp [intOf]; omega
        | false =>
          cases hl2 : ltB (s[k].toNat : Int) with
          | true =>
            have HI2 : Hid (∀ (j : Nat) (h : j < s.size), j < k + 1 → nmC (s[j].toNat : Int) = true) := fun j h q => by
              by_cases hj : j < k
              · exact HI.out j h hj
              · obtain rfl : j = k := by omega
                rw [HC.out, hd2, hl2]; rfl
            clear HI HC HN HM
            go_wp2_with fail
            refine (HD.out _ _).mono ?_
            rintro e w ⟨rfl, rfl⟩
            rw [hd2]
            clear hd2 HD
            go_wp2_with fail
            refine (HL.out _ _).mono ?_
            rintro e w ⟨rfl, rfl⟩
            rw [hl2]
            clear hl2 HL
            go_wp2_with fail
            go_roundw
            case rel => exact ⟨k + 1, by omega, by go_num, trivial, HI2⟩
            case measure => simp [intOf]; omega
          | false =>
            by_cases h95 : (s[k].toNat : Int) = 95
            · have e95 : ((s[k].toNat : Int) == 95) = true := beq_iff_eq.2 h95
              have HI2 : Hid (∀ (j : Nat) (h : j < s.size), j < k + 1 → nmC (s[j].toNat : Int) = true) := fun j h q => by
                by_cases hj : j < k
                · exact HI.out j h hj
                · obtain rfl : j = k := by omega
                  rw [HC.out, hd2, hl2, e95]; rfl
              clear HI HC HN HM h95
              go_wp2_with fail
              refine (HD.out _ _).mono ?_
              rintro e w ⟨rfl, rfl⟩
              rw [hd2]
              clear hd2 HD
              go_wp2_with fail
              refine (HL.out _ _).mono ?_
              rintro e w ⟨rfl, rfl⟩
              rw [hl2]
              clear hl2 HL
              go_wp2_with fail
              go_roundw
              case rel => exact ⟨k + 1, by omega, by go_num, trivial, HI2⟩
              case measure => simp [intOf]; omega
            · have e95 : ((s[k].toNat : Int) == 95) = false := beq_eq_false_iff_ne.2 h95
              have HE : Hid (nmB s = false) := HM.out k hlt (by rw [HC.out, hd2, hl2, e95]; rfl)
              clear HI HC HN HM h95
              go_wp2_with fail
              refine (HD.out _ _).mono ?_
              rintro e w ⟨rfl, rfl⟩
              rw [hd2]
              clear hd2 HD
              go_wp2_with fail
              refine (HL.out _ _).mono ?_
              rintro e w ⟨rfl, rfl⟩
              rw [hl2]
              clear hl2 HL
              go_wp2_with fail
              go_ret
              exact ⟨by rw [HE.out]; rfl, rfl⟩
      · obtain rfl : k = s.size := by omega
        have HE : Hid (nmB s = true) := HN.out (fun j h => HI.out j h h)
        clear HD HL HN HM HI
        go_wp2_with fail
        go_ret
        exact ⟨by rw [HE.out]; rfl, rfl⟩

theorem tm_end (s : ByteArray) (m i : Nat) (h : ¬ i < s.size) : tmGo s m i = true := by
  cases m with
  | zero => rfl
  | succ m => rw [tmGo, dif_neg h]
theorem tm_plain {s : ByteArray} {m i : Nat} (h : i < s.size) (q : s.size ≤ i + m) (e : ¬ (s[i].toNat : Int) = 37) : ∃ m2, s.size ≤ i + 1 + m2 ∧ tmGo s m i = tmGo s m2 (i + 1) := by
  cases m with
  | zero => omega
  | succ m => exact ⟨m, by omega, by rw [tmGo, dif_pos h, if_neg e]⟩
theorem tm_two {s : ByteArray} {m i : Nat} (h : i < s.size) (q : s.size ≤ i + m) (e : (s[i].toNat : Int) = 37) (h2 : i + 1 < s.size) (d : (s[i + 1].toNat : Int) = 37 ∨ dgB (s[i + 1].toNat : Int) = true) : ∃ m2, s.size ≤ i + 2 + m2 ∧ tmGo s m i = tmGo s m2 (i + 2) := by
  cases m with
  | zero => omega
  | succ m => exact ⟨m, by omega, by rw [tmGo, dif_pos h, if_pos e, dif_pos h2, if_pos d]⟩
theorem tm_cut {s : ByteArray} {m i : Nat} (h : i < s.size) (q : s.size ≤ i + m) (e : (s[i].toNat : Int) = 37) (h2 : ¬ i + 1 < s.size) : tmGo s m i = false := by
  cases m with
  | zero => omega
  | succ m => rw [tmGo, dif_pos h, if_pos e, dif_neg h2]
theorem tm_bad {s : ByteArray} {m i : Nat} (h : i < s.size) (q : s.size ≤ i + m) (e : (s[i].toNat : Int) = 37) (h2 : i + 1 < s.size) (d : ¬ (s[i + 1].toNat : Int) = 37) (d2 : dgB (s[i + 1].toNat : Int) = false) : tmGo s m i = false := by
  cases m with
  | zero => omega
  | succ m => rw [tmGo, dif_pos h, if_pos e, dif_pos h2, if_neg (by rw [d2]; simp only [Bool.false_eq_true, or_false]; exact d)]

set_option maxRecDepth 100000 in
set_option maxHeartbeats 4000000 in
theorem isTemplate_any (s : ByteArray) (hs : s.size ≤ 140737488355328) (w : World) : Calls Tryz.prog 99 #[.string s] w fun e w' => e = .returned (.bool (tmB s)) ∧ w' = w := by
  have HD : Hid (∀ c w, Calls Tryz.prog 123 #[.int .u8 c] w fun e w' => e = .returned (.bool (dgB c)) ∧ w' = w) := fun c w => isDigit_any c w
  by_cases h1 : 255 < s.size
  · have HE : Hid (tmB s = false) := (by show tmB s = _; unfold tmB; rw [if_neg (by omega)])
    have z1 : (255 : Int) < (s.size : Int) := by omega
    clear HD hs
    go_enter Tryz.func99, Tryz.ntmps99
    go_wp2_with fail
    go_ret
    exact ⟨by rw [HE.out]; rfl, rfl⟩
  have z1 : ¬ (255 : Int) < (s.size : Int) := by omega
  have HB : Hid (tmB s = tmGo s s.size 0) := (by show tmB s = _; unfold tmB; rw [if_pos (by omega)])
  go_enter Tryz.func99, Tryz.ntmps99
  go_wp2_with fail
  go_loopw [3] (fun t wr => ∃ k : Nat, k ≤ s.size ∧ t = .int .i64 k ∧ wr = w ∧ Hid (∃ m, s.size ≤ k + m ∧ tmB s = tmGo s m k)) (fun t _ => s.size - (intOf t).toNat)
  case atStart => exact ⟨0, by omega, by go_num, rfl, ⟨s.size, by omega, HB.out⟩⟩
  case round =>
    obtain ⟨k, hk, rfl, rfl, HI⟩ := hrel
    clear HB
    obtain ⟨m, hm, HJ⟩ := HI.out
    have HJ := (show Hid _ from HJ)
    clear HI
    by_cases hlt : k < s.size
    · have z3 : (0 : Int) ≤ (k : Int) := by omega
      have z4 : (k : Int) < (s.size : Int) := by omega
      by_cases h37 : (s[k].toNat : Int) = 37
      · have e37 : ((s[k].toNat : Int) == 37) = true := beq_iff_eq.2 h37
        by_cases h2 : k + 1 < s.size
        · have z5 : ((k : Int) + 1 == (s.size : Int)) = false := beq_eq_false_iff_ne.2 (by omega)
          have z6 : (k : Int) + 1 < (s.size : Int) := by omega
          by_cases g37 : (s[k + 1].toNat : Int) = 37
          · have f37 : ((s[k + 1].toNat : Int) != 37) = false := by rw [bne, beq_iff_eq.2 g37]; rfl
            have HK : Hid (∃ m2, s.size ≤ k + 2 + m2 ∧ tmB s = tmGo s m2 (k + 2)) := by
              obtain ⟨m2, u, v⟩ := tm_two hlt hm h37 h2 (.inl g37)
              exact ⟨m2, u, HJ.out.trans v⟩
            clear HJ h37 g37 HD
            go_wp2_with fail
            go_roundw
            case rel => exact ⟨k + 2, by omega, by go_num, trivial, HK⟩
            case measure => simp [intOf]; omega
          · have f37 : ((s[k + 1].toNat : Int) != 37) = true := by rw [bne, beq_eq_false_iff_ne.2 g37]; rfl
            cases hd : dgB (s[k + 1].toNat : Int) with
            | true =>
              have HK : Hid (∃ m2, s.size ≤ k + 2 + m2 ∧ tmB s = tmGo s m2 (k + 2)) := by
                obtain ⟨m2, u, v⟩ := tm_two hlt hm h37 h2 (.inr hd)
                exact ⟨m2, u, HJ.out.trans v⟩
              clear HJ h37 g37
              go_wp2_with fail
              refine (HD.out _ _).mono ?_
              rintro e w ⟨rfl, rfl⟩
              rw [hd]
              clear hd HD
              go_wp2_with fail
              go_roundw
              case rel => exact ⟨k + 2, by omega, by go_num, trivial, HK⟩
              case measure => simp [intOf]; omega
            | false =>
              have HE : Hid (tmB s = false) := HJ.out.trans (tm_bad hlt hm h37 h2 g37 hd)
              clear HJ h37 g37
              go_wp2_with fail
              refine (HD.out _ _).mono ?_
              rintro e w ⟨rfl, rfl⟩
              rw [hd]
              clear hd HD
              go_wp2_with fail
              go_ret
              exact ⟨by rw [HE.out]; rfl, rfl⟩
        · have z5 : ((k : Int) + 1 == (s.size : Int)) = true := beq_iff_eq.2 (by omega)
          have HE : Hid (tmB s = false) := HJ.out.trans (tm_cut hlt hm h37 h2)
          clear HJ h37 HD
          go_wp2_with fail
          go_ret
          exact ⟨by rw [HE.out]; rfl, rfl⟩
      · have e37 : ((s[k].toNat : Int) == 37) = false := beq_eq_false_iff_ne.2 h37
        have HK : Hid (∃ m2, s.size ≤ k + 1 + m2 ∧ tmB s = tmGo s m2 (k + 1)) := by
          obtain ⟨m2, u, v⟩ := tm_plain hlt hm h37
          exact ⟨m2, u, HJ.out.trans v⟩
        clear HJ h37 HD
        go_wp2_with fail
        go_roundw
        case rel => exact ⟨k + 1, by omega, by go_num, trivial, HK⟩
        case measure => simp [intOf]; omega
    · obtain rfl : k = s.size := by omega
      have HE : Hid (tmB s = true) := HJ.out.trans (tm_end s m _ (by omega))
      clear HD HJ
      go_wp2_with fail
      go_ret
      exact ⟨by rw [HE.out]; rfl, rfl⟩
end Go.Proofs.YtkihfkcmcdiajaaGreatDoor.T

namespace Go.Proofs.YtkihfkcmcdiajaaGreatDoor.T
open Go.RowKit
def seE (a b c d a' b' c' d' : Int) : Bool := (a == a') && ((b == b') && ((c == c') && (d == d')))
def ndE (m n : Nd) : Bool := (m.op == n.op) && ((m.nn == n.nn) && ((m.tx.toList == n.tx.toList) && seE m.s0 m.s1 m.s2 m.s3 n.s0 n.s1 n.s2 n.s3))
theorem ndE_refl (m : Nd) : ndE m m = true := by unfold ndE seE; simp
theorem tx_ext {a b : ByteArray} (h : a.toList = b.toList) : a = b := by
  rw [ByteArray.toList_eq, ByteArray.toList_eq] at h
  obtain ⟨x⟩ := a
  obtain ⟨y⟩ := b
  have h2 : x.toList = y.toList := h
  rw [Array.ext' h2]
theorem ndE_eq {m n : Nd} (h : ndE m n = true) : m = n := by
  unfold ndE seE at h
  obtain ⟨a1, a2, a3, a4, a5, a6, a7⟩ := m
  obtain ⟨b1, b2, b3, b4, b5, b6, b7⟩ := n
  simp only [Bool.and_eq_true, beq_iff_eq] at h
  obtain ⟨h1, h2, h3, h4, h5, h6, h7⟩ := h
  rw [h1, h2, tx_ext h3, h4, h5, h6, h7]
theorem ndE_iff {m n : Nd} : ndE m n = true ↔ m = n := ⟨ndE_eq, fun h => by rw [h]; exact ndE_refl n⟩

theorem eq41d (m : Nat) (a b c d a' b' c' d' : Int) (w : World) : (Op.equalIn (m + 2) 49 (.agg #[.int .u64 a, .int .u64 b, .int .u64 c, .int .u64 d]) (.agg #[.int .u64 a', .int .u64 b', .int .u64 c', .int .u64 d'])).run Tryz.prog w = .ok (seE a b c d a' b' c' d') w := by
  have u3 := Tryz.underlying48
  have a3 := Tryz.isAgg48
  have z3 := Tryz.sizeOf48
  rw [Op.equalIn]
  simp only [Sem.run_bind, run_underlying Tryz.underlying49, Result.andThen_ok]
  simp only [Std.Legacy.Range.forIn_eq_forIn_range', Std.Legacy.Range.size, Nat.sub_zero, Nat.add_sub_cancel, Nat.div_one, List.range'_succ, List.range'_zero, List.forIn_cons, List.forIn_nil]
  unfold seE
  cases ha : (a == a')
  · go_simp
  cases hb : (b == b')
  · go_simp
  cases hc : (c == c')
  · go_simp
  cases hd : (d == d')
  · go_simp
  go_simp

theorem eq41 (a b c d a' b' c' d' : Int) (w : World) : (Op.equalIn 9999 49 (.agg #[.int .u64 a, .int .u64 b, .int .u64 c, .int .u64 d]) (.agg #[.int .u64 a', .int .u64 b', .int .u64 c', .int .u64 d'])).run Tryz.prog w = .ok (seE a b c d a' b' c' d') w := eq41d 9997 a b c d a' b' c' d' w
theorem eq41e (a b c d a' b' c' d' : Int) (w : World) : (Op.equalIn 10000 49 (.agg #[.int .u64 a, .int .u64 b, .int .u64 c, .int .u64 d]) (.agg #[.int .u64 a', .int .u64 b', .int .u64 c', .int .u64 d'])).run Tryz.prog w = .ok (seE a b c d a' b' c' d') w := eq41d 9998 a b c d a' b' c' d' w

set_option maxRecDepth 100000 in
set_option maxHeartbeats 2000000 in
theorem node_neq (m n : Nd) (W : World) : (binOp .neq 51 (ndG m) (ndG n)).run Tryz.prog W = .ok (.bool (!ndE m n)) W := by
  have hp : Tryz.prog.stoodInHeld 51 = false := by kernel_rfl
  unfold ndE
  cases ha : (m.op == n.op)
  · simp [go_sem, Tryz.underlying51, Tryz.underlying3, Tryz.underlying9, Tryz.isAgg49, Tryz.isAgg3, Tryz.isAgg9, Tryz.sizeOf49, hp, eq41, ha]
  cases hb : (m.nn == n.nn)
  · simp [go_sem, Tryz.underlying51, Tryz.underlying3, Tryz.underlying9, Tryz.isAgg49, Tryz.isAgg3, Tryz.isAgg9, Tryz.sizeOf49, hp, eq41, ha, hb]
  cases hc : (m.tx.toList == n.tx.toList)
  · simp [go_sem, Tryz.underlying51, Tryz.underlying3, Tryz.underlying9, Tryz.isAgg49, Tryz.isAgg3, Tryz.isAgg9, Tryz.sizeOf49, hp, eq41, ha, hb, hc]
  cases hd : seE m.s0 m.s1 m.s2 m.s3 n.s0 n.s1 n.s2 n.s3
  · simp [go_sem, Tryz.underlying51, Tryz.underlying3, Tryz.underlying9, Tryz.isAgg49, Tryz.isAgg3, Tryz.isAgg9, Tryz.sizeOf49, hp, eq41, ha, hb, hc, hd]
  simp [go_sem, Tryz.underlying51, Tryz.underlying3, Tryz.underlying9, Tryz.isAgg49, Tryz.isAgg3, Tryz.isAgg9, Tryz.sizeOf49, hp, eq41, ha, hb, hc, hd]
theorem set_eql (a b c d a' b' c' d' : Int) (W : World) : (binOp .eql 49 (.agg #[.int .u64 a, .int .u64 b, .int .u64 c, .int .u64 d]) (.agg #[.int .u64 a', .int .u64 b', .int .u64 c', .int .u64 d'])).run Tryz.prog W = .ok (.bool (seE a b c d a' b' c' d')) W := by
  have h := eq41e a b c d a' b' c' d'
  simp [go_sem, h]
theorem seE_zero (op a b c d : Int) (h : ¬ op = 5) : seE a b c d 0 0 0 0 = seF op a b c d := by
  unfold seE seF
  rw [if_neg h]
  by_cases ha : a = 0 <;> by_cases hb : b = 0 <;> by_cases hc : c = 0 <;> by_cases hd : d = 0 <;> simp [ha, hb, hc, hd]
end Go.Proofs.YtkihfkcmcdiajaaGreatDoor.T
