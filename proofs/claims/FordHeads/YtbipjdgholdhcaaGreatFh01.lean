/- FordHeads (10.2, 10.3): of any grammar and any number, the heads of the rule and the loops that the program tells are those that the document tells, and the grammar stays as it is; for grammars within the reach of the form. -/
import Derived.BigQuiet
import Derived.Test.YtbipjdgholdhcaaGreatRows
import Derived.Test.YtbipjdgholdhcaaGreatFi19
namespace Go.Proofs.YtbipjdgholdhcaaGreat.N
open Go.RowKit
/-- The numbers of what is set. -/
def lsB (l : List Bool) : List Nat := (List.range l.length).filter fun i => (l[i]?).getD false
end Go.Proofs.YtbipjdgholdhcaaGreat.N

namespace Go.Proofs.YtbipjdgholdhcaaGreat.N
open Go.RowKit Go.Maps
open Go.Proofs.YtbipjdgholdhcaaGreat.T

open U (nI own_get own_slice wpList_app1 below_grown TT Out info_split)
theorem lsB_snoc (l : List Bool) (b : Bool) : lsB (l ++ [b]) = lsB l ++ (if b then [l.length] else []) := by
  unfold lsB
  rw [List.length_append, List.length_singleton, List.range_succ, List.filter_append]
  congr 1
  · refine List.filter_congr fun i hi => ?_
    rw [List.getElem?_append_left (List.mem_range.1 hi)]
  · rw [List.filter_cons, List.getElem?_append_right (Nat.le_refl _), Nat.sub_self]
    cases b <;> rfl
theorem lsB_take {l : List Bool} {k : Nat} {b : Bool} (h : l[k]? = some b) : lsB (l.take (k + 1)) = lsB (l.take k) ++ (if b then [k] else []) := by
  have hk := (List.getElem?_eq_some_iff.1 h).1
  rw [List.take_add_one, h]
  have := lsB_snoc (l.take k) b
  rw [List.length_take, Nat.min_eq_left (by omega)] at this
  exact this
/-- While numbers are listed. -/
structure LsS (w wr : World) (u : Value) (ls : List Nat) : Prop where
  b : Below w.heap.size w wr
  o : wr.ownsRow w.heap.size 3 1 u ls.length (ls.map nI)
theorem LsS.push {w wr w5 : World} {u u' : Value} {ls : List Nat} {k : Nat} (h : LsS w wr u ls) (ho : w5.ownsRow w.heap.size 3 1 u' (ls.length + 1) (ls.map nI ++ [nI k])) (hg : wr.grownBy w5 u.ownBlock) : LsS w w5 u' (ls ++ [k]) :=
  ⟨below_grown h.b hg (fun j e => (h.o.lt j e).1), by rw [List.length_append, List.map_append]; exact ho⟩
end Go.Proofs.YtbipjdgholdhcaaGreat.N

namespace Go.Proofs.YtbipjdgholdhcaaGreat.N
open Go.RowKit Go.Maps
open Go.Proofs.YtbipjdgholdhcaaGreat.T
theorem spc_len (l : List (Nat × Nat)) : (spc l).length = l.length * 2 := by
  induction l with
  | nil => rfl
  | cons a l ih => show (spV a ++ spc l).length = _; rw [List.length_append, ih, List.length_cons]; show 2 + _ = _; omega
end Go.Proofs.YtbipjdgholdhcaaGreat.N

namespace Go.Proofs.YtbipjdgholdhcaaGreat.N
open Go.RowKit Go.Maps
open Go.Proofs.YtbipjdgholdhcaaGreat.T

open U (nI own_get own_slice wpList_app1 below_grown TT Out info_split)
set_option maxRecDepth 100000 in
set_option maxHeartbeats 8000000 in
theorem listed_any (l : List Bool) (hl : l.length ≤ 200) {B4 : Nat} {v : Value} (w : World) (ho : w.ownsRow B4 4 1 v l.length (l.map Value.bool)) :
    Calls Tryz.prog 30 #[v] w fun e w' => (∃ u, e = .returned u ∧ w'.ownsRow w.heap.size 3 1 u (lsB l).length ((lsB l).map nI)) ∧ Below w.heap.size w w' := by
  obtain ⟨Av, cv, rfl⟩ := own_slice ho
  have HC := (show Hid (∀ (k : Nat) b, l[k]? = some b → ∃ g, Av = some ⟨g, 0, none⟩ ∧ g < w.heap.size ∧ w.cell? ⟨g, k, none⟩ = some (.bool b)) from fun k b hk => by
    obtain ⟨g, cp, e, _, lt, x, _⟩ := own_get ho (j := k) (x := .bool b) (by rw [List.getElem?_map, hk]; rfl)
    have e1 : Av = some ⟨g, 0, none⟩ := by injection e
    exact ⟨g, e1, lt, x⟩)
  have HS := (show Hid (LsS w w (.slice none 0 0) (lsB (l.take 0))) from ⟨Below.refl _ _, World.ownsRow_nil _ _ _ _⟩)
  clear ho
  go_enter Tryz.func30, Tryz.ntmps30
  go_wp2_with fail
  go_loopw [3, 4] (fun u t wr => ∃ (k m : Nat) (ls : List Nat) (A2 : Option Addr) (c2 : Nat), k ≤ l.length ∧ t = .int .i64 (k : Int) ∧ u = .slice A2 m c2 ∧ m ≤ k ∧ Hid (ls.length = m ∧ ls = lsB (l.take k)) ∧ Hid (LsS w wr (.slice A2 m c2) ls)) (fun _ t _ => l.length - (intOf t).toNat)
  case atStart => exact ⟨0, 0, lsB (l.take 0), none, 0, by omega, by go_num, rfl, by omega, ⟨rfl, rfl⟩, HS⟩
  case round =>
    obtain ⟨k, m, ls, A2, c2, hk, rfl, rfl, hm, HL, HW⟩ := hrel
    clear HS
    by_cases hlt : k < l.length
    · obtain ⟨b, hb⟩ : ∃ b, l[k]? = some b := ⟨_, List.getElem?_eq_getElem hlt⟩
      obtain ⟨g, rfl, ltg, xg⟩ := HC.out k b hb
      have xg' := (HW.out.b.cell (p := ⟨g, k, none⟩) ltg).trans xg
      have z0 : (0 : Int) ≤ (k : Int) := by omega
      have z1 : (k : Int) < (l.length : Int) := by omega
      have HT := (show Hid (lsB (l.take (k + 1)) = lsB (l.take k) ++ (if b then [k] else [])) from lsB_take hb)
      clear HC hb xg ltg
      cases b with
      | true =>
        have HL2 := (show Hid ((ls ++ [k]).length = m + 1 ∧ ls ++ [k] = lsB (l.take (k + 1))) from ⟨by rw [List.length_append, HL.out.1]; rfl, by rw [HT.out, ← HL.out.2]; rfl⟩)
        have HO := (show Hid (wr.ownsRow w.heap.size 3 1 (.slice A2 m c2) m (ls.map nI)) from by have h := HW.out.o; rw [HL.out.1] at h; exact h)
        have HBw := (show Hid (w.heap.size ≤ wr.heap.size) from HW.out.b.size)
        have HPu := (show Hid (∀ (u' : Value) (w5 : World), w5.ownsRow w.heap.size 3 1 u' (m + 1) (ls.map nI ++ [nI k]) → wr.grownBy w5 (Value.slice A2 m c2).ownBlock → LsS w w5 u' (ls ++ [k])) from fun u' w5 h1 h2 => HW.out.push (by rw [HL.out.1]; exact h1) h2)
        clear HT HL HW
        go_wp2_with (at_builtin; refine wpList_app1 rfl _ _ 26 rfl (.int .i64 0) 8 Tryz.underlying26 Tryz.info3 rfl w.heap.size m _ (ls.map nI) rfl rfl HO.out rfl (by omega) (by decide) HBw.out ?_; intro g3 cap3 w5 ho5 hg5 hat5 hl5; have HW5 := (show Hid (LsS w w5 (.slice (some ⟨g3, 0, none⟩) (m + 1) cap3) (ls ++ [k])) from HPu.out _ _ ho5 hg5); clear ho5 hg5 hat5 hl5 HPu HO HBw xg')
        go_roundw
        case rel => exact ⟨k + 1, m + 1, ls ++ [k], some ⟨g3, 0, none⟩, cap3, by omega, by go_num, rfl, by omega, HL2, HW5⟩
        case measure => simp [intOf]; omega
      | false =>
        have HL2 := (show Hid (ls.length = m ∧ ls = lsB (l.take (k + 1))) from ⟨HL.out.1, by rw [HT.out, ← HL.out.2]; exact (List.append_nil ls).symm⟩)
        clear HT HL
        go_wp2_with fail
        go_roundw
        case rel => exact ⟨k + 1, m, ls, A2, c2, by omega, by go_num, rfl, by omega, HL2, HW⟩
        case measure => simp [intOf]; omega
    · obtain rfl : k = l.length := by omega
      have HO := (show Hid (wr.ownsRow w.heap.size 3 1 (.slice A2 m c2) (lsB l).length ((lsB l).map nI)) from by
        show World.ownsRow _ _ _ _ _ _ _
        have h := HL.out.2
        rw [List.take_length] at h
        rw [← h]
        exact HW.out.o)
      have HB := (show Hid (Below w.heap.size w wr) from HW.out.b)
      clear HW HL HC
      go_wp2_with fail
      go_ret
      exact ⟨⟨_, rfl, HO.out⟩, HB.out⟩
end Go.Proofs.YtbipjdgholdhcaaGreat.N

namespace Go.Proofs.YtbipjdgholdhcaaGreat.N
open Go.RowKit Go.Maps
open Go.Proofs.YtbipjdgholdhcaaGreat.T

open U (below_grown own_get own_slice TT)
/-- What Loops says, by the program. -/
def LoR (gs : GL) (w w' : World) (e : Ending) : Prop := ((ckG gs).2 ≠ 0 → e = .returned (.tuple #[.slice none 0 0, .int .i64 (ckG gs).2])) ∧ ((ckG gs).2 = 0 → ∃ now v, KnF gs now ∧ now.length = gs.length ∧ e = .returned (.tuple #[v, .int .i64 0]) ∧ w'.ownsRow w.heap.size 28 2 v (lpG gs (nbE now) gs.length).length (spc (lpG gs (nbE now) gs.length)))

set_option maxRecDepth 100000 in
set_option maxHeartbeats 16000000 in
/-- Loops, by the program. -/
theorem floops_any (gs : GL) (A : Option Addr) (c : Nat) (w : World) (hp : GI w A gs) :
    Calls Tryz.prog 15 #[.agg #[.slice A gs.length c]] w fun e w' => LoR gs w w' e ∧ Below w.heap.size w w' := by
  obtain ⟨w1, hw1⟩ : ∃ w1, w1 = w.alloc (.cells #[.slice A gs.length c] 24) := ⟨_, rfl⟩
  have HE1 := (show Hid (w.alloc (.cells #[.slice A gs.length c] 24) = w1) from hw1.symm)
  have HS := (show Hid (Below w.heap.size w w1 ∧ GX w1 w.heap.size (.slice A gs.length c)) from by rw [hw1]; exact ⟨below_box _ _, GX.mk (heap_alloc_new w _)⟩)
  have HVw := (show Hid (∀ _ : Unit, Calls Tryz.prog 28 #[.agg #[.slice A gs.length c]] w1 fun e w' => VwR w1 w' gs A c e ∧ Below w1.heap.size w1 w') from fun _ => viewOf_any gs A c w1 (hp.later HS.out.1))
  have HP := (show Hid (GI w A gs) from hp)
  have q1 := HS.out.2.cl
  clear hw1 hp
  go_enter Tryz.func15, Tryz.ntmps15
  go_wp2_with (rw [HE1.out])
  refine (HVw.out ()).mono ?_
  rintro e w2 ⟨hvw, b2⟩
  have HS2 := (show Hid (Below w.heap.size w w2 ∧ GX w2 w.heap.size (.slice A gs.length c)) from ⟨HS.out.1.trans (b2.mono HS.out.1.size), HS.out.2.below b2⟩)
  clear HVw HE1 q1 HS b2
  by_cases hz : (ckG gs).2 = 0
  · obtain ⟨mb, Ak, ck, now, rfl, hm, hk, hkf, hnl, hok, _⟩ := hvw.2 hz
    have hR := ckG_ok.1 hz
    have hn2 := hR.n2
    obtain ⟨w3, hw3⟩ : ∃ w3, w3 = w2.alloc (.cells #[.slice A gs.length c, .map (some mb), .slice Ak gs.length ck] 71) := ⟨_, rfl⟩
    have HE3 := (show Hid (w2.alloc (.cells #[.slice A gs.length c, .map (some mb), .slice Ak gs.length ck] 71) = w3) from hw3.symm)
    have hb3 : Below w2.heap.size w2 w3 := by rw [hw3]; exact below_box _ _
    have HX3 := (show Hid (VX w3 w2.heap.size (.slice A gs.length c) (.map (some mb)) (.slice Ak gs.length ck)) from by rw [hw3]; exact VX.new w2 _ _ _)
    have HB3 := (show Hid (Below w.heap.size w w3) from HS2.out.1.trans (hb3.mono HS2.out.1.size))
    have HV := (show Hid (VwO w3 gs A mb Ak now) from ⟨hR, HP.out.later HB3.out, hm.later hb3, hk.later hb3, hnl⟩)
    have HKn := (show Hid (KnF gs now ∧ now.length = gs.length ∧ (ckG gs).2 = 0) from ⟨hkf, hnl, hz⟩)
    have y0 := HX3.out.c0
    have y1 := HX3.out.c1
    have y2 := HX3.out.c2
    have q3 := (HS2.out.2.below hb3).cl
    clear hvw hm hk hkf hnl hok hz hR hw3 hb3 HX3 HS2 HP
    have HLo := (show Hid (∀ _ : Unit, Calls Tryz.prog 33 #[.agg #[.slice A gs.length c, .map (some mb), .slice Ak gs.length ck]] w3 fun e w' => (∃ v, e = .returned v ∧ w'.ownsRow w3.heap.size 28 2 v (lpG gs (nbE now) gs.length).length (spc (lpG gs (nbE now) gs.length))) ∧ Below w3.heap.size w3 w') from fun _ => vloops_any mb A Ak c ck w3 HV.out)
    go_wp2_with (rw [HE3.out])
    refine (HLo.out ()).mono ?_
    rintro e w4 ⟨⟨v, rfl, ho⟩, b4⟩
    have HF := (show Hid (w4.ownsRow w.heap.size 28 2 v (lpG gs (nbE now) gs.length).length (spc (lpG gs (nbE now) gs.length)) ∧ Below w.heap.size w w4) from ⟨own_base ho HB3.out.size, HB3.out.trans (b4.mono HB3.out.size)⟩)
    clear ho b4 HLo HE3 y0 y1 y2 q3
    go_wp2_with fail
    refine bodyPost_ret (v := .tuple #[v, .int .i64 0]) (by simp [results, Tryz.results15, go_sem]) rfl ?_
    exact ⟨⟨fun q => absurd HKn.out.2.2 q, fun _ => ⟨now, v, HKn.out.1, HKn.out.2.1, rfl, HF.out.1⟩⟩, HF.out.2⟩
  · have e1 := hvw.1 hz
    subst e1
    have tz : ((ckG gs).2 != 0) = true := by rw [bne, beq_eq_false_iff_ne.2 hz]; rfl
    have HZ := (show Hid ((ckG gs).2 ≠ 0) from hz)
    obtain ⟨w3, hw3⟩ : ∃ w3, w3 = w2.alloc (.cells #[.slice none 0 0, .map none, .slice none 0 0] 71) := ⟨_, rfl⟩
    have HE3 := (show Hid (w2.alloc (.cells #[.slice none 0 0, .map none, .slice none 0 0] 71) = w3) from hw3.symm)
    have HB3 := (show Hid (Below w.heap.size w w3) from by rw [hw3]; exact HS2.out.1.trans ((below_box _ _).mono HS2.out.1.size))
    clear hvw hz hw3 HS2 HP
    go_wp2_with fail
    rw [HE3.out]
    refine bodyPost_ret (v := .tuple #[.slice none 0 0, .int .i64 (ckG gs).2]) (by simp [results, Tryz.results15, go_sem]) rfl ?_
    exact ⟨⟨fun _ => rfl, fun q => absurd q HZ.out⟩, HB3.out⟩
end Go.Proofs.YtbipjdgholdhcaaGreat.N

namespace Go.Proofs.YtbipjdgholdhcaaGreat.N
open Go.RowKit Go.Maps
open Go.Proofs.YtbipjdgholdhcaaGreat.T

open U (below_grown own_get own_slice TT)
theorem lsB_map (n : Nat) (c : Nat → Bool) : lsB ((List.range n).map c) = (List.range n).filter c := by
  unfold lsB
  rw [List.length_map, List.length_range]
  refine List.filter_congr fun i hi => ?_
  rw [List.getElem?_map, List.getElem?_range (List.mem_range.1 hi)]
  rfl
/-- What Heads says, by the document. -/
def HdD (gs : GL) (now : List Em) (B : Nat) (w' : World) (i : Int) (e : Ending) : Prop := ((ckG gs).2 ≠ 0 → e = .returned (.tuple #[.slice none 0 0, .int .i64 (ckG gs).2])) ∧ ((ckG gs).2 = 0 → (i < 0 ∨ (gs.length : Int) ≤ i → e = .returned (.tuple #[.slice none 0 0, .int .i64 1])) ∧ (∀ r : Nat, i = (r : Int) → r < gs.length → ∃ v, e = .returned (.tuple #[v, .int .i64 0]) ∧ w'.ownsRow B 3 1 v (hdl gs.length (hdM gs (nbE now)) r).length ((hdl gs.length (hdM gs (nbE now)) r).map U.nI)))
set_option maxRecDepth 100000 in
set_option maxHeartbeats 16000000 in
theorem headsD10_any {gs : GL} {now : List Em} (hk : (ckG gs).2 = 0 → KnF gs now ∧ now.length = gs.length) (A : Option Addr) (c : Nat) (i : Int) (w : World) (hp : GI w A gs) :
    Calls Tryz.prog 14 #[.agg #[.slice A gs.length c], .int .i64 i] w fun e w' => HdD gs now w.heap.size w' i e ∧ Below w.heap.size w w' := by
  obtain ⟨w1, hw1⟩ : ∃ w1, w1 = w.alloc (.cells #[.slice A gs.length c] 24) := ⟨_, rfl⟩
  have HE1 := (show Hid (w.alloc (.cells #[.slice A gs.length c] 24) = w1) from hw1.symm)
  have HS := (show Hid (Below w.heap.size w w1 ∧ GX w1 w.heap.size (.slice A gs.length c)) from by rw [hw1]; exact ⟨below_box _ _, GX.mk (heap_alloc_new w _)⟩)
  have HCk := (show Hid (∀ _ : Unit, Calls Tryz.prog 21 #[.agg #[.slice A gs.length c]] w1 fun e w' => e = .returned (.tuple #[.agg #[.int .i64 (ckG gs).1.1, .int .i64 (ckG gs).1.2], .int .i64 (ckG gs).2]) ∧ Below w1.heap.size w1 w') from fun _ => checkD_any gs A c w1 (hp.later HS.out.1))
  have HP := (show Hid (GI w A gs) from hp)
  have q1 := HS.out.2.cl
  clear hw1 hp
  go_enter Tryz.func14, Tryz.ntmps14
  go_wp2_with (rw [HE1.out])
  refine (HCk.out ()).mono ?_
  rintro e w2 ⟨rfl, b2⟩
  obtain ⟨w3, hw3⟩ : ∃ w3, w3 = w2.alloc (.cells #[.int .i64 ((ckG gs).1.1 : Int), .int .i64 ((ckG gs).1.2 : Int)] 28) := ⟨_, rfl⟩
  have HE3 := (show Hid (w2.alloc (.cells #[.int .i64 ((ckG gs).1.1 : Int), .int .i64 ((ckG gs).1.2 : Int)] 28) = w3) from hw3.symm)
  have hb3 : Below w2.heap.size w2 w3 := by rw [hw3]; exact below_box _ _
  have HB3 := (show Hid (Below w.heap.size w w3 ∧ GX w3 w.heap.size (.slice A gs.length c)) from ⟨(HS.out.1.trans (b2.mono HS.out.1.size)).trans (hb3.mono (HS.out.1.trans (b2.mono HS.out.1.size)).size), (HS.out.2.below b2).below hb3⟩)
  have q3 := HB3.out.2.cl
  clear HCk HE1 q1 HS b2 hw3 hb3
  by_cases hz : (ckG gs).2 = 0
  · have tz : ((ckG gs).2 != 0) = false := by rw [hz]; rfl
    have HK := (show Hid (KnF gs now ∧ now.length = gs.length ∧ (ckG gs).2 = 0) from ⟨(hk hz).1, (hk hz).2, hz⟩)
    clear hk hz
    by_cases h0 : i < 0
    · have HI := (show Hid (i < 0) from h0)
      go_wp2_with (rw [HE3.out])
      refine bodyPost_ret (v := .tuple #[.slice none 0 0, .int .i64 1]) (by simp [results, Tryz.results14, go_sem]) rfl ?_
      exact ⟨⟨fun q => absurd HK.out.2.2 q, fun _ => ⟨fun _ => rfl, fun r e1 _ => by have := HI.out; omega⟩⟩, HB3.out.1⟩
    · obtain ⟨r, rfl⟩ : ∃ r : Nat, i = (r : Int) := ⟨i.toNat, by omega⟩
      by_cases h1 : r < gs.length
      · have h2 : ¬ (gs.length : Int) ≤ (r : Int) := by omega
        have HI := (show Hid (r < gs.length) from h1)
        have HKe := (show Hid (∀ W, Below w3.heap.size w3 W → W.cell? ⟨w.heap.size, 0, none⟩ = some (.slice A gs.length c)) from fun W hW => (HB3.out.2.below hW).cl)
        have HC1 := (show Hid (∀ W, Below w3.heap.size w3 W → Calls Tryz.prog 32 #[.agg #[.slice A gs.length c]] W fun e w' => (∃ gI ci, e = .returned (.slice (some ⟨gI, 0, none⟩) gs.length ci) ∧ RdB w' gI (nbE now)) ∧ Below w3.heap.size w3 w') from fun W hW => by
          have hR := ckG_ok.1 HK.out.2.2
          refine (nullableD_any hR HK.out.1 HK.out.2.1 A c W (HP.out.later (HB3.out.1.trans (hW.mono HB3.out.1.size)))).mono ?_
          rintro e w' ⟨⟨v, rfl, ho⟩, b⟩
          obtain ⟨gI, ci, rfl, _⟩ := ho.form hR.n1
          exact ⟨⟨gI, ci, rfl, rdB_own ho⟩, hW.trans (b.mono hW.size)⟩)
        have HC2 := (show Hid (∀ W gI ci, Below w3.heap.size w3 W → RdB W gI (nbE now) → Calls Tryz.prog 31 #[.agg #[.slice A gs.length c], .int .i64 (r : Int), .slice (some ⟨gI, 0, none⟩) gs.length ci] W fun e w' => (∃ Ab cb, e = .returned (.slice Ab gs.length cb) ∧ w'.ownsRow w3.heap.size 4 1 (.slice Ab gs.length cb) gs.length (((List.range gs.length).map (hdM gs (nbE now) r)).map Value.bool)) ∧ Below w3.heap.size w3 w') from fun W gI ci hW hI => by
          have hR := ckG_ok.1 HK.out.2.2
          refine (headsM_any hR (nbE now) (by unfold nbE; rw [List.length_map]; exact HK.out.2.1) HI.out A c gI ci W (HP.out.later (HB3.out.1.trans (hW.mono HB3.out.1.size))) hI).mono ?_
          rintro e w' ⟨⟨v, rfl, ho⟩, b⟩
          obtain ⟨Ab, cb, rfl⟩ := own_slice ho
          exact ⟨⟨Ab, cb, rfl, own_base ho hW.size⟩, hW.trans (b.mono hW.size)⟩)
        have HC3 := (show Hid (∀ W Ab cb, Below w3.heap.size w3 W → W.ownsRow w3.heap.size 4 1 (.slice Ab gs.length cb) gs.length (((List.range gs.length).map (hdM gs (nbE now) r)).map Value.bool) → Calls Tryz.prog 30 #[.slice Ab gs.length cb] W fun e w' => (∃ v, e = .returned v ∧ w'.ownsRow w3.heap.size 3 1 v (hdl gs.length (hdM gs (nbE now)) r).length ((hdl gs.length (hdM gs (nbE now)) r).map U.nI)) ∧ Below w3.heap.size w3 w') from fun W Ab cb hW ho => by
          have hR := ckG_ok.1 HK.out.2.2
          have h := listed_any ((List.range gs.length).map (hdM gs (nbE now) r)) (by rw [List.length_map, List.length_range]; exact hR.n2) (B4 := w3.heap.size) (v := .slice Ab gs.length cb) W (by rw [List.length_map, List.length_range]; exact ho)
          rw [lsB_map] at h
          refine h.mono ?_
          rintro e w' ⟨⟨v, rfl, ho⟩, b⟩
          exact ⟨⟨v, rfl, own_base ho hW.size⟩, hW.trans (b.mono hW.size)⟩)
        clear HP
        go_wp2_with (rw [HE3.out])
        go_region_held3 (fun W => W.cell? ⟨w.heap.size, 0, none⟩ = some (.slice A gs.length c)) (first | go_keep | exact HKe.out _ bA | exact HKe.out _ bB | exact HKe.out _ bC) (first | (go_at_call 32; with_reducible refine (HC1.out _ (Below.refl _ _).drew).mono ?_; rintro e wA ⟨⟨gI, ci, rfl, rI⟩, bA⟩) | (go_at_call 31; with_reducible refine (HC2.out _ _ _ bA rI).mono ?_; rintro e wB ⟨⟨Ab, cb, rfl, oB⟩, bB⟩) | (go_at_call 30; with_reducible refine (HC3.out _ _ _ bB oB).mono ?_; rintro e wC ⟨⟨v, rfl, oC⟩, bC⟩))
        rename_i hHeld
        have HF := (show Hid (wC.ownsRow w.heap.size 3 1 v (hdl gs.length (hdM gs (nbE now)) r).length ((hdl gs.length (hdM gs (nbE now)) r).map U.nI) ∧ Below w.heap.size w wC) from ⟨own_base oC HB3.out.1.size, HB3.out.1.trans (bC.mono HB3.out.1.size)⟩)
        clear hHeld rI bA oB bB oC bC HC1 HC2 HC3 HKe HE3 q3
        go_wp2_with fail
        refine bodyPost_ret (v := .tuple #[v, .int .i64 0]) (by simp [results, Tryz.results14, go_sem]) rfl ?_
        exact ⟨⟨fun q => absurd HK.out.2.2 q, fun _ => ⟨fun q => by have := HI.out; omega, fun r2 e1 _ => by
          have e2 : r = r2 := by omega
          subst e2
          exact ⟨v, rfl, HF.out.1⟩⟩⟩, HF.out.2⟩
      · have h2 : (gs.length : Int) ≤ (r : Int) := by omega
        have HI := (show Hid (¬ r < gs.length) from h1)
        go_wp2_with (rw [HE3.out])
        refine bodyPost_ret (v := .tuple #[.slice none 0 0, .int .i64 1]) (by simp [results, Tryz.results14, go_sem]) rfl ?_
        exact ⟨⟨fun q => absurd HK.out.2.2 q, fun _ => ⟨fun _ => rfl, fun r2 e1 h3 => by have := HI.out; omega⟩⟩, HB3.out.1⟩
  · have tz : ((ckG gs).2 != 0) = true := by rw [bne, beq_eq_false_iff_ne.2 hz]; rfl
    have HZ := (show Hid ((ckG gs).2 ≠ 0) from hz)
    clear hz hk HP
    go_wp2_with (rw [HE3.out])
    refine bodyPost_ret (v := .tuple #[.slice none 0 0, .int .i64 (ckG gs).2]) (by simp [results, Tryz.results14, go_sem]) rfl ?_
    exact ⟨⟨fun _ => rfl, fun q => absurd q HZ.out⟩, HB3.out.1⟩
end Go.Proofs.YtbipjdgholdhcaaGreat.N

namespace Go.Proofs.YtbipjdgholdhcaaGreat.N
open Go.RowKit Go.Maps
open Go.Proofs.YtbipjdgholdhcaaGreat.T

open U (below_grown own_get own_slice TT)
/-- What Loops says, by the document. -/
def LoDR (gs : GL) (now : List Em) (B : Nat) (w' : World) (e : Ending) : Prop := ((ckG gs).2 ≠ 0 → e = .returned (.tuple #[.slice none 0 0, .int .i64 (ckG gs).2])) ∧ ((ckG gs).2 = 0 → ∃ v, e = .returned (.tuple #[v, .int .i64 0]) ∧ w'.ownsRow B 28 2 v (lpG gs (nbE now) gs.length).length (spc (lpG gs (nbE now) gs.length)))
set_option maxRecDepth 100000 in
set_option maxHeartbeats 16000000 in
theorem loopsD10_any {gs : GL} {now : List Em} (hk : (ckG gs).2 = 0 → KnF gs now ∧ now.length = gs.length) (A : Option Addr) (c : Nat) (w : World) (hp : GI w A gs) :
    Calls Tryz.prog 16 #[.agg #[.slice A gs.length c]] w fun e w' => LoDR gs now w.heap.size w' e ∧ Below w.heap.size w w' := by
  obtain ⟨w1, hw1⟩ : ∃ w1, w1 = w.alloc (.cells #[.slice A gs.length c] 24) := ⟨_, rfl⟩
  have HE1 := (show Hid (w.alloc (.cells #[.slice A gs.length c] 24) = w1) from hw1.symm)
  have HS := (show Hid (Below w.heap.size w w1 ∧ GX w1 w.heap.size (.slice A gs.length c)) from by rw [hw1]; exact ⟨below_box _ _, GX.mk (heap_alloc_new w _)⟩)
  have HCk := (show Hid (∀ _ : Unit, Calls Tryz.prog 21 #[.agg #[.slice A gs.length c]] w1 fun e w' => e = .returned (.tuple #[.agg #[.int .i64 (ckG gs).1.1, .int .i64 (ckG gs).1.2], .int .i64 (ckG gs).2]) ∧ Below w1.heap.size w1 w') from fun _ => checkD_any gs A c w1 (hp.later HS.out.1))
  have HP := (show Hid (GI w A gs) from hp)
  have q1 := HS.out.2.cl
  clear hw1 hp
  go_enter Tryz.func16, Tryz.ntmps16
  go_wp2_with (rw [HE1.out])
  refine (HCk.out ()).mono ?_
  rintro e w2 ⟨rfl, b2⟩
  obtain ⟨w3, hw3⟩ : ∃ w3, w3 = w2.alloc (.cells #[.int .i64 ((ckG gs).1.1 : Int), .int .i64 ((ckG gs).1.2 : Int)] 28) := ⟨_, rfl⟩
  have HE3 := (show Hid (w2.alloc (.cells #[.int .i64 ((ckG gs).1.1 : Int), .int .i64 ((ckG gs).1.2 : Int)] 28) = w3) from hw3.symm)
  have hb3 : Below w2.heap.size w2 w3 := by rw [hw3]; exact below_box _ _
  have HB3 := (show Hid (Below w.heap.size w w3 ∧ GX w3 w.heap.size (.slice A gs.length c)) from ⟨(HS.out.1.trans (b2.mono HS.out.1.size)).trans (hb3.mono (HS.out.1.trans (b2.mono HS.out.1.size)).size), (HS.out.2.below b2).below hb3⟩)
  have q3 := HB3.out.2.cl
  clear HCk HE1 q1 HS b2 hw3 hb3
  by_cases hz : (ckG gs).2 = 0
  · have tz : ((ckG gs).2 != 0) = false := by rw [hz]; rfl
    have HK := (show Hid (KnF gs now ∧ now.length = gs.length ∧ (ckG gs).2 = 0) from ⟨(hk hz).1, (hk hz).2, hz⟩)
    clear hk hz
    have HLo := (show Hid (∀ _ : Unit, Calls Tryz.prog 26 #[.agg #[.slice A gs.length c]] w3 fun e w' => (∃ v, e = .returned v ∧ w'.ownsRow w3.heap.size 28 2 v (lpG gs (nbE now) gs.length).length (spc (lpG gs (nbE now) gs.length))) ∧ Below w3.heap.size w3 w') from fun _ => loopsG_any (ckG_ok.1 HK.out.2.2) HK.out.1 HK.out.2.1 A c w3 (HP.out.later HB3.out.1))
    go_wp2_with (rw [HE3.out])
    refine (HLo.out ()).mono ?_
    rintro e w4 ⟨⟨v, rfl, ho⟩, b4⟩
    have HF := (show Hid (w4.ownsRow w.heap.size 28 2 v (lpG gs (nbE now) gs.length).length (spc (lpG gs (nbE now) gs.length)) ∧ Below w.heap.size w w4) from ⟨own_base ho HB3.out.1.size, HB3.out.1.trans (b4.mono HB3.out.1.size)⟩)
    clear ho b4 HLo HE3 q3
    go_wp2_with fail
    refine bodyPost_ret (v := .tuple #[v, .int .i64 0]) (by simp [results, Tryz.results16, go_sem]) rfl ?_
    exact ⟨⟨fun q => absurd HK.out.2.2 q, fun _ => ⟨v, rfl, HF.out.1⟩⟩, HF.out.2⟩
  · have tz : ((ckG gs).2 != 0) = true := by rw [bne, beq_eq_false_iff_ne.2 hz]; rfl
    have HZ := (show Hid ((ckG gs).2 ≠ 0) from hz)
    clear hz hk HP
    go_wp2_with (rw [HE3.out])
    refine bodyPost_ret (v := .tuple #[.slice none 0 0, .int .i64 (ckG gs).2]) (by simp [results, Tryz.results16, go_sem]) rfl ?_
    exact ⟨⟨fun _ => rfl, fun q => absurd q HZ.out⟩, HB3.out.1⟩
end Go.Proofs.YtbipjdgholdhcaaGreat.N

namespace Go.Proofs.YtbipjdgholdhcaaGreat.N
open Go.RowKit Go.Maps
open Go.Proofs.YtbipjdgholdhcaaGreat.T

open U (own_get own_slice below_grown)
theorem sps_get (l : List (Nat × Nat)) : ∀ (k : Nat) s, l[k]? = some s → (spc l)[k * 2]? = some (.int .i64 (s.1 : Int)) ∧ (spc l)[k * 2 + 1]? = some (.int .i64 (s.2 : Int)) := by
  induction l with
  | nil => intro k s h; cases h
  | cons a l ih =>
    intro k s h
    have e : spc (a :: l) = .int .i64 (a.1 : Int) :: .int .i64 (a.2 : Int) :: spc l := rfl
    rw [e]
    cases k with
    | zero => cases h; exact ⟨rfl, rfl⟩
    | succ k =>
      have h : l[k]? = some s := h
      obtain ⟨h1, h2⟩ := ih k s h
      rw [show (k + 1) * 2 = k * 2 + 1 + 1 from by omega]
      exact ⟨h1, h2⟩
theorem fs_at {W : World} {B n k : Nat} {A : Option Addr} {c : Nat} {s : Nat × Nat} {l : List (Nat × Nat)} (h : W.ownsRow B 28 2 (.slice A n c) n (spc l)) (hk : l[k]? = some s) : ∃ g, A = some ⟨g, 0, none⟩ ∧ g < W.heap.size ∧ W.cell? ⟨g, k * 2, none⟩ = some (.int .i64 (s.1 : Int)) ∧ W.cell? ⟨g, k * 2 + 1, none⟩ = some (.int .i64 (s.2 : Int)) := by
  obtain ⟨h1, h2⟩ := sps_get l k s hk
  rcases h.2 with ⟨_, hn⟩ | ⟨g, cap, cur, e, _⟩
  · have hlen := h.1
    rw [spc_len, hn] at hlen
    have := (List.getElem?_eq_some_iff.1 hk).1
    omega
  · injection e with e1 _ e3
    subst e1
    have hkl := (List.getElem?_eq_some_iff.1 hk).1
    have hlen := h.1
    rw [spc_len] at hlen
    have c1 := (h.cellAt (k * 2) (by omega)).trans h1
    have c2 := (h.cellAt (k * 2 + 1) (by omega)).trans h2
    exact ⟨g, rfl, World.block_lt_of_cell? W _ c1, c1, c2⟩
theorem sp_neq (a b : Nat) (W : World) : (binOp .neq 28 (.agg #[.int .i64 (a : Int), .int .i64 (b : Int)]) (.agg #[.int .i64 (a : Int), .int .i64 (b : Int)])).run Tryz.prog W = .ok (.bool false) W := by
  have hp : Tryz.prog.stoodInHeld 28 = false := by kernel_rfl
  simp [go_sem, Tryz.underlying28, Tryz.underlying3, Tryz.isAgg3, hp]
set_option maxRecDepth 100000 in
set_option maxHeartbeats 8000000 in
theorem sameSpots_any (l : List (Nat × Nat)) (hl : l.length ≤ 1000000) {A1 A2 : Option Addr} {c1 c2 B1 B2 : Nat} (w : World) (h1 : w.ownsRow B1 28 2 (.slice A1 l.length c1) l.length (spc l)) (h2 : w.ownsRow B2 28 2 (.slice A2 l.length c2) l.length (spc l)) :
    Calls Tryz.prog 17 #[.slice A1 l.length c1, .slice A2 l.length c2] w fun e w' => e = .returned (.bool true) ∧ Below w.heap.size w w' := by
  have H1 := (show Hid (w.ownsRow B1 28 2 (.slice A1 l.length c1) l.length (spc l) ∧ w.ownsRow B2 28 2 (.slice A2 l.length c2) l.length (spc l)) from ⟨h1, h2⟩)
  have HS := (show Hid (Below w.heap.size w w) from Below.refl _ _)
  clear h1 h2
  go_enter Tryz.func17, Tryz.ntmps17
  go_wp2_with fail
  go_loopw [5] (fun t wr => ∃ k : Nat, k ≤ l.length ∧ t = .int .i64 (k : Int) ∧ Hid (Below w.heap.size w wr)) (fun t _ => l.length - (intOf t).toNat)
  case atStart => exact ⟨0, Nat.zero_le _, by go_num, HS⟩
  case round =>
    obtain ⟨k, hk, rfl, HW⟩ := hrel
    clear HS
    by_cases hlt : k < l.length
    · obtain ⟨x, hx⟩ : ∃ x, l[k]? = some x := ⟨_, List.getElem?_eq_getElem hlt⟩
      obtain ⟨g1, e1, l1, p1, p1'⟩ := fs_at H1.out.1 hx
      obtain ⟨g2, e2, l2, p2, p2'⟩ := fs_at H1.out.2 hx
      subst e1
      subst e2
      have y1 := (HW.out.cell (p := ⟨g1, k * 2, none⟩) l1).trans p1
      have y1' := (HW.out.cell (p := ⟨g1, k * 2 + 1, none⟩) l1).trans p1'
      have y2 := (HW.out.cell (p := ⟨g2, k * 2, none⟩) l2).trans p2
      have y2' := (HW.out.cell (p := ⟨g2, k * 2 + 1, none⟩) l2).trans p2'
      have hne := sp_neq x.1 x.2
      clear p1 p2 p1' p2' l1 l2 hx
      have z0 : (0 : Int) ≤ (k : Int) := by omega
      have z1 : (k : Int) < (l.length : Int) := by omega
      go_wp2_with fail
      go_big_quiet (fail)
      have HB := (show Hid (Below w.heap.size w (wr.drewN nq)) from HW.out.trans ((below_dn _).mono HW.out.size))
      generalize wr.drewN nq = w9 at *
      clear HW
      go_wp2_with fail
      go_roundw
      case rel => exact ⟨k + 1, by omega, by go_num, HB⟩
      case measure => simp [intOf]; omega
    · obtain rfl : k = l.length := by omega
      have HB := (show Hid (Below w.heap.size w wr) from HW.out)
      clear HW
      go_wp2_with fail
      go_ret
      exact ⟨rfl, HB.out⟩
end Go.Proofs.YtbipjdgholdhcaaGreat.N

namespace Go.Proofs.YtbipjdgholdhcaaGreat.N
open Go.RowKit Go.Maps
open Go.Proofs.YtbipjdgholdhcaaGreat.T
/-- While a grammar is lent: its box, the lent one's, and what was lent. -/
structure LyS (w0 wr : World) (wb k : Nat) (u1 u2 : Value) (g cap : Nat) (ov : List Le) : Prop where
  l : LgB w0 wr g cap ov
  x1 : GX wr wb u1
  x2 : GX wr k u2
theorem LyS.later {w0 wr W' : World} {wb k : Nat} {u1 u2 : Value} {g cap : Nat} {ov : List Le} (h : LyS w0 wr wb k u1 u2 g cap ov) (hb : Below wr.heap.size wr W') : LyS w0 W' wb k u1 u2 g cap ov := ⟨h.l.later hb, h.x1.below hb, h.x2.below hb⟩
theorem LyS.box {w0 w2 wr : World} {wb k : Nat} {u1 u2 : Value} {g cap : Nat} {ov : List Le} (h : LyS w0 w2 wb k u1 u2 g cap ov) (hb : Below w2.heap.size w2 wr) : wr.cell? ⟨wb, 0, none⟩ = some u1 ∧ wr.cell? ⟨k, 0, none⟩ = some u2 := ⟨(h.later hb).x1.cl, (h.later hb).x2.cl⟩
end Go.Proofs.YtbipjdgholdhcaaGreat.N

namespace Go.Proofs.YtbipjdgholdhcaaGreat.N
open Go.RowKit Go.Maps
open Go.Proofs.YtbipjdgholdhcaaGreat.T

open U (own_get own_slice below_grown)
/-- What Heads answers. -/
def hdv (gs : GL) (now : List Em) (i : Int) : List Nat × Int := if (ckG gs).2 = 0 then (if i < 0 ∨ (gs.length : Int) ≤ i then ([], 1) else (hdl gs.length (hdM gs (nbE now)) i.toNat, 0)) else ([], (ckG gs).2)
theorem hd_val {gs : GL} {now : List Em} {B : Nat} {w' : World} {i : Int} {e : Ending} (h : HdD gs now B w' i e) : ∃ (A1 : Option Addr) (c1 : Nat), e = .returned (.tuple #[.slice A1 (hdv gs now i).1.length c1, .int .i64 (hdv gs now i).2]) ∧ w'.ownsRow B 3 1 (.slice A1 (hdv gs now i).1.length c1) (hdv gs now i).1.length ((hdv gs now i).1.map U.nI) := by
  unfold hdv
  by_cases hz : (ckG gs).2 = 0
  · rw [if_pos hz]
    by_cases hi : i < 0 ∨ (gs.length : Int) ≤ i
    · rw [if_pos hi, (h.2 hz).1 hi]
      exact ⟨none, 0, rfl, World.ownsRow_nil _ _ _ _⟩
    · rw [if_neg hi]
      obtain ⟨v, rfl, ho⟩ := (h.2 hz).2 i.toNat (by omega) (by omega)
      obtain ⟨A1, c1, rfl⟩ := own_slice ho
      exact ⟨A1, c1, rfl, ho⟩
  · rw [if_neg hz, h.1 hz]
    exact ⟨none, 0, rfl, World.ownsRow_nil _ _ _ _⟩
theorem hdv_len {gs : GL} {now : List Em} {i : Int} : (hdv gs now i).1.length ≤ 200 := by
  unfold hdv
  by_cases hz : (ckG gs).2 = 0
  · rw [if_pos hz]
    by_cases hi : i < 0 ∨ (gs.length : Int) ≤ i
    · rw [if_pos hi]; exact Nat.zero_le _
    · rw [if_neg hi]
      have h := List.length_filter_le (hdM gs (nbE now) i.toNat) (List.range gs.length)
      rw [List.length_range] at h
      exact Nat.le_trans h (ckG_ok.1 hz).n2
  · rw [if_neg hz]; exact Nat.zero_le _
/-- What Loops answers. -/
def lov (gs : GL) (now : List Em) : List (Nat × Nat) × Int := if (ckG gs).2 = 0 then (lpG gs (nbE now) gs.length, 0) else ([], (ckG gs).2)
theorem lo_val {gs : GL} {now : List Em} {B : Nat} {w' : World} {e : Ending} (h : LoDR gs now B w' e) : ∃ (A1 : Option Addr) (c1 : Nat), e = .returned (.tuple #[.slice A1 (lov gs now).1.length c1, .int .i64 (lov gs now).2]) ∧ w'.ownsRow B 28 2 (.slice A1 (lov gs now).1.length c1) (lov gs now).1.length (spc (lov gs now).1) := by
  unfold lov
  by_cases hz : (ckG gs).2 = 0
  · rw [if_pos hz]
    obtain ⟨v, rfl, ho⟩ := h.2 hz
    obtain ⟨A1, c1, rfl⟩ := own_fs ho
    exact ⟨A1, c1, rfl, ho⟩
  · rw [if_neg hz, h.1 hz]
    exact ⟨none, 0, rfl, World.ownsRow_nil _ _ _ _⟩
theorem lov_len {gs : GL} {now : List Em} : (lov gs now).1.length ≤ 1000000 := by
  unfold lov
  by_cases hz : (ckG gs).2 = 0
  · rw [if_pos hz]
    have hR := ckG_ok.1 hz
    have h := lpG_len (nb := nbE now) (fun g hg => (rt_facts hR hg).2.2.2.2) gs.length
    have : gs.length * 2048 ≤ 200 * 2048 := Nat.mul_le_mul_right _ hR.n2
    show (lpG gs (nbE now) gs.length).length ≤ _
    omega
  · rw [if_neg hz]; exact Nat.zero_le _
theorem lo_doc {gs : GL} {w w' : World} {e : Ending} (h : LoR gs w w' e) : ∃ now, ((ckG gs).2 = 0 → KnF gs now ∧ now.length = gs.length) ∧ LoDR gs now w.heap.size w' e := by
  by_cases hz : (ckG gs).2 = 0
  · obtain ⟨now, v, h1, h2, h3, h4⟩ := h.2 hz
    exact ⟨now, fun _ => ⟨h1, h2⟩, fun q => absurd hz q, fun _ => ⟨v, h3, h4⟩⟩
  · exact ⟨[], fun q => absurd q hz, h.1, fun q => absurd q hz⟩

set_option maxRecDepth 100000 in
set_option maxHeartbeats 16000000 in
/-- Heads, by the program. -/
theorem fheads_now (gs : GL) (A : Option Addr) (c : Nat) (i : Int) (w : World) (hp : GI w A gs) :
    Calls Tryz.prog 13 #[.agg #[.slice A gs.length c], .int .i64 i] w fun e w' => (∃ now, ((ckG gs).2 = 0 → KnF gs now ∧ now.length = gs.length) ∧ HdD gs now w.heap.size w' i e) ∧ Below w.heap.size w w' := by
  obtain ⟨w1, hw1⟩ : ∃ w1, w1 = w.alloc (.cells #[.slice A gs.length c] 24) := ⟨_, rfl⟩
  have HE1 := (show Hid (w.alloc (.cells #[.slice A gs.length c] 24) = w1) from hw1.symm)
  have HS := (show Hid (Below w.heap.size w w1 ∧ GX w1 w.heap.size (.slice A gs.length c)) from by rw [hw1]; exact ⟨below_box _ _, GX.mk (heap_alloc_new w _)⟩)
  have HVw := (show Hid (∀ _ : Unit, Calls Tryz.prog 28 #[.agg #[.slice A gs.length c]] w1 fun e w' => VwR w1 w' gs A c e ∧ Below w1.heap.size w1 w') from fun _ => viewOf_any gs A c w1 (hp.later HS.out.1))
  have HP := (show Hid (GI w A gs) from hp)
  have q1 := HS.out.2.cl
  clear hw1 hp
  go_enter Tryz.func13, Tryz.ntmps13
  go_wp2_with (rw [HE1.out])
  refine (HVw.out ()).mono ?_
  rintro e w2 ⟨hvw, b2⟩
  have HS2 := (show Hid (Below w.heap.size w w2 ∧ GX w2 w.heap.size (.slice A gs.length c)) from ⟨HS.out.1.trans (b2.mono HS.out.1.size), HS.out.2.below b2⟩)
  clear HVw HE1 q1 HS b2
  by_cases hz : (ckG gs).2 = 0
  · obtain ⟨mb, Ak, ck, now, rfl, hm, hk, hkf, hnl, hok, _⟩ := hvw.2 hz
    have hR := ckG_ok.1 hz
    have hn2 := hR.n2
    obtain ⟨w3, hw3⟩ : ∃ w3, w3 = w2.alloc (.cells #[.slice A gs.length c, .map (some mb), .slice Ak gs.length ck] 71) := ⟨_, rfl⟩
    have HE3 := (show Hid (w2.alloc (.cells #[.slice A gs.length c, .map (some mb), .slice Ak gs.length ck] 71) = w3) from hw3.symm)
    have hb3 : Below w2.heap.size w2 w3 := by rw [hw3]; exact below_box _ _
    have HX3 := (show Hid (VX w3 w2.heap.size (.slice A gs.length c) (.map (some mb)) (.slice Ak gs.length ck)) from by rw [hw3]; exact VX.new w2 _ _ _)
    have HB3 := (show Hid (Below w.heap.size w w3) from HS2.out.1.trans (hb3.mono HS2.out.1.size))
    have HV := (show Hid (VwO w3 gs A mb Ak now) from ⟨hR, HP.out.later HB3.out, hm.later hb3, hk.later hb3, hnl⟩)
    have HKn := (show Hid (KnF gs now ∧ now.length = gs.length ∧ (ckG gs).2 = 0) from ⟨hkf, hnl, hz⟩)
    have y0 := HX3.out.c0
    have y1 := HX3.out.c1
    have y2 := HX3.out.c2
    have q3 := (HS2.out.2.below hb3).cl
    clear hvw hm hk hkf hnl hok hz hR hw3 hb3 HX3 HS2 HP
    by_cases h0 : i < 0
    · have HI := (show Hid (i < 0) from h0)
      go_wp2_with (rw [HE3.out])
      refine bodyPost_ret (v := .tuple #[.slice none 0 0, .int .i64 1]) (by simp [results, Tryz.results13, go_sem]) rfl ?_
      exact ⟨⟨now, fun _ => ⟨HKn.out.1, HKn.out.2.1⟩, fun q => absurd HKn.out.2.2 q, fun _ => ⟨fun _ => rfl, fun r e1 _ => by have := HI.out; omega⟩⟩, HB3.out⟩
    · obtain ⟨r, rfl⟩ : ∃ r : Nat, i = (r : Int) := ⟨i.toNat, by omega⟩
      by_cases h1 : r < gs.length
      · have h2 : ¬ (gs.length : Int) ≤ (r : Int) := by omega
        obtain ⟨g, hg⟩ : ∃ g, gs[r]? = some g := ⟨_, List.getElem?_eq_getElem h1⟩
        have HI := (show Hid (r < gs.length) from h1)
        have HHe := (show Hid (∀ _ : Unit, Calls Tryz.prog 29 #[.agg #[.slice A gs.length c, .map (some mb), .slice Ak gs.length ck], .int .i64 (r : Int)] w3 fun e w' => (∃ v, e = .returned v ∧ w'.ownsRow w3.heap.size 3 1 v (hdl gs.length (hdM gs (nbE now)) r).length ((hdl gs.length (hdM gs (nbE now)) r).map U.nI)) ∧ Below w3.heap.size w3 w') from fun _ => headsOf_any mb A Ak c ck hg w3 HV.out)
        clear hg
        go_wp2_with (rw [HE3.out])
        refine (HHe.out ()).mono ?_
        rintro e w4 ⟨⟨v, rfl, ho⟩, b4⟩
        have HF := (show Hid (w4.ownsRow w.heap.size 3 1 v (hdl gs.length (hdM gs (nbE now)) r).length ((hdl gs.length (hdM gs (nbE now)) r).map U.nI) ∧ Below w.heap.size w w4) from ⟨own_base ho HB3.out.size, HB3.out.trans (b4.mono HB3.out.size)⟩)
        clear ho b4 HHe HE3 y0 y1 y2 q3
        go_wp2_with fail
        refine bodyPost_ret (v := .tuple #[v, .int .i64 0]) (by simp [results, Tryz.results13, go_sem]) rfl ?_
        exact ⟨⟨now, fun _ => ⟨HKn.out.1, HKn.out.2.1⟩, fun q => absurd HKn.out.2.2 q, fun _ => ⟨fun q => by have := HI.out; omega, fun r2 e1 _ => by
          have e2 : r = r2 := by omega
          subst e2
          exact ⟨v, rfl, HF.out.1⟩⟩⟩, HF.out.2⟩
      · have h2 : (gs.length : Int) ≤ (r : Int) := by omega
        have HI := (show Hid (¬ r < gs.length) from h1)
        go_wp2_with (rw [HE3.out])
        refine bodyPost_ret (v := .tuple #[.slice none 0 0, .int .i64 1]) (by simp [results, Tryz.results13, go_sem]) rfl ?_
        exact ⟨⟨now, fun _ => ⟨HKn.out.1, HKn.out.2.1⟩, fun q => absurd HKn.out.2.2 q, fun _ => ⟨fun _ => rfl, fun r2 e1 h3 => by have := HI.out; omega⟩⟩, HB3.out⟩
  · have e1 := hvw.1 hz
    subst e1
    have tz : ((ckG gs).2 != 0) = true := by rw [bne, beq_eq_false_iff_ne.2 hz]; rfl
    have HZ := (show Hid ((ckG gs).2 ≠ 0) from hz)
    obtain ⟨w3, hw3⟩ : ∃ w3, w3 = w2.alloc (.cells #[.slice none 0 0, .map none, .slice none 0 0] 71) := ⟨_, rfl⟩
    have HE3 := (show Hid (w2.alloc (.cells #[.slice none 0 0, .map none, .slice none 0 0] 71) = w3) from hw3.symm)
    have HB3 := (show Hid (Below w.heap.size w w3) from by rw [hw3]; exact HS2.out.1.trans ((below_box _ _).mono HS2.out.1.size))
    clear hvw hz hw3 HS2 HP
    go_wp2_with fail
    rw [HE3.out]
    refine bodyPost_ret (v := .tuple #[.slice none 0 0, .int .i64 (ckG gs).2]) (by simp [results, Tryz.results13, go_sem]) rfl ?_
    exact ⟨⟨[], fun q => absurd q HZ.out, fun _ => rfl, fun q => absurd q HZ.out⟩, HB3.out⟩

set_option maxRecDepth 100000 in
set_option maxHeartbeats 32000000 in
theorem heads_law (gs : GL) (A : Option Addr) (c : Nat) (i : Int) (w : World) (hg : GrIn w A c gs) : Calls Tryz.prog 4 #[.agg #[.slice A gs.length c], .int .i64 i] w fun e w' => e = .returned (.bool true) ∧ Below w.heap.size w w' := by
  have hl := hg.len
  obtain ⟨w0, hw0⟩ : ∃ w0, w0 = w.alloc (.cells #[.slice A gs.length c] 24) := ⟨_, rfl⟩
  have hb0 : Below w.heap.size w w0 := by rw [hw0]; exact below_box w _
  have HX0 := (show Hid (GX w0 w.heap.size (.slice A gs.length c)) from by rw [hw0]; exact GX.mk (heap_alloc_new w _))
  have HE0 := (show Hid (w.alloc (.cells #[.slice A gs.length c] 24) = w0) from hw0.symm)
  have hg0 : GrIn w0 A c gs := hg.later hb0
  have HLe : Hid (∀ _ : Unit, Calls Tryz.prog 7 #[.agg #[.slice A gs.length c]] w0 fun e w' => ∃ g cap ov, e = .returned (.agg #[.slice (some ⟨g, 0, none⟩) gs.length cap]) ∧ ov.map (·.1) = gs ∧ LgB w0 w' g cap ov) := fun _ => lendG_any gs A c w0 hg0
  have HK : Hid (∀ (w' : World) (g cap : Nat) (ov : List Le), ov.map (·.1) = gs → LgB w0 w' g cap ov → GrD w' A gs → Calls Tryz.prog 12 #[.agg #[.slice (some ⟨g, 0, none⟩) gs.length cap], .agg #[.slice A gs.length c]] w' fun e w'' => e = .returned (.bool true) ∧ Below w'.heap.size w' w'') := fun w' g cap ov h0 h1 h2 => keptG_any h0 (fun r hr => by
    obtain ⟨k, hk⟩ := List.getElem?_of_mem hr
    obtain ⟨_, _, h6, _⟩ := hg.each k r hk
    exact h6.2.2.2.1) hl h1 h2
  have HWk := (show Hid (∀ W, Calls Tryz.prog 10 #[] W fun e w' => e = .returned (.bool true) ∧ Below W.heap.size W w') from lives_any)
  have HP := (show Hid (GI w0 A gs) from hg0.gi)
  have HB0 := (show Hid (Below w.heap.size w w0) from hb0)
  have x0 := HX0.out.cl
  have HA : Hid (∀ (w' : World) (Ap : Option Addr) (cp : Nat), GI w' Ap gs → Calls Tryz.prog 13 #[.agg #[.slice Ap gs.length cp], .int .i64 i] w' fun e w'' => (∃ (A1 : Option Addr) (c1 : Nat) (now : List Em), e = .returned (.tuple #[.slice A1 (hdv gs now i).1.length c1, .int .i64 (hdv gs now i).2]) ∧ Hid ((ckG gs).2 = 0 → KnF gs now ∧ now.length = gs.length) ∧ w''.ownsRow w'.heap.size 3 1 (.slice A1 (hdv gs now i).1.length c1) (hdv gs now i).1.length ((hdv gs now i).1.map U.nI)) ∧ Below w'.heap.size w' w'') := fun w' Ap cp h => by
    refine (fheads_now gs Ap cp i w' h).mono ?_
    rintro e w'' ⟨⟨now, hk, hd⟩, b⟩
    obtain ⟨A1, c1, rfl, ho⟩ := hd_val hd
    exact ⟨⟨A1, c1, now, rfl, hk, ho⟩, b⟩
  have HD : Hid (∀ (now : List Em), Hid ((ckG gs).2 = 0 → KnF gs now ∧ now.length = gs.length) → ∀ (w' : World) (Ap : Option Addr) (cp : Nat), GI w' Ap gs → Calls Tryz.prog 14 #[.agg #[.slice Ap gs.length cp], .int .i64 i] w' fun e w'' => (∃ (A1 : Option Addr) (c1 : Nat), e = .returned (.tuple #[.slice A1 (hdv gs now i).1.length c1, .int .i64 (hdv gs now i).2]) ∧ w''.ownsRow w'.heap.size 3 1 (.slice A1 (hdv gs now i).1.length c1) (hdv gs now i).1.length ((hdv gs now i).1.map U.nI)) ∧ Below w'.heap.size w' w'') := fun now hk w' Ap cp h => by
    refine (headsD10_any hk.out Ap cp i w' h).mono ?_
    rintro e w'' ⟨hd, b⟩
    obtain ⟨A1, c1, rfl, ho⟩ := hd_val hd
    exact ⟨⟨A1, c1, rfl, ho⟩, b⟩
  have LA : Hid (∀ (w' : World) (Ap : Option Addr) (cp : Nat), GI w' Ap gs → Calls Tryz.prog 15 #[.agg #[.slice Ap gs.length cp]] w' fun e w'' => (∃ (A1 : Option Addr) (c1 : Nat) (now : List Em), e = .returned (.tuple #[.slice A1 (lov gs now).1.length c1, .int .i64 (lov gs now).2]) ∧ Hid ((ckG gs).2 = 0 → KnF gs now ∧ now.length = gs.length) ∧ w''.ownsRow w'.heap.size 28 2 (.slice A1 (lov gs now).1.length c1) (lov gs now).1.length (spc (lov gs now).1)) ∧ Below w'.heap.size w' w'') := fun w' Ap cp h => by
    refine (floops_any gs Ap cp w' h).mono ?_
    rintro e w'' ⟨hd, b⟩
    obtain ⟨now, hk, hd⟩ := lo_doc hd
    obtain ⟨A1, c1, rfl, ho⟩ := lo_val hd
    exact ⟨⟨A1, c1, now, rfl, hk, ho⟩, b⟩
  have LD : Hid (∀ (now : List Em), Hid ((ckG gs).2 = 0 → KnF gs now ∧ now.length = gs.length) → ∀ (w' : World) (Ap : Option Addr) (cp : Nat), GI w' Ap gs → Calls Tryz.prog 16 #[.agg #[.slice Ap gs.length cp]] w' fun e w'' => (∃ (A1 : Option Addr) (c1 : Nat), e = .returned (.tuple #[.slice A1 (lov gs now).1.length c1, .int .i64 (lov gs now).2]) ∧ w''.ownsRow w'.heap.size 28 2 (.slice A1 (lov gs now).1.length c1) (lov gs now).1.length (spc (lov gs now).1)) ∧ Below w'.heap.size w' w'') := fun now hk w' Ap cp h => by
    refine (loopsD10_any hk.out Ap cp w' h).mono ?_
    rintro e w'' ⟨hd, b⟩
    obtain ⟨A1, c1, rfl, ho⟩ := lo_val hd
    exact ⟨⟨A1, c1, rfl, ho⟩, b⟩
  clear hg hl hg0 hw0 hb0
  go_enter Tryz.func4, Tryz.ntmps4
  go_wp2_with (rw [HE0.out])
  refine (HLe.out ()).mono ?_
  rintro e w1 ⟨g, cap, ov, rfl, hm, ho⟩
  have HM := (show Hid (ov.map (·.1) = gs) from hm)
  obtain ⟨w2, hw2⟩ : ∃ w2, w2 = w1.alloc (.cells #[.slice (some ⟨g, 0, none⟩) gs.length cap] 24) := ⟨_, rfl⟩
  have HE2 := (show Hid (w1.alloc (.cells #[.slice (some ⟨g, 0, none⟩) gs.length cap] 24) = w2) from hw2.symm)
  have HS2 := (show Hid (LyS w0 w2 w.heap.size w1.heap.size (.slice A gs.length c) (.slice (some ⟨g, 0, none⟩) gs.length cap) g cap ov) from by
    have hb : Below w1.heap.size w1 w2 := by rw [hw2]; exact below_box w1 _
    have hX1 : GX w1 w.heap.size (.slice A gs.length c) := HX0.out.same (ho.b.block _ HX0.out.lt)
    exact ⟨ho.later hb, hX1.below hb, by rw [hw2]; exact GX.mk (heap_alloc_new w1 _)⟩)
  have y1 := HS2.out.x1.cl
  have y2 := HS2.out.x2.cl
  have HIn := (show Hid (∀ W, LyS w0 W w.heap.size w1.heap.size (.slice A gs.length c) (.slice (some ⟨g, 0, none⟩) gs.length cap) g cap ov → GI W (some ⟨g, 0, none⟩) gs ∧ GI W A gs) from fun W h => ⟨⟨h.l.gr HM.out, HP.out.l, HP.out.t⟩, HP.out.later h.l.b⟩)
  clear ho hm HLe hw2 x0 HX0
  go_wp2_with (rw [HE2.out])
  generalize w1.heap.size = k1 at *
  refine (HA.out w2 _ _ (HIn.out _ HS2.out).1).mono ?_
  rintro e w3 ⟨⟨A1, c1, now, rfl, HKn, ho1⟩, b3⟩
  have HD1 := hid_of (HD.out now HKn)
  have HL1 := (show Hid ((hdv gs now i).1.length ≤ 1000000) from Nat.le_trans hdv_len (by omega))
  generalize hdv gs now i = r1 at *
  obtain ⟨l1, cd1⟩ := r1
  have HB3 := (show Hid (Below w2.heap.size w2 w3) from b3)
  have H1 := (show Hid (w3.ownsRow w2.heap.size 3 1 (.slice A1 l1.length c1) l1.length (l1.map U.nI)) from ho1)
  have p1 := (HS2.out.box HB3.out).1
  have p2 := (HS2.out.box HB3.out).2
  clear ho1 b3 HE2 y1 y2 HA HD HKn
  go_wp2_with fail
  refine (HD1.out w3 _ _ (HIn.out _ (HS2.out.later HB3.out)).2).mono ?_
  rintro e w4 ⟨⟨A2, c2, rfl, ho2⟩, b4⟩
  have HB4 := (show Hid (Below w2.heap.size w2 w4) from HB3.out.trans (b4.mono HB3.out.size))
  have H4 := (show Hid (w4.ownsRow w2.heap.size 3 1 (.slice A1 l1.length c1) l1.length (l1.map U.nI) ∧ w4.ownsRow w3.heap.size 3 1 (.slice A2 l1.length c2) l1.length (l1.map U.nI)) from ⟨own_below H1.out b4, ho2⟩)
  clear ho2 b4 p1 p2 HB3 H1 HD1
  have p1 := (HS2.out.box HB4.out).1
  have p2 := (HS2.out.box HB4.out).2
  go_wp2_with fail
  refine (LA.out w4 _ _ (HIn.out _ (HS2.out.later HB4.out)).1).mono ?_
  rintro e w5 ⟨⟨A3, c3, now2, rfl, HKn, ho3⟩, b5⟩
  have HD2 := hid_of (LD.out now2 HKn)
  have HL2 := (show Hid ((lov gs now2).1.length ≤ 1000000) from lov_len)
  generalize lov gs now2 = r2 at *
  obtain ⟨l2, cd2⟩ := r2
  have HB5 := (show Hid (Below w2.heap.size w2 w5) from HB4.out.trans (b5.mono HB4.out.size))
  have H5 := (show Hid (w5.ownsRow w2.heap.size 3 1 (.slice A1 l1.length c1) l1.length (l1.map U.nI) ∧ w5.ownsRow w3.heap.size 3 1 (.slice A2 l1.length c2) l1.length (l1.map U.nI) ∧ w5.ownsRow w4.heap.size 28 2 (.slice A3 l2.length c3) l2.length (spc l2)) from ⟨own_below H4.out.1 b5, own_below H4.out.2 b5, ho3⟩)
  clear ho3 b5 p1 p2 HB4 H4 LA LD HKn
  have p1 := (HS2.out.box HB5.out).1
  have p2 := (HS2.out.box HB5.out).2
  go_wp2_with fail
  refine (HD2.out w5 _ _ (HIn.out _ (HS2.out.later HB5.out)).2).mono ?_
  rintro e w6 ⟨⟨A4, c4, rfl, ho4⟩, b6⟩
  have HB6 := (show Hid (Below w2.heap.size w2 w6) from HB5.out.trans (b6.mono HB5.out.size))
  have H6 := (show Hid (w6.ownsRow w2.heap.size 3 1 (.slice A1 l1.length c1) l1.length (l1.map U.nI) ∧ w6.ownsRow w3.heap.size 3 1 (.slice A2 l1.length c2) l1.length (l1.map U.nI) ∧ w6.ownsRow w4.heap.size 28 2 (.slice A3 l2.length c3) l2.length (spc l2) ∧ w6.ownsRow w5.heap.size 28 2 (.slice A4 l2.length c4) l2.length (spc l2)) from ⟨own_below H5.out.1 b6, own_below H5.out.2.1 b6, own_below H5.out.2.2 b6, ho4⟩)
  clear ho4 b6 p1 p2 HB5 H5 HD2
  go_wp2_with fail
  refine (HWk.out w6).mono ?_
  rintro e w7 ⟨rfl, b7⟩
  have HB7 := (show Hid (Below w2.heap.size w2 w7) from HB6.out.trans (b7.mono HB6.out.size))
  have H7 := (show Hid (w7.ownsRow w2.heap.size 3 1 (.slice A1 l1.length c1) l1.length (l1.map U.nI) ∧ w7.ownsRow w3.heap.size 3 1 (.slice A2 l1.length c2) l1.length (l1.map U.nI) ∧ w7.ownsRow w4.heap.size 28 2 (.slice A3 l2.length c3) l2.length (spc l2) ∧ w7.ownsRow w5.heap.size 28 2 (.slice A4 l2.length c4) l2.length (spc l2)) from ⟨own_below H6.out.1 b7, own_below H6.out.2.1 b7, own_below H6.out.2.2.1 b7, own_below H6.out.2.2.2 b7⟩)
  have HSa := (show Hid (∀ _ : Unit, Calls Tryz.prog 11 #[.slice A1 l1.length c1, .slice A2 l1.length c2] w7 fun e w' => e = .returned (.bool true) ∧ Below w7.heap.size w7 w') from fun _ => SameInts_any l1 HL1.out w7 H7.out.1 H7.out.2.1)
  clear b7 HB6 H6 HWk HL1
  go_wp2_with fail
  refine (HSa.out ()).mono ?_
  rintro e w8 ⟨rfl, b8⟩
  have HB8 := (show Hid (Below w2.heap.size w2 w8) from HB7.out.trans (b8.mono HB7.out.size))
  have HSb := (show Hid (∀ _ : Unit, Calls Tryz.prog 17 #[.slice A3 l2.length c3, .slice A4 l2.length c4] w8 fun e w' => e = .returned (.bool true) ∧ Below w8.heap.size w8 w') from fun _ => sameSpots_any l2 HL2.out w8 (own_below H7.out.2.2.1 b8) (own_below H7.out.2.2.2 b8))
  clear b8 HB7 H7 HSa HL2
  go_wp2_with fail
  refine (HSb.out ()).mono ?_
  rintro e w9 ⟨rfl, b9⟩
  have HB9 := (show Hid (Below w2.heap.size w2 w9) from HB8.out.trans (b9.mono HB8.out.size))
  have p1 := (HS2.out.box HB9.out).1
  have p2 := (HS2.out.box HB9.out).2
  clear b9 HB8 HSb
  go_wp2_with fail
  refine (HK.out w9 g cap ov HM.out (HS2.out.later HB9.out).l (HP.out.d.later (HS2.out.later HB9.out).l.b)).mono ?_
  rintro e w10 ⟨rfl, b10⟩
  have HB10 := (show Hid (Below w2.heap.size w2 w10) from HB9.out.trans (b10.mono HB9.out.size))
  clear b10 HB9 p1 p2 HK
  go_wp2_with fail
  go_ret
  exact ⟨rfl, HB0.out.trans (((HS2.out.l.b).trans (HB10.out.mono HS2.out.l.b.size)).mono HB0.out.size)⟩
end Go.Proofs.YtbipjdgholdhcaaGreat.N

namespace Go.Proofs.YtbipjdgholdhcaaGreat
open Go.ChangeShapes Go.WideShapes Go.ChangeAt Go.RowKit
open Go.ChangeMaps (open_string shut_string)
set_option maxRecDepth 100000 in
theorem fordHeads_lifted (os : Os) (started : os.Started) (H : Type) (enc : TypeId × Value → H) :
    ReturnsInHanded {} Tryz.checked os 4 .any (Rows.fordHeadsSpec.pre6 enc Tryz.prog Tryz.f4 Rows.fordHeadsRow.domain false) (Rows.fordHeadsSpec.post enc Tryz.prog Tryz.f4 false true false false) := by
  refine returnsInHanded_of_change_sized (C := Tryz.checked) T.own started (by kernel_rfl) Tryz.func4
    (ChangeSpec.witness6 (enc := enc) (C := Tryz.checked) false ⟨#[], #[.agg #[.slice none 0 0], .int .i64 0], []⟩ 8 (by kernel_rfl) (by kernel_rfl) (by kernel_rfl) (by kernel_rfl)) ?_
  intro W base args ds gs before hval0 hW hcnd hsz _
  have hval : ∀ (j : Nat) t v, Tryz.f4.params[j]? = some t → args[j]? = some v → Value.okWide Tryz.prog W .any base t v := hval0
  have hW' := hW
  obtain ⟨p, q, hA0, hV, rfl, hfz, hnd⟩ := hW
  have hA : DataW.TrodAll enc Tryz.prog W 0 (fun _ => true) true Tryz.f4.params.toList args.toList ds p := hA0
  rw [Tryz.params4] at hA hval
  have hsz : (DataW.weightsEach Tryz.prog (#[24, 3].toList ++ Rows.fordHeadsSpec.plain.varTypes Tryz.prog) (ds ++ gs)).all (· ≤ reachBytes) = true := hsz
  obtain ⟨v0, v1, d0, d1, p0, p1, rfl, rfl, rfl, h0, h1⟩ := trodAll_two hA
  obtain ⟨rfl, rfl⟩ := trodVars_none hV
  have lt0 : ∀ x ∈ p0, x.block < W.heap.size := by obtain ⟨m, hm⟩ := h0; exact DataW.trod_lt m _ _ _ hm
  obtain ⟨A0, c0, L0, rfl, r0⟩ := N.open_gram h0 (hval 0 24 v0 rfl rfl) (T.sized_at hsz (j := 0) rfl rfl)
  obtain ⟨n1, rfl, rfl, rfl, wm1⟩ := open_int Tryz.underlying3 (hval 1 3 v1 rfl rfl) h1
  clear hA0 hval0
  refine (N.heads_law L0 A0 c0 n1 W r0).mono fun e W' ⟨he, bel⟩ => ?_
  subst he
  exact ⟨_, rfl, _, _, _, [], _, [], hW', trodAll_mk1 (shut_bool Tryz.underlying4 _), (trodAll_cons_mk (Below.trod T.laidOut (by kernel_rfl) (of_decide_eq_true (by kernel_rfl)) h0 bel lt0) (trodAll_cons_mk (shut_int Tryz.underlying3 wm1) trodAll_mk0)), rfl, bel.frame _, fun h => by cases h⟩

theorem fordHeads_holds : Rows.FordHeadsSaid :=
  OpenClaim.holds_of_wide 4 Tryz.f4 rfl rfl rfl rfl rfl rfl rfl ⟨rfl, rfl, rfl, rfl, rfl⟩ rfl rfl rfl rfl rfl (by kernel_rfl) Tryz.func4 (by kernel_rfl)
    (of_decide_eq_true (by kernel_rfl)) (by unfold Func.isWrapper; first | (rw [if_pos (by decide +kernel)]; kernel_rfl) | (rw [if_neg (by decide +kernel)]; exact ⟨rfl, rfl⟩))
    (fun os started H enc _ => fordHeads_lifted os started H enc)
end Go.Proofs.YtbipjdgholdhcaaGreat
