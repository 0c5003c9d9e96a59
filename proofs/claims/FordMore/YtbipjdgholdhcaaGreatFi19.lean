/- DERIVED. Plain mathematics and walks, laid together (19). -/
import Derived.BigQuiet
import Derived.Deep.RegionLaw
import Derived.Test.YtbipjdgholdhcaaGreatFi18
namespace Go.Proofs.YtbipjdgholdhcaaGreat.N
open Go.RowKit Go.Maps
open Go.Proofs.YtbipjdgholdhcaaGreat.T

open U (below_grown own_get own_slice TT)
/-- While the document tells loops. -/
structure LoD (w2 wr : World) (n : Nat) (l : List (Nat × Nat)) (v : Value) : Prop where
  b : Below w2.heap.size w2 wr
  o : wr.ownsRow w2.heap.size 28 2 v n (spc l)
  l : n = l.length
theorem LoD.later {w2 wr w3 : World} {n : Nat} {l : List (Nat × Nat)} {v : Value} (h : LoD w2 wr n l v) (hb : Below wr.heap.size wr w3) : LoD w2 w3 n l v := ⟨h.b.trans (hb.mono h.b.size), U.own_below h.o hb, h.l⟩
theorem LoD.push {w2 wr w3 : World} {n : Nat} {l : List (Nat × Nat)} {v v2 : Value} {p : Nat × Nat} (h : LoD w2 wr n l v) (ho : w3.ownsRow w2.heap.size 28 2 v2 (n + 1) (spc (l ++ [p]))) (hg : wr.grownBy w3 v.ownBlock) : LoD w2 w3 (n + 1) (l ++ [p]) v2 :=
  ⟨below_grown h.b hg (fun q hq => (h.o.lt q hq).1), ho, by rw [List.length_append, h.l]; rfl⟩
structure LpD (w2 wr : World) (n : Nat) (l : List (Nat × Nat)) (v : Value) (gN cN ln : Nat) (E : Nat → Bool) : Prop where
  s : LoD w2 wr n l v
  o : wr.ownsRow w2.heap.size 4 1 (.slice (some ⟨gN, 0, none⟩) ln cN) ln ((List.range ln).map fun j => Value.bool (E j))
theorem LpD.push {w2 wr w3 : World} {n : Nat} {l : List (Nat × Nat)} {v v2 : Value} {gN cN ln : Nat} {E : Nat → Bool} {p : Nat × Nat} (h : LpD w2 wr n l v gN cN ln E) (ho : w3.ownsRow w2.heap.size 28 2 v2 (n + 1) (spc (l ++ [p]))) (hg : wr.grownBy w3 v.ownBlock) : LpD w2 w3 (n + 1) (l ++ [p]) v2 gN cN ln E :=
  ⟨h.s.push ho hg, U.own_kept h.o hg (fun k e => own_apart h.s.o h.o (by decide) e)⟩
theorem LpD.at' {w2 wr : World} {n : Nat} {l : List (Nat × Nat)} {v : Value} {gN cN ln : Nat} {E : Nat → Bool} (h : LpD w2 wr n l v gN cN ln E) {j : Nat} (hj : j < ln) : wr.cell? ⟨gN, j, none⟩ = some (.bool (E j)) := by
  obtain ⟨g5, c5, e5, _, _, x5, _⟩ := own_get h.o (j := j) (x := .bool (E j)) (by rw [List.getElem?_map, List.getElem?_range hj]; rfl)
  injection e5 with e6 _ _
  obtain ⟨rfl, _⟩ := Addr.mk.inj (Option.some.inj e6)
  exact x5
set_option maxRecDepth 100000 in
set_option maxHeartbeats 32000000 in
/-- The document's loops of a grammar. -/
theorem loopsG_any {gs : GL} (hR : RtG gs) {now : List Em} (hk : KnF gs now) (hnl : now.length = gs.length) (A : Option Addr) (c : Nat) (w : World) (hp : GI w A gs) :
    Calls Tryz.prog 26 #[.agg #[.slice A gs.length c]] w fun e w' => (∃ v, e = .returned v ∧ w'.ownsRow w.heap.size 28 2 v (lpG gs (nbE now) gs.length).length (spc (lpG gs (nbE now) gs.length))) ∧ Below w.heap.size w w' := by
  have hn2 := hR.n2
  have hn1 := hR.n1
  obtain ⟨w1, hw1⟩ : ∃ w1, w1 = w.alloc (.cells #[.slice A gs.length c] 24) := ⟨_, rfl⟩
  have HE1 := (show Hid (w.alloc (.cells #[.slice A gs.length c] 24) = w1) from hw1.symm)
  have HS1 := (show Hid (Below w.heap.size w w1 ∧ GX w1 w.heap.size (.slice A gs.length c)) from by rw [hw1]; exact ⟨below_box _ _, GX.mk (heap_alloc_new w _)⟩)
  have HN := (show Hid (∀ _ : Unit, Calls Tryz.prog 32 #[.agg #[.slice A gs.length c]] w1 fun e w' => (∃ v, e = .returned v ∧ w'.ownsRow w1.heap.size 4 1 v gs.length ((now.map Em.nu).map Value.bool)) ∧ Below w1.heap.size w1 w') from fun _ => nullableD_any hR hk hnl A c w1 (hp.later HS1.out.1))
  have HR := (show Hid (RtG gs ∧ (nbE now).length = gs.length ∧ 0 < gs.length) from ⟨hR, by unfold nbE; rw [List.length_map]; exact hnl, hn1⟩)
  have HP := (show Hid (GI w A gs) from hp)
  have q1 := HS1.out.2.cl
  clear hR hk hnl hp hw1 hn1
  go_enter Tryz.func26, Tryz.ntmps26
  go_wp2_with (rw [HE1.out])
  refine (HN.out ()).mono ?_
  rintro e w2 ⟨⟨v2, rfl, ho2⟩, b2⟩
  obtain ⟨gI, ci, rfl, _⟩ := ho2.form HR.out.2.2
  have HB2 := (show Hid (Below w.heap.size w w2 ∧ GX w2 w.heap.size (.slice A gs.length c) ∧ RdB w2 gI (nbE now)) from ⟨HS1.out.1.trans (b2.mono HS1.out.1.size), HS1.out.2.below b2, rdB_own ho2⟩)
  have HS := (show Hid (LoD w2 w2 0 (lpG gs (nbE now) 0) (.slice none 0 0)) from ⟨Below.refl _ _, World.ownsRow_nil _ _ _ _, rfl⟩)
  clear HE1 q1 HN HS1 ho2 b2
  go_wp2_with fail
  go_loopw [4, 5] (fun v t wr => ∃ (k n : Nat), k ≤ gs.length ∧ n ≤ 409600 ∧ t = .int .i64 (k : Int) ∧ Hid (LoD w2 wr n (lpG gs (nbE now) k) v)) (fun _ t _ => gs.length - (intOf t).toNat)
  case atStart => exact ⟨0, 0, Nat.zero_le _, by omega, by go_num, HS⟩
  case round =>
    obtain ⟨k, n, hk, hn, rfl, HW⟩ := hrel
    clear HS
    have hbw : Below w.heap.size w wr := HB2.out.1.trans (HW.out.b.mono HB2.out.1.size)
    have q1 := (HB2.out.2.1.below HW.out.b).cl
    by_cases hlt : k < gs.length
    · obtain ⟨⟨gn, L⟩, hg⟩ : ∃ g, gs[k]? = some g := ⟨_, List.getElem?_eq_getElem hlt⟩
      have hm := List.mem_of_getElem? hg
      obtain ⟨hrt, _, _, hpos, hlen⟩ := rt_facts HR.out.1 hm
      have hrt : Rt L := hrt
      have hpos : 0 < L.length := hpos
      have hlen : L.length ≤ 2048 := hlen
      obtain ⟨b, o, A3, c3, rfl, lb, x0, x1, r2⟩ := HP.out.d k _ hg
      have hLn : L ≠ [] := by rintro rfl; simp at hpos
      have hr2 := r2
      obtain ⟨gp, op, rfl, lp, cl⟩ := r2 hLn
      have x1' := (hbw.cell (p := ⟨b, o + k * 2 + 1, none⟩) lb).trans x1
      have z0 : (0 : Int) ≤ (k : Int) := by omega
      have z1 : (k : Int) < (gs.length : Int) := by omega
      have HNo := (show Hid (∀ _ : Unit, Calls Tryz.prog 43 #[.agg #[.slice (some ⟨b, o, none⟩) gs.length c], .slice (some ⟨gp, op, none⟩) L.length c3, .slice (some ⟨gI, 0, none⟩) gs.length ci] wr fun e w' => (∃ v, e = .returned v ∧ w'.ownsRow wr.heap.size 4 1 v L.length ((List.range L.length).map fun j => Value.bool ((nuA (kdR L) (lkB gs (nbE now)) L) j))) ∧ Below wr.heap.size wr w') from fun _ => nothing10_any hrt (HP.out.t _ hm).2.2 (fun n hn h6 => HR.out.1.dn.c _ hm n hn h6) (nbE now) HR.out.2.1 (some ⟨b, o, none⟩) (some ⟨gp, op, none⟩) c c3 gI ci wr (HP.out.later hbw) (hr2.below hbw (Nat.le_refl _)) (HB2.out.2.2.later HW.out.b))
      have HCl := (show Hid (NdL w gp op L ∧ gp < w.heap.size) from ⟨cl, lp⟩)
      have HLk := (show Hid (∀ j, j ≤ L.length → (lpG gs (nbE now) k ++ lpK k L (nuA (kdR L) (lkB gs (nbE now)) L) j).length ≤ 409600) from fun j hj => by
        have h1 := lpG_len (nb := nbE now) (fun g hg => (rt_facts HR.out.1 hg).2.2.2.2) k
        have h2 := lpK_len (i := k) (L := L) (nu := (nuA (kdR L) (lkB gs (nbE now)) L)) j
        have : k * 2048 ≤ 199 * 2048 := Nat.mul_le_mul_right _ (by omega)
        rw [List.length_append]
        omega)
      have HSuc := (show Hid (∀ (j : Nat) n, L[j]? = some n → lpG gs (nbE now) k ++ lpK k L (nuA (kdR L) (lkB gs (nbE now)) L) (j + 1) = if rpB n && (nuA (kdR L) (lkB gs (nbE now)) L) (j - 1) then (lpG gs (nbE now) k ++ lpK k L (nuA (kdR L) (lkB gs (nbE now)) L) j) ++ [(k, j)] else lpG gs (nbE now) k ++ lpK k L (nuA (kdR L) (lkB gs (nbE now)) L) j) from fun j n hn => by
        rw [lpK_succ hn]
        split
        · rw [List.append_assoc]
        · rfl)
      have HFin := (show Hid (lpG gs (nbE now) k ++ lpK k L (nuA (kdR L) (lkB gs (nbE now)) L) L.length = lpG gs (nbE now) (k + 1)) from (lpG_succ hg).symm)
      have HRt := (show Hid (Rt L) from hrt)
      clear hg hm hrt lb x0 x1 r2 hr2 hLn lp cl hbw
      go_wp2_with fail
      refine (HNo.out ()).mono ?_
      rintro e w5 ⟨⟨v5, rfl, ho5⟩, b5⟩
      obtain ⟨gN, cN, rfl, _, _, _, _⟩ := own_get ho5 (j := 0) (x := .bool ((nuA (kdR L) (lkB gs (nbE now)) L) 0)) (by rw [List.getElem?_map, List.getElem?_range hpos]; rfl)
      have HW5 := (show Hid (LpD w2 w5 n (lpG gs (nbE now) k ++ lpK k L (nuA (kdR L) (lkB gs (nbE now)) L) 0) u4 gN cN L.length (nuA (kdR L) (lkB gs (nbE now)) L)) from ⟨by have h := HW.out.later b5; rw [show lpK k L (nuA (kdR L) (lkB gs (nbE now)) L) 0 = [] from rfl, List.append_nil]; exact h, U.own_base ho5 HW.out.b.size⟩)
      clear ho5 b5 HNo HW x1' hpos q1
      go_wp2_with fail
      go_loopw [4, 8] (fun v t wr => ∃ (j n2 : Nat), j ≤ L.length ∧ n2 ≤ 409600 ∧ t = .int .i64 (j : Int) ∧ Hid (LpD w2 wr n2 (lpG gs (nbE now) k ++ lpK k L (nuA (kdR L) (lkB gs (nbE now)) L) j) v gN cN L.length (nuA (kdR L) (lkB gs (nbE now)) L))) (fun _ t _ => L.length - (intOf t).toNat)
      case atStart => exact ⟨0, n, Nat.zero_le _, by omega, by go_num, HW5⟩
      case round =>
        obtain ⟨j, n2, hj, hn2', rfl, HX⟩ := hrel
        clear HW5
        by_cases hjl : j < L.length
        · obtain ⟨nd, hnd⟩ : ∃ nd, L[j]? = some nd := ⟨_, List.getElem?_eq_getElem hjl⟩
          obtain ⟨c0, _⟩ := (HCl.out.1.same ((HB2.out.1.trans (HX.out.s.b.mono HB2.out.1.size)).block gp HCl.out.2)) j nd hnd
          have z2 : (0 : Int) ≤ (j : Int) := by omega
          have z3 : (j : Int) < (L.length : Int) := by omega
          have HSj := hid_of (HSuc.out j nd hnd)
          have HPj := (show Hid (rpB nd = true → 0 < j) from fun h => rp_pos HRt.out hnd h)
          clear hnd
          by_cases h9 : nd.op = 9
          · have t9 : (nd.op == 9) = true := by rw [h9]; rfl
            have hrp : rpB nd = true := by unfold rpB; rw [t9]; rfl
            obtain ⟨j0, hj0⟩ : ∃ j0, j = j0 + 1 := ⟨j - 1, by have := HPj.out hrp; omega⟩
            have hsub : (j : Int) - 1 = (j0 : Int) := by omega
            have z4 : (0 : Int) ≤ (j0 : Int) := by omega
            have z5 : (j0 : Int) < (L.length : Int) := by omega
            have m0 := HX.out.at' (j := j0) (by omega)
            have hj1 : j + 1 ≤ L.length := by omega
            have HJ := (show Hid (j = j0 + 1) from hj0)
            cases hnu : (nuA (kdR L) (lkB gs (nbE now)) L) j0 with
            | false =>
              rw [hnu] at m0
              have HN := (show Hid (LpD w2 wr n2 (lpG gs (nbE now) k ++ lpK k L (nuA (kdR L) (lkB gs (nbE now)) L) (j + 1)) u4 gN cN L.length (nuA (kdR L) (lkB gs (nbE now)) L)) from by rw [HSj.out, hrp, Bool.true_and, show j - 1 = j0 from by omega, hnu, if_neg Bool.noConfusion]; exact HX.out)
              clear HX HSj HPj hrp hnu hj0 h9
              go_wp2_with fail
              go_roundw
              case rel => exact ⟨j + 1, n2, by omega, by omega, by go_num, HN⟩
              case measure => simp [intOf]; omega
            | true =>
              rw [hnu] at m0
              obtain ⟨A2, c2, hA2⟩ := own_fs HX.out.s.o
              have HO8 := (show Hid (wr.ownsRow w2.heap.size 28 2 u4 n2 (spc (lpG gs (nbE now) k ++ lpK k L (nuA (kdR L) (lkB gs (nbE now)) L) j))) from HX.out.s.o)
              have HN8 := (show Hid (w2.heap.size ≤ wr.heap.size) from HX.out.s.b.size)
              have HPu := (show Hid (∀ (g9 cap9 : Nat) (w9 : World), w9.ownsRow w2.heap.size 28 2 (.slice (some ⟨g9, 0, none⟩) (n2 + 1) cap9) (n2 + 1) (spc ((lpG gs (nbE now) k ++ lpK k L (nuA (kdR L) (lkB gs (nbE now)) L) j) ++ [(k, j)])) → wr.grownBy w9 u4.ownBlock → Hid (LpD w2 w9 (n2 + 1) (lpG gs (nbE now) k ++ lpK k L (nuA (kdR L) (lkB gs (nbE now)) L) (j + 1)) (.slice (some ⟨g9, 0, none⟩) (n2 + 1) cap9) gN cN L.length (nuA (kdR L) (lkB gs (nbE now)) L)) ∧ n2 + 1 ≤ 409600) from fun g9 cap9 w9 h1 h2 => by
                have e : lpG gs (nbE now) k ++ lpK k L (nuA (kdR L) (lkB gs (nbE now)) L) (j + 1) = (lpG gs (nbE now) k ++ lpK k L (nuA (kdR L) (lkB gs (nbE now)) L) j) ++ [(k, j)] := by rw [HSj.out, hrp, Bool.true_and, show j - 1 = j0 from by omega, hnu, if_pos rfl]
                have hl := HX.out.s.l
                have hb := HLk.out (j + 1) (by omega)
                rw [e, List.length_append, ← hl] at hb
                refine ⟨?_, hb⟩
                show LpD _ _ _ _ _ _ _ _ _
                rw [e]
                exact HX.out.push h1 h2)
              subst hA2
              clear HX HSj HPj hrp hnu hj0 h9
              go_wp2_with (at_builtin; refine wpList_appS rfl _ _ rfl w2.heap.size n2 _ _ rfl rfl HO8.out (by omega) HN8.out ?_; intro g9 cap9 w9 ho9 hg9; obtain ⟨HV9, hn9⟩ := HPu.out g9 cap9 w9 ho9 hg9; clear ho9 hg9 HPu HO8 HN8 m0 c0 t9)
              go_roundw
              case rel => exact ⟨j + 1, n2 + 1, by omega, hn9, by go_num, HV9⟩
              case measure => simp [intOf]; omega
          by_cases h10 : nd.op = 10
          · have t9 : (nd.op == 9) = false := by rw [h10]; rfl
            have t10 : (nd.op == 10) = true := by rw [h10]; rfl
            have hrp : rpB nd = true := by unfold rpB; rw [t9, t10]; rfl
            obtain ⟨j0, hj0⟩ : ∃ j0, j = j0 + 1 := ⟨j - 1, by have := HPj.out hrp; omega⟩
            have hsub : (j : Int) - 1 = (j0 : Int) := by omega
            have z4 : (0 : Int) ≤ (j0 : Int) := by omega
            have z5 : (j0 : Int) < (L.length : Int) := by omega
            have m0 := HX.out.at' (j := j0) (by omega)
            have hj1 : j + 1 ≤ L.length := by omega
            have HJ := (show Hid (j = j0 + 1) from hj0)
            cases hnu : (nuA (kdR L) (lkB gs (nbE now)) L) j0 with
            | false =>
              rw [hnu] at m0
              have HN := (show Hid (LpD w2 wr n2 (lpG gs (nbE now) k ++ lpK k L (nuA (kdR L) (lkB gs (nbE now)) L) (j + 1)) u4 gN cN L.length (nuA (kdR L) (lkB gs (nbE now)) L)) from by rw [HSj.out, hrp, Bool.true_and, show j - 1 = j0 from by omega, hnu, if_neg Bool.noConfusion]; exact HX.out)
              clear HX HSj HPj hrp hnu hj0 h10
              go_wp2_with fail
              go_roundw
              case rel => exact ⟨j + 1, n2, by omega, by omega, by go_num, HN⟩
              case measure => simp [intOf]; omega
            | true =>
              rw [hnu] at m0
              obtain ⟨A2, c2, hA2⟩ := own_fs HX.out.s.o
              have HO8 := (show Hid (wr.ownsRow w2.heap.size 28 2 u4 n2 (spc (lpG gs (nbE now) k ++ lpK k L (nuA (kdR L) (lkB gs (nbE now)) L) j))) from HX.out.s.o)
              have HN8 := (show Hid (w2.heap.size ≤ wr.heap.size) from HX.out.s.b.size)
              have HPu := (show Hid (∀ (g9 cap9 : Nat) (w9 : World), w9.ownsRow w2.heap.size 28 2 (.slice (some ⟨g9, 0, none⟩) (n2 + 1) cap9) (n2 + 1) (spc ((lpG gs (nbE now) k ++ lpK k L (nuA (kdR L) (lkB gs (nbE now)) L) j) ++ [(k, j)])) → wr.grownBy w9 u4.ownBlock → Hid (LpD w2 w9 (n2 + 1) (lpG gs (nbE now) k ++ lpK k L (nuA (kdR L) (lkB gs (nbE now)) L) (j + 1)) (.slice (some ⟨g9, 0, none⟩) (n2 + 1) cap9) gN cN L.length (nuA (kdR L) (lkB gs (nbE now)) L)) ∧ n2 + 1 ≤ 409600) from fun g9 cap9 w9 h1 h2 => by
                have e : lpG gs (nbE now) k ++ lpK k L (nuA (kdR L) (lkB gs (nbE now)) L) (j + 1) = (lpG gs (nbE now) k ++ lpK k L (nuA (kdR L) (lkB gs (nbE now)) L) j) ++ [(k, j)] := by rw [HSj.out, hrp, Bool.true_and, show j - 1 = j0 from by omega, hnu, if_pos rfl]
                have hl := HX.out.s.l
                have hb := HLk.out (j + 1) (by omega)
                rw [e, List.length_append, ← hl] at hb
                refine ⟨?_, hb⟩
                show LpD _ _ _ _ _ _ _ _ _
                rw [e]
                exact HX.out.push h1 h2)
              subst hA2
              clear HX HSj HPj hrp hnu hj0 h10
              go_wp2_with (at_builtin; refine wpList_appS rfl _ _ rfl w2.heap.size n2 _ _ rfl rfl HO8.out (by omega) HN8.out ?_; intro g9 cap9 w9 ho9 hg9; obtain ⟨HV9, hn9⟩ := HPu.out g9 cap9 w9 ho9 hg9; clear ho9 hg9 HPu HO8 HN8 m0 c0 t9 t10)
              go_roundw
              case rel => exact ⟨j + 1, n2 + 1, by omega, hn9, by go_num, HV9⟩
              case measure => simp [intOf]; omega
          by_cases h15 : nd.op = 15
          · have t9 : (nd.op == 9) = false := by rw [h15]; rfl
            have t10 : (nd.op == 10) = false := by rw [h15]; rfl
            have t15 : (nd.op == 15) = true := by rw [h15]; rfl
            have hrp : rpB nd = true := by unfold rpB; rw [t9, t10, t15]; rfl
            obtain ⟨j0, hj0⟩ : ∃ j0, j = j0 + 1 := ⟨j - 1, by have := HPj.out hrp; omega⟩
            have hsub : (j : Int) - 1 = (j0 : Int) := by omega
            have z4 : (0 : Int) ≤ (j0 : Int) := by omega
            have z5 : (j0 : Int) < (L.length : Int) := by omega
            have m0 := HX.out.at' (j := j0) (by omega)
            have hj1 : j + 1 ≤ L.length := by omega
            have HJ := (show Hid (j = j0 + 1) from hj0)
            cases hnu : (nuA (kdR L) (lkB gs (nbE now)) L) j0 with
            | false =>
              rw [hnu] at m0
              have HN := (show Hid (LpD w2 wr n2 (lpG gs (nbE now) k ++ lpK k L (nuA (kdR L) (lkB gs (nbE now)) L) (j + 1)) u4 gN cN L.length (nuA (kdR L) (lkB gs (nbE now)) L)) from by rw [HSj.out, hrp, Bool.true_and, show j - 1 = j0 from by omega, hnu, if_neg Bool.noConfusion]; exact HX.out)
              clear HX HSj HPj hrp hnu hj0 h15
              go_wp2_with fail
              go_roundw
              case rel => exact ⟨j + 1, n2, by omega, by omega, by go_num, HN⟩
              case measure => simp [intOf]; omega
            | true =>
              rw [hnu] at m0
              obtain ⟨A2, c2, hA2⟩ := own_fs HX.out.s.o
              have HO8 := (show Hid (wr.ownsRow w2.heap.size 28 2 u4 n2 (spc (lpG gs (nbE now) k ++ lpK k L (nuA (kdR L) (lkB gs (nbE now)) L) j))) from HX.out.s.o)
              have HN8 := (show Hid (w2.heap.size ≤ wr.heap.size) from HX.out.s.b.size)
              have HPu := (show Hid (∀ (g9 cap9 : Nat) (w9 : World), w9.ownsRow w2.heap.size 28 2 (.slice (some ⟨g9, 0, none⟩) (n2 + 1) cap9) (n2 + 1) (spc ((lpG gs (nbE now) k ++ lpK k L (nuA (kdR L) (lkB gs (nbE now)) L) j) ++ [(k, j)])) → wr.grownBy w9 u4.ownBlock → Hid (LpD w2 w9 (n2 + 1) (lpG gs (nbE now) k ++ lpK k L (nuA (kdR L) (lkB gs (nbE now)) L) (j + 1)) (.slice (some ⟨g9, 0, none⟩) (n2 + 1) cap9) gN cN L.length (nuA (kdR L) (lkB gs (nbE now)) L)) ∧ n2 + 1 ≤ 409600) from fun g9 cap9 w9 h1 h2 => by
                have e : lpG gs (nbE now) k ++ lpK k L (nuA (kdR L) (lkB gs (nbE now)) L) (j + 1) = (lpG gs (nbE now) k ++ lpK k L (nuA (kdR L) (lkB gs (nbE now)) L) j) ++ [(k, j)] := by rw [HSj.out, hrp, Bool.true_and, show j - 1 = j0 from by omega, hnu, if_pos rfl]
                have hl := HX.out.s.l
                have hb := HLk.out (j + 1) (by omega)
                rw [e, List.length_append, ← hl] at hb
                refine ⟨?_, hb⟩
                show LpD _ _ _ _ _ _ _ _ _
                rw [e]
                exact HX.out.push h1 h2)
              subst hA2
              clear HX HSj HPj hrp hnu hj0 h15
              go_wp2_with (at_builtin; refine wpList_appS rfl _ _ rfl w2.heap.size n2 _ _ rfl rfl HO8.out (by omega) HN8.out ?_; intro g9 cap9 w9 ho9 hg9; obtain ⟨HV9, hn9⟩ := HPu.out g9 cap9 w9 ho9 hg9; clear ho9 hg9 HPu HO8 HN8 m0 c0 t9 t10 t15)
              go_roundw
              case rel => exact ⟨j + 1, n2 + 1, by omega, hn9, by go_num, HV9⟩
              case measure => simp [intOf]; omega
          · skip
            have t9 : (nd.op == 9) = false := by rw [beq_eq_false_iff_ne]; omega
            have t10 : (nd.op == 10) = false := by rw [beq_eq_false_iff_ne]; omega
            have t15 : (nd.op == 15) = false := by rw [beq_eq_false_iff_ne]; omega
            have hrp : rpB nd = false := by unfold rpB; rw [t9, t10, t15]; rfl
            have hj1 : j + 1 ≤ L.length := by omega
            have HN := (show Hid (LpD w2 wr n2 (lpG gs (nbE now) k ++ lpK k L (nuA (kdR L) (lkB gs (nbE now)) L) (j + 1)) u4 gN cN L.length (nuA (kdR L) (lkB gs (nbE now)) L)) from by rw [HSj.out, hrp, Bool.false_and, if_neg Bool.noConfusion]; exact HX.out)
            clear HX HSj HPj hrp h9 h10 h15
            go_wp2_with fail
            go_roundw
            case rel => exact ⟨j + 1, n2, by omega, by omega, by go_num, HN⟩
            case measure => simp [intOf]; omega
        · obtain rfl : j = L.length := by omega
          have HN := (show Hid (LoD w2 wr n2 (lpG gs (nbE now) (k + 1)) u4) from by rw [← HFin.out]; exact HX.out.s)
          clear HX HSuc HFin HRt HLk HCl
          go_wp2_with fail
          go_roundw
          case rel => exact ⟨k + 1, n2, by omega, by omega, by go_num, HN⟩
          case measure => simp [intOf]; omega
    · obtain rfl : k = gs.length := by omega
      have HO := (show Hid (wr.ownsRow w.heap.size 28 2 u4 (lpG gs (nbE now) gs.length).length (spc (lpG gs (nbE now) gs.length)) ∧ Below w.heap.size w wr) from ⟨by have h := own_base HW.out.o HB2.out.1.size; rw [HW.out.l] at h; exact h, hbw⟩)
      clear HW hbw
      go_wp2_with fail
      go_ret
      exact ⟨⟨_, rfl, HO.out.1⟩, HO.out.2⟩
end Go.Proofs.YtbipjdgholdhcaaGreat.N

namespace Go.Proofs.YtbipjdgholdhcaaGreat.N
open Go.RowKit Go.Maps
open Go.Proofs.YtbipjdgholdhcaaGreat.T

open U (below_grown own_get own_slice TT)
/-- What Check says, by the document. -/
def VdD (gs : GL) (now : List Em) (l : List Nat) (p q : Nat) (e : Int) : Prop := ((ckG gs).2 ≠ 0 → l = [] ∧ (p, q) = (ckG gs).1 ∧ e = (ckG gs).2) ∧ ((ckG gs).2 = 0 → ∃ cy, CyR gs.length (hdM gs (nbE now)) cy ∧ ((cy ≠ [] ∧ l = cy ∧ p = 0 ∧ q = 0 ∧ e = 100) ∨ (cy = [] ∧ l = [] ∧ ((∃ s r, lpG gs (nbE now) gs.length = s :: r ∧ p = s.1 ∧ q = s.2 ∧ e = 101) ∨ (lpG gs (nbE now) gs.length = [] ∧ p = 0 ∧ q = 0 ∧ e = 0)))))
set_option maxRecDepth 100000 in
set_option maxHeartbeats 32000000 in
/-- The document's Check. -/
theorem checkD10_any {gs : GL} {now : List Em} (hk : (ckG gs).2 = 0 → KnF gs now ∧ now.length = gs.length) (A : Option Addr) (c : Nat) (w : World) (hp : GI w A gs) :
    Calls Tryz.prog 9 #[.agg #[.slice A gs.length c]] w fun e w' => (∃ (vc : Value) (l : List Nat) (p q : Nat) (cd : Int), e = .returned (.tuple #[.agg #[vc, .int .i64 (p : Int), .int .i64 (q : Int)], .int .i64 cd]) ∧ VdD gs now l p q cd ∧ w'.ownsRow w.heap.size 3 1 vc l.length (l.map U.nI)) ∧ Below w.heap.size w w' := by
  obtain ⟨w1, hw1⟩ : ∃ w1, w1 = (w.alloc (.cells #[.slice A gs.length c] 24)).alloc (.cells #[.slice none 0 0, .int .i64 0, .int .i64 0] 30) := ⟨_, rfl⟩
  have HE1 := (show Hid ((w.alloc (.cells #[.slice A gs.length c] 24)).alloc (.cells #[.slice none 0 0, .int .i64 0, .int .i64 0] 30) = w1) from hw1.symm)
  have s0 := World.size_alloc w (.cells #[.slice A gs.length c] 24)
  have HS := (show Hid (Below w.heap.size w w1 ∧ GX w1 w.heap.size (.slice A gs.length c) ∧ DX w1 (w.heap.size + 1) (.slice none 0 0) 0 0 ∧ w1.heap.size = w.heap.size + 2) from by
    refine ⟨by rw [hw1]; exact ((Below.refl _ _).alloc (Nat.le_refl _) _).alloc (by omega) _, by rw [hw1]; exact (GX.mk (heap_alloc_new w _)).below (below_box _ _), ?_, by rw [hw1, World.size_alloc, s0]⟩
    have h := DX.new (w.alloc (.cells #[.slice A gs.length c] 24)) (.slice none 0 0) 0 0
    rw [s0, ← hw1] at h
    exact h)
  have HCk := (show Hid (∀ _ : Unit, Calls Tryz.prog 21 #[.agg #[.slice A gs.length c]] w1 fun e w' => e = .returned (.tuple #[.agg #[.int .i64 (ckG gs).1.1, .int .i64 (ckG gs).1.2], .int .i64 (ckG gs).2]) ∧ Below w1.heap.size w1 w') from fun _ => checkD_any gs A c w1 (hp.later HS.out.1))
  have HP := (show Hid (GI w A gs) from hp)
  have q1 := HS.out.2.1.cl
  clear hw1 hp s0
  go_enter Tryz.func9, Tryz.ntmps9
  go_wp2_with (rw [HE1.out])
  refine (HCk.out ()).mono ?_
  rintro e w2 ⟨rfl, b2⟩
  obtain ⟨w3, hw3⟩ : ∃ w3, w3 = w2.alloc (.cells #[.int .i64 ((ckG gs).1.1 : Int), .int .i64 ((ckG gs).1.2 : Int)] 28) := ⟨_, rfl⟩
  have HE3 := (show Hid (w2.alloc (.cells #[.int .i64 ((ckG gs).1.1 : Int), .int .i64 ((ckG gs).1.2 : Int)] 28) = w3) from hw3.symm)
  have hb3 : Below w2.heap.size w2 w3 := by rw [hw3]; exact below_box _ _
  have hs5 : SX w3 w2.heap.size (ckG gs).1.1 (ckG gs).1.2 := by rw [hw3]; exact ⟨heap_alloc_new w2 _⟩
  have HB3 := (show Hid (Below w.heap.size w w3 ∧ GX w3 w.heap.size (.slice A gs.length c) ∧ DX w3 (w.heap.size + 1) (.slice none 0 0) 0 0) from ⟨(HS.out.1.trans (b2.mono HS.out.1.size)).trans (hb3.mono (HS.out.1.trans (b2.mono HS.out.1.size)).size), (HS.out.2.1.below b2).below hb3, (HS.out.2.2.1.below b2).below hb3⟩)
  have HS3 := (show Hid (w.heap.size + 2 ≤ w3.heap.size) from by
    show _ ≤ _
    have h1 := HS.out.2.2.2
    have h2 := b2.size
    have h3 := hb3.size
    omega)
  have q3 := HB3.out.2.1.cl
  have s0 := hs5.c0
  have s1 := hs5.c1
  clear HCk HE1 q1 HS b2 hw3 hb3 hs5
  by_cases hz : (ckG gs).2 = 0
  · have tz : ((ckG gs).2 != 0) = false := by rw [hz]; rfl
    have HK := (show Hid (KnF gs now ∧ now.length = gs.length ∧ (ckG gs).2 = 0) from ⟨(hk hz).1, (hk hz).2, hz⟩)
    have HR := (show Hid (RtG gs) from ckG_ok.1 hz)
    clear hk hz
    have HAh := (show Hid (∀ _ : Unit, Calls Tryz.prog 25 #[.agg #[.slice A gs.length c]] w3 fun e w' => (∃ v xs, e = .returned v ∧ xs.length = gs.length ∧ TT w' w3.heap.size 76 4 v (hbT gs.length (hdM gs (nbE now)) gs.length) xs) ∧ Below w3.heap.size w3 w') from fun _ => allHeads_any HR.out HK.out.1 HK.out.2.1 A c w3 (HP.out.later HB3.out.1))
    go_wp2_with (rw [HE3.out])
    refine (HAh.out ()).mono ?_
    rintro e w4 ⟨⟨vh, xs, rfl, hxl, hT⟩, b4⟩
    obtain ⟨Ah, ch, hAh⟩ := own_slice hT.o
    rw [hxl] at hAh
    subst hAh
    have HCy := (show Hid (∀ _ : Unit, Calls Tryz.prog 24 #[.slice Ah gs.length ch] w4 fun e w' => (∃ v l, e = .returned v ∧ CyR gs.length (hdM gs (nbE now)) l ∧ w'.ownsRow w4.heap.size 3 1 v l.length (l.map U.nI)) ∧ Below w4.heap.size w4 w') from fun _ => cycleD_any (hdM_lt HR.out) HR.out.n2 Ah ch w4 (rdM_tt hT hxl))
    have HB4 := (show Hid (Below w.heap.size w w4 ∧ GX w4 w.heap.size (.slice A gs.length c) ∧ DX w4 (w.heap.size + 1) (.slice none 0 0) 0 0) from ⟨HB3.out.1.trans (b4.mono HB3.out.1.size), HB3.out.2.1.below b4, HB3.out.2.2.below b4⟩)
    have HS4 := (show Hid (w.heap.size + 2 ≤ w4.heap.size) from Nat.le_trans HS3.out b4.size)
    clear hxl hT b4 HAh HE3 q3 s0 s1 HB3 HS3
    go_wp2_with fail
    refine (HCy.out ()).mono ?_
    rintro e w5 ⟨⟨vc, cy, rfl, hcy, hoc⟩, b5⟩
    obtain ⟨Ac, cc, rfl⟩ := own_slice hoc
    have HB5 := (show Hid (Below w.heap.size w w5 ∧ GX w5 w.heap.size (.slice A gs.length c) ∧ DX w5 (w.heap.size + 1) (.slice none 0 0) 0 0) from ⟨HB4.out.1.trans (b5.mono HB4.out.1.size), HB4.out.2.1.below b5, HB4.out.2.2.below b5⟩)
    have HC5 := (show Hid (CyR gs.length (hdM gs (nbE now)) cy ∧ w5.ownsRow w4.heap.size 3 1 (.slice Ac cy.length cc) cy.length (cy.map U.nI)) from ⟨hcy, hoc⟩)
    have HS5 := (show Hid (w.heap.size + 2 ≤ w5.heap.size) from Nat.le_trans HS4.out b5.size)
    clear hcy hoc b5 HCy HB4
    by_cases hc0 : cy = []
    · have hcz : (.slice Ac cy.length cc : Value) = .slice Ac 0 cc := by rw [hc0]; rfl
      rw [hcz]
      clear hcz
      have HC0 := (show Hid (cy = []) from hc0)
      have q5 := HB5.out.2.1.cl
      clear hc0
      have HLo := (show Hid (∀ _ : Unit, Calls Tryz.prog 26 #[.agg #[.slice A gs.length c]] w5 fun e w' => (∃ v, e = .returned v ∧ w'.ownsRow w5.heap.size 28 2 v (lpG gs (nbE now) gs.length).length (spc (lpG gs (nbE now) gs.length))) ∧ Below w5.heap.size w5 w') from fun _ => loopsG_any HR.out HK.out.1 HK.out.2.1 A c w5 (HP.out.later HB5.out.1))
      go_wp2_with fail
      refine (HLo.out ()).mono ?_
      rintro e w6 ⟨⟨vl, rfl, hol⟩, b6⟩
      obtain ⟨Al, cl, rfl⟩ := own_fs hol
      have HB6 := (show Hid (Below w.heap.size w w6) from HB5.out.1.trans (b6.mono HB5.out.1.size))
      have HD6 := (show Hid (DX w6 (w.heap.size + 1) (.slice none 0 0) 0 0) from HB5.out.2.2.below b6)
      have d0 := HD6.out.c0
      have d1 := HD6.out.c1
      have d2 := HD6.out.c2
      have f0 := HD6.out.fz 0
      have f1 := HD6.out.fz 1
      have f2 := HD6.out.fz 2
      obtain ⟨ls, hls⟩ : ∃ ls, ls = lpG gs (nbE now) gs.length := ⟨_, rfl⟩
      have HLs := (show Hid (ls = lpG gs (nbE now) gs.length ∧ w6.ownsRow w5.heap.size 28 2 (.slice Al ls.length cl) ls.length (spc ls)) from ⟨hls, by rw [hls]; exact hol⟩)
      rw [← hls]
      clear hol hls b6 HLo q5
      cases ls with
      | nil =>
        have HVd := (show Hid (VdD gs now [] 0 0 0) from ⟨fun q => absurd HK.out.2.2 q, fun _ => ⟨cy, HC5.out.1, .inr ⟨HC0.out, rfl, .inr ⟨HLs.out.1.symm, rfl, rfl, rfl⟩⟩⟩⟩)
        obtain ⟨w7, hw7⟩ : ∃ w7, w7 = sV w6 (w.heap.size + 1) (.slice none 0 0) 0 0 := ⟨_, rfl⟩
        have HE7 := (show Hid (((w6.setCell ⟨w.heap.size + 1, 0, none⟩ (.slice none 0 0)).setCell ⟨w.heap.size + 1, 1, none⟩ (.int .i64 0)).setCell ⟨w.heap.size + 1, 2, none⟩ (.int .i64 0) = w7) from hw7.symm)
        have HB7 := (show Hid (Below w.heap.size w w7 ∧ DX w7 (w.heap.size + 1) (.slice none 0 0) 0 0) from by rw [hw7]; exact ⟨sV_below _ _ _ HB6.out (Nat.le_succ _), sV_dx HD6.out _ _ _⟩)
        clear hw7
        go_wp2_with (rw [HE7.out])
        refine ret_ck (b := w.heap.size + 1) (by rfl) (by rfl) (by rfl) (by rfl) HB7.out.2 ⟨⟨_, [], 0, 0, 0, rfl, HVd.out, World.ownsRow_nil _ _ _ _⟩, HB7.out.1⟩
      | cons s ls =>
        obtain ⟨sp, sr⟩ := s
        obtain ⟨g, rfl, hc1⟩ := fs_head HLs.out.2 rfl
        have HVd := (show Hid (VdD gs now [] sp sr 101) from ⟨fun q => absurd HK.out.2.2 q, fun _ => ⟨cy, HC5.out.1, .inr ⟨HC0.out, rfl, .inl ⟨(sp, sr), ls, HLs.out.1.symm, rfl, rfl, rfl⟩⟩⟩⟩)
        have l0 := hc1.1
        have l1 := hc1.2
        obtain ⟨w7, hw7⟩ : ∃ w7, w7 = sV w6 (w.heap.size + 1) (.slice none 0 0) sp sr := ⟨_, rfl⟩
        have HE7 := (show Hid (((w6.setCell ⟨w.heap.size + 1, 0, none⟩ (.slice none 0 0)).setCell ⟨w.heap.size + 1, 1, none⟩ (.int .i64 (sp : Int))).setCell ⟨w.heap.size + 1, 2, none⟩ (.int .i64 (sr : Int)) = w7) from hw7.symm)
        have HB7 := (show Hid (Below w.heap.size w w7 ∧ DX w7 (w.heap.size + 1) (.slice none 0 0) sp sr) from by rw [hw7]; exact ⟨sV_below _ _ _ HB6.out (Nat.le_succ _), sV_dx HD6.out _ _ _⟩)
        clear hc1 hw7
        have hlen : ((sp, sr) :: ls).length = ls.length + 1 := rfl
        rw [hlen]
        clear hlen
        generalize ls.length = m
        have hm : (0 : Int) < (m + 1 : Nat) := by omega
        have hm2 : 0 < m + 1 := by omega
        go_wp2_with (rw [HE7.out])
        refine ret_ck (b := w.heap.size + 1) (by rfl) (by rfl) (by rfl) (by rfl) HB7.out.2 ⟨⟨_, [], sp, sr, 101, rfl, HVd.out, World.ownsRow_nil _ _ _ _⟩, HB7.out.1⟩
    · have HVd := (show Hid (VdD gs now cy 0 0 100) from ⟨fun q => absurd HK.out.2.2 q, fun _ => ⟨cy, HC5.out.1, .inl ⟨hc0, rfl, rfl, rfl, rfl⟩⟩⟩)
      have hm2 : 0 < cy.length := List.length_pos_iff.2 hc0
      obtain ⟨m, hm⟩ : ∃ m, m = cy.length := ⟨_, rfl⟩
      have HO5 := (show Hid (w5.ownsRow w4.heap.size 3 1 (.slice Ac m cc) cy.length (cy.map U.nI)) from by rw [hm]; exact HC5.out.2)
      have HD5 := (show Hid (DX w5 (w.heap.size + 1) (.slice none 0 0) 0 0) from HB5.out.2.2)
      rw [← hm] at hm2 ⊢
      clear hm hc0
      have hm3 : (0 : Int) < (m : Nat) := by omega
      have d0 := HD5.out.c0
      have d1 := HD5.out.c1
      have d2 := HD5.out.c2
      have f0 := HD5.out.fz 0
      have f1 := HD5.out.fz 1
      have f2 := HD5.out.fz 2
      obtain ⟨w7, hw7⟩ : ∃ w7, w7 = sV w5 (w.heap.size + 1) (.slice Ac m cc) 0 0 := ⟨_, rfl⟩
      have HE7 := (show Hid (((w5.setCell ⟨w.heap.size + 1, 0, none⟩ (.slice Ac m cc)).setCell ⟨w.heap.size + 1, 1, none⟩ (.int .i64 0)).setCell ⟨w.heap.size + 1, 2, none⟩ (.int .i64 0) = w7) from hw7.symm)
      have HO7 := (show Hid (w7.ownsRow w4.heap.size 3 1 (.slice Ac m cc) cy.length (cy.map U.nI)) from own_same HO5.out fun k e => by
        have h1 := (HO5.out.lt k e).1
        rw [hw7]
        exact sV_other _ _ _ _ _ (by have := HS4.out; omega))
      have HB7 := (show Hid (Below w.heap.size w w7 ∧ DX w7 (w.heap.size + 1) (.slice Ac m cc) 0 0) from by rw [hw7]; exact ⟨sV_below _ _ _ HB5.out.1 (Nat.le_succ _), sV_dx HD5.out _ _ _⟩)
      clear hw7
      go_wp2_with (rw [HE7.out])
      refine ret_ck (b := w.heap.size + 1) (by rfl) (by rfl) (by rfl) (by rfl) HB7.out.2 ⟨⟨_, cy, 0, 0, 100, rfl, HVd.out, own_base HO7.out (by have := HS4.out; omega)⟩, HB7.out.1⟩
  · have tz : ((ckG gs).2 != 0) = true := by rw [bne, beq_eq_false_iff_ne.2 hz]; rfl
    obtain ⟨ca, cb, cd, hcc⟩ : ∃ (ca cb : Nat) (cd : Int), ckG gs = ((ca, cb), cd) := ⟨_, _, _, rfl⟩
    have HVd := (show Hid (VdD gs now [] ca cb cd) from ⟨fun _ => ⟨rfl, by rw [hcc], by rw [hcc]⟩, fun q => absurd q hz⟩)
    rw [hcc] at tz s0 s1 HE3 ⊢
    have tz : (cd != 0) = true := tz
    have s0 : w3.cell? ⟨w2.heap.size, 0, none⟩ = some (.int .i64 (ca : Int)) := s0
    have s1 : w3.cell? ⟨w2.heap.size, 1, none⟩ = some (.int .i64 (cb : Int)) := s1
    have HE3 := (show Hid (w2.alloc (.cells #[.int .i64 (ca : Int), .int .i64 (cb : Int)] 28) = w3) from HE3.out)
    have d0 := HB3.out.2.2.c0
    have d1 := HB3.out.2.2.c1
    have d2 := HB3.out.2.2.c2
    have f0 := HB3.out.2.2.fz 0
    have f1 := HB3.out.2.2.fz 1
    have f2 := HB3.out.2.2.fz 2
    obtain ⟨w7, hw7⟩ : ∃ w7, w7 = sV w3 (w.heap.size + 1) (.slice none 0 0) ca cb := ⟨_, rfl⟩
    have HE7 := (show Hid (((w3.setCell ⟨w.heap.size + 1, 0, none⟩ (.slice none 0 0)).setCell ⟨w.heap.size + 1, 1, none⟩ (.int .i64 (ca : Int))).setCell ⟨w.heap.size + 1, 2, none⟩ (.int .i64 (cb : Int)) = w7) from hw7.symm)
    have HB7 := (show Hid (Below w.heap.size w w7 ∧ DX w7 (w.heap.size + 1) (.slice none 0 0) ca cb) from by rw [hw7]; exact ⟨sV_below _ _ _ HB3.out.1 (Nat.le_succ _), sV_dx HB3.out.2.2 _ _ _⟩)
    clear hz hcc hw7 HP hk
    go_wp2_with (first | rw [HE3.out] | rw [HE7.out])
    refine ret_ck (b := w.heap.size + 1) (by rfl) (by rfl) (by rfl) (by rfl) HB7.out.2 ⟨⟨_, [], ca, cb, cd, rfl, HVd.out, World.ownsRow_nil _ _ _ _⟩, HB7.out.1⟩
end Go.Proofs.YtbipjdgholdhcaaGreat.N

namespace Go.Proofs.YtbipjdgholdhcaaGreat.N
open Go.RowKit Go.Maps
open Go.Proofs.YtbipjdgholdhcaaGreat.T

open U (own_get own_slice below_grown)
theorem sp_eq (a b : Nat) (W : World) : (binOp .eql 28 (.agg #[.int .i64 (a : Int), .int .i64 (b : Int)]) (.agg #[.int .i64 (a : Int), .int .i64 (b : Int)])).run Tryz.prog W = .ok (.bool true) W := by
  have hp : Tryz.prog.stoodInHeld 28 = false := by kernel_rfl
  simp [go_sem, Tryz.underlying28, Tryz.underlying3, Tryz.isAgg3, hp]

set_option maxRecDepth 100000 in
set_option maxHeartbeats 8000000 in
theorem SameInts_any (l : List Nat) (hl : l.length ≤ 1000000) {A1 A2 : Option Addr} {c1 c2 B1 B2 : Nat} (w : World) (h1 : w.ownsRow B1 3 1 (.slice A1 l.length c1) l.length (l.map U.nI)) (h2 : w.ownsRow B2 3 1 (.slice A2 l.length c2) l.length (l.map U.nI)) :
    Calls Tryz.prog 11 #[.slice A1 l.length c1, .slice A2 l.length c2] w fun e w' => e = .returned (.bool true) ∧ Below w.heap.size w w' := by
  have H1 := (show Hid (w.ownsRow B1 3 1 (.slice A1 l.length c1) l.length (l.map U.nI) ∧ w.ownsRow B2 3 1 (.slice A2 l.length c2) l.length (l.map U.nI)) from ⟨h1, h2⟩)
  have HS := (show Hid (Below w.heap.size w w) from Below.refl _ _)
  clear h1 h2
  go_enter Tryz.func11, Tryz.ntmps11
  go_wp2_with fail
  go_loopw [5] (fun t wr => ∃ k : Nat, k ≤ l.length ∧ t = .int .i64 (k : Int) ∧ Hid (Below w.heap.size w wr)) (fun t _ => l.length - (intOf t).toNat)
  case atStart => exact ⟨0, Nat.zero_le _, by go_num, HS⟩
  case round =>
    obtain ⟨k, hk, rfl, HW⟩ := hrel
    clear HS
    by_cases hlt : k < l.length
    · obtain ⟨x, hx⟩ : ∃ x, l[k]? = some x := ⟨_, List.getElem?_eq_getElem hlt⟩
      obtain ⟨g1, k1, e1, _, l1, p1, _⟩ := own_get H1.out.1 (j := k) (x := U.nI x) (by rw [List.getElem?_map, hx]; rfl)
      obtain ⟨g2, k2, e2, _, l2, p2, _⟩ := own_get H1.out.2 (j := k) (x := U.nI x) (by rw [List.getElem?_map, hx]; rfl)
      have e1 : A1 = some ⟨g1, 0, none⟩ := by injection e1
      have e2 : A2 = some ⟨g2, 0, none⟩ := by injection e2
      subst e1
      subst e2
      have y1 : wr.cell? ⟨g1, k, none⟩ = some (.int .i64 (x : Int)) := (HW.out.cell (p := ⟨g1, k, none⟩) l1).trans p1
      have y2 : wr.cell? ⟨g2, k, none⟩ = some (.int .i64 (x : Int)) := (HW.out.cell (p := ⟨g2, k, none⟩) l2).trans p2
      clear p1 p2 l1 l2 hx
      have z0 : (0 : Int) ≤ (k : Int) := by omega
      have z1 : (k : Int) < (l.length : Int) := by omega
      go_wp2_with fail
      go_big_quiet (fail)
      have HB := (show Hid (Below w.heap.size w (wr.drewN nq)) from HW.out.trans ((below_dn _).mono HW.out.size))
      generalize wr.drewN nq = w9 at *
      clear HW
      go_wp2_with fail
      go_roundw
      case rel => exact ⟨k + 1, by omega, by go_num, HB⟩
      case measure => simp [intOf]; omega
    · obtain rfl : k = l.length := by omega
      have HB := (show Hid (Below w.heap.size w wr) from HW.out)
      clear HW
      go_wp2_with fail
      go_ret
      exact ⟨rfl, HB.out⟩
end Go.Proofs.YtbipjdgholdhcaaGreat.N

namespace Go.Proofs.YtbipjdgholdhcaaGreat.N
open Go.RowKit Go.Maps
open Go.Proofs.YtbipjdgholdhcaaGreat.T

open U (own_get own_slice below_grown)
def lvA : Nd := ⟨3, 0, ⟨#[]⟩, 0, 0, 0, 0⟩
def lvB : Nd := ⟨6, 0, ⟨#[115]⟩, 0, 0, 0, 0⟩
def lvG (n : Nd) : GL := [(⟨#[115]⟩, [n])]
theorem lv_a : ckG (lvG lvA) = ((0, 0), 0) := by kernel_rfl
theorem lv_b : ckG (lvG lvB) = ((0, 0), 0) := by kernel_rfl
theorem rc_some {n : Nat} {c : Mx} {x y : Nat} (h : Rc n c x y) : ∃ k, c x k = true :=
  Rc.least (d := fun i _ => ∃ k, c i k = true) (fun _i j hc => ⟨j, hc⟩) (fun _i _k _j _ h1 _ => h1) h
theorem lv_ha (nb : List Bool) (i q : Nat) : hdM (lvG lvA) nb i q = false := by
  cases i with
  | zero => rfl
  | succ i => rfl
theorem lv_la (nb : List Bool) : lpG (lvG lvA) nb 1 = [] := rfl
theorem lv_hb (nb : List Bool) : hdM (lvG lvB) nb 0 0 = true := by
  rfl
theorem lv_va {l : List Nat} {p q : Nat} {cd : Int} (h : VdR (lvG lvA) l p q cd) : cd = 0 := by
  have hz : (ckG (lvG lvA)).2 = 0 := by rw [lv_a]
  obtain ⟨now, _, _, cy, hcy, h3⟩ := h.2 hz
  have hno : cy = [] := (hcy.nil (hdM_lt (ckG_ok.1 hz))).2 fun r hr => by
    obtain ⟨k, hk⟩ := rc_some hr
    rw [lv_ha] at hk
    cases hk
  rcases h3 with ⟨q1, _⟩ | ⟨_, _, ⟨s, r, q1, _⟩ | ⟨_, _, _, q1⟩⟩
  · exact absurd hno q1
  · have e : lpG (lvG lvA) (nbE now) (lvG lvA).length = [] := lv_la _
    rw [e] at q1
    cases q1
  · exact q1
theorem lv_vb {l : List Nat} {p q : Nat} {cd : Int} (h : VdR (lvG lvB) l p q cd) : cd = 100 ∧ l.length = 1 := by
  have hz : (ckG (lvG lvB)).2 = 0 := by rw [lv_b]
  obtain ⟨now, _, _, cy, hcy, h3⟩ := h.2 hz
  have hlt := hdM_lt (nb := nbE now) (ckG_ok.1 hz)
  have hc : hdM (lvG lvB) (nbE now) 0 0 = true := lv_hb _
  have hne : cy ≠ [] := fun e => (hcy.nil hlt).1 e 0 (Rc.of hc)
  rcases h3 with ⟨_, rfl, _, _, q1⟩ | ⟨q1, _⟩
  · refine ⟨q1, ?_⟩
    rcases hcy with ⟨q2, _⟩ | ⟨r, m, hd, _, hp⟩
    · exact absurd q2 hne
    · have hr : r < 1 := (Ds.lt hlt hd).1
      obtain rfl : r = 0 := by omega
      rw [hp.n]
      exact hd.one (Ds.first.2 hc)
  · exact absurd q1 hne
/-- Nodes that were just laid are read. -/
theorem rd_lit (w : World) (L : List Nd) (cs : Array Value) (hn : L.length ≤ 100) (hc : cs.toList = ndc L) : RdN (w.alloc (.cells cs 50)) (some ⟨w.heap.size, 0, none⟩) L := fun _ => by
  have hs : cs.size = L.length * 7 := by rw [← Array.length_toList, hc, ndc_len]
  have ho : (w.alloc (.cells cs 50)).ownsRow w.heap.size 50 7 (.slice (some ⟨w.heap.size, 0, none⟩) L.length L.length) L.length (ndc L ++ []) := by
    rw [List.append_nil, ← hc]
    exact World.ownsRow_lit w cs L.length (Nat.le_refl _) (by unfold maxLen; omega) hs
  exact ⟨w.heap.size, 0, rfl, by rw [World.size_alloc]; omega, own_ndl ho⟩
theorem lv_gi (w : World) (n : Nd) (cs : Array Value) (hc : cs.toList = ndc [n]) (ht : n.tx.size ≤ 140737488355328) : GI ((w.alloc (.cells cs 50)).alloc (.cells #[.string ⟨#[115]⟩, .slice (some ⟨w.heap.size, 0, none⟩) 1 1] 54)) (some ⟨w.heap.size + 1, 0, none⟩) (lvG n) ∧ Below w.heap.size w ((w.alloc (.cells cs 50)).alloc (.cells #[.string ⟨#[115]⟩, .slice (some ⟨w.heap.size, 0, none⟩) 1 1] 54)) := by
  have r1 := rd_lit w [n] cs (by show 1 ≤ 100; omega) hc
  have s1 := World.size_alloc w (.cells cs 50)
  have b1 := below_box w (.cells cs 50)
  obtain ⟨w1, h1⟩ : ∃ w1, w1 = w.alloc (.cells cs 50) := ⟨_, rfl⟩
  rw [← h1] at s1 r1 b1 ⊢
  have hnew := heap_alloc_new w1 (.cells #[.string ⟨#[115]⟩, .slice (some ⟨w.heap.size, 0, none⟩) 1 1] 54)
  have b2 := below_box w1 (.cells #[.string ⟨#[115]⟩, .slice (some ⟨w.heap.size, 0, none⟩) 1 1] 54)
  have s2 := World.size_alloc w1 (.cells #[.string ⟨#[115]⟩, .slice (some ⟨w.heap.size, 0, none⟩) 1 1] 54)
  rw [s1] at hnew
  have key := fun j => cell_of_row (w1.alloc (.cells #[.string ⟨#[115]⟩, .slice (some ⟨w.heap.size, 0, none⟩) 1 1] 54)) (w.heap.size + 1) j _ 54 (0, 0) hnew
  refine ⟨⟨fun k g hg => ?_, by show 1 ≤ _; omega, fun g hg => ?_⟩, b1.trans (b2.mono b1.size)⟩
  · match k, hg with
    | 0, hg =>
      cases hg
      exact ⟨_, 0, _, 1, rfl, by omega, key 0, key 1, r1.below b2 (Nat.le_refl _)⟩
    | k + 1, hg => simp [lvG] at hg
  · simp only [lvG, List.mem_cons, List.not_mem_nil, or_false] at hg
    subst hg
    refine ⟨by show 1 ≤ _; omega, by show 1 ≤ _; omega, fun m hm => ?_⟩
    simp only [List.mem_cons, List.not_mem_nil, or_false] at hm
    subst hm
    exact ht
set_option maxRecDepth 100000 in
set_option maxHeartbeats 16000000 in
theorem lives_any (w : World) : Calls Tryz.prog 10 #[] w fun e w' => e = .returned (.bool true) ∧ Below w.heap.size w w' := by
  obtain ⟨w1, hw1⟩ : ∃ w1, w1 = ((w.alloc (.cells #[.int .i64 3, .int .i64 0, .string ⟨#[]⟩, .int .u64 0, .int .u64 0, .int .u64 0, .int .u64 0] 50)).alloc (.cells #[.string ⟨#[115]⟩, .slice (some ⟨w.heap.size, 0, none⟩) 1 1] 54)) := ⟨_, rfl⟩
  have HE1 := (show Hid (((w.alloc (.cells #[.int .i64 3, .int .i64 0, .string ⟨#[]⟩, .int .u64 0, .int .u64 0, .int .u64 0, .int .u64 0] 50)).alloc (.cells #[.string ⟨#[115]⟩, .slice (some ⟨w.heap.size, 0, none⟩) 1 1] 54)) = w1) from hw1.symm)
  have h1 := lv_gi w lvA #[.int .i64 3, .int .i64 0, .string ⟨#[]⟩, .int .u64 0, .int .u64 0, .int .u64 0, .int .u64 0] rfl (by show 0 ≤ _; omega)
  rw [← hw1] at h1
  have HB1 := (show Hid (Below w.heap.size w w1) from h1.2)
  have HC1 := (show Hid (∀ _ : Unit, Calls Tryz.prog 8 #[.agg #[.slice (some ⟨w.heap.size + 1, 0, none⟩) 1 1]] w1 fun e w' => (∃ (A : Option Addr) (n c p q : Nat), e = .returned (.tuple #[.agg #[.slice A n c, .int .i64 (p : Int), .int .i64 (q : Int)], .int .i64 0])) ∧ Below w1.heap.size w1 w') from fun _ => by
    refine (fcheck_any (lvG lvA) (some ⟨w.heap.size + 1, 0, none⟩) 1 w1 h1.1).mono ?_
    rintro e w' ⟨⟨vc, l, p, q, cd, rfl, hv, ho⟩, b⟩
    obtain ⟨A, c, rfl⟩ := own_slice ho
    rw [lv_va hv]
    exact ⟨⟨A, _, c, p, q, rfl⟩, b⟩)
  have HC2 := (show Hid (∀ W : World, Calls Tryz.prog 8 #[.agg #[.slice (some ⟨W.heap.size + 1, 0, none⟩) 1 1]] ((W.alloc (.cells #[.int .i64 6, .int .i64 0, .string ⟨#[115]⟩, .int .u64 0, .int .u64 0, .int .u64 0, .int .u64 0] 50)).alloc (.cells #[.string ⟨#[115]⟩, .slice (some ⟨W.heap.size, 0, none⟩) 1 1] 54)) fun e w' => (∃ (A : Option Addr) (c p q : Nat), e = .returned (.tuple #[.agg #[.slice A 1 c, .int .i64 (p : Int), .int .i64 (q : Int)], .int .i64 100])) ∧ Below W.heap.size W w') from fun W => by
    have h2 := lv_gi W lvB #[.int .i64 6, .int .i64 0, .string ⟨#[115]⟩, .int .u64 0, .int .u64 0, .int .u64 0, .int .u64 0] rfl (by show 1 ≤ _; omega)
    refine (fcheck_any (lvG lvB) (some ⟨W.heap.size + 1, 0, none⟩) 1 _ h2.1).mono ?_
    rintro e w' ⟨⟨vc, l, p, q, cd, rfl, hv, ho⟩, b⟩
    obtain ⟨A, c, rfl⟩ := own_slice ho
    obtain ⟨e1, e2⟩ := lv_vb hv
    rw [e1, e2]
    exact ⟨⟨A, c, p, q, rfl⟩, h2.2.trans (b.mono h2.2.size)⟩)
  clear h1 hw1
  go_enter Tryz.func10, Tryz.ntmps10
  go_wp2_with (rw [HE1.out])
  refine (HC1.out ()).mono ?_
  rintro e w2 ⟨⟨A, n, c, p, q, rfl⟩, b2⟩
  have HB2 := (show Hid (Below w.heap.size w w2) from HB1.out.trans (b2.mono HB1.out.size))
  clear HC1 HE1 b2 HB1
  obtain ⟨w3, hw3⟩ : ∃ w3, w3 = w2.alloc (.cells #[.slice A n c, .int .i64 (p : Int), .int .i64 (q : Int)] 30) := ⟨_, rfl⟩
  have HE3 := (show Hid (w2.alloc (.cells #[.slice A n c, .int .i64 (p : Int), .int .i64 (q : Int)] 30) = w3) from hw3.symm)
  have HB3 := (show Hid (Below w.heap.size w w3) from by rw [hw3]; exact HB2.out.trans ((below_box _ _).mono HB2.out.size))
  clear hw3 HB2
  go_wp2_with (rw [HE3.out])
  refine (HC2.out w3).mono ?_
  rintro e w4 ⟨⟨A4, c4, p4, q4, rfl⟩, b4⟩
  have HB4 := (show Hid (Below w.heap.size w w4) from HB3.out.trans (b4.mono HB3.out.size))
  clear HC2 HE3 b4 HB3
  obtain ⟨w5, hw5⟩ : ∃ w5, w5 = w4.alloc (.cells #[.slice A4 1 c4, .int .i64 (p4 : Int), .int .i64 (q4 : Int)] 30) := ⟨_, rfl⟩
  have HE5 := (show Hid (w4.alloc (.cells #[.slice A4 1 c4, .int .i64 (p4 : Int), .int .i64 (q4 : Int)] 30) = w5) from hw5.symm)
  have HB5 := (show Hid (Below w.heap.size w w5) from by rw [hw5]; exact HB4.out.trans ((below_box _ _).mono HB4.out.size))
  have hd5 : DX w5 w4.heap.size (.slice A4 1 c4) (p4 : Int) (q4 : Int) := by rw [hw5]; exact DX.new w4 _ _ _
  have c0 := hd5.c0
  clear hw5 HB4 hd5
  go_wp2_with (rw [HE5.out])
  go_ret
  exact ⟨rfl, HB5.out⟩
end Go.Proofs.YtbipjdgholdhcaaGreat.N

namespace Go.Proofs.YtbipjdgholdhcaaGreat.N
open Go.RowKit
open Go.Proofs.YtbipjdgholdhcaaGreat.T (RdN below_drewN below_box node_neq ndE)
set_option maxRecDepth 100000 in
set_option maxHeartbeats 8000000 in
theorem sameq (A1 A2 : Option Addr) (c1 c2 : Nat) (L : List Nd) (hl : L.length ≤ 140737488355328) (w : World) (h1 : RdN w A1 L) (h2 : RdN w A2 L) :
    Calls Tryz.prog 44 #[.slice A1 L.length c1, .slice A2 L.length c2] w fun e w' => e = .returned (.bool true) ∧ ∃ m, w' = w.drewN m := by
  have H1 := (show Hid _ from h1)
  have H2 := (show Hid _ from h2)
  have HG := (show Hid (∀ k, k < L.length → ∃ m, L[k]? = some m ∧ L ≠ []) from fun k hk => ⟨_, List.getElem?_eq_getElem hk, by rintro rfl; simp at hk⟩)
  clear h1 h2
  go_enter Tryz.func44, Tryz.ntmps44
  go_wp2_with fail
  go_loopw [5] (fun t wr => ∃ k : Nat, k ≤ L.length ∧ t = .int .i64 k ∧ Hid (∃ m, wr = w.drewN m)) (fun t _ => L.length - (intOf t).toNat)
  case atStart => exact ⟨0, by omega, by go_num, ⟨0, rfl⟩⟩
  case round =>
    obtain ⟨k, hk, rfl, HW⟩ := hrel
    by_cases hlt : k < L.length
    · obtain ⟨n, hn1, nl⟩ := HG.out k hlt
      have hB : Below w.heap.size w wr := by obtain ⟨m, rfl⟩ := HW.out; exact below_drewN (Below.refl _ _) _
      obtain ⟨g1, o1, rfl, l1, q1⟩ := H1.out nl
      obtain ⟨g2, o2, rfl, l2, q2⟩ := H2.out nl
      obtain ⟨a0, a1, a2, a3, a4, a5, a6⟩ := (q1.same (hB.block g1 l1)) k n hn1
      obtain ⟨d0, d1, d2, d3, d4, d5, d6⟩ := (q2.same (hB.block g2 l2)) k n hn1
      have z0 : (0 : Int) ≤ (k : Int) := by omega
      have z1 : (k : Int) < (L.length : Int) := by omega
      clear HG H1 H2 q1 q2 nl hn1 hB
      have hneq := node_neq n n
      rw [T.ndE_refl] at hneq
      go_wp2_with fail
      go_quiet (fail)
      have HW2 := (show Hid (∃ m, wr.drewN nq = w.drewN m) from by obtain ⟨m, e⟩ := HW.out; exact ⟨m + nq, by rw [e, World.drewN_drewN]⟩)
      generalize wr.drewN nq = w2 at *
      clear hneq a0 a1 a2 a3 a4 a5 a6 d0 d1 d2 d3 d4 d5 d6 HW
      go_wp2_with fail
      go_roundw
      case rel => exact ⟨k + 1, by omega, by go_num, HW2⟩
      case measure => simp [intOf]; omega
    · obtain rfl : k = L.length := by omega
      clear HG H1 H2
      go_wp2_with fail
      go_ret
      exact ⟨rfl, HW.out⟩
end Go.Proofs.YtbipjdgholdhcaaGreat.N

namespace Go.Proofs.YtbipjdgholdhcaaGreat.N
open Go.RowKit
open Go.Proofs.YtbipjdgholdhcaaGreat.T (below_box)
theorem ret_gx {fn : Func} {R : Ending → World → Prop} {act : Act} {W : World} {k : Nat} {a : Value} (hF : fn.results = #[.cell 2 24]) (hd : act.defers = []) (h2 : act.tmps.getD 2 undef = .pointer (some ⟨k, 0, none⟩)) (hT : GX W k a) (hR : R (.returned (.agg #[a])) W) : bodyPost Tryz.prog fn R .ret act W := by
  have c0 := hT.cl
  refine bodyPost_ret (v := .agg #[a]) ?_ hd hR
  simp only [Array.getD_eq_getD_getElem?] at h2
  simp [results, hF, go_sem, h2, c0]
/-- A call with one argument as a step of a region that draws its order. -/
theorem step_call1 {F : Nat} (hen : ∀ args w, (callFunc F args).run Tryz.prog w = .ok (.enter F args) w) {ops : Array Oper} {o : Oper} {a : Act} {w : World} {K : Act → World → Prop} {Q : Exit → Act → World → Prop} {E : Prop} (hgd : o.guard = none) (x : Operand) (T : TypeId) (ho : o.op = .call { callee := .value (.func F), args := #[x], argTypes := #[T] }) (v : Value) (hx : a.eval x = v)
    (hc : Calls Tryz.prog F #[v] w fun e w' => ∃ r, e = .returned r ∧ K (a.put o.dst r) w') :
    if Region.wanted o (yielded ops a.tmps) = true then Oper.wp Tryz.prog o a w K Q else E := by
  have hw : Region.wanted o (yielded ops a.tmps) = true := by simp [Region.wanted, hgd]
  rw [if_pos hw]
  have he : (execOp a.eval o).run Tryz.prog w = .ok (.enter F #[v]) w := by
    unfold execOp
    simp [ho, go_sem, invoke, hen]
    rw [← hx]
    cases x <;> simp [Act.eval]
  unfold Oper.wp
  rw [he, Oper.upon_enter]
  refine hc.mono ?_
  rintro e w' ⟨r, rfl, hk⟩
  exact hk


/-- A rule that was lent: it, its pattern's block and room. -/
abbrev Le : Type := (ByteArray × List Nd) × Nat × Nat
def lgV (x : Le) : List Value := [.string x.1.1, .slice (some ⟨x.2.1, 0, none⟩) x.1.2.length x.2.2]
def lgc (l : List Le) : List Value := l.flatMap lgV
theorem lgc_app (a b : List Le) : lgc (a ++ b) = lgc a ++ lgc b := List.flatMap_append
theorem lgc_one (x : Le) : lgc [x] = lgV x := by unfold lgc; rw [List.flatMap_cons, List.flatMap_nil, List.append_nil]
theorem lgc_get (l : List Le) : ∀ (k j : Nat) (x : Le) (u : Value) (ys : List Value), l[k]? = some x → (lgV x)[j]? = some u → (lgc l ++ ys)[k * 2 + j]? = some u := by
  induction l with
  | nil => intro k j x u ys h; cases h
  | cons a l ih =>
    intro k j x u ys h hu
    have e : lgc (a :: l) ++ ys = lgV a ++ (lgc l ++ ys) := by unfold lgc; rw [List.flatMap_cons, List.append_assoc]
    rw [e]
    have hj : j < 2 := (List.getElem?_eq_some_iff.1 hu).1
    cases k with
    | zero =>
      cases h
      rw [Nat.zero_mul, Nat.zero_add, List.getElem?_append_left (by show j < 2; exact hj)]
      exact hu
    | succ k =>
      have h2 : l[k]? = some x := by simpa using h
      have e2 : (lgV a).length = 2 := rfl
      rw [List.getElem?_append_right (by rw [e2]; omega), e2, show (k + 1) * 2 + j - 2 = k * 2 + j from by omega]
      exact ih k j x u ys h2 hu
/-- While a grammar is lent. -/
structure LgI (w wr : World) (a : Value) (v : Value) (ov : List Le) : Prop where
  o : wr.ownsRow w.heap.size 54 2 v ov.length (lgc ov)
  e : ∀ x ∈ ov, T.LentR wr w.heap.size x.2.1 x.2.2 x.1.2
  b : Below w.heap.size w wr
  x : GX wr w.heap.size a
  y : GX wr (w.heap.size + 1) (.slice none 0 0)
theorem LgI.later {w wr W' : World} {a v : Value} {ov : List Le} (h : LgI w wr a v ov) (hb : Below wr.heap.size wr W') : LgI w W' a v ov :=
  ⟨T.own_below h.o hb, fun x hx => (h.e x hx).below hb, h.b.trans (hb.mono h.b.size), h.x.below hb, h.y.below hb⟩
theorem LgI.push {w wr wA w5 : World} {a v u : Value} {ov : List Le} {nm : ByteArray} {L : List Nd} {g cap : Nat} (h : LgI w wr a v ov) (hA : Below wr.heap.size wr wA) (hl : T.LentR wA w.heap.size g cap L) (hg : (wA.alloc (.cells #[.string nm, .slice (some ⟨g, 0, none⟩) L.length cap] 54)).grownBy w5 v.ownBlock) (ho : w5.ownsRow w.heap.size 54 2 u (ov.length + 1) (lgc ov ++ [.string nm, .slice (some ⟨g, 0, none⟩) L.length cap])) : LgI w w5 a u (ov ++ [((nm, L), g, cap)]) := by
  have h2 : LgI w (wA.alloc (.cells #[.string nm, .slice (some ⟨g, 0, none⟩) L.length cap] 54)) a v ov := (h.later hA).later (below_box wA _)
  have hl2 : T.LentR (wA.alloc (.cells #[.string nm, .slice (some ⟨g, 0, none⟩) L.length cap] 54)) w.heap.size g cap L := hl.below (below_box wA _)
  have key : ∀ (y : Le), T.LentR (wA.alloc (.cells #[.string nm, .slice (some ⟨g, 0, none⟩) L.length cap] 54)) w.heap.size y.2.1 y.2.2 y.1.2 → T.LentR w5 w.heap.size y.2.1 y.2.2 y.1.2 := fun y hy =>
    own_same (v := .slice (some ⟨y.2.1, 0, none⟩) (y.1.2.length + 1) y.2.2) hy fun k hk => hg.block k (World.ownsRow.lt hy k hk).2 (fun q => own_apart h2.o hy (by decide) q.symm hk)
  refine ⟨?_, fun y hy => ?_, h2.b.grown hg h2.b.size (fun k e => (h2.o.lt k e).1), h2.x.same (hg.block _ h2.x.lt (fun e => h2.x.ne h2.o (by decide) e.symm rfl)), h2.y.same (hg.block _ h2.y.lt (fun e => h2.y.ne h2.o (by decide) e.symm rfl))⟩
  · rw [List.length_append, lgc_app, lgc_one]
    exact ho
  · rcases List.mem_append.1 hy with q | q
    · exact key y (h2.e y q)
    · rw [List.mem_singleton.1 q]
      exact key ((nm, L), g, cap) hl2
/-- A grammar that was lent, and is as it was. -/
structure LgB (w w' : World) (g cap : Nat) (ov : List Le) : Prop where
  o : w'.ownsRow w.heap.size 54 2 (.slice (some ⟨g, 0, none⟩) (ov.length + 1) cap) (ov.length + 1) (lgc ov ++ [.string ⟨#[115, 112, 97, 114, 101, 32, 114, 111, 111, 109]⟩, .slice none 0 0])
  e : ∀ x ∈ ov, T.LentR w' w.heap.size x.2.1 x.2.2 x.1.2
  b : Below w.heap.size w w'
theorem LgB.later {w wr W' : World} {g cap : Nat} {ov : List Le} (h : LgB w wr g cap ov) (hb : Below wr.heap.size wr W') : LgB w W' g cap ov :=
  ⟨T.own_below h.o hb, fun x hx => (h.e x hx).below hb, h.b.trans (hb.mono h.b.size)⟩
theorem LgB.cell {w wr : World} {g cap : Nat} {ov : List Le} (h : LgB w wr g cap ov) {k : Nat} {x : Le} (hk : ov[k]? = some x) : wr.cell? ⟨g, k * 2, none⟩ = some (.string x.1.1) ∧ wr.cell? ⟨g, k * 2 + 1, none⟩ = some (.slice (some ⟨x.2.1, 0, none⟩) x.1.2.length x.2.2) := by
  have hc := h.o.cells (g := g) rfl
  have q0 := hc (k * 2 + 0) _ (lgc_get ov k 0 x _ _ hk rfl)
  have q1 := hc (k * 2 + 1) _ (lgc_get ov k 1 x _ _ hk rfl)
  rw [Addr.add_lit, Nat.zero_add] at q0 q1
  exact ⟨q0, q1⟩
theorem LgB.last {w wr : World} {g cap : Nat} {ov : List Le} (h : LgB w wr g cap ov) : wr.cell? ⟨g, ov.length * 2, none⟩ = some (.string ⟨#[115, 112, 97, 114, 101, 32, 114, 111, 111, 109]⟩) := by
  have hc := h.o.cells (g := g) rfl
  have hlen : (lgc ov).length = ov.length * 2 := by
    have := h.o.1
    rw [List.length_append] at this
    simp only [List.length_cons, List.length_nil] at this
    omega
  have q0 := hc (ov.length * 2) (.string ⟨#[115, 112, 97, 114, 101, 32, 114, 111, 111, 109]⟩) (by rw [List.getElem?_append_right (by omega), hlen, Nat.sub_self]; rfl)
  rw [Addr.add_lit, Nat.zero_add] at q0
  exact q0
theorem LgB.gr {w wr : World} {g cap : Nat} {ov : List Le} {gs : List (ByteArray × List Nd)} (h : LgB w wr g cap ov) (hm : ov.map (·.1) = gs) : GrD wr (some ⟨g, 0, none⟩) gs := fun k r hr => by
  rw [← hm, List.getElem?_map] at hr
  cases hx : ov[k]? with
  | none => rw [hx] at hr; cases hr
  | some x =>
    rw [hx] at hr
    obtain rfl : x.1 = r := by simpa using hr
    obtain ⟨q0, q1⟩ := h.cell hx
    exact ⟨g, 0, some ⟨x.2.1, 0, none⟩, x.2.2, rfl, (h.o.lt g rfl).2, by rw [Nat.zero_add]; exact q0, by rw [Nat.zero_add]; exact q1, (h.e x (List.mem_of_getElem? hx)).rd⟩
theorem enters8 (args : Array Value) (w : World) : (callFunc 22 args).run Tryz.prog w = .ok (.enter 22 args) w := enters_of Tryz.func22 (by kernel_rfl) rfl args w
set_option maxRecDepth 100000 in
set_option maxHeartbeats 8000000 in
theorem lendG_any (gs : List (ByteArray × List Nd)) (A : Option Addr) (c : Nat) (w : World) (hg : GrIn w A c gs) :
    Calls Tryz.prog 7 #[.agg #[.slice A gs.length c]] w fun e w' => ∃ g cap ov, e = .returned (.agg #[.slice (some ⟨g, 0, none⟩) gs.length cap]) ∧ ov.map (·.1) = gs ∧ LgB w w' g cap ov := by
  obtain ⟨i0, hinf, hz0, hz1, hz2⟩ := info_parts Tryz.info41
  have hl := hg.len
  have HG := (show Hid (∀ k, k < gs.length → ∃ g, gs[k]? = some g ∧ g.2.length * 64 ≤ 140737488351232 ∧ ∃ b o A2 c2, A = some ⟨b, o, none⟩ ∧ b < w.heap.size ∧ w.cell? ⟨b, o + k * 2, none⟩ = some (.string g.1) ∧ w.cell? ⟨b, o + k * 2 + 1, none⟩ = some (.slice A2 g.2.length c2) ∧ T.InP w A2 c2 g.2) from fun k hk => by
    have e : gs[k]? = some gs[k] := List.getElem?_eq_getElem hk
    obtain ⟨b, o, _, _, h1, h2, h3, _, _⟩ := hg.d k _ e
    obtain ⟨A3, c3, h6, h7⟩ := hg.each k _ e
    exact ⟨_, e, h6.2.2.2.1, b, o, A3, c3, h1, h2, h3, h7 b o h1, h6.1, h6.2.1⟩)
  have HA := (show Hid (LgI w ((w.alloc (.cells #[.slice A gs.length c] 24)).alloc (.cells #[.slice none 0 0] 24)) (.slice A gs.length c) (.slice none 0 0) []) from
    ⟨World.ownsRow_nil _ _ _ _, (fun x hx => by cases hx), ((Below.refl _ _).alloc (Nat.le_refl _) _).alloc (by rw [World.size_alloc]; omega) _, (GX.mk (heap_alloc_new w _)).below (below_box _ _), ⟨by have h := heap_alloc_new (w.alloc (.cells #[.slice A gs.length c] 24)) (.cells #[.slice none 0 0] 24); rw [World.size_alloc] at h; exact h⟩⟩)
  clear hg
  go_enter Tryz.func7, Tryz.ntmps7
  go_wp2_with fail
  generalize (w.alloc (.cells #[.slice A gs.length c] 24)).alloc (.cells #[.slice none 0 0] 24) = w1 at *
  go_loopw [3, 4] (fun v t wr => ∃ (k : Nat) (ov : List Le) (Av : Option Addr) (cv : Nat), k ≤ gs.length ∧ t = .int .i64 k ∧ v = .slice Av k cv ∧ Hid (ov.length = k ∧ ov.map (·.1) = gs.take k) ∧ Hid (LgI w wr (.slice A gs.length c) (.slice Av k cv) ov)) (fun _ t _ => gs.length - (intOf t).toNat)
  case atStart => exact ⟨0, [], none, 0, Nat.zero_le _, rfl, rfl, ⟨rfl, rfl⟩, HA⟩
  case round =>
    obtain ⟨k, ov, Av, cv, hk, rfl, rfl, HM, HW⟩ := hrel
    clear HA
    have x0 := HW.out.x.cl
    by_cases hlt : k < gs.length
    · obtain ⟨g, hgk, hgl, b, o, A2, c2, rfl, lb, e0, e1, hin⟩ := HG.out k hlt
      have z0 : (0 : Int) ≤ (k : Int) := by omega
      have z1 : (k : Int) < (gs.length : Int) := by omega
      have hD : Below wr.heap.size wr wr.drew := (Below.refl _ _).drew
      have HLd := (show Hid (LgI w wr.drew (.slice (some ⟨b, o, none⟩) gs.length c) (.slice Av k cv) ov) from HW.out.later hD)
      have d0 := (HLd.out.b.cell (p := ⟨b, o + k * 2, none⟩) lb).trans e0
      have d1 := (HLd.out.b.cell (p := ⟨b, o + k * 2 + 1, none⟩) lb).trans e1
      have dx := HLd.out.x.cl
      have hsz : w.heap.size ≤ wr.heap.size := HW.out.b.size
      have HCall := (show Hid (∀ _ : Unit, Calls Tryz.prog 22 #[.slice A2 g.2.length c2] wr.drew fun e w' => (∃ g9 cap, e = .returned (.slice (some ⟨g9, 0, none⟩) g.2.length cap) ∧ T.LentR w' w.heap.size g9 cap g.2) ∧ Below wr.drew.heap.size wr.drew w') from fun _ => by
        refine (T.lend_any A2 c2 g.2 wr.drew hgl ⟨hin.1.below HLd.out.b (Nat.le_refl _), hin.2⟩).mono ?_
        rintro e w' ⟨⟨g9, cap, rfl, r9⟩, b9⟩
        exact ⟨⟨g9, cap, rfl, T.own_base r9 (by show w.heap.size ≤ wr.heap.size; exact hsz)⟩, b9⟩)
      have HAft := (show Hid (∀ wA, Below wr.drew.heap.size wr.drew wA → wA.cell? ⟨w.heap.size, 0, none⟩ = some (.slice (some ⟨b, o, none⟩) gs.length c) ∧ wA.cell? ⟨b, o + k * 2, none⟩ = some (.string g.1)) from fun wA hA => by
        have h3 := HLd.out.later hA
        exact ⟨h3.x.cl, (h3.b.cell (p := ⟨b, o + k * 2, none⟩) lb).trans e0⟩)
      have HTk := (show Hid (gs.take (k + 1) = gs.take k ++ [g]) from by rw [List.take_add_one, hgk]; rfl)
      have hov := HM.out.1
      have HO := (show Hid (wr.drew.ownsRow w.heap.size 54 2 (.slice Av k cv) k (lgc ov)) from by have h := HLd.out.o; rw [hov] at h; exact h)
      clear hgk hin e0 e1 HG hlt hov
      obtain ⟨nm, L⟩ := g
      simp only at d0 d1 HCall HAft HTk hgl
      go_wp2_with fail
      go_region_law (first
        | (refine step_call1 enters8 rfl _ _ (by rfl) (.slice A2 L.length c2) (by rfl) ?_; with_reducible refine (HCall.out ()).mono ?_; rintro e wA ⟨⟨g, cap, rfl, rA⟩, bA⟩; refine ⟨_, rfl, ?_⟩; obtain ⟨ax, a0⟩ := HAft.out wA bA)
        | (refine step_append_lies _ (by rfl) _ _ _ (by rfl) w.heap.size 54 i0 (.agg #[.string ⟨#[]⟩, .slice none 0 0]) 2 40 Tryz.underlying22 hinf hz0 hz1 hz2 rfl (by omega) _ _ (lgc ov) (by rfl) ((T.own_below HO.out bA).alloc _) ⟨wA.heap.size, 0, none⟩ 1 1 [.string nm, .slice (some ⟨g, 0, none⟩) L.length cap] (by rfl) (by rfl) (World.news_of_block (cs := #[.string nm, .slice (some ⟨g, 0, none⟩) L.length cap]) (t := 54) (fr := (0, 0)) (heap_alloc_new wA _)) (by intro u hu; simp only [List.mem_cons, List.not_mem_nil, or_false] at hu; rcases hu with rfl | rfl <;> rfl) (by omega) (by unfold maxLen; omega) (by omega) (by have q1 := bA.size; have q2 : wr.drew.heap.size = wr.heap.size := rfl; rw [World.size_alloc]; omega) (wA.heap.size + 1) (by simp) ?_; intro g3 cap3 w5 hown hgrow hat hltg))
      all_goals
        have HN := (show Hid (LgI w w5 (.slice (some ⟨b, o, none⟩) gs.length c) (.slice (some ⟨g3, 0, none⟩) (k + 1) cap3) (ov ++ [((nm, L), g, cap)])) from by
          have q2 : wr.drew.heap.size = wr.heap.size := rfl
          have hA : Below wr.heap.size wr wA := hD.trans (by rw [← q2]; exact bA)
          exact HW.out.push hA rA hgrow (by rw [HM.out.1]; exact hown))
        clear hown hgrow hat hltg rA bA ax a0 HCall HAft HO HLd HW hD
        go_wp2_with fail
        go_roundw
        case rel => exact ⟨k + 1, _, _, _, by omega, by go_num, rfl, ⟨by rw [List.length_append, HM.out.1]; rfl, by rw [List.map_append, HM.out.2, HTk.out]; rfl⟩, HN⟩
        case measure => simp [intOf]; omega
    · obtain rfl : k = gs.length := by omega
      have hov := HM.out.1
      have hO := HW.out.o
      rw [hov] at hO
      have hsz : w.heap.size ≤ wr.heap.size := HW.out.b.size
      have HMm := (show Hid (ov.map (·.1) = gs) from by have := HM.out.2; rw [List.take_length] at this; exact this)
      have HWl := (show Hid (LgI w (wr.alloc (.cells #[.string ⟨#[115, 112, 97, 114, 101, 32, 114, 111, 111, 109]⟩, .slice none 0 0] 54)) (.slice A gs.length c) (.slice Av gs.length cv) ov) from HW.out.later (below_box _ _))
      have HL := (show Hid (ov.length = gs.length) from hov)
      clear HG hlt hov HM HW
      go_wp2_with (at_builtin; refine wpList_append_lies _ rfl _ _ 22 rfl w.heap.size 54 i0 (.agg #[.string ⟨#[]⟩, .slice none 0 0]) 2 40 Tryz.underlying22 hinf hz0 hz1 hz2 rfl (by decide) _ _ _ rfl (hO.alloc _) ⟨wr.heap.size, 0, none⟩ 1 1 [.string ⟨#[115, 112, 97, 114, 101, 32, 114, 111, 111, 109]⟩, .slice none 0 0] rfl rfl ?c1 ?c2 (by decide) ?c3 ?c4 ?c5 (wr.heap.size + 1) (by simp) ?_)
      case c1 => exact World.news_of_block (cs := #[.string ⟨#[115, 112, 97, 114, 101, 32, 114, 111, 111, 109]⟩, .slice none 0 0]) (t := 54) (fr := (0, 0)) (heap_alloc_new wr _)
      case c2 => intro u hu; simp only [List.mem_cons, List.not_mem_nil, or_false] at hu; rcases hu with rfl | rfl <;> rfl
      case c3 => unfold maxLen; omega
      case c4 => omega
      case c5 => rw [World.size_alloc]; omega
      intro g3 cap3 w5 hown hgrow hat hltg
      have hcap : gs.length + 1 ≤ cap3 := by
        rcases hown.2 with ⟨q, _⟩ | ⟨g2, c2, cur, q, _, _, h3, _⟩
        · cases q
        · cases q; exact h3
      have HF := (show Hid (GX w5 (w.heap.size + 1) (.slice none 0 0) ∧ LgB w w5 g3 cap3 ov) from by
        have h2 := HWl.out
        have key : ∀ (y : Le), T.LentR (wr.alloc (.cells #[.string ⟨#[115, 112, 97, 114, 101, 32, 114, 111, 111, 109]⟩, .slice none 0 0] 54)) w.heap.size y.2.1 y.2.2 y.1.2 → T.LentR w5 w.heap.size y.2.1 y.2.2 y.1.2 := fun y hy =>
          own_same (v := .slice (some ⟨y.2.1, 0, none⟩) (y.1.2.length + 1) y.2.2) hy fun k hk => hgrow.block k (World.ownsRow.lt hy k hk).2 (fun q => own_apart h2.o hy (by decide) q.symm hk)
        refine ⟨h2.y.same (hgrow.block _ h2.y.lt (fun e => h2.y.ne h2.o (by decide) e.symm rfl)), ?_, fun y hy => key y (h2.e y hy), h2.b.grown hgrow h2.b.size (fun k e => (h2.o.lt k e).1)⟩
        rw [HL.out]
        exact hown)
      have hf := HF.out.1.fz
      have hcl := HF.out.1.cl
      have z0 : (0 : Int) ≤ (gs.length : Int) := by omega
      have z1 : (gs.length : Int) ≤ (cap3 : Int) := by omega
      clear hown hgrow hat hltg hO HWl x0
      go_wp2_with fail
      refine ret_gx rfl rfl rfl (HF.out.1.set _) ?_
      have hb := HF.out.2
      have hk : (w5.setCell ⟨w.heap.size + 1, 0, none⟩ (.slice (some ⟨g3, 0, none⟩) gs.length cap3)).heap.size = w5.heap.size := by simp [World.setCell]
      have key : ∀ (j : Nat), j ≠ w.heap.size + 1 → (w5.setCell ⟨w.heap.size + 1, 0, none⟩ (.slice (some ⟨g3, 0, none⟩) gs.length cap3)).heap[j]? = w5.heap[j]? := fun j hj => Below.heap_setCell _ _ _ _ hj
      refine ⟨g3, cap3, ov, rfl, HMm.out, own_same hb.o fun j hj => key j (HF.out.1.ne hb.o (by decide) hj), fun y hy => ?_, hb.b.setCell (p := ⟨w.heap.size + 1, 0, none⟩) (by show w.heap.size ≤ w.heap.size + 1; omega) _⟩
      exact own_same (v := .slice (some ⟨y.2.1, 0, none⟩) (y.1.2.length + 1) y.2.2) (hb.e y hy) fun j hj => key j (HF.out.1.ne (hb.e y hy) (by decide) hj)
end Go.Proofs.YtbipjdgholdhcaaGreat.N

namespace Go.Proofs.YtbipjdgholdhcaaGreat.N
open Go.RowKit
open Go.Proofs.YtbipjdgholdhcaaGreat.T (below_box)
set_option maxRecDepth 100000 in
set_option maxHeartbeats 4000000 in
theorem keptq (A : Option Addr) (c g cap B : Nat) (L : List Nd) (hl : L.length * 64 ≤ 140737488351232) (w : World) (h : T.RdN w A L) (ho : T.LentR w B g cap L) :
    Calls Tryz.prog 27 #[.slice (some ⟨g, 0, none⟩) L.length cap, .slice A L.length c] w fun e w' => e = .returned (.bool true) ∧ ∃ m, w' = w.drewN m := by
  have HS : Hid (∀ _ : Unit, Calls Tryz.prog 44 #[.slice (some ⟨g, 0, none⟩) L.length cap, .slice A L.length c] w fun e w' => e = .returned (.bool true) ∧ ∃ m, w' = w.drewN m) := fun _ => sameq (some ⟨g, 0, none⟩) A cap c L (by omega) w ho.rd h
  have hcap := T.own_cap ho
  have HO := (show Hid (∀ w', Below w.heap.size w w' → T.NB w' g (L.length * 7) (T.zN (-77))) from fun w' hb => (ho.below hb).last)
  clear ho h
  have z0 : (0 : Int) ≤ (L.length : Int) := by omega
  have z1 : (L.length : Int) + 1 ≤ (cap : Int) := by omega
  have z2 : (L.length : Int) < (L.length : Int) + 1 := by omega
  have hq := T.node_eql (T.zN (-77)) (T.zN (-77))
  rw [T.ndE_refl] at hq
  generalize L.length = n at *
  go_enter Tryz.func27, Tryz.ntmps27
  go_wp2_with fail
  refine (HS.out ()).mono ?_
  rintro e w1 ⟨rfl, hb⟩
  obtain ⟨c0, c1, c2, c3, c4, c5, c6⟩ := HO.out w1 (by obtain ⟨m, rfl⟩ := hb; exact T.below_drewN (Below.refl _ _) _)
  have HB := (show Hid _ from hb)
  clear hb HS HO
  unfold T.zN at c0 c1 c2 c3 c4 c5 c6 hq
  dsimp only at c0 c1 c2 c3 c4 c5 c6
  go_wp2_with fail
  go_ret
  exact ⟨rfl, HB.out⟩
/-- While a grammar that was lent is held against what it was. -/
structure AtK (w0 w wr : World) (u1 u2 : Value) (A : Option Addr) (gs : List (ByteArray × List Nd)) (g cap : Nat) (ov : List Le) : Prop where
  b : Below w.heap.size w wr
  x1 : GX wr w.heap.size u1
  x2 : GX wr (w.heap.size + 1) u2
  l : LgB w0 wr g cap ov
  d : GrD wr A gs
theorem AtK.later {w0 w wr W' : World} {u1 u2 : Value} {A : Option Addr} {gs : List (ByteArray × List Nd)} {g cap : Nat} {ov : List Le} (h : AtK w0 w wr u1 u2 A gs g cap ov) (hb : Below wr.heap.size wr W') : AtK w0 w W' u1 u2 A gs g cap ov :=
  ⟨h.b.trans (hb.mono h.b.size), h.x1.below hb, h.x2.below hb, h.l.later hb, h.d.later hb⟩
set_option maxRecDepth 100000 in
set_option maxHeartbeats 8000000 in
theorem keptG_any {gs : List (ByteArray × List Nd)} {ov : List Le} (hm : ov.map (·.1) = gs) (hl : ∀ g ∈ gs, g.2.length * 64 ≤ 140737488351232) (hn : gs.length * 40 ≤ 140737488351232) {w0 w : World} {A : Option Addr} {c g cap : Nat} (h1 : LgB w0 w g cap ov) (h2 : GrD w A gs) :
    Calls Tryz.prog 12 #[.agg #[.slice (some ⟨g, 0, none⟩) gs.length cap], .agg #[.slice A gs.length c]] w fun e w' => e = .returned (.bool true) ∧ Below w.heap.size w w' := by
  have hov : ov.length = gs.length := by rw [← hm, List.length_map]
  have HA := (show Hid (AtK w0 w ((w.alloc (.cells #[.slice (some ⟨g, 0, none⟩) gs.length cap] 24)).alloc (.cells #[.slice A gs.length c] 24)) (.slice (some ⟨g, 0, none⟩) gs.length cap) (.slice A gs.length c) A gs g cap ov) from
    ⟨((Below.refl _ _).alloc (Nat.le_refl _) _).alloc (by rw [World.size_alloc]; omega) _, (GX.mk (heap_alloc_new w _)).below (below_box _ _), ⟨by have h := heap_alloc_new (w.alloc (.cells #[.slice (some ⟨g, 0, none⟩) gs.length cap] 24)) (.cells #[.slice A gs.length c] 24); rw [World.size_alloc] at h; exact h⟩, (h1.later (below_box _ _)).later (below_box _ _), (h2.later (below_box _ _)).later (below_box _ _)⟩)
  have hcap : gs.length + 1 ≤ cap := by rw [← hov]; exact T.own_cap h1.o
  have HG := (show Hid (∀ k, k < gs.length → ∃ x, ov[k]? = some x ∧ gs[k]? = some x.1 ∧ x ∈ ov ∧ x.1.2.length * 64 ≤ 140737488351232) from fun k hk => by
    obtain ⟨x, e⟩ : ∃ x, ov[k]? = some x := ⟨_, List.getElem?_eq_getElem (by omega)⟩
    have e2 : gs[k]? = some x.1 := by rw [← hm, List.getElem?_map, e]; rfl
    exact ⟨x, e, e2, List.mem_of_getElem? e, hl _ (List.mem_of_getElem? e2)⟩)
  have q1 := HA.out.x1.cl
  have q2 := HA.out.x2.cl
  have q3 := HA.out.l.last
  rw [hov] at q3
  have z0 : (0 : Int) ≤ (gs.length : Int) := by omega
  have z1 : (gs.length : Int) + 1 ≤ (cap : Int) := by omega
  have z2 : (gs.length : Int) < (gs.length : Int) + 1 := by omega
  clear hl hm h1 h2 hov hcap
  generalize gs.length = n at *
  go_enter Tryz.func12, Tryz.ntmps12
  go_wp2_with fail
  generalize (w.alloc (.cells #[.slice (some ⟨g, 0, none⟩) n cap] 24)).alloc (.cells #[.slice A n c] 24) = w1 at *
  go_wp2_with fail
  clear q1 q2 q3
  go_loopw [6] (fun t wr => ∃ k : Nat, k ≤ n ∧ t = .int .i64 k ∧ Hid (AtK w0 w wr (.slice (some ⟨g, 0, none⟩) n cap) (.slice A n c) A gs g cap ov)) (fun t _ => n - (intOf t).toNat)
  case atStart => exact ⟨0, by omega, by go_num, HA⟩
  case round =>
    obtain ⟨k, hk, rfl, HW⟩ := hrel
    clear HA
    have q1 := HW.out.x1.cl
    have q2 := HW.out.x2.cl
    by_cases hlt : k < n
    · obtain ⟨x, hx, hgx, hxm, hxl⟩ := HG.out k hlt
      obtain ⟨y0, y1⟩ := HW.out.l.cell hx
      obtain ⟨b2, o2, B2, d2, hA2, l2, x0, x1, r2⟩ := HW.out.d k _ hgx
      subst hA2
      have HS : Hid (∀ n, Calls Tryz.prog 27 #[.slice (some ⟨x.2.1, 0, none⟩) x.1.2.length x.2.2, .slice B2 x.1.2.length d2] (wr.drewN n) fun e w' => e = .returned (.bool true) ∧ ∃ m, w' = (wr.drewN n).drewN m) := fun n => keptq B2 d2 x.2.1 x.2.2 w0.heap.size x.1.2 hxl _ (r2.below (T.below_drewN (Below.refl _ _) _) (Nat.le_refl _)) ((HW.out.l.e x hxm).below (T.below_drewN (Below.refl _ _) _))
      have u0 : (0 : Int) ≤ (k : Int) := by omega
      have u1 : (k : Int) < (n : Int) := by omega
      clear HG r2 hx hgx hxm hxl z0 z1 z2
      generalize x.1.2.length = gl at *
      generalize x.1.1 = nm at *
      generalize x.2.1 = xb at *
      generalize x.2.2 = xc at *
      go_wp2_with fail
      go_quiet ((go_at_call 27; exact Calls.quiet_of (HS.out _)))
      have HW2 := (show Hid (AtK w0 w (wr.drewN nq) (.slice (some ⟨g, 0, none⟩) n cap) (.slice (some ⟨b2, o2, none⟩) n c) (some ⟨b2, o2, none⟩) gs g cap ov) from HW.out.later (T.below_drewN (Below.refl _ _) _))
      generalize wr.drewN nq = w2 at *
      clear HW q1 q2 y0 y1 x0 x1
      go_wp2_with fail
      go_roundw
      case rel => exact ⟨k + 1, by omega, by go_num, HW2⟩
      case measure => simp [intOf]; omega
    · obtain rfl : k = n := by omega
      clear HG
      go_wp2_with fail
      go_ret
      exact ⟨rfl, HW.out.b⟩
end Go.Proofs.YtbipjdgholdhcaaGreat.N
