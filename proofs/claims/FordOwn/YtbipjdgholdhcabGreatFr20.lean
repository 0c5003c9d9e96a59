/- DERIVED. Plain mathematics and walks, laid together (20). -/
import Derived.BigQuiet
import Derived.Deep.RegionHeld3
import Derived.Deep.MidRow
import Derived.Deep.RegionLaw
import Derived.Test.YtbipjdgholdhcabGreatFr19
namespace Go.Proofs.YtbipjdgholdhcabGreat.N
open Go.RowKit Go.Maps
open Go.Proofs.YtbipjdgholdhcabGreat.T

open U (below_grown own_get own_slice)
/-- While the order is told by the program. -/
structure PoS (w wr : World) (l : List Nat) (v : Value) : Prop where
  b : Below w.heap.size w wr
  m : MX wr w.heap.size (fun q => l.contains q)
  o : wr.ownsRow (w.heap.size + 1) 3 1 v l.length (l.map U.nI)
  n : w.heap.size + 1 ≤ wr.heap.size
theorem PoS.later {w wr w2 : World} {l : List Nat} {v : Value} (h : PoS w wr l v) (hb : Below wr.heap.size wr w2) : PoS w w2 l v := ⟨h.b.trans (hb.mono h.b.size), h.m.below hb, U.own_below h.o hb, Nat.le_trans h.n hb.size⟩
set_option maxRecDepth 100000 in
set_option maxHeartbeats 32000000 in
theorem order_any {n : Nat} {cx : Mx} (hc : ∀ i j, cx i j = true → i < n ∧ j < n) (hn : n ≤ 200) (A : Option Addr) (c : Nat) (w : World) (hp : RdL w A ((List.range n).map (hdl n cx))) :
    Calls Tryz.prog 25 #[.slice A n c] w fun e w' => (∃ v, e = .returned v ∧ w'.ownsRow w.heap.size 3 1 v (ordK n cx n).length ((ordK n cx n).map U.nI)) ∧ Below w.heap.size w w' := by
  have hv := zero_mk
  obtain ⟨w1, hw1⟩ : ∃ w1, w1 = w.alloc (.cells (mkA fun _ => false) 87) := ⟨_, rfl⟩
  have HE1 := (show Hid (w.alloc (.cells (mkA fun _ => false) 87) = w1) from hw1.symm)
  have hs1 : w1.heap.size = w.heap.size + 1 := by rw [hw1, World.size_alloc]
  have HS := (show Hid (PoS w w1 (ordK n cx 0) (.slice none 0 0)) from ⟨by rw [hw1]; exact below_box _ _, by rw [hw1]; exact MX.new w _, World.ownsRow_nil _ _ _ _, by omega⟩)
  have HRd := (show Hid (RdL w A ((List.range n).map (hdl n cx))) from hp)
  have HC := (show Hid ((∀ i j, cx i j = true → i < n ∧ j < n) ∧ n ≤ 200) from ⟨hc, hn⟩)
  clear hw1 hs1 hc hp
  go_enter Tryz.func25, Tryz.ntmps25
  go_wp2_with (rw [HE1.out])
  go_step3
  go_wp2_with (rw [HE1.out])
  go_step3
  go_wp2_with (rw [HE1.out])
  clear HE1 hv
  go_loopw [4, 8] (fun u t wr => ∃ (k ln : Nat) (A4 : Option Addr) (c4 : Nat), k ≤ n ∧ t = .int .i64 (k : Int) ∧ u = .slice A4 ln c4 ∧ ln ≤ 200 ∧ Hid (ln = (ordK n cx k).length) ∧ Hid (PoS w wr (ordK n cx k) (.slice A4 ln c4))) (fun _ t _ => n - (intOf t).toNat)
  case atStart => exact ⟨0, 0, none, 0, Nat.zero_le _, by go_num, rfl, by omega, rfl, HS⟩
  case round =>
    obtain ⟨k, ln, A4, c4, hk, rfl, rfl, hln, HL, HW⟩ := hrel
    clear HS
    by_cases hlt : k < n
    · obtain ⟨l, hl⟩ : ∃ l, l = ordK n cx k := ⟨_, rfl⟩
      have HLl := (show Hid (l = ordK n cx k) from hl)
      rw [← hl] at HW HL
      clear hl
      have HF0 := (show Hid (∀ q, q < 0 → frO n cx l q = false) from fun q h => absurd h (Nat.not_lt_zero _))
      go_wp2_with fail
      try go_step3
      try go_wp2_with fail
      go_loopw [4, 12] (fun u t wr => ∃ (r : Nat), r ≤ n ∧ t = .int .i64 (r : Int) ∧ u = .slice A4 ln c4 ∧ Hid (PoS w wr l (.slice A4 ln c4)) ∧ Hid (∀ q, q < r → frO n cx l q = false)) (fun _ t _ => n - (intOf t).toNat)
      case atStart => exact ⟨0, Nat.zero_le _, by go_num, rfl, HW, HF0⟩
      case round =>
        obtain ⟨r, hr, rfl, rfl, HV, HF⟩ := hrel
        clear HW HF0
        by_cases hrn : r < n
        · have z0 : (0 : Int) ≤ (r : Int) := by omega
          have z1 : (r : Int) < (n : Int) := by omega
          have z2 : (r : Int) < 200 := by omega
          have x0 : wr.cell? ⟨w.heap.size, r, none⟩ = some (.bool (l.contains r)) := HV.out.m.cl (by omega)
          cases hto : l.contains r with
          | true =>
            rw [hto] at x0
            have HF2 := (show Hid (∀ q, q < r + 1 → frO n cx l q = false) from fun q hq => by
              by_cases e : q = r
              · subst e; unfold frO; rw [hto]; rfl
              · exact HF.out q (by omega))
            clear HF hto
            go_wp2_with fail
            go_big_quiet (fail)
            have HV2 := (show Hid (PoS w (wr.drewN nq) l (.slice A4 ln c4)) from HV.out.later (below_dn _))
            generalize wr.drewN nq = w9 at *
            clear HV x0
            go_wp2_with fail
            go_roundw
            case rel => exact ⟨r + 1, by omega, by go_num, rfl, HV2, HF2⟩
            case measure => simp [intOf]; omega
          | false =>
            rw [hto] at x0
            obtain ⟨b, o, A2, c2, rfl, lb, xb, hrow⟩ := HRd.out r (hdl n cx r) (by rw [List.getElem?_map, List.getElem?_range hrn]; rfl)
            have xb' := (HV.out.b.cell (p := ⟨b, o + r, none⟩) lb).trans xb
            obtain ⟨Lm, hLm⟩ : ∃ Lm, Lm = mkL (fun q => l.contains q) := ⟨_, rfl⟩
            obtain ⟨va, hva⟩ : ∃ va, va = (hdl n cx r).all fun q => l.contains q := ⟨_, rfl⟩
            have HLe := (show Hid (Lm.length = 200) from by rw [hLm]; exact mkL_len _)
            have HVa := (show Hid (frO n cx l r = va) from by rw [hva]; unfold frO; rw [hto]; rfl)
            have HHa := (show Hid (∀ W, Below wr.heap.size wr W → Calls Tryz.prog 44 #[.agg Lm.toArray, .slice A2 (hdl n cx r).length c2] W fun e w' => e = .returned (.bool va) ∧ Below wr.heap.size wr w') from fun W hW => by
              rw [hLm, hva]
              refine (hasAll_any (fun q => l.contains q) (hdl n cx r) (Nat.le_trans (hdl_len n cx r) HC.out.2) (fun x hx => by have := (HC.out.1 r x ((hdl_mem HC.out.1).1 hx)).2; have := HC.out.2; omega) A2 c2 W (fun j x hj => ?_)).mono fun e w' ⟨h1, h2⟩ => ⟨h1, hW.trans (h2.mono hW.size)⟩
              obtain ⟨g2, o2, e1, l2, y⟩ := hrow j x hj
              have hbw := HV.out.b.trans (hW.mono HV.out.b.size)
              exact ⟨g2, o2, e1, Nat.lt_of_lt_of_le l2 hbw.size, (hbw.cell (p := ⟨g2, o2 + j, none⟩) l2).trans y⟩)
            have HKe := (show Hid (∀ W, Below wr.heap.size wr W → W.cell? ⟨w.heap.size, r, none⟩ = some (.bool false) ∧ W.cell? ⟨b, o + r, none⟩ = some (.slice A2 (hdl n cx r).length c2) ∧ W.rangeAt w.heap.size 0 Lm) from fun W hW => by
              have hm := HV.out.m.below hW
              have hok : OkR W w.heap.size 0 Lm := by rw [hLm]; exact ⟨mkL_len _, hm.at'⟩
              refine ⟨?_, (hW.cell (p := ⟨b, o + r, none⟩) (Nat.lt_of_lt_of_le lb HV.out.b.size)).trans xb', hok.2⟩
              have h := hm.cl (q := r) (by omega)
              rw [hto] at h
              exact h)
            have HT := (show Hid (l.contains r = false) from hto)
            generalize (hdl n cx r).length = ln2 at *
            have k0 := (HKe.out wr.drew ((Below.refl _ _).drew)).2.2
            have hu0 : Tryz.prog.underlying 87 = some (.array 200 4) := Tryz.underlying87
            have hsz : (Tryz.prog.info? 87).map (·.size) = some Lm.length := by rw [HLe.out]; exact Tryz.size87
            clear lb xb hrow hLm hva hto hu0 hsz
            go_wp2_with fail
            have hu0 : Tryz.prog.underlying 87 = some (.array 200 4) := Tryz.underlying87
            have hsz : (Tryz.prog.info? 87).map (·.size) = some Lm.length := by rw [HLe.out]; exact Tryz.size87
            go_region_held3 (fun W => W.cell? ⟨w.heap.size, r, none⟩ = some (.bool false) ∧ W.cell? ⟨b, o + r, none⟩ = some (.slice A2 ln2 c2) ∧ W.rangeAt w.heap.size 0 Lm) (first | go_keep | exact HKe.out _ b4 | exact HKe.out _ (Below.refl _ _) | exact HKe.out _ ((Below.refl _ _).drew)) ((go_at_call 44; with_reducible refine (HHa.out _ ((Below.refl _ _).drew)).mono ?_; rintro e w4 ⟨rfl, b4⟩))
            rename_i hHeld
            have HV4 := (show Hid (PoS w w4 l (.slice A4 ln c4)) from HV.out.later b4)
            clear hHeld hu0 hsz b4 HHa HKe HV HLe x0 xb'
            cases hvt : va with
            | false =>
              have HF2 := (show Hid (∀ q, q < r + 1 → frO n cx l q = false) from fun q hq => by
                by_cases e : q = r
                · subst e; rw [HVa.out]; exact hvt
                · exact HF.out q (by omega))
              clear HF HVa HT hvt
              go_wp2_with fail
              go_roundw
              case rel => exact ⟨r + 1, by omega, by go_num, rfl, HV4, HF2⟩
              case measure => simp [intOf]; omega
            | true =>
              have HNx := (show Hid (ordK n cx (k + 1) = l ++ [r]) from by rw [HLl.out]; exact ordK_some (nxO_some hrn (by rw [← HLl.out, HVa.out]; exact hvt) (by rw [← HLl.out]; exact HF.out)))
              obtain ⟨w6, hw6⟩ : ∃ w6, w6 = w4.setCell ⟨w.heap.size, r, none⟩ (.bool true) := ⟨_, rfl⟩
              have HE6 := (show Hid (w4.setCell ⟨w.heap.size, r, none⟩ (.bool true) = w6) from hw6.symm)
              have x4 := HV4.out.m.cl (q := r) (by omega)
              have f4 := HV4.out.m.fz r
              have hm6 : MX w6 w.heap.size (fun q => (l ++ [r]).contains q) := by
                have h := HV4.out.m.set (r := r) true
                rw [← hw6] at h
                have e : upM (fun q => l.contains q) r true = fun q => (l ++ [r]).contains q := by
                  funext q
                  unfold upM
                  by_cases e : q = r
                  · rw [if_pos e, e]
                    exact (List.contains_iff_mem.2 (List.mem_append_right _ (List.mem_singleton.2 rfl))).symm
                  · rw [if_neg e, Bool.eq_iff_iff, List.contains_iff_mem, List.contains_iff_mem, List.mem_append, List.mem_singleton]
                    exact ⟨.inl, fun h => h.resolve_right e⟩
                rw [e] at h
                exact h
              have hb6 : Below w.heap.size w w6 := by rw [hw6]; exact HV4.out.b.setCell (p := ⟨w.heap.size, r, none⟩) (Nat.le_refl _) _
              have hlnl : ln = l.length := HL.out
              have HO6 := (show Hid (w6.ownsRow (w.heap.size + 1) 3 1 (.slice A4 ln c4) ln (l.map U.nI)) from by
                have h := HV4.out.o
                rw [← hlnl] at h
                exact own_same h fun q e => by
                  have h1 := (h.lt q e).1
                  rw [hw6]
                  exact heap_setCell_other _ ⟨w.heap.size, r, none⟩ _ _ (show q ≠ w.heap.size by omega))
              have HN6 := (show Hid (w.heap.size + 1 ≤ w6.heap.size) from by
                show _ ≤ _
                rw [hw6, World.size_setCell]
                exact HV4.out.n)
              have hl1 : ln + 1 ≤ 200 := by
                have h := ordK_few (n := n) (c := cx) (k + 1)
                rw [HNx.out, List.length_append, List.length_singleton, ← hlnl] at h
                omega
              have HPu := (show Hid (∀ (g9 cap9 : Nat) (w9 : World), w9.ownsRow (w.heap.size + 1) 3 1 (.slice (some ⟨g9, 0, none⟩) (ln + 1) cap9) (ln + 1) (l.map U.nI ++ [U.nI r]) → w6.grownBy w9 (Value.slice A4 ln c4).ownBlock → PoS w w9 (ordK n cx (k + 1)) (.slice (some ⟨g9, 0, none⟩) (ln + 1) cap9)) from fun g9 cap9 w9 h1 h2 => by
                have hlow : ∀ q, (Value.slice A4 ln c4).ownBlock = some q → w.heap.size + 1 ≤ q := fun q hq => (HO6.out.lt q hq).1
                rw [HNx.out]
                refine ⟨below_grown hb6 h2 (fun q e => by have := hlow q e; omega), hm6.same (h2.block _ hm6.lt (fun e => by have := hlow _ e.symm; omega)), ?_, Nat.le_trans HN6.out h2.size⟩
                rw [List.length_append, List.length_singleton, ← hlnl, List.map_append]
                exact h1)
              have HL2 := (show Hid (ln + 1 = (ordK n cx (k + 1)).length) from by show _ = _; rw [HNx.out, List.length_append, List.length_singleton, ← hlnl])
              clear HF HVa HT hvt hw6 hm6 hb6 hlnl HV4 HNx HL HLl
              go_wp2_with (first | rw [HE6.out] | (at_builtin; refine U.wpList_app1 rfl _ _ 29 rfl (.int .i64 0) 8 Tryz.underlying29 Tryz.info3 rfl (w.heap.size + 1) ln _ (l.map U.nI) rfl rfl HO6.out rfl (by omega) (by decide) HN6.out ?_; intro g9 cap9 w9 ho9 hg9 hat9 hl9; have HV9 := hid_of (HPu.out g9 cap9 w9 ho9 hg9); clear ho9 hg9 hat9 hl9 HPu HO6 HN6 x4 f4))
              go_roundw
              case rel => exact ⟨k + 1, ln + 1, _, _, by omega, by go_num, rfl, hl1, HL2, HV9⟩
              case measure => simp [intOf]; omega
        · obtain rfl : r = n := by omega
          have HK1 := (show Hid (ordK r cx (k + 1) = l) from by rw [HLl.out]; exact ordK_none (nxO_none (by rw [← HLl.out]; exact HF.out)) 1)
          have HV2 := (show Hid (PoS w wr (ordK r cx (k + 1)) (.slice A4 ln c4)) from by rw [HK1.out]; exact HV.out)
          have HL2 := (show Hid (ln = (ordK r cx (k + 1)).length) from by rw [HK1.out]; exact HL.out)
          clear HF HV HL HLl HK1
          go_wp2_with fail
          go_roundw
          case rel => exact ⟨k + 1, ln, A4, c4, by omega, by go_num, rfl, hln, HL2, HV2⟩
          case measure => simp [intOf]; omega
    · obtain rfl : k = n := by omega
      have HFin := (show Hid (wr.ownsRow w.heap.size 3 1 (.slice A4 ln c4) (ordK k cx k).length ((ordK k cx k).map U.nI) ∧ Below w.heap.size w wr) from ⟨own_base HW.out.o (Nat.le_succ _), HW.out.b⟩)
      clear HW HL HC HRd
      go_wp2_with fail
      unfold Exit.noGoto
      go_ret
      exact ⟨⟨_, rfl, HFin.out.1⟩, HFin.out.2⟩
end Go.Proofs.YtbipjdgholdhcabGreat.N

namespace Go.Proofs.YtbipjdgholdhcabGreat.N
open Go.RowKit Go.Maps
open Go.Proofs.YtbipjdgholdhcabGreat.T

open U (own_get own_slice below_grown)
theorem sps_get (l : List (Nat × Nat)) : ∀ (k : Nat) s, l[k]? = some s → (spc l)[k * 2]? = some (.int .i64 (s.1 : Int)) ∧ (spc l)[k * 2 + 1]? = some (.int .i64 (s.2 : Int)) := by
  induction l with
  | nil => intro k s h; cases h
  | cons a l ih =>
    intro k s h
    have e : spc (a :: l) = .int .i64 (a.1 : Int) :: .int .i64 (a.2 : Int) :: spc l := rfl
    rw [e]
    cases k with
    | zero => cases h; exact ⟨rfl, rfl⟩
    | succ k =>
      have h : l[k]? = some s := h
      obtain ⟨h1, h2⟩ := ih k s h
      rw [show (k + 1) * 2 = k * 2 + 1 + 1 from by omega]
      exact ⟨h1, h2⟩
theorem fs_at {W : World} {B n k : Nat} {A : Option Addr} {c : Nat} {s : Nat × Nat} {l : List (Nat × Nat)} (h : W.ownsRow B 31 2 (.slice A n c) n (spc l)) (hk : l[k]? = some s) : ∃ g, A = some ⟨g, 0, none⟩ ∧ g < W.heap.size ∧ W.cell? ⟨g, k * 2, none⟩ = some (.int .i64 (s.1 : Int)) ∧ W.cell? ⟨g, k * 2 + 1, none⟩ = some (.int .i64 (s.2 : Int)) := by
  obtain ⟨h1, h2⟩ := sps_get l k s hk
  rcases h.2 with ⟨_, hn⟩ | ⟨g, cap, cur, e, _⟩
  · have hlen := h.1
    rw [spc_len, hn] at hlen
    have := (List.getElem?_eq_some_iff.1 hk).1
    omega
  · injection e with e1 _ e3
    subst e1
    have hkl := (List.getElem?_eq_some_iff.1 hk).1
    have hlen := h.1
    rw [spc_len] at hlen
    have c1 := (h.cellAt (k * 2) (by omega)).trans h1
    have c2 := (h.cellAt (k * 2 + 1) (by omega)).trans h2
    exact ⟨g, rfl, World.block_lt_of_cell? W _ c1, c1, c2⟩
theorem sp_neq (a b : Nat) (W : World) : (binOp .neq 31 (.agg #[.int .i64 (a : Int), .int .i64 (b : Int)]) (.agg #[.int .i64 (a : Int), .int .i64 (b : Int)])).run Tryz.prog W = .ok (.bool false) W := by
  have hp : Tryz.prog.stoodInHeld 31 = false := by kernel_rfl
  simp [go_sem, Tryz.underlying31, Tryz.underlying3, Tryz.isAgg3, hp]
theorem sp_eq (a b : Nat) (W : World) : (binOp .eql 31 (.agg #[.int .i64 (a : Int), .int .i64 (b : Int)]) (.agg #[.int .i64 (a : Int), .int .i64 (b : Int)])).run Tryz.prog W = .ok (.bool true) W := by
  have hp : Tryz.prog.stoodInHeld 31 = false := by kernel_rfl
  simp [go_sem, Tryz.underlying31, Tryz.underlying3, Tryz.isAgg3, hp]

set_option maxRecDepth 100000 in
set_option maxHeartbeats 8000000 in
theorem SameInts_any (l : List Nat) (hl : l.length ≤ 1000000) {A1 A2 : Option Addr} {c1 c2 B1 B2 : Nat} (w : World) (h1 : w.ownsRow B1 3 1 (.slice A1 l.length c1) l.length (l.map U.nI)) (h2 : w.ownsRow B2 3 1 (.slice A2 l.length c2) l.length (l.map U.nI)) :
    Calls Tryz.prog 8 #[.slice A1 l.length c1, .slice A2 l.length c2] w fun e w' => e = .returned (.bool true) ∧ Below w.heap.size w w' := by
  have H1 := (show Hid (w.ownsRow B1 3 1 (.slice A1 l.length c1) l.length (l.map U.nI) ∧ w.ownsRow B2 3 1 (.slice A2 l.length c2) l.length (l.map U.nI)) from ⟨h1, h2⟩)
  have HS := (show Hid (Below w.heap.size w w) from Below.refl _ _)
  clear h1 h2
  go_enter Tryz.func8, Tryz.ntmps8
  go_wp2_with fail
  go_loopw [5] (fun t wr => ∃ k : Nat, k ≤ l.length ∧ t = .int .i64 (k : Int) ∧ Hid (Below w.heap.size w wr)) (fun t _ => l.length - (intOf t).toNat)
  case atStart => exact ⟨0, Nat.zero_le _, by go_num, HS⟩
  case round =>
    obtain ⟨k, hk, rfl, HW⟩ := hrel
    clear HS
    by_cases hlt : k < l.length
    · obtain ⟨x, hx⟩ : ∃ x, l[k]? = some x := ⟨_, List.getElem?_eq_getElem hlt⟩
      obtain ⟨g1, k1, e1, _, l1, p1, _⟩ := own_get H1.out.1 (j := k) (x := U.nI x) (by rw [List.getElem?_map, hx]; rfl)
      obtain ⟨g2, k2, e2, _, l2, p2, _⟩ := own_get H1.out.2 (j := k) (x := U.nI x) (by rw [List.getElem?_map, hx]; rfl)
      have e1 : A1 = some ⟨g1, 0, none⟩ := by injection e1
      have e2 : A2 = some ⟨g2, 0, none⟩ := by injection e2
      subst e1
      subst e2
      have y1 : wr.cell? ⟨g1, k, none⟩ = some (.int .i64 (x : Int)) := (HW.out.cell (p := ⟨g1, k, none⟩) l1).trans p1
      have y2 : wr.cell? ⟨g2, k, none⟩ = some (.int .i64 (x : Int)) := (HW.out.cell (p := ⟨g2, k, none⟩) l2).trans p2
      clear p1 p2 l1 l2 hx
      have z0 : (0 : Int) ≤ (k : Int) := by omega
      have z1 : (k : Int) < (l.length : Int) := by omega
      go_wp2_with fail
      go_big_quiet (fail)
      have HB := (show Hid (Below w.heap.size w (wr.drewN nq)) from HW.out.trans ((below_dn _).mono HW.out.size))
      generalize wr.drewN nq = w9 at *
      clear HW
      go_wp2_with fail
      go_roundw
      case rel => exact ⟨k + 1, by omega, by go_num, HB⟩
      case measure => simp [intOf]; omega
    · obtain rfl : k = l.length := by omega
      have HB := (show Hid (Below w.heap.size w wr) from HW.out)
      clear HW
      go_wp2_with fail
      go_ret
      exact ⟨rfl, HB.out⟩

set_option maxRecDepth 100000 in
set_option maxHeartbeats 8000000 in
theorem sameSpots_any (l : List (Nat × Nat)) (hl : l.length ≤ 1000000) {A1 A2 : Option Addr} {c1 c2 B1 B2 : Nat} (w : World) (h1 : w.ownsRow B1 31 2 (.slice A1 l.length c1) l.length (spc l)) (h2 : w.ownsRow B2 31 2 (.slice A2 l.length c2) l.length (spc l)) :
    Calls Tryz.prog 30 #[.slice A1 l.length c1, .slice A2 l.length c2] w fun e w' => e = .returned (.bool true) ∧ Below w.heap.size w w' := by
  have H1 := (show Hid (w.ownsRow B1 31 2 (.slice A1 l.length c1) l.length (spc l) ∧ w.ownsRow B2 31 2 (.slice A2 l.length c2) l.length (spc l)) from ⟨h1, h2⟩)
  have HS := (show Hid (Below w.heap.size w w) from Below.refl _ _)
  clear h1 h2
  go_enter Tryz.func30, Tryz.ntmps30
  go_wp2_with fail
  go_loopw [5] (fun t wr => ∃ k : Nat, k ≤ l.length ∧ t = .int .i64 (k : Int) ∧ Hid (Below w.heap.size w wr)) (fun t _ => l.length - (intOf t).toNat)
  case atStart => exact ⟨0, Nat.zero_le _, by go_num, HS⟩
  case round =>
    obtain ⟨k, hk, rfl, HW⟩ := hrel
    clear HS
    by_cases hlt : k < l.length
    · obtain ⟨x, hx⟩ : ∃ x, l[k]? = some x := ⟨_, List.getElem?_eq_getElem hlt⟩
      obtain ⟨g1, e1, l1, p1, p1'⟩ := fs_at H1.out.1 hx
      obtain ⟨g2, e2, l2, p2, p2'⟩ := fs_at H1.out.2 hx
      subst e1
      subst e2
      have y1 := (HW.out.cell (p := ⟨g1, k * 2, none⟩) l1).trans p1
      have y1' := (HW.out.cell (p := ⟨g1, k * 2 + 1, none⟩) l1).trans p1'
      have y2 := (HW.out.cell (p := ⟨g2, k * 2, none⟩) l2).trans p2
      have y2' := (HW.out.cell (p := ⟨g2, k * 2 + 1, none⟩) l2).trans p2'
      have hne := sp_neq x.1 x.2
      clear p1 p2 p1' p2' l1 l2 hx
      have z0 : (0 : Int) ≤ (k : Int) := by omega
      have z1 : (k : Int) < (l.length : Int) := by omega
      go_wp2_with fail
      go_big_quiet (fail)
      have HB := (show Hid (Below w.heap.size w (wr.drewN nq)) from HW.out.trans ((below_dn _).mono HW.out.size))
      generalize wr.drewN nq = w9 at *
      clear HW
      go_wp2_with fail
      go_roundw
      case rel => exact ⟨k + 1, by omega, by go_num, HB⟩
      case measure => simp [intOf]; omega
    · obtain rfl : k = l.length := by omega
      have HB := (show Hid (Below w.heap.size w wr) from HW.out)
      clear HW
      go_wp2_with fail
      go_ret
      exact ⟨rfl, HB.out⟩
end Go.Proofs.YtbipjdgholdhcabGreat.N

namespace Go.Proofs.YtbipjdgholdhcabGreat.N
open Go.RowKit Go.Maps
open Go.Proofs.YtbipjdgholdhcabGreat.T

open U (own_get own_slice below_grown)
def lvA : Nd := ⟨3, 0, ⟨#[]⟩, 0, 0, 0, 0⟩
def lvB : Nd := ⟨6, 0, ⟨#[115]⟩, 0, 0, 0, 0⟩
def lvG (n : Nd) : GL := [(⟨#[115]⟩, [n])]
theorem lv_a : ckG (lvG lvA) = ((0, 0), 0) := by kernel_rfl
theorem lv_b : ckG (lvG lvB) = ((0, 0), 0) := by kernel_rfl
theorem rc_some {n : Nat} {c : Mx} {x y : Nat} (h : Rc n c x y) : ∃ k, c x k = true :=
  Rc.least (d := fun i _ => ∃ k, c i k = true) (fun _i j hc => ⟨j, hc⟩) (fun _i _k _j _ h1 _ => h1) h
theorem lv_ha (nb : List Bool) (i q : Nat) : hdM (lvG lvA) nb i q = false := by
  cases i with
  | zero => rfl
  | succ i => rfl
theorem lv_la (nb : List Bool) : lpG (lvG lvA) nb 1 = [] := rfl
theorem lv_hb (nb : List Bool) : hdM (lvG lvB) nb 0 0 = true := by
  rfl
theorem lv_va {l : List Nat} {p q : Nat} {cd : Int} (h : VdR (lvG lvA) l p q cd) : cd = 0 := by
  have hz : (ckG (lvG lvA)).2 = 0 := by rw [lv_a]
  obtain ⟨now, _, _, cy, hcy, h3⟩ := h.2 hz
  have hno : cy = [] := (hcy.nil (hdM_lt (ckG_ok.1 hz))).2 fun r hr => by
    obtain ⟨k, hk⟩ := rc_some hr
    rw [lv_ha] at hk
    cases hk
  rcases h3 with ⟨q1, _⟩ | ⟨_, _, ⟨s, r, q1, _⟩ | ⟨_, _, _, q1⟩⟩
  · exact absurd hno q1
  · have e : lpG (lvG lvA) (nbE now) (lvG lvA).length = [] := lv_la _
    rw [e] at q1
    cases q1
  · exact q1
theorem lv_vb {l : List Nat} {p q : Nat} {cd : Int} (h : VdR (lvG lvB) l p q cd) : cd = 100 ∧ l.length = 1 := by
  have hz : (ckG (lvG lvB)).2 = 0 := by rw [lv_b]
  obtain ⟨now, _, _, cy, hcy, h3⟩ := h.2 hz
  have hlt := hdM_lt (nb := nbE now) (ckG_ok.1 hz)
  have hc : hdM (lvG lvB) (nbE now) 0 0 = true := lv_hb _
  have hne : cy ≠ [] := fun e => (hcy.nil hlt).1 e 0 (Rc.of hc)
  rcases h3 with ⟨_, rfl, _, _, q1⟩ | ⟨q1, _⟩
  · refine ⟨q1, ?_⟩
    rcases hcy with ⟨q2, _⟩ | ⟨r, m, hd, _, hp⟩
    · exact absurd q2 hne
    · have hr : r < 1 := (Ds.lt hlt hd).1
      obtain rfl : r = 0 := by omega
      rw [hp.n]
      exact hd.one (Ds.first.2 hc)
  · exact absurd q1 hne
/-- Nodes that were just laid are read. -/
theorem rd_lit (w : World) (L : List Nd) (cs : Array Value) (hn : L.length ≤ 100) (hc : cs.toList = ndc L) : RdN (w.alloc (.cells cs 57)) (some ⟨w.heap.size, 0, none⟩) L := fun _ => by
  have hs : cs.size = L.length * 7 := by rw [← Array.length_toList, hc, ndc_len]
  have ho : (w.alloc (.cells cs 57)).ownsRow w.heap.size 57 7 (.slice (some ⟨w.heap.size, 0, none⟩) L.length L.length) L.length (ndc L ++ []) := by
    rw [List.append_nil, ← hc]
    exact World.ownsRow_lit w cs L.length (Nat.le_refl _) (by unfold maxLen; omega) hs
  exact ⟨w.heap.size, 0, rfl, by rw [World.size_alloc]; omega, own_ndl ho⟩
theorem lv_gi (w : World) (n : Nd) (cs : Array Value) (hc : cs.toList = ndc [n]) (ht : n.tx.size ≤ 140737488355328) : GI ((w.alloc (.cells cs 57)).alloc (.cells #[.string ⟨#[115]⟩, .slice (some ⟨w.heap.size, 0, none⟩) 1 1] 52)) (some ⟨w.heap.size + 1, 0, none⟩) (lvG n) ∧ Below w.heap.size w ((w.alloc (.cells cs 57)).alloc (.cells #[.string ⟨#[115]⟩, .slice (some ⟨w.heap.size, 0, none⟩) 1 1] 52)) := by
  have r1 := rd_lit w [n] cs (by show 1 ≤ 100; omega) hc
  have s1 := World.size_alloc w (.cells cs 57)
  have b1 := below_box w (.cells cs 57)
  obtain ⟨w1, h1⟩ : ∃ w1, w1 = w.alloc (.cells cs 57) := ⟨_, rfl⟩
  rw [← h1] at s1 r1 b1 ⊢
  have hnew := heap_alloc_new w1 (.cells #[.string ⟨#[115]⟩, .slice (some ⟨w.heap.size, 0, none⟩) 1 1] 52)
  have b2 := below_box w1 (.cells #[.string ⟨#[115]⟩, .slice (some ⟨w.heap.size, 0, none⟩) 1 1] 52)
  have s2 := World.size_alloc w1 (.cells #[.string ⟨#[115]⟩, .slice (some ⟨w.heap.size, 0, none⟩) 1 1] 52)
  rw [s1] at hnew
  have key := fun j => cell_of_row (w1.alloc (.cells #[.string ⟨#[115]⟩, .slice (some ⟨w.heap.size, 0, none⟩) 1 1] 52)) (w.heap.size + 1) j _ 52 (0, 0) hnew
  refine ⟨⟨fun k g hg => ?_, by show 1 ≤ _; omega, fun g hg => ?_⟩, b1.trans (b2.mono b1.size)⟩
  · match k, hg with
    | 0, hg =>
      cases hg
      exact ⟨_, 0, _, 1, rfl, by omega, key 0, key 1, r1.below b2 (Nat.le_refl _)⟩
    | k + 1, hg => simp [lvG] at hg
  · simp only [lvG, List.mem_cons, List.not_mem_nil, or_false] at hg
    subst hg
    refine ⟨by show 1 ≤ _; omega, by show 1 ≤ _; omega, fun m hm => ?_⟩
    simp only [List.mem_cons, List.not_mem_nil, or_false] at hm
    subst hm
    exact ht
set_option maxRecDepth 100000 in
set_option maxHeartbeats 16000000 in
theorem lives_any (w : World) : Calls Tryz.prog 6 #[] w fun e w' => e = .returned (.bool true) ∧ Below w.heap.size w w' := by
  obtain ⟨w1, hw1⟩ : ∃ w1, w1 = ((w.alloc (.cells #[.int .i64 3, .int .i64 0, .string ⟨#[]⟩, .int .u64 0, .int .u64 0, .int .u64 0, .int .u64 0] 57)).alloc (.cells #[.string ⟨#[115]⟩, .slice (some ⟨w.heap.size, 0, none⟩) 1 1] 52)) := ⟨_, rfl⟩
  have HE1 := (show Hid (((w.alloc (.cells #[.int .i64 3, .int .i64 0, .string ⟨#[]⟩, .int .u64 0, .int .u64 0, .int .u64 0, .int .u64 0] 57)).alloc (.cells #[.string ⟨#[115]⟩, .slice (some ⟨w.heap.size, 0, none⟩) 1 1] 52)) = w1) from hw1.symm)
  have h1 := lv_gi w lvA #[.int .i64 3, .int .i64 0, .string ⟨#[]⟩, .int .u64 0, .int .u64 0, .int .u64 0, .int .u64 0] rfl (by show 0 ≤ _; omega)
  rw [← hw1] at h1
  have HB1 := (show Hid (Below w.heap.size w w1) from h1.2)
  have HC1 := (show Hid (∀ _ : Unit, Calls Tryz.prog 7 #[.agg #[.slice (some ⟨w.heap.size + 1, 0, none⟩) 1 1]] w1 fun e w' => (∃ (A : Option Addr) (n c p q : Nat), e = .returned (.tuple #[.agg #[.slice A n c, .int .i64 (p : Int), .int .i64 (q : Int)], .int .i64 0])) ∧ Below w1.heap.size w1 w') from fun _ => by
    refine (fcheck_any (lvG lvA) (some ⟨w.heap.size + 1, 0, none⟩) 1 w1 h1.1).mono ?_
    rintro e w' ⟨⟨vc, l, p, q, cd, rfl, hv, ho⟩, b⟩
    obtain ⟨A, c, rfl⟩ := own_slice ho
    rw [lv_va hv]
    exact ⟨⟨A, _, c, p, q, rfl⟩, b⟩)
  have HC2 := (show Hid (∀ W : World, Calls Tryz.prog 7 #[.agg #[.slice (some ⟨W.heap.size + 1, 0, none⟩) 1 1]] ((W.alloc (.cells #[.int .i64 6, .int .i64 0, .string ⟨#[115]⟩, .int .u64 0, .int .u64 0, .int .u64 0, .int .u64 0] 57)).alloc (.cells #[.string ⟨#[115]⟩, .slice (some ⟨W.heap.size, 0, none⟩) 1 1] 52)) fun e w' => (∃ (A : Option Addr) (c p q : Nat), e = .returned (.tuple #[.agg #[.slice A 1 c, .int .i64 (p : Int), .int .i64 (q : Int)], .int .i64 100])) ∧ Below W.heap.size W w') from fun W => by
    have h2 := lv_gi W lvB #[.int .i64 6, .int .i64 0, .string ⟨#[115]⟩, .int .u64 0, .int .u64 0, .int .u64 0, .int .u64 0] rfl (by show 1 ≤ _; omega)
    refine (fcheck_any (lvG lvB) (some ⟨W.heap.size + 1, 0, none⟩) 1 _ h2.1).mono ?_
    rintro e w' ⟨⟨vc, l, p, q, cd, rfl, hv, ho⟩, b⟩
    obtain ⟨A, c, rfl⟩ := own_slice ho
    obtain ⟨e1, e2⟩ := lv_vb hv
    rw [e1, e2]
    exact ⟨⟨A, c, p, q, rfl⟩, h2.2.trans (b.mono h2.2.size)⟩)
  clear h1 hw1
  go_enter Tryz.func6, Tryz.ntmps6
  go_wp2_with (rw [HE1.out])
  refine (HC1.out ()).mono ?_
  rintro e w2 ⟨⟨A, n, c, p, q, rfl⟩, b2⟩
  have HB2 := (show Hid (Below w.heap.size w w2) from HB1.out.trans (b2.mono HB1.out.size))
  clear HC1 HE1 b2 HB1
  obtain ⟨w3, hw3⟩ : ∃ w3, w3 = w2.alloc (.cells #[.slice A n c, .int .i64 (p : Int), .int .i64 (q : Int)] 33) := ⟨_, rfl⟩
  have HE3 := (show Hid (w2.alloc (.cells #[.slice A n c, .int .i64 (p : Int), .int .i64 (q : Int)] 33) = w3) from hw3.symm)
  have HB3 := (show Hid (Below w.heap.size w w3) from by rw [hw3]; exact HB2.out.trans ((below_box _ _).mono HB2.out.size))
  clear hw3 HB2
  go_wp2_with (rw [HE3.out])
  refine (HC2.out w3).mono ?_
  rintro e w4 ⟨⟨A4, c4, p4, q4, rfl⟩, b4⟩
  have HB4 := (show Hid (Below w.heap.size w w4) from HB3.out.trans (b4.mono HB3.out.size))
  clear HC2 HE3 b4 HB3
  obtain ⟨w5, hw5⟩ : ∃ w5, w5 = w4.alloc (.cells #[.slice A4 1 c4, .int .i64 (p4 : Int), .int .i64 (q4 : Int)] 33) := ⟨_, rfl⟩
  have HE5 := (show Hid (w4.alloc (.cells #[.slice A4 1 c4, .int .i64 (p4 : Int), .int .i64 (q4 : Int)] 33) = w5) from hw5.symm)
  have HB5 := (show Hid (Below w.heap.size w w5) from by rw [hw5]; exact HB4.out.trans ((below_box _ _).mono HB4.out.size))
  have hd5 : DX w5 w4.heap.size (.slice A4 1 c4) (p4 : Int) (q4 : Int) := by rw [hw5]; exact DX.new w4 _ _ _
  have c0 := hd5.c0
  clear hw5 HB4 hd5
  go_wp2_with (rw [HE5.out])
  go_ret
  exact ⟨rfl, HB5.out⟩
end Go.Proofs.YtbipjdgholdhcabGreat.N

namespace Go.Proofs.YtbipjdgholdhcabGreat.N
open Go.RowKit
open Go.Proofs.YtbipjdgholdhcabGreat.T (RdN below_drewN below_box node_neq ndE)
set_option maxRecDepth 100000 in
set_option maxHeartbeats 8000000 in
theorem sameq (A1 A2 : Option Addr) (c1 c2 : Nat) (L : List Nd) (hl : L.length ≤ 140737488355328) (w : World) (h1 : RdN w A1 L) (h2 : RdN w A2 L) :
    Calls Tryz.prog 51 #[.slice A1 L.length c1, .slice A2 L.length c2] w fun e w' => e = .returned (.bool true) ∧ ∃ m, w' = w.drewN m := by
  have H1 := (show Hid _ from h1)
  have H2 := (show Hid _ from h2)
  have HG := (show Hid (∀ k, k < L.length → ∃ m, L[k]? = some m ∧ L ≠ []) from fun k hk => ⟨_, List.getElem?_eq_getElem hk, by rintro rfl; simp at hk⟩)
  clear h1 h2
  go_enter Tryz.func51, Tryz.ntmps51
  go_wp2_with fail
  go_loopw [5] (fun t wr => ∃ k : Nat, k ≤ L.length ∧ t = .int .i64 k ∧ Hid (∃ m, wr = w.drewN m)) (fun t _ => L.length - (intOf t).toNat)
  case atStart => exact ⟨0, by omega, by go_num, ⟨0, rfl⟩⟩
  case round =>
    obtain ⟨k, hk, rfl, HW⟩ := hrel
    by_cases hlt : k < L.length
    · obtain ⟨n, hn1, nl⟩ := HG.out k hlt
      have hB : Below w.heap.size w wr := by obtain ⟨m, rfl⟩ := HW.out; exact below_drewN (Below.refl _ _) _
      obtain ⟨g1, o1, rfl, l1, q1⟩ := H1.out nl
      obtain ⟨g2, o2, rfl, l2, q2⟩ := H2.out nl
      obtain ⟨a0, a1, a2, a3, a4, a5, a6⟩ := (q1.same (hB.block g1 l1)) k n hn1
      obtain ⟨d0, d1, d2, d3, d4, d5, d6⟩ := (q2.same (hB.block g2 l2)) k n hn1
      have z0 : (0 : Int) ≤ (k : Int) := by omega
      have z1 : (k : Int) < (L.length : Int) := by omega
      clear HG H1 H2 q1 q2 nl hn1 hB
      have hneq := node_neq n n
      rw [T.ndE_refl] at hneq
      go_wp2_with fail
      go_quiet (fail)
      have HW2 := (show Hid (∃ m, wr.drewN nq = w.drewN m) from by obtain ⟨m, e⟩ := HW.out; exact ⟨m + nq, by rw [e, World.drewN_drewN]⟩)
      generalize wr.drewN nq = w2 at *
      clear hneq a0 a1 a2 a3 a4 a5 a6 d0 d1 d2 d3 d4 d5 d6 HW
      go_wp2_with fail
      go_roundw
      case rel => exact ⟨k + 1, by omega, by go_num, HW2⟩
      case measure => simp [intOf]; omega
    · obtain rfl : k = L.length := by omega
      clear HG H1 H2
      go_wp2_with fail
      go_ret
      exact ⟨rfl, HW.out⟩
end Go.Proofs.YtbipjdgholdhcabGreat.N

namespace Go.Proofs.YtbipjdgholdhcabGreat.N
open Go.RowKit
open Go.Proofs.YtbipjdgholdhcabGreat.T (below_box)
theorem ret_gx {fn : Func} {R : Ending → World → Prop} {act : Act} {W : World} {k : Nat} {a : Value} (hF : fn.results = #[.cell 2 24]) (hd : act.defers = []) (h2 : act.tmps.getD 2 undef = .pointer (some ⟨k, 0, none⟩)) (hT : GX W k a) (hR : R (.returned (.agg #[a])) W) : bodyPost Tryz.prog fn R .ret act W := by
  have c0 := hT.cl
  refine bodyPost_ret (v := .agg #[a]) ?_ hd hR
  simp only [Array.getD_eq_getD_getElem?] at h2
  simp [results, hF, go_sem, h2, c0]
/-- A call with one argument as a step of a region that draws its order. -/
theorem step_call1 {F : Nat} (hen : ∀ args w, (callFunc F args).run Tryz.prog w = .ok (.enter F args) w) {ops : Array Oper} {o : Oper} {a : Act} {w : World} {K : Act → World → Prop} {Q : Exit → Act → World → Prop} {E : Prop} (hgd : o.guard = none) (x : Operand) (T : TypeId) (ho : o.op = .call { callee := .value (.func F), args := #[x], argTypes := #[T] }) (v : Value) (hx : a.eval x = v)
    (hc : Calls Tryz.prog F #[v] w fun e w' => ∃ r, e = .returned r ∧ K (a.put o.dst r) w') :
    if Region.wanted o (yielded ops a.tmps) = true then Oper.wp Tryz.prog o a w K Q else E := by
  have hw : Region.wanted o (yielded ops a.tmps) = true := by simp [Region.wanted, hgd]
  rw [if_pos hw]
  have he : (execOp a.eval o).run Tryz.prog w = .ok (.enter F #[v]) w := by
    unfold execOp
    simp [ho, go_sem, invoke, hen]
    rw [← hx]
    cases x <;> simp [Act.eval]
  unfold Oper.wp
  rw [he, Oper.upon_enter]
  refine hc.mono ?_
  rintro e w' ⟨r, rfl, hk⟩
  exact hk


/-- A rule that was lent: it, its pattern's block and room. -/
abbrev Le : Type := (ByteArray × List Nd) × Nat × Nat
def lgV (x : Le) : List Value := [.string x.1.1, .slice (some ⟨x.2.1, 0, none⟩) x.1.2.length x.2.2]
def lgc (l : List Le) : List Value := l.flatMap lgV
theorem lgc_app (a b : List Le) : lgc (a ++ b) = lgc a ++ lgc b := List.flatMap_append
theorem lgc_one (x : Le) : lgc [x] = lgV x := by unfold lgc; rw [List.flatMap_cons, List.flatMap_nil, List.append_nil]
theorem lgc_get (l : List Le) : ∀ (k j : Nat) (x : Le) (u : Value) (ys : List Value), l[k]? = some x → (lgV x)[j]? = some u → (lgc l ++ ys)[k * 2 + j]? = some u := by
  induction l with
  | nil => intro k j x u ys h; cases h
  | cons a l ih =>
    intro k j x u ys h hu
    have e : lgc (a :: l) ++ ys = lgV a ++ (lgc l ++ ys) := by unfold lgc; rw [List.flatMap_cons, List.append_assoc]
    rw [e]
    have hj : j < 2 := (List.getElem?_eq_some_iff.1 hu).1
    cases k with
    | zero =>
      cases h
      rw [Nat.zero_mul, Nat.zero_add, List.getElem?_append_left (by show j < 2; exact hj)]
      exact hu
    | succ k =>
      have h2 : l[k]? = some x := by simpa using h
      have e2 : (lgV a).length = 2 := rfl
      rw [List.getElem?_append_right (by rw [e2]; omega), e2, show (k + 1) * 2 + j - 2 = k * 2 + j from by omega]
      exact ih k j x u ys h2 hu
/-- While a grammar is lent. -/
structure LgI (w wr : World) (a : Value) (v : Value) (ov : List Le) : Prop where
  o : wr.ownsRow w.heap.size 52 2 v ov.length (lgc ov)
  e : ∀ x ∈ ov, T.LentR wr w.heap.size x.2.1 x.2.2 x.1.2
  b : Below w.heap.size w wr
  x : GX wr w.heap.size a
  y : GX wr (w.heap.size + 1) (.slice none 0 0)
theorem LgI.later {w wr W' : World} {a v : Value} {ov : List Le} (h : LgI w wr a v ov) (hb : Below wr.heap.size wr W') : LgI w W' a v ov :=
  ⟨T.own_below h.o hb, fun x hx => (h.e x hx).below hb, h.b.trans (hb.mono h.b.size), h.x.below hb, h.y.below hb⟩
theorem LgI.push {w wr wA w5 : World} {a v u : Value} {ov : List Le} {nm : ByteArray} {L : List Nd} {g cap : Nat} (h : LgI w wr a v ov) (hA : Below wr.heap.size wr wA) (hl : T.LentR wA w.heap.size g cap L) (hg : (wA.alloc (.cells #[.string nm, .slice (some ⟨g, 0, none⟩) L.length cap] 52)).grownBy w5 v.ownBlock) (ho : w5.ownsRow w.heap.size 52 2 u (ov.length + 1) (lgc ov ++ [.string nm, .slice (some ⟨g, 0, none⟩) L.length cap])) : LgI w w5 a u (ov ++ [((nm, L), g, cap)]) := by
  have h2 : LgI w (wA.alloc (.cells #[.string nm, .slice (some ⟨g, 0, none⟩) L.length cap] 52)) a v ov := (h.later hA).later (below_box wA _)
  have hl2 : T.LentR (wA.alloc (.cells #[.string nm, .slice (some ⟨g, 0, none⟩) L.length cap] 52)) w.heap.size g cap L := hl.below (below_box wA _)
  have key : ∀ (y : Le), T.LentR (wA.alloc (.cells #[.string nm, .slice (some ⟨g, 0, none⟩) L.length cap] 52)) w.heap.size y.2.1 y.2.2 y.1.2 → T.LentR w5 w.heap.size y.2.1 y.2.2 y.1.2 := fun y hy =>
    own_same (v := .slice (some ⟨y.2.1, 0, none⟩) (y.1.2.length + 1) y.2.2) hy fun k hk => hg.block k (World.ownsRow.lt hy k hk).2 (fun q => own_apart h2.o hy (by decide) q.symm hk)
  refine ⟨?_, fun y hy => ?_, h2.b.grown hg h2.b.size (fun k e => (h2.o.lt k e).1), h2.x.same (hg.block _ h2.x.lt (fun e => h2.x.ne h2.o (by decide) e.symm rfl)), h2.y.same (hg.block _ h2.y.lt (fun e => h2.y.ne h2.o (by decide) e.symm rfl))⟩
  · rw [List.length_append, lgc_app, lgc_one]
    exact ho
  · rcases List.mem_append.1 hy with q | q
    · exact key y (h2.e y q)
    · rw [List.mem_singleton.1 q]
      exact key ((nm, L), g, cap) hl2
/-- A grammar that was lent, and is as it was. -/
structure LgB (w w' : World) (g cap : Nat) (ov : List Le) : Prop where
  o : w'.ownsRow w.heap.size 52 2 (.slice (some ⟨g, 0, none⟩) (ov.length + 1) cap) (ov.length + 1) (lgc ov ++ [.string ⟨#[115, 112, 97, 114, 101, 32, 114, 111, 111, 109]⟩, .slice none 0 0])
  e : ∀ x ∈ ov, T.LentR w' w.heap.size x.2.1 x.2.2 x.1.2
  b : Below w.heap.size w w'
theorem LgB.later {w wr W' : World} {g cap : Nat} {ov : List Le} (h : LgB w wr g cap ov) (hb : Below wr.heap.size wr W') : LgB w W' g cap ov :=
  ⟨T.own_below h.o hb, fun x hx => (h.e x hx).below hb, h.b.trans (hb.mono h.b.size)⟩
theorem LgB.cell {w wr : World} {g cap : Nat} {ov : List Le} (h : LgB w wr g cap ov) {k : Nat} {x : Le} (hk : ov[k]? = some x) : wr.cell? ⟨g, k * 2, none⟩ = some (.string x.1.1) ∧ wr.cell? ⟨g, k * 2 + 1, none⟩ = some (.slice (some ⟨x.2.1, 0, none⟩) x.1.2.length x.2.2) := by
  have hc := h.o.cells (g := g) rfl
  have q0 := hc (k * 2 + 0) _ (lgc_get ov k 0 x _ _ hk rfl)
  have q1 := hc (k * 2 + 1) _ (lgc_get ov k 1 x _ _ hk rfl)
  rw [Addr.add_lit, Nat.zero_add] at q0 q1
  exact ⟨q0, q1⟩
theorem LgB.last {w wr : World} {g cap : Nat} {ov : List Le} (h : LgB w wr g cap ov) : wr.cell? ⟨g, ov.length * 2, none⟩ = some (.string ⟨#[115, 112, 97, 114, 101, 32, 114, 111, 111, 109]⟩) := by
  have hc := h.o.cells (g := g) rfl
  have hlen : (lgc ov).length = ov.length * 2 := by
    have := h.o.1
    rw [List.length_append] at this
    simp only [List.length_cons, List.length_nil] at this
    omega
  have q0 := hc (ov.length * 2) (.string ⟨#[115, 112, 97, 114, 101, 32, 114, 111, 111, 109]⟩) (by rw [List.getElem?_append_right (by omega), hlen, Nat.sub_self]; rfl)
  rw [Addr.add_lit, Nat.zero_add] at q0
  exact q0
theorem LgB.gr {w wr : World} {g cap : Nat} {ov : List Le} {gs : List (ByteArray × List Nd)} (h : LgB w wr g cap ov) (hm : ov.map (·.1) = gs) : GrD wr (some ⟨g, 0, none⟩) gs := fun k r hr => by
  rw [← hm, List.getElem?_map] at hr
  cases hx : ov[k]? with
  | none => rw [hx] at hr; cases hr
  | some x =>
    rw [hx] at hr
    obtain rfl : x.1 = r := by simpa using hr
    obtain ⟨q0, q1⟩ := h.cell hx
    exact ⟨g, 0, some ⟨x.2.1, 0, none⟩, x.2.2, rfl, (h.o.lt g rfl).2, by rw [Nat.zero_add]; exact q0, by rw [Nat.zero_add]; exact q1, (h.e x (List.mem_of_getElem? hx)).rd⟩
theorem enters8 (args : Array Value) (w : World) : (callFunc 22 args).run Tryz.prog w = .ok (.enter 22 args) w := enters_of Tryz.func22 (by kernel_rfl) rfl args w
set_option maxRecDepth 100000 in
set_option maxHeartbeats 8000000 in
theorem lendG_any (gs : List (ByteArray × List Nd)) (A : Option Addr) (c : Nat) (w : World) (hg : GrIn w A c gs) :
    Calls Tryz.prog 9 #[.agg #[.slice A gs.length c]] w fun e w' => ∃ g cap ov, e = .returned (.agg #[.slice (some ⟨g, 0, none⟩) gs.length cap]) ∧ ov.map (·.1) = gs ∧ LgB w w' g cap ov := by
  obtain ⟨i0, hinf, hz0, hz1, hz2⟩ := info_parts Tryz.info41
  have hl := hg.len
  have HG := (show Hid (∀ k, k < gs.length → ∃ g, gs[k]? = some g ∧ g.2.length * 64 ≤ 140737488351232 ∧ ∃ b o A2 c2, A = some ⟨b, o, none⟩ ∧ b < w.heap.size ∧ w.cell? ⟨b, o + k * 2, none⟩ = some (.string g.1) ∧ w.cell? ⟨b, o + k * 2 + 1, none⟩ = some (.slice A2 g.2.length c2) ∧ T.InP w A2 c2 g.2) from fun k hk => by
    have e : gs[k]? = some gs[k] := List.getElem?_eq_getElem hk
    obtain ⟨b, o, _, _, h1, h2, h3, _, _⟩ := hg.d k _ e
    obtain ⟨A3, c3, h6, h7⟩ := hg.each k _ e
    exact ⟨_, e, h6.2.2.2.1, b, o, A3, c3, h1, h2, h3, h7 b o h1, h6.1, h6.2.1⟩)
  have HA := (show Hid (LgI w ((w.alloc (.cells #[.slice A gs.length c] 24)).alloc (.cells #[.slice none 0 0] 24)) (.slice A gs.length c) (.slice none 0 0) []) from
    ⟨World.ownsRow_nil _ _ _ _, (fun x hx => by cases hx), ((Below.refl _ _).alloc (Nat.le_refl _) _).alloc (by rw [World.size_alloc]; omega) _, (GX.mk (heap_alloc_new w _)).below (below_box _ _), ⟨by have h := heap_alloc_new (w.alloc (.cells #[.slice A gs.length c] 24)) (.cells #[.slice none 0 0] 24); rw [World.size_alloc] at h; exact h⟩⟩)
  clear hg
  go_enter Tryz.func9, Tryz.ntmps9
  go_wp2_with fail
  generalize (w.alloc (.cells #[.slice A gs.length c] 24)).alloc (.cells #[.slice none 0 0] 24) = w1 at *
  go_loopw [3, 4] (fun v t wr => ∃ (k : Nat) (ov : List Le) (Av : Option Addr) (cv : Nat), k ≤ gs.length ∧ t = .int .i64 k ∧ v = .slice Av k cv ∧ Hid (ov.length = k ∧ ov.map (·.1) = gs.take k) ∧ Hid (LgI w wr (.slice A gs.length c) (.slice Av k cv) ov)) (fun _ t _ => gs.length - (intOf t).toNat)
  case atStart => exact ⟨0, [], none, 0, Nat.zero_le _, rfl, rfl, ⟨rfl, rfl⟩, HA⟩
  case round =>
    obtain ⟨k, ov, Av, cv, hk, rfl, rfl, HM, HW⟩ := hrel
    clear HA
    have x0 := HW.out.x.cl
    by_cases hlt : k < gs.length
    · obtain ⟨g, hgk, hgl, b, o, A2, c2, rfl, lb, e0, e1, hin⟩ := HG.out k hlt
      have z0 : (0 : Int) ≤ (k : Int) := by omega
      have z1 : (k : Int) < (gs.length : Int) := by omega
      have hD : Below wr.heap.size wr wr.drew := (Below.refl _ _).drew
      have HLd := (show Hid (LgI w wr.drew (.slice (some ⟨b, o, none⟩) gs.length c) (.slice Av k cv) ov) from HW.out.later hD)
      have d0 := (HLd.out.b.cell (p := ⟨b, o + k * 2, none⟩) lb).trans e0
      have d1 := (HLd.out.b.cell (p := ⟨b, o + k * 2 + 1, none⟩) lb).trans e1
      have dx := HLd.out.x.cl
      have hsz : w.heap.size ≤ wr.heap.size := HW.out.b.size
      have HCall := (show Hid (∀ _ : Unit, Calls Tryz.prog 22 #[.slice A2 g.2.length c2] wr.drew fun e w' => (∃ g9 cap, e = .returned (.slice (some ⟨g9, 0, none⟩) g.2.length cap) ∧ T.LentR w' w.heap.size g9 cap g.2) ∧ Below wr.drew.heap.size wr.drew w') from fun _ => by
        refine (T.lend_any A2 c2 g.2 wr.drew hgl ⟨hin.1.below HLd.out.b (Nat.le_refl _), hin.2⟩).mono ?_
        rintro e w' ⟨⟨g9, cap, rfl, r9⟩, b9⟩
        exact ⟨⟨g9, cap, rfl, T.own_base r9 (by show w.heap.size ≤ wr.heap.size; exact hsz)⟩, b9⟩)
      have HAft := (show Hid (∀ wA, Below wr.drew.heap.size wr.drew wA → wA.cell? ⟨w.heap.size, 0, none⟩ = some (.slice (some ⟨b, o, none⟩) gs.length c) ∧ wA.cell? ⟨b, o + k * 2, none⟩ = some (.string g.1)) from fun wA hA => by
        have h3 := HLd.out.later hA
        exact ⟨h3.x.cl, (h3.b.cell (p := ⟨b, o + k * 2, none⟩) lb).trans e0⟩)
      have HTk := (show Hid (gs.take (k + 1) = gs.take k ++ [g]) from by rw [List.take_add_one, hgk]; rfl)
      have hov := HM.out.1
      have HO := (show Hid (wr.drew.ownsRow w.heap.size 52 2 (.slice Av k cv) k (lgc ov)) from by have h := HLd.out.o; rw [hov] at h; exact h)
      clear hgk hin e0 e1 HG hlt hov
      obtain ⟨nm, L⟩ := g
      simp only at d0 d1 HCall HAft HTk hgl
      go_wp2_with fail
      go_region_law (first
        | (refine step_call1 enters8 rfl _ _ (by rfl) (.slice A2 L.length c2) (by rfl) ?_; with_reducible refine (HCall.out ()).mono ?_; rintro e wA ⟨⟨g, cap, rfl, rA⟩, bA⟩; refine ⟨_, rfl, ?_⟩; obtain ⟨ax, a0⟩ := HAft.out wA bA)
        | (refine step_append_lies _ (by rfl) _ _ _ (by rfl) w.heap.size 52 i0 (.agg #[.string ⟨#[]⟩, .slice none 0 0]) 2 40 Tryz.underlying22 hinf hz0 hz1 hz2 rfl (by omega) _ _ (lgc ov) (by rfl) ((T.own_below HO.out bA).alloc _) ⟨wA.heap.size, 0, none⟩ 1 1 [.string nm, .slice (some ⟨g, 0, none⟩) L.length cap] (by rfl) (by rfl) (World.news_of_block (cs := #[.string nm, .slice (some ⟨g, 0, none⟩) L.length cap]) (t := 52) (fr := (0, 0)) (heap_alloc_new wA _)) (by intro u hu; simp only [List.mem_cons, List.not_mem_nil, or_false] at hu; rcases hu with rfl | rfl <;> rfl) (by omega) (by unfold maxLen; omega) (by omega) (by have q1 := bA.size; have q2 : wr.drew.heap.size = wr.heap.size := rfl; rw [World.size_alloc]; omega) (wA.heap.size + 1) (by simp) ?_; intro g3 cap3 w5 hown hgrow hat hltg))
      all_goals
        have HN := (show Hid (LgI w w5 (.slice (some ⟨b, o, none⟩) gs.length c) (.slice (some ⟨g3, 0, none⟩) (k + 1) cap3) (ov ++ [((nm, L), g, cap)])) from by
          have q2 : wr.drew.heap.size = wr.heap.size := rfl
          have hA : Below wr.heap.size wr wA := hD.trans (by rw [← q2]; exact bA)
          exact HW.out.push hA rA hgrow (by rw [HM.out.1]; exact hown))
        clear hown hgrow hat hltg rA bA ax a0 HCall HAft HO HLd HW hD
        go_wp2_with fail
        go_roundw
        case rel => exact ⟨k + 1, _, _, _, by omega, by go_num, rfl, ⟨by rw [List.length_append, HM.out.1]; rfl, by rw [List.map_append, HM.out.2, HTk.out]; rfl⟩, HN⟩
        case measure => simp [intOf]; omega
    · obtain rfl : k = gs.length := by omega
      have hov := HM.out.1
      have hO := HW.out.o
      rw [hov] at hO
      have hsz : w.heap.size ≤ wr.heap.size := HW.out.b.size
      have HMm := (show Hid (ov.map (·.1) = gs) from by have := HM.out.2; rw [List.take_length] at this; exact this)
      have HWl := (show Hid (LgI w (wr.alloc (.cells #[.string ⟨#[115, 112, 97, 114, 101, 32, 114, 111, 111, 109]⟩, .slice none 0 0] 52)) (.slice A gs.length c) (.slice Av gs.length cv) ov) from HW.out.later (below_box _ _))
      have HL := (show Hid (ov.length = gs.length) from hov)
      clear HG hlt hov HM HW
      go_wp2_with (at_builtin; refine wpList_append_lies _ rfl _ _ 22 rfl w.heap.size 52 i0 (.agg #[.string ⟨#[]⟩, .slice none 0 0]) 2 40 Tryz.underlying22 hinf hz0 hz1 hz2 rfl (by decide) _ _ _ rfl (hO.alloc _) ⟨wr.heap.size, 0, none⟩ 1 1 [.string ⟨#[115, 112, 97, 114, 101, 32, 114, 111, 111, 109]⟩, .slice none 0 0] rfl rfl ?c1 ?c2 (by decide) ?c3 ?c4 ?c5 (wr.heap.size + 1) (by simp) ?_)
      case c1 => exact World.news_of_block (cs := #[.string ⟨#[115, 112, 97, 114, 101, 32, 114, 111, 111, 109]⟩, .slice none 0 0]) (t := 52) (fr := (0, 0)) (heap_alloc_new wr _)
      case c2 => intro u hu; simp only [List.mem_cons, List.not_mem_nil, or_false] at hu; rcases hu with rfl | rfl <;> rfl
      case c3 => unfold maxLen; omega
      case c4 => omega
      case c5 => rw [World.size_alloc]; omega
      intro g3 cap3 w5 hown hgrow hat hltg
      have hcap : gs.length + 1 ≤ cap3 := by
        rcases hown.2 with ⟨q, _⟩ | ⟨g2, c2, cur, q, _, _, h3, _⟩
        · cases q
        · cases q; exact h3
      have HF := (show Hid (GX w5 (w.heap.size + 1) (.slice none 0 0) ∧ LgB w w5 g3 cap3 ov) from by
        have h2 := HWl.out
        have key : ∀ (y : Le), T.LentR (wr.alloc (.cells #[.string ⟨#[115, 112, 97, 114, 101, 32, 114, 111, 111, 109]⟩, .slice none 0 0] 52)) w.heap.size y.2.1 y.2.2 y.1.2 → T.LentR w5 w.heap.size y.2.1 y.2.2 y.1.2 := fun y hy =>
          own_same (v := .slice (some ⟨y.2.1, 0, none⟩) (y.1.2.length + 1) y.2.2) hy fun k hk => hgrow.block k (World.ownsRow.lt hy k hk).2 (fun q => own_apart h2.o hy (by decide) q.symm hk)
        refine ⟨h2.y.same (hgrow.block _ h2.y.lt (fun e => h2.y.ne h2.o (by decide) e.symm rfl)), ?_, fun y hy => key y (h2.e y hy), h2.b.grown hgrow h2.b.size (fun k e => (h2.o.lt k e).1)⟩
        rw [HL.out]
        exact hown)
      have hf := HF.out.1.fz
      have hcl := HF.out.1.cl
      have z0 : (0 : Int) ≤ (gs.length : Int) := by omega
      have z1 : (gs.length : Int) ≤ (cap3 : Int) := by omega
      clear hown hgrow hat hltg hO HWl x0
      go_wp2_with fail
      refine ret_gx rfl rfl rfl (HF.out.1.set _) ?_
      have hb := HF.out.2
      have hk : (w5.setCell ⟨w.heap.size + 1, 0, none⟩ (.slice (some ⟨g3, 0, none⟩) gs.length cap3)).heap.size = w5.heap.size := by simp [World.setCell]
      have key : ∀ (j : Nat), j ≠ w.heap.size + 1 → (w5.setCell ⟨w.heap.size + 1, 0, none⟩ (.slice (some ⟨g3, 0, none⟩) gs.length cap3)).heap[j]? = w5.heap[j]? := fun j hj => Below.heap_setCell _ _ _ _ hj
      refine ⟨g3, cap3, ov, rfl, HMm.out, own_same hb.o fun j hj => key j (HF.out.1.ne hb.o (by decide) hj), fun y hy => ?_, hb.b.setCell (p := ⟨w.heap.size + 1, 0, none⟩) (by show w.heap.size ≤ w.heap.size + 1; omega) _⟩
      exact own_same (v := .slice (some ⟨y.2.1, 0, none⟩) (y.1.2.length + 1) y.2.2) (hb.e y hy) fun j hj => key j (HF.out.1.ne (hb.e y hy) (by decide) hj)
end Go.Proofs.YtbipjdgholdhcabGreat.N

namespace Go.Proofs.YtbipjdgholdhcabGreat.N
open Go.RowKit
open Go.Proofs.YtbipjdgholdhcabGreat.T (below_box)
set_option maxRecDepth 100000 in
set_option maxHeartbeats 4000000 in
theorem keptq (A : Option Addr) (c g cap B : Nat) (L : List Nd) (hl : L.length * 64 ≤ 140737488351232) (w : World) (h : T.RdN w A L) (ho : T.LentR w B g cap L) :
    Calls Tryz.prog 32 #[.slice (some ⟨g, 0, none⟩) L.length cap, .slice A L.length c] w fun e w' => e = .returned (.bool true) ∧ ∃ m, w' = w.drewN m := by
  have HS : Hid (∀ _ : Unit, Calls Tryz.prog 51 #[.slice (some ⟨g, 0, none⟩) L.length cap, .slice A L.length c] w fun e w' => e = .returned (.bool true) ∧ ∃ m, w' = w.drewN m) := fun _ => sameq (some ⟨g, 0, none⟩) A cap c L (by omega) w ho.rd h
  have hcap := T.own_cap ho
  have HO := (show Hid (∀ w', Below w.heap.size w w' → T.NB w' g (L.length * 7) (T.zN (-77))) from fun w' hb => (ho.below hb).last)
  clear ho h
  have z0 : (0 : Int) ≤ (L.length : Int) := by omega
  have z1 : (L.length : Int) + 1 ≤ (cap : Int) := by omega
  have z2 : (L.length : Int) < (L.length : Int) + 1 := by omega
  have hq := T.node_eql (T.zN (-77)) (T.zN (-77))
  rw [T.ndE_refl] at hq
  generalize L.length = n at *
  go_enter Tryz.func32, Tryz.ntmps32
  go_wp2_with fail
  refine (HS.out ()).mono ?_
  rintro e w1 ⟨rfl, hb⟩
  obtain ⟨c0, c1, c2, c3, c4, c5, c6⟩ := HO.out w1 (by obtain ⟨m, rfl⟩ := hb; exact T.below_drewN (Below.refl _ _) _)
  have HB := (show Hid _ from hb)
  clear hb HS HO
  unfold T.zN at c0 c1 c2 c3 c4 c5 c6 hq
  dsimp only at c0 c1 c2 c3 c4 c5 c6
  go_wp2_with fail
  go_ret
  exact ⟨rfl, HB.out⟩
/-- While a grammar that was lent is held against what it was. -/
structure AtK (w0 w wr : World) (u1 u2 : Value) (A : Option Addr) (gs : List (ByteArray × List Nd)) (g cap : Nat) (ov : List Le) : Prop where
  b : Below w.heap.size w wr
  x1 : GX wr w.heap.size u1
  x2 : GX wr (w.heap.size + 1) u2
  l : LgB w0 wr g cap ov
  d : GrD wr A gs
theorem AtK.later {w0 w wr W' : World} {u1 u2 : Value} {A : Option Addr} {gs : List (ByteArray × List Nd)} {g cap : Nat} {ov : List Le} (h : AtK w0 w wr u1 u2 A gs g cap ov) (hb : Below wr.heap.size wr W') : AtK w0 w W' u1 u2 A gs g cap ov :=
  ⟨h.b.trans (hb.mono h.b.size), h.x1.below hb, h.x2.below hb, h.l.later hb, h.d.later hb⟩
set_option maxRecDepth 100000 in
set_option maxHeartbeats 8000000 in
theorem keptG_any {gs : List (ByteArray × List Nd)} {ov : List Le} (hm : ov.map (·.1) = gs) (hl : ∀ g ∈ gs, g.2.length * 64 ≤ 140737488351232) (hn : gs.length * 40 ≤ 140737488351232) {w0 w : World} {A : Option Addr} {c g cap : Nat} (h1 : LgB w0 w g cap ov) (h2 : GrD w A gs) :
    Calls Tryz.prog 16 #[.agg #[.slice (some ⟨g, 0, none⟩) gs.length cap], .agg #[.slice A gs.length c]] w fun e w' => e = .returned (.bool true) ∧ Below w.heap.size w w' := by
  have hov : ov.length = gs.length := by rw [← hm, List.length_map]
  have HA := (show Hid (AtK w0 w ((w.alloc (.cells #[.slice (some ⟨g, 0, none⟩) gs.length cap] 24)).alloc (.cells #[.slice A gs.length c] 24)) (.slice (some ⟨g, 0, none⟩) gs.length cap) (.slice A gs.length c) A gs g cap ov) from
    ⟨((Below.refl _ _).alloc (Nat.le_refl _) _).alloc (by rw [World.size_alloc]; omega) _, (GX.mk (heap_alloc_new w _)).below (below_box _ _), ⟨by have h := heap_alloc_new (w.alloc (.cells #[.slice (some ⟨g, 0, none⟩) gs.length cap] 24)) (.cells #[.slice A gs.length c] 24); rw [World.size_alloc] at h; exact h⟩, (h1.later (below_box _ _)).later (below_box _ _), (h2.later (below_box _ _)).later (below_box _ _)⟩)
  have hcap : gs.length + 1 ≤ cap := by rw [← hov]; exact T.own_cap h1.o
  have HG := (show Hid (∀ k, k < gs.length → ∃ x, ov[k]? = some x ∧ gs[k]? = some x.1 ∧ x ∈ ov ∧ x.1.2.length * 64 ≤ 140737488351232) from fun k hk => by
    obtain ⟨x, e⟩ : ∃ x, ov[k]? = some x := ⟨_, List.getElem?_eq_getElem (by omega)⟩
    have e2 : gs[k]? = some x.1 := by rw [← hm, List.getElem?_map, e]; rfl
    exact ⟨x, e, e2, List.mem_of_getElem? e, hl _ (List.mem_of_getElem? e2)⟩)
  have q1 := HA.out.x1.cl
  have q2 := HA.out.x2.cl
  have q3 := HA.out.l.last
  rw [hov] at q3
  have z0 : (0 : Int) ≤ (gs.length : Int) := by omega
  have z1 : (gs.length : Int) + 1 ≤ (cap : Int) := by omega
  have z2 : (gs.length : Int) < (gs.length : Int) + 1 := by omega
  clear hl hm h1 h2 hov hcap
  generalize gs.length = n at *
  go_enter Tryz.func16, Tryz.ntmps16
  go_wp2_with fail
  generalize (w.alloc (.cells #[.slice (some ⟨g, 0, none⟩) n cap] 24)).alloc (.cells #[.slice A n c] 24) = w1 at *
  go_wp2_with fail
  clear q1 q2 q3
  go_loopw [6] (fun t wr => ∃ k : Nat, k ≤ n ∧ t = .int .i64 k ∧ Hid (AtK w0 w wr (.slice (some ⟨g, 0, none⟩) n cap) (.slice A n c) A gs g cap ov)) (fun t _ => n - (intOf t).toNat)
  case atStart => exact ⟨0, by omega, by go_num, HA⟩
  case round =>
    obtain ⟨k, hk, rfl, HW⟩ := hrel
    clear HA
    have q1 := HW.out.x1.cl
    have q2 := HW.out.x2.cl
    by_cases hlt : k < n
    · obtain ⟨x, hx, hgx, hxm, hxl⟩ := HG.out k hlt
      obtain ⟨y0, y1⟩ := HW.out.l.cell hx
      obtain ⟨b2, o2, B2, d2, hA2, l2, x0, x1, r2⟩ := HW.out.d k _ hgx
      subst hA2
      have HS : Hid (∀ n, Calls Tryz.prog 32 #[.slice (some ⟨x.2.1, 0, none⟩) x.1.2.length x.2.2, .slice B2 x.1.2.length d2] (wr.drewN n) fun e w' => e = .returned (.bool true) ∧ ∃ m, w' = (wr.drewN n).drewN m) := fun n => keptq B2 d2 x.2.1 x.2.2 w0.heap.size x.1.2 hxl _ (r2.below (T.below_drewN (Below.refl _ _) _) (Nat.le_refl _)) ((HW.out.l.e x hxm).below (T.below_drewN (Below.refl _ _) _))
      have u0 : (0 : Int) ≤ (k : Int) := by omega
      have u1 : (k : Int) < (n : Int) := by omega
      clear HG r2 hx hgx hxm hxl z0 z1 z2
      generalize x.1.2.length = gl at *
      generalize x.1.1 = nm at *
      generalize x.2.1 = xb at *
      generalize x.2.2 = xc at *
      go_wp2_with fail
      go_quiet ((go_at_call 32; exact Calls.quiet_of (HS.out _)))
      have HW2 := (show Hid (AtK w0 w (wr.drewN nq) (.slice (some ⟨g, 0, none⟩) n cap) (.slice (some ⟨b2, o2, none⟩) n c) (some ⟨b2, o2, none⟩) gs g cap ov) from HW.out.later (T.below_drewN (Below.refl _ _) _))
      generalize wr.drewN nq = w2 at *
      clear HW q1 q2 y0 y1 x0 x1
      go_wp2_with fail
      go_roundw
      case rel => exact ⟨k + 1, by omega, by go_num, HW2⟩
      case measure => simp [intOf]; omega
    · obtain rfl : k = n := by omega
      clear HG
      go_wp2_with fail
      go_ret
      exact ⟨rfl, HW.out.b⟩
end Go.Proofs.YtbipjdgholdhcabGreat.N

namespace Go.Proofs.YtbipjdgholdhcabGreat.N
open Go.RowKit Go.Maps
open Go.Proofs.YtbipjdgholdhcabGreat.T
open U (own_get own_slice below_grown)
/-- While a grammar is lent: its box, the lent one's, and what was lent. -/
structure LyS (w0 wr : World) (wb k : Nat) (u1 u2 : Value) (g cap : Nat) (ov : List Le) : Prop where
  l : LgB w0 wr g cap ov
  x1 : GX wr wb u1
  x2 : GX wr k u2
theorem LyS.later {w0 wr W' : World} {wb k : Nat} {u1 u2 : Value} {g cap : Nat} {ov : List Le} (h : LyS w0 wr wb k u1 u2 g cap ov) (hb : Below wr.heap.size wr W') : LyS w0 W' wb k u1 u2 g cap ov := ⟨h.l.later hb, h.x1.below hb, h.x2.below hb⟩
theorem LyS.box {w0 w2 wr : World} {wb k : Nat} {u1 u2 : Value} {g cap : Nat} {ov : List Le} (h : LyS w0 w2 wb k u1 u2 g cap ov) (hb : Below w2.heap.size w2 wr) : wr.cell? ⟨wb, 0, none⟩ = some u1 ∧ wr.cell? ⟨k, 0, none⟩ = some u2 := ⟨(h.later hb).x1.cl, (h.later hb).x2.cl⟩
theorem vd_doc {gs : GL} {l : List Nat} {p q : Nat} {cd : Int} (h : VdR gs l p q cd) : ∃ now, ((ckG gs).2 = 0 → KnF gs now ∧ now.length = gs.length) ∧ VdD gs now l p q cd := by
  by_cases hz : (ckG gs).2 = 0
  · obtain ⟨now, h1, h2, h3⟩ := h.2 hz
    exact ⟨now, fun _ => ⟨h1, h2⟩, fun q => absurd hz q, fun _ => h3⟩
  · exact ⟨[], fun q => absurd q hz, h.1, fun q => absurd q hz⟩
theorem vd_one {gs : GL} {now : List Em} {l l2 : List Nat} {p q p2 q2 : Nat} {cd cd2 : Int} (h : VdD gs now l p q cd) (g : VdD gs now l2 p2 q2 cd2) : l2 = l ∧ p2 = p ∧ q2 = q ∧ cd2 = cd := by
  by_cases hz : (ckG gs).2 = 0
  · have hc := hdM_lt (nb := nbE now) (ckG_ok.1 hz)
    obtain ⟨cy, h1, h2⟩ := h.2 hz
    obtain ⟨cy2, g1, g2⟩ := g.2 hz
    obtain rfl := h1.one hc g1
    rcases h2 with ⟨a1, rfl, rfl, rfl, rfl⟩ | ⟨a1, rfl, h2⟩
    · rcases g2 with ⟨_, rfl, rfl, rfl, rfl⟩ | ⟨b1, _⟩
      · exact ⟨rfl, rfl, rfl, rfl⟩
      · exact absurd b1 a1
    · rcases g2 with ⟨b1, _⟩ | ⟨_, rfl, g2⟩
      · exact absurd a1 b1
      · rcases h2 with ⟨s, r, e1, rfl, rfl, rfl⟩ | ⟨e1, rfl, rfl, rfl⟩
        · rcases g2 with ⟨s2, r2, e2, rfl, rfl, rfl⟩ | ⟨e2, _⟩
          · rw [e1] at e2
            obtain ⟨rfl, _⟩ := List.cons.inj e2
            exact ⟨rfl, rfl, rfl, rfl⟩
          · rw [e1] at e2; cases e2
        · rcases g2 with ⟨s2, r2, e2, _⟩ | ⟨_, rfl, rfl, rfl⟩
          · rw [e1] at e2; cases e2
          · exact ⟨rfl, rfl, rfl, rfl⟩
  · obtain ⟨rfl, h1, rfl⟩ := h.1 hz
    obtain ⟨rfl, g1, rfl⟩ := g.1 hz
    rw [← g1] at h1
    obtain ⟨rfl, rfl⟩ := Prod.mk.inj h1
    exact ⟨rfl, rfl, rfl, rfl⟩
theorem vd_len {gs : GL} {now : List Em} {l : List Nat} {p q : Nat} {cd : Int} (h : VdD gs now l p q cd) : l.length ≤ 200 := by
  by_cases hz : (ckG gs).2 = 0
  · have hR := ckG_ok.1 hz
    obtain ⟨cy, h1, h2⟩ := h.2 hz
    rcases h2 with ⟨_, rfl, _⟩ | ⟨_, rfl, _⟩
    · rcases h1 with ⟨rfl, _⟩ | ⟨r, m, hd, _, hp⟩
      · exact Nat.zero_le _
      · rw [hp.n]
        exact Nat.le_trans (Ds.few (hdM_lt hR) hd) hR.n2
    · exact Nat.zero_le _
  · rw [(h.1 hz).1]; exact Nat.zero_le _

set_option maxRecDepth 100000 in
set_option maxHeartbeats 32000000 in
theorem checks_law (gs : GL) (A : Option Addr) (c : Nat) (w : World) (hg : GrIn w A c gs) : Calls Tryz.prog 13 #[.agg #[.slice A gs.length c]] w fun e w' => e = .returned (.bool true) ∧ Below w.heap.size w w' := by
  have hl := hg.len
  obtain ⟨w0, hw0⟩ : ∃ w0, w0 = w.alloc (.cells #[.slice A gs.length c] 24) := ⟨_, rfl⟩
  have hb0 : Below w.heap.size w w0 := by rw [hw0]; exact below_box w _
  have HX0 := (show Hid (GX w0 w.heap.size (.slice A gs.length c)) from by rw [hw0]; exact GX.mk (heap_alloc_new w _))
  have HE0 := (show Hid (w.alloc (.cells #[.slice A gs.length c] 24) = w0) from hw0.symm)
  have hg0 : GrIn w0 A c gs := hg.later hb0
  have HLe : Hid (∀ _ : Unit, Calls Tryz.prog 9 #[.agg #[.slice A gs.length c]] w0 fun e w' => ∃ g cap ov, e = .returned (.agg #[.slice (some ⟨g, 0, none⟩) gs.length cap]) ∧ ov.map (·.1) = gs ∧ LgB w0 w' g cap ov) := fun _ => lendG_any gs A c w0 hg0
  have HK : Hid (∀ (w' : World) (g cap : Nat) (ov : List Le), ov.map (·.1) = gs → LgB w0 w' g cap ov → GrD w' A gs → Calls Tryz.prog 16 #[.agg #[.slice (some ⟨g, 0, none⟩) gs.length cap], .agg #[.slice A gs.length c]] w' fun e w'' => e = .returned (.bool true) ∧ Below w'.heap.size w' w'') := fun w' g cap ov h0 h1 h2 => keptG_any h0 (fun r hr => by
    obtain ⟨k, hk⟩ := List.getElem?_of_mem hr
    obtain ⟨_, _, h6, _⟩ := hg.each k r hk
    exact h6.2.2.2.1) hl h1 h2
  have HWk := (show Hid (∀ W, Calls Tryz.prog 6 #[] W fun e w' => e = .returned (.bool true) ∧ Below W.heap.size W w') from lives_any)
  have HP := (show Hid (GI w0 A gs) from hg0.gi)
  have HB0 := (show Hid (Below w.heap.size w w0) from hb0)
  have x0 := HX0.out.cl
  have HA : Hid (∀ (w' : World) (Ap : Option Addr) (cp : Nat), GI w' Ap gs → Calls Tryz.prog 7 #[.agg #[.slice Ap gs.length cp]] w' fun e w'' => (∃ (A1 : Option Addr) (c1 : Nat) (l : List Nat) (p q : Nat) (cd : Int), e = .returned (.tuple #[.agg #[.slice A1 l.length c1, .int .i64 (p : Int), .int .i64 (q : Int)], .int .i64 cd]) ∧ VdR gs l p q cd ∧ w''.ownsRow w'.heap.size 3 1 (.slice A1 l.length c1) l.length (l.map U.nI)) ∧ Below w'.heap.size w' w'') := fun w' Ap cp h => by
    refine (fcheck_any gs Ap cp w' h).mono ?_
    rintro e w'' ⟨⟨v, l, p, q, cd, rfl, hr, ho⟩, b⟩
    obtain ⟨A1, c1, rfl⟩ := own_slice ho
    exact ⟨⟨A1, c1, l, p, q, cd, rfl, hr, ho⟩, b⟩
  have HD : Hid (∀ (now : List Em), ((ckG gs).2 = 0 → KnF gs now ∧ now.length = gs.length) → ∀ (w' : World) (Ap : Option Addr) (cp : Nat), GI w' Ap gs → Calls Tryz.prog 26 #[.agg #[.slice Ap gs.length cp]] w' fun e w'' => (∃ (A1 : Option Addr) (c1 : Nat) (l : List Nat) (p q : Nat) (cd : Int), e = .returned (.tuple #[.agg #[.slice A1 l.length c1, .int .i64 (p : Int), .int .i64 (q : Int)], .int .i64 cd]) ∧ VdD gs now l p q cd ∧ w''.ownsRow w'.heap.size 3 1 (.slice A1 l.length c1) l.length (l.map U.nI)) ∧ Below w'.heap.size w' w'') := fun now hk w' Ap cp h => by
    refine (checkD10_any hk Ap cp w' h).mono ?_
    rintro e w'' ⟨⟨v, l, p, q, cd, rfl, hr, ho⟩, b⟩
    obtain ⟨A1, c1, rfl⟩ := own_slice ho
    exact ⟨⟨A1, c1, l, p, q, cd, rfl, hr, ho⟩, b⟩
  clear hg hl hg0 hw0 hb0
  go_enter Tryz.func13, Tryz.ntmps13
  go_wp2_with (rw [HE0.out])
  refine (HLe.out ()).mono ?_
  rintro e w1 ⟨g, cap, ov, rfl, hm, ho⟩
  have HM := (show Hid (ov.map (·.1) = gs) from hm)
  obtain ⟨w2, hw2⟩ : ∃ w2, w2 = w1.alloc (.cells #[.slice (some ⟨g, 0, none⟩) gs.length cap] 24) := ⟨_, rfl⟩
  have HE2 := (show Hid (w1.alloc (.cells #[.slice (some ⟨g, 0, none⟩) gs.length cap] 24) = w2) from hw2.symm)
  have HS2 := (show Hid (LyS w0 w2 w.heap.size w1.heap.size (.slice A gs.length c) (.slice (some ⟨g, 0, none⟩) gs.length cap) g cap ov) from by
    have hb : Below w1.heap.size w1 w2 := by rw [hw2]; exact below_box w1 _
    have hX1 : GX w1 w.heap.size (.slice A gs.length c) := HX0.out.same (ho.b.block _ HX0.out.lt)
    exact ⟨ho.later hb, hX1.below hb, by rw [hw2]; exact GX.mk (heap_alloc_new w1 _)⟩)
  have y1 := HS2.out.x1.cl
  have y2 := HS2.out.x2.cl
  have HIn := (show Hid (∀ W, LyS w0 W w.heap.size w1.heap.size (.slice A gs.length c) (.slice (some ⟨g, 0, none⟩) gs.length cap) g cap ov → GI W (some ⟨g, 0, none⟩) gs ∧ GI W A gs) from fun W h => ⟨⟨h.l.gr HM.out, HP.out.l, HP.out.t⟩, HP.out.later h.l.b⟩)
  clear ho hm HLe hw2 x0 HX0
  go_wp2_with (rw [HE2.out])
  generalize w1.heap.size = k1 at *
  refine (HA.out w2 _ _ (HIn.out _ HS2.out).1).mono ?_
  rintro e w3 ⟨⟨A1, c1, l, p, q, cd, rfl, hr1, ho1⟩, b3⟩
  obtain ⟨now, hkn, hvd⟩ := vd_doc hr1
  obtain ⟨w4, hw4⟩ : ∃ w4, w4 = w3.alloc (.cells #[.slice A1 l.length c1, .int .i64 (p : Int), .int .i64 (q : Int)] 33) := ⟨_, rfl⟩
  have HE4 := (show Hid (w3.alloc (.cells #[.slice A1 l.length c1, .int .i64 (p : Int), .int .i64 (q : Int)] 33) = w4) from hw4.symm)
  have hb4 : Below w3.heap.size w3 w4 := by rw [hw4]; exact below_box _ _
  have HB4 := (show Hid (Below w2.heap.size w2 w4) from b3.trans (hb4.mono b3.size))
  have HO4 := (show Hid (DX w4 w3.heap.size (.slice A1 l.length c1) (p : Int) (q : Int) ∧ w4.ownsRow w2.heap.size 3 1 (.slice A1 l.length c1) l.length (l.map U.nI)) from ⟨by rw [hw4]; exact DX.new w3 _ _ _, own_below ho1 hb4⟩)
  have HVd := (show Hid (VdD gs now l p q cd ∧ ((ckG gs).2 = 0 → KnF gs now ∧ now.length = gs.length)) from ⟨hvd, hkn⟩)
  have p1 := (HS2.out.box HB4.out).1
  have p2 := (HS2.out.box HB4.out).2
  clear hr1 ho1 b3 HE2 y1 y2 hw4 hb4 hkn hvd HA
  go_wp2_with (rw [HE4.out])
  refine (HD.out now HVd.out.2 w4 _ _ (HIn.out _ (HS2.out.later HB4.out)).2).mono ?_
  rintro e w5 ⟨⟨A2, c2, l2, q2, q3, cd2, rfl, hr2, ho2⟩, b5⟩
  obtain ⟨rfl, rfl, rfl, rfl⟩ := vd_one HVd.out.1 hr2
  obtain ⟨w6, hw6⟩ : ∃ w6, w6 = w5.alloc (.cells #[.slice A2 l2.length c2, .int .i64 (q2 : Int), .int .i64 (q3 : Int)] 33) := ⟨_, rfl⟩
  have HE6 := (show Hid (w5.alloc (.cells #[.slice A2 l2.length c2, .int .i64 (q2 : Int), .int .i64 (q3 : Int)] 33) = w6) from hw6.symm)
  have hb6 : Below w5.heap.size w5 w6 := by rw [hw6]; exact below_box _ _
  have HB6 := (show Hid (Below w2.heap.size w2 w6) from (HB4.out.trans (b5.mono HB4.out.size)).trans (hb6.mono (HB4.out.trans (b5.mono HB4.out.size)).size))
  have HO6 := (show Hid (DX w6 w3.heap.size (.slice A1 l2.length c1) (q2 : Int) (q3 : Int) ∧ w6.ownsRow w2.heap.size 3 1 (.slice A1 l2.length c1) l2.length (l2.map U.nI) ∧ DX w6 w5.heap.size (.slice A2 l2.length c2) (q2 : Int) (q3 : Int) ∧ w6.ownsRow w4.heap.size 3 1 (.slice A2 l2.length c2) l2.length (l2.map U.nI)) from ⟨(HO4.out.1.below b5).below hb6, own_below (own_below HO4.out.2 b5) hb6, by rw [hw6]; exact DX.new w5 _ _ _, own_below ho2 hb6⟩)
  have HLn := (show Hid (l2.length ≤ 1000000) from Nat.le_trans (vd_len HVd.out.1) (by omega))
  clear hr2 ho2 b5 HE4 p1 p2 hw6 hb6 HD HB4 HO4 HVd
  go_wp2_with (rw [HE6.out])
  refine (HWk.out w6).mono ?_
  rintro e w7 ⟨rfl, b7⟩
  have HB7 := (show Hid (Below w2.heap.size w2 w7) from HB6.out.trans (b7.mono HB6.out.size))
  have HO7 := (show Hid (DX w7 w3.heap.size (.slice A1 l2.length c1) (q2 : Int) (q3 : Int) ∧ w7.ownsRow w2.heap.size 3 1 (.slice A1 l2.length c1) l2.length (l2.map U.nI) ∧ DX w7 w5.heap.size (.slice A2 l2.length c2) (q2 : Int) (q3 : Int) ∧ w7.ownsRow w4.heap.size 3 1 (.slice A2 l2.length c2) l2.length (l2.map U.nI)) from ⟨HO6.out.1.below b7, own_below HO6.out.2.1 b7, HO6.out.2.2.1.below b7, own_below HO6.out.2.2.2 b7⟩)
  have d0 := HO7.out.1.c0
  have d1 := HO7.out.1.c1
  have d2 := HO7.out.1.c2
  have e0 := HO7.out.2.2.1.c0
  have e1 := HO7.out.2.2.1.c1
  have e2 := HO7.out.2.2.1.c2
  have hse := sp_eq q2 q3
  have HSa := (show Hid (∀ _ : Unit, Calls Tryz.prog 8 #[.slice A1 l2.length c1, .slice A2 l2.length c2] w7 fun e w' => e = .returned (.bool true) ∧ Below w7.heap.size w7 w') from fun _ => SameInts_any l2 HLn.out w7 HO7.out.2.1 HO7.out.2.2.2)
  clear b7 HE6 HB6 HO6 HWk
  go_wp2_with fail
  refine (HSa.out ()).mono ?_
  rintro e w8 ⟨rfl, b8⟩
  have HB8 := (show Hid (Below w2.heap.size w2 w8) from HB7.out.trans (b8.mono HB7.out.size))
  have p1 := (HS2.out.box HB8.out).1
  have p2 := (HS2.out.box HB8.out).2
  clear b8 HB7 HSa HO7 d0 d1 d2 e0 e1 e2 hse
  go_wp2_with fail
  refine (HK.out w8 g cap ov HM.out (HS2.out.later HB8.out).l (HP.out.d.later (HS2.out.later HB8.out).l.b)).mono ?_
  rintro e w9 ⟨rfl, b9⟩
  have HB9 := (show Hid (Below w2.heap.size w2 w9) from HB8.out.trans (b9.mono HB8.out.size))
  clear b9 HB8 p1 p2 HK
  go_wp2_with fail
  go_ret
  exact ⟨rfl, HB0.out.trans (((HS2.out.l.b).trans (HB9.out.mono HS2.out.l.b.size)).mono HB0.out.size)⟩
end Go.Proofs.YtbipjdgholdhcabGreat.N
