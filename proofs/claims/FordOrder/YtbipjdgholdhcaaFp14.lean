/- FordOrder (10.4): of any grammar that is well formed, the order that the program tells has each rule once, each behind its heads; of any other grammar none is told; for grammars within the reach of the form. -/
import Derived.BigQuiet
import Derived.Deep.RegionHeld3
import Derived.Deep.MidRow
import Derived.Test.YtbipjdgholdhcaaRows
import Derived.Test.YtbipjdgholdhcaaFp13
namespace Go.Proofs.Ytbipjdgholdhcaa.N
open Go.RowKit Go.Maps
open Go.Proofs.Ytbipjdgholdhcaa.T

open U (below_grown own_get own_slice)
/-- While the order is told by the program. -/
structure PoS (w wr : World) (l : List Nat) (v : Value) : Prop where
  b : Below w.heap.size w wr
  m : MX wr w.heap.size (fun q => l.contains q)
  o : wr.ownsRow (w.heap.size + 1) 3 1 v l.length (l.map U.nI)
  n : w.heap.size + 1 ≤ wr.heap.size
theorem PoS.later {w wr w2 : World} {l : List Nat} {v : Value} (h : PoS w wr l v) (hb : Below wr.heap.size wr w2) : PoS w w2 l v := ⟨h.b.trans (hb.mono h.b.size), h.m.below hb, U.own_below h.o hb, Nat.le_trans h.n hb.size⟩
set_option maxRecDepth 100000 in
set_option maxHeartbeats 32000000 in
theorem order_any {n : Nat} {cx : Mx} (hc : ∀ i j, cx i j = true → i < n ∧ j < n) (hn : n ≤ 200) (A : Option Addr) (c : Nat) (w : World) (hp : RdL w A ((List.range n).map (hdl n cx))) :
    Calls Try.prog 12 #[.slice A n c] w fun e w' => (∃ v, e = .returned v ∧ w'.ownsRow w.heap.size 3 1 v (ordK n cx n).length ((ordK n cx n).map U.nI)) ∧ Below w.heap.size w w' := by
  have hv := zero_mk
  obtain ⟨w1, hw1⟩ : ∃ w1, w1 = w.alloc (.cells (mkA fun _ => false) 68) := ⟨_, rfl⟩
  have HE1 := (show Hid (w.alloc (.cells (mkA fun _ => false) 68) = w1) from hw1.symm)
  have hs1 : w1.heap.size = w.heap.size + 1 := by rw [hw1, World.size_alloc]
  have HS := (show Hid (PoS w w1 (ordK n cx 0) (.slice none 0 0)) from ⟨by rw [hw1]; exact below_box _ _, by rw [hw1]; exact MX.new w _, World.ownsRow_nil _ _ _ _, by omega⟩)
  have HRd := (show Hid (RdL w A ((List.range n).map (hdl n cx))) from hp)
  have HC := (show Hid ((∀ i j, cx i j = true → i < n ∧ j < n) ∧ n ≤ 200) from ⟨hc, hn⟩)
  clear hw1 hs1 hc hp
  go_enter Try.func12, Try.ntmps12
  go_wp2_with (rw [HE1.out])
  go_step3
  go_wp2_with (rw [HE1.out])
  go_step3
  go_wp2_with (rw [HE1.out])
  clear HE1 hv
  go_loopw [4, 8] (fun u t wr => ∃ (k ln : Nat) (A4 : Option Addr) (c4 : Nat), k ≤ n ∧ t = .int .i64 (k : Int) ∧ u = .slice A4 ln c4 ∧ ln ≤ 200 ∧ Hid (ln = (ordK n cx k).length) ∧ Hid (PoS w wr (ordK n cx k) (.slice A4 ln c4))) (fun _ t _ => n - (intOf t).toNat)
  case atStart => exact ⟨0, 0, none, 0, Nat.zero_le _, by go_num, rfl, by omega, rfl, HS⟩
  case round =>
    obtain ⟨k, ln, A4, c4, hk, rfl, rfl, hln, HL, HW⟩ := hrel
    clear HS
    by_cases hlt : k < n
    · obtain ⟨l, hl⟩ : ∃ l, l = ordK n cx k := ⟨_, rfl⟩
      have HLl := (show Hid (l = ordK n cx k) from hl)
      rw [← hl] at HW HL
      clear hl
      have HF0 := (show Hid (∀ q, q < 0 → frO n cx l q = false) from fun q h => absurd h (Nat.not_lt_zero _))
      go_wp2_with fail
      try go_step3
      try go_wp2_with fail
      go_loopw [4, 12] (fun u t wr => ∃ (r : Nat), r ≤ n ∧ t = .int .i64 (r : Int) ∧ u = .slice A4 ln c4 ∧ Hid (PoS w wr l (.slice A4 ln c4)) ∧ Hid (∀ q, q < r → frO n cx l q = false)) (fun _ t _ => n - (intOf t).toNat)
      case atStart => exact ⟨0, Nat.zero_le _, by go_num, rfl, HW, HF0⟩
      case round =>
        obtain ⟨r, hr, rfl, rfl, HV, HF⟩ := hrel
        clear HW HF0
        by_cases hrn : r < n
        · have z0 : (0 : Int) ≤ (r : Int) := by omega
          have z1 : (r : Int) < (n : Int) := by omega
          have z2 : (r : Int) < 200 := by omega
          have x0 : wr.cell? ⟨w.heap.size, r, none⟩ = some (.bool (l.contains r)) := HV.out.m.cl (by omega)
          cases hto : l.contains r with
          | true =>
            rw [hto] at x0
            have HF2 := (show Hid (∀ q, q < r + 1 → frO n cx l q = false) from fun q hq => by
              by_cases e : q = r
              · subst e; unfold frO; rw [hto]; rfl
              · exact HF.out q (by omega))
            clear HF hto
            go_wp2_with fail
            go_big_quiet (fail)
            have HV2 := (show Hid (PoS w (wr.drewN nq) l (.slice A4 ln c4)) from HV.out.later (below_dn _))
            generalize wr.drewN nq = w9 at *
            clear HV x0
            go_wp2_with fail
            go_roundw
            case rel => exact ⟨r + 1, by omega, by go_num, rfl, HV2, HF2⟩
            case measure => simp [intOf]; omega
          | false =>
            rw [hto] at x0
            obtain ⟨b, o, A2, c2, rfl, lb, xb, hrow⟩ := HRd.out r (hdl n cx r) (by rw [List.getElem?_map, List.getElem?_range hrn]; rfl)
            have xb' := (HV.out.b.cell (p := ⟨b, o + r, none⟩) lb).trans xb
            obtain ⟨Lm, hLm⟩ : ∃ Lm, Lm = mkL (fun q => l.contains q) := ⟨_, rfl⟩
            obtain ⟨va, hva⟩ : ∃ va, va = (hdl n cx r).all fun q => l.contains q := ⟨_, rfl⟩
            have HLe := (show Hid (Lm.length = 200) from by rw [hLm]; exact mkL_len _)
            have HVa := (show Hid (frO n cx l r = va) from by rw [hva]; unfold frO; rw [hto]; rfl)
            have HHa := (show Hid (∀ W, Below wr.heap.size wr W → Calls Try.prog 19 #[.agg Lm.toArray, .slice A2 (hdl n cx r).length c2] W fun e w' => e = .returned (.bool va) ∧ Below wr.heap.size wr w') from fun W hW => by
              rw [hLm, hva]
              refine (hasAll_any (fun q => l.contains q) (hdl n cx r) (Nat.le_trans (hdl_len n cx r) HC.out.2) (fun x hx => by have := (HC.out.1 r x ((hdl_mem HC.out.1).1 hx)).2; have := HC.out.2; omega) A2 c2 W (fun j x hj => ?_)).mono fun e w' ⟨h1, h2⟩ => ⟨h1, hW.trans (h2.mono hW.size)⟩
              obtain ⟨g2, o2, e1, l2, y⟩ := hrow j x hj
              have hbw := HV.out.b.trans (hW.mono HV.out.b.size)
              exact ⟨g2, o2, e1, Nat.lt_of_lt_of_le l2 hbw.size, (hbw.cell (p := ⟨g2, o2 + j, none⟩) l2).trans y⟩)
            have HKe := (show Hid (∀ W, Below wr.heap.size wr W → W.cell? ⟨w.heap.size, r, none⟩ = some (.bool false) ∧ W.cell? ⟨b, o + r, none⟩ = some (.slice A2 (hdl n cx r).length c2) ∧ W.rangeAt w.heap.size 0 Lm) from fun W hW => by
              have hm := HV.out.m.below hW
              have hok : OkR W w.heap.size 0 Lm := by rw [hLm]; exact ⟨mkL_len _, hm.at'⟩
              refine ⟨?_, (hW.cell (p := ⟨b, o + r, none⟩) (Nat.lt_of_lt_of_le lb HV.out.b.size)).trans xb', hok.2⟩
              have h := hm.cl (q := r) (by omega)
              rw [hto] at h
              exact h)
            have HT := (show Hid (l.contains r = false) from hto)
            generalize (hdl n cx r).length = ln2 at *
            have k0 := (HKe.out wr.drew ((Below.refl _ _).drew)).2.2
            have hu0 : Try.prog.underlying 68 = some (.array 200 4) := Try.underlying68
            have hsz : (Try.prog.info? 68).map (·.size) = some Lm.length := by rw [HLe.out]; exact Try.size68
            clear lb xb hrow hLm hva hto hu0 hsz
            go_wp2_with fail
            have hu0 : Try.prog.underlying 68 = some (.array 200 4) := Try.underlying68
            have hsz : (Try.prog.info? 68).map (·.size) = some Lm.length := by rw [HLe.out]; exact Try.size68
            go_region_held3 (fun W => W.cell? ⟨w.heap.size, r, none⟩ = some (.bool false) ∧ W.cell? ⟨b, o + r, none⟩ = some (.slice A2 ln2 c2) ∧ W.rangeAt w.heap.size 0 Lm) (first | go_keep | exact HKe.out _ b4 | exact HKe.out _ (Below.refl _ _) | exact HKe.out _ ((Below.refl _ _).drew)) ((go_at_call 19; with_reducible refine (HHa.out _ ((Below.refl _ _).drew)).mono ?_; rintro e w4 ⟨rfl, b4⟩))
            rename_i hHeld
            have HV4 := (show Hid (PoS w w4 l (.slice A4 ln c4)) from HV.out.later b4)
            clear hHeld hu0 hsz b4 HHa HKe HV HLe x0 xb'
            cases hvt : va with
            | false =>
              have HF2 := (show Hid (∀ q, q < r + 1 → frO n cx l q = false) from fun q hq => by
                by_cases e : q = r
                · subst e; rw [HVa.out]; exact hvt
                · exact HF.out q (by omega))
              clear HF HVa HT hvt
              go_wp2_with fail
              go_roundw
              case rel => exact ⟨r + 1, by omega, by go_num, rfl, HV4, HF2⟩
              case measure => simp [intOf]; omega
            | true =>
              have HNx := (show Hid (ordK n cx (k + 1) = l ++ [r]) from by rw [HLl.out]; exact ordK_some (nxO_some hrn (by rw [← HLl.out, HVa.out]; exact hvt) (by rw [← HLl.out]; exact HF.out)))
              obtain ⟨w6, hw6⟩ : ∃ w6, w6 = w4.setCell ⟨w.heap.size, r, none⟩ (.bool true) := ⟨_, rfl⟩
              have HE6 := (show Hid (w4.setCell ⟨w.heap.size, r, none⟩ (.bool true) = w6) from hw6.symm)
              have x4 := HV4.out.m.cl (q := r) (by omega)
              have f4 := HV4.out.m.fz r
              have hm6 : MX w6 w.heap.size (fun q => (l ++ [r]).contains q) := by
                have h := HV4.out.m.set (r := r) true
                rw [← hw6] at h
                have e : upM (fun q => l.contains q) r true = fun q => (l ++ [r]).contains q := by
                  funext q
                  unfold upM
                  by_cases e : q = r
                  · rw [if_pos e, e]
                    exact (List.contains_iff_mem.2 (List.mem_append_right _ (List.mem_singleton.2 rfl))).symm
                  · rw [if_neg e, Bool.eq_iff_iff, List.contains_iff_mem, List.contains_iff_mem, List.mem_append, List.mem_singleton]
                    exact ⟨.inl, fun h => h.resolve_right e⟩
                rw [e] at h
                exact h
              have hb6 : Below w.heap.size w w6 := by rw [hw6]; exact HV4.out.b.setCell (p := ⟨w.heap.size, r, none⟩) (Nat.le_refl _) _
              have hlnl : ln = l.length := HL.out
              have HO6 := (show Hid (w6.ownsRow (w.heap.size + 1) 3 1 (.slice A4 ln c4) ln (l.map U.nI)) from by
                have h := HV4.out.o
                rw [← hlnl] at h
                exact own_same h fun q e => by
                  have h1 := (h.lt q e).1
                  rw [hw6]
                  exact heap_setCell_other _ ⟨w.heap.size, r, none⟩ _ _ (show q ≠ w.heap.size by omega))
              have HN6 := (show Hid (w.heap.size + 1 ≤ w6.heap.size) from by
                show _ ≤ _
                rw [hw6, World.size_setCell]
                exact HV4.out.n)
              have hl1 : ln + 1 ≤ 200 := by
                have h := ordK_few (n := n) (c := cx) (k + 1)
                rw [HNx.out, List.length_append, List.length_singleton, ← hlnl] at h
                omega
              have HPu := (show Hid (∀ (g9 cap9 : Nat) (w9 : World), w9.ownsRow (w.heap.size + 1) 3 1 (.slice (some ⟨g9, 0, none⟩) (ln + 1) cap9) (ln + 1) (l.map U.nI ++ [U.nI r]) → w6.grownBy w9 (Value.slice A4 ln c4).ownBlock → PoS w w9 (ordK n cx (k + 1)) (.slice (some ⟨g9, 0, none⟩) (ln + 1) cap9)) from fun g9 cap9 w9 h1 h2 => by
                have hlow : ∀ q, (Value.slice A4 ln c4).ownBlock = some q → w.heap.size + 1 ≤ q := fun q hq => (HO6.out.lt q hq).1
                rw [HNx.out]
                refine ⟨below_grown hb6 h2 (fun q e => by have := hlow q e; omega), hm6.same (h2.block _ hm6.lt (fun e => by have := hlow _ e.symm; omega)), ?_, Nat.le_trans HN6.out h2.size⟩
                rw [List.length_append, List.length_singleton, ← hlnl, List.map_append]
                exact h1)
              have HL2 := (show Hid (ln + 1 = (ordK n cx (k + 1)).length) from by show _ = _; rw [HNx.out, List.length_append, List.length_singleton, ← hlnl])
              clear HF HVa HT hvt hw6 hm6 hb6 hlnl HV4 HNx HL HLl
              go_wp2_with (first | rw [HE6.out] | (at_builtin; refine U.wpList_app1 rfl _ _ 25 rfl (.int .i64 0) 8 Try.underlying25 Try.info3 rfl (w.heap.size + 1) ln _ (l.map U.nI) rfl rfl HO6.out rfl (by omega) (by decide) HN6.out ?_; intro g9 cap9 w9 ho9 hg9 hat9 hl9; have HV9 := hid_of (HPu.out g9 cap9 w9 ho9 hg9); clear ho9 hg9 hat9 hl9 HPu HO6 HN6 x4 f4))
              go_roundw
              case rel => exact ⟨k + 1, ln + 1, _, _, by omega, by go_num, rfl, hl1, HL2, HV9⟩
              case measure => simp [intOf]; omega
        · obtain rfl : r = n := by omega
          have HK1 := (show Hid (ordK r cx (k + 1) = l) from by rw [HLl.out]; exact ordK_none (nxO_none (by rw [← HLl.out]; exact HF.out)) 1)
          have HV2 := (show Hid (PoS w wr (ordK r cx (k + 1)) (.slice A4 ln c4)) from by rw [HK1.out]; exact HV.out)
          have HL2 := (show Hid (ln = (ordK r cx (k + 1)).length) from by rw [HK1.out]; exact HL.out)
          clear HF HV HL HLl HK1
          go_wp2_with fail
          go_roundw
          case rel => exact ⟨k + 1, ln, A4, c4, by omega, by go_num, rfl, hln, HL2, HV2⟩
          case measure => simp [intOf]; omega
    · obtain rfl : k = n := by omega
      have HFin := (show Hid (wr.ownsRow w.heap.size 3 1 (.slice A4 ln c4) (ordK k cx k).length ((ordK k cx k).map U.nI) ∧ Below w.heap.size w wr) from ⟨own_base HW.out.o (Nat.le_succ _), HW.out.b⟩)
      clear HW HL HC HRd
      go_wp2_with fail
      unfold Exit.noGoto
      go_ret
      exact ⟨⟨_, rfl, HFin.out.1⟩, HFin.out.2⟩
end Go.Proofs.Ytbipjdgholdhcaa.N

namespace Go.Proofs.Ytbipjdgholdhcaa.N
open Go.RowKit Go.Maps
open Go.Proofs.Ytbipjdgholdhcaa.T
/-- Where no rule comes to itself, a rule is free as long as one is left. -/
theorem nxO_ex {n : Nat} {c : Mx} (hc : ∀ i j, c i j = true → i < n ∧ j < n) (hno : ∀ r, ¬ Rc n c r r) {l : List Nat} {r : Nat} (hr : r < n) (hl : r ∉ l) : ∃ q, nxO n c l = some q := by
  cases h : nxO n c l with
  | some q => exact ⟨q, rfl⟩
  | none =>
    exfalso
    have hnf : ∀ q, q < n → q ∉ l → ∃ k, c q k = true ∧ k ∉ l := fun q hq hql => by
      unfold nxO at h
      have h1 := List.find?_eq_none.1 h q (List.mem_range.2 hq)
      unfold frO at h1
      have h2 : l.contains q = false := by
        cases e : l.contains q with
        | false => rfl
        | true => exact absurd (List.contains_iff_mem.1 e) hql
      rw [h2] at h1
      have h3 : ¬ ((hdl n c q).all fun x => l.contains x) = true := by simpa using h1
      apply Classical.byContradiction
      intro hne
      apply h3
      rw [List.all_eq_true]
      intro x hx
      cases e : l.contains x with
      | true => rfl
      | false =>
        exfalso
        refine hne ⟨x, (hdl_mem hc).1 hx, fun q => ?_⟩
        rw [List.contains_iff_mem.2 q] at e
        cases e
    have key : ∀ m : Nat, ∃ (p : List Nat) (y : Nat), p.length = m + 1 ∧ p.Nodup ∧ (∀ x ∈ p, x < n) ∧ y < n ∧ y ∉ l ∧ ∀ x ∈ p, x = y ∨ Rc n c x y := by
      intro m
      induction m with
      | zero => exact ⟨[r], r, rfl, List.pairwise_singleton _ r, fun x hx => by rw [List.mem_singleton.1 hx]; exact hr, hr, hl, fun x hx => .inl (List.mem_singleton.1 hx)⟩
      | succ m ih =>
        obtain ⟨p, y, h1, h2, h3, h4, h5, h6⟩ := ih
        obtain ⟨k, hk, hkl⟩ := hnf y h4 h5
        have hkn := (hc y k hk).2
        refine ⟨k :: p, k, by rw [List.length_cons, h1], List.nodup_cons.2 ⟨fun q => ?_, h2⟩, fun x hx => ?_, hkn, hkl, fun x hx => ?_⟩
        · rcases h6 k q with e | e
          · subst e
            exact hno _ (Rc.of hk)
          · exact hno y (Rc.trans hkn (Rc.of hk) e)
        · rcases List.mem_cons.1 hx with e | e
          · rw [e]; exact hkn
          · exact h3 x e
        · rcases List.mem_cons.1 hx with e | e
          · exact .inl e
          · rcases h6 x e with e2 | e2
            · subst e2
              exact .inr (Rc.of hk)
            · exact .inr (Rc.trans h4 e2 (Rc.of hk))
    obtain ⟨p, y, h1, h2, h3, _⟩ := key n
    have := few_below n p h2 h3
    omega
theorem ord_full {n : Nat} {c : Mx} (hc : ∀ i j, c i j = true → i < n ∧ j < n) (hno : ∀ r, ¬ Rc n c r r) : ∀ k, k ≤ n → (ordK n c k).length = k := by
  intro k
  induction k with
  | zero => intro _; rfl
  | succ k ih =>
    intro h
    have hl := ih (by omega)
    obtain ⟨r, hr, hrl⟩ : ∃ r, r < n ∧ r ∉ ordK n c k := by
      apply Classical.byContradiction
      intro hne
      have hall : ∀ r, r < n → r ∈ ordK n c k := fun r hr => Classical.byContradiction fun q => hne ⟨r, hr, q⟩
      obtain ⟨f, hf⟩ := Classical.axiomOfChoice (r := fun (r i : Nat) => r < n → (ordK n c k)[i]? = some r) (fun r => by
        by_cases hr : r < n
        · obtain ⟨i, hi⟩ := List.getElem?_of_mem (hall r hr)
          exact ⟨i, fun _ => hi⟩
        · exact ⟨0, fun q => absurd q hr⟩)
      have h1 := few_below k ((List.range n).map f) (List.pairwise_map.2 (List.Pairwise.imp_of_mem (fun {a b} ha hb hne e => hne (by
        have e1 := hf a (List.mem_range.1 ha)
        have e2 := hf b (List.mem_range.1 hb)
        rw [e, e2] at e1
        exact (Option.some.inj e1).symm)) List.nodup_range)) (fun x hx => by
        obtain ⟨r, hr, rfl⟩ := List.mem_map.1 hx
        have := (List.getElem?_eq_some_iff.1 (hf r (List.mem_range.1 hr))).1
        omega)
      rw [List.length_map, List.length_range] at h1
      omega
    obtain ⟨q, hq⟩ := nxO_ex hc hno hr hrl
    rw [ordK_some hq, List.length_append, hl]
    rfl
theorem ord_take {n : Nat} {c : Mx} (h : ∀ k, k ≤ n → (ordK n c k).length = k) {k : Nat} (hk : k ≤ n) : (ordK n c n).take k = ordK n c k := by
  have key : ∀ d, k + d ≤ n → (ordK n c (k + d)).take k = ordK n c k := by
    intro d
    induction d with
    | zero =>
      intro _
      show (ordK n c k).take k = _
      exact List.take_of_length_le (Nat.le_of_eq (h k hk))
    | succ d ih =>
      intro hd
      cases e : nxO n c (ordK n c (k + d)) with
      | none =>
        have e2 := ordK_none e 1
        rw [show k + (d + 1) = k + d + 1 from rfl, e2]
        exact ih (by omega)
      | some r =>
        rw [show k + (d + 1) = k + d + 1 from rfl, ordK_some e, List.take_append_of_le_length (by rw [h (k + d) (by omega)]; omega)]
        exact ih (by omega)
  have := key (n - k) (by omega)
  rwa [show k + (n - k) = n from by omega] at this
/-- Each rule stands behind its heads, and once. -/
theorem ord_at {n : Nat} {c : Mx} (hc : ∀ i j, c i j = true → i < n ∧ j < n) (hno : ∀ r, ¬ Rc n c r r) {k r : Nat} (hk : (ordK n c n)[k]? = some r) : r < n ∧ r ∉ (ordK n c n).take k ∧ ∀ q ∈ hdl n c r, q ∈ (ordK n c n).take k := by
  have hf := ord_full hc hno
  have hlt : k < n := by
    have := (List.getElem?_eq_some_iff.1 hk).1
    rw [hf n (Nat.le_refl _)] at this
    exact this
  have h1 := ord_take hf (k := k) (by omega)
  have h2 := ord_take hf (k := k + 1) (by omega)
  rw [h1]
  rw [List.take_add_one, hk, h1] at h2
  cases e : nxO n c (ordK n c k) with
  | none =>
    have e2 := ordK_none e 1
    rw [e2] at h2
    have := congrArg List.length h2
    simp at this
  | some q =>
    rw [ordK_some e] at h2
    have e3 : q = r := by
      have := List.append_cancel_left h2
      simpa using this.symm
    subst e3
    obtain ⟨h3, h4⟩ := nxO_lt e
    refine ⟨h3, h4, fun x hx => ?_⟩
    unfold nxO at e
    have h5 := List.find?_some e
    unfold frO at h5
    rw [Bool.and_eq_true, List.all_eq_true] at h5
    exact List.contains_iff_mem.1 (h5.2 x hx)
end Go.Proofs.Ytbipjdgholdhcaa.N

namespace Go.Proofs.Ytbipjdgholdhcaa.N
open Go.RowKit Go.Maps
open Go.Proofs.Ytbipjdgholdhcaa.T

open U (below_grown own_get own_slice)
theorem own_rdi {W : World} {B n c : Nat} {A : Option Addr} {l : List Nat} (h : W.ownsRow B 3 1 (.slice A n c) n (l.map U.nI)) : RdI W A l := fun j x hj => by
  obtain ⟨g, cc, e, _, lg, y, _⟩ := own_get h (j := j) (x := U.nI x) (by rw [List.getElem?_map, hj]; rfl)
  have e : A = some ⟨g, 0, none⟩ := by injection e
  exact ⟨g, 0, e, lg, by rw [Nat.zero_add]; exact y⟩
set_option maxRecDepth 100000 in
set_option maxHeartbeats 8000000 in
/-- Does a list have a number? -/
theorem has_any (l : List Nat) (hl : l.length ≤ 1000000) (m : Nat) (A : Option Addr) (c : Nat) (w : World) (hp : RdI w A l) :
    Calls Try.prog 10 #[.slice A l.length c, .int .i64 (m : Int)] w fun e w' => e = .returned (.bool (l.contains m)) ∧ w' = w := by
  have HX := (show Hid (RdI w A l) from hp)
  have HA0 := (show Hid (∀ (j x : Nat), j < 0 → l[j]? = some x → x ≠ m) from fun j x h => absurd h (Nat.not_lt_zero _))
  clear hp
  go_enter Try.func10, Try.ntmps10
  go_wp2_with fail
  go_loopw [5] (fun t wr => ∃ k : Nat, k ≤ l.length ∧ t = .int .i64 (k : Int) ∧ wr = w ∧ Hid (∀ (j x : Nat), j < k → l[j]? = some x → x ≠ m)) (fun t _ => l.length - (intOf t).toNat)
  case atStart => exact ⟨0, Nat.zero_le _, by go_num, by first | rfl | trivial, HA0⟩
  case round =>
    obtain ⟨k, hk, rfl, rfl, HA⟩ := hrel
    clear HA0
    by_cases hlt : k < l.length
    · obtain ⟨x, hx⟩ : ∃ x, l[k]? = some x := ⟨_, List.getElem?_eq_getElem hlt⟩
      obtain ⟨g, o, rfl, lg, y⟩ := HX.out k x hx
      have z0 : (0 : Int) ≤ (k : Int) := by omega
      have z1 : (k : Int) < (l.length : Int) := by omega
      have HXk := (show Hid (l[k]? = some x) from hx)
      clear lg hx
      by_cases hm : x = m
      · subst hm
        have HV := (show Hid (l.contains x = true) from List.contains_iff_mem.2 (List.mem_of_getElem? HXk.out))
        have te : ((x : Int) == (x : Int)) = true := by rw [beq_iff_eq]
        clear HXk HA HX
        go_wp2_with fail
        go_ret
        exact ⟨by rw [HV.out]; rfl, by first | rfl | trivial⟩
      · have te : ((x : Int) == (m : Int)) = false := by
          rw [beq_eq_false_iff_ne]
          intro e
          exact hm (by omega)
        have HN := (show Hid (∀ (j x : Nat), j < k + 1 → l[j]? = some x → x ≠ m) from fun j x2 hj h2 => by
          by_cases e : j = k
          · subst e
            rw [HXk.out] at h2
            cases h2
            exact hm
          · exact HA.out j x2 (by omega) h2)
        have hne : ¬ (x : Int) = (m : Int) := by omega
        clear HXk HA
        go_wp2_with fail
        go_roundw
        case rel => exact ⟨k + 1, by omega, by go_num, by first | rfl | trivial, HN⟩
        case measure => simp [intOf]; omega
    · obtain rfl : k = l.length := by omega
      have HV := (show Hid (l.contains m = false) from by
        cases e : l.contains m with
        | false => rfl
        | true =>
          obtain ⟨j, hj⟩ := List.getElem?_of_mem (List.contains_iff_mem.1 e)
          exact absurd rfl (HA.out j m (List.getElem?_eq_some_iff.1 hj).1 hj))
      clear HA HX
      go_wp2_with fail
      go_ret
      exact ⟨by rw [HV.out]; rfl, by first | rfl | trivial⟩
end Go.Proofs.Ytbipjdgholdhcaa.N

namespace Go.Proofs.Ytbipjdgholdhcaa.N
open Go.RowKit Go.Maps
open Go.Proofs.Ytbipjdgholdhcaa.T

open U (own_get own_slice below_grown TT)
def VdD (gs : GL) (now : List Em) (l : List Nat) (p q : Nat) (e : Int) : Prop := ((ckG gs).2 ≠ 0 → l = [] ∧ (p, q) = (ckG gs).1 ∧ e = (ckG gs).2) ∧ ((ckG gs).2 = 0 → ∃ cy, CyR gs.length (hdM gs (nbE now)) cy ∧ ((cy ≠ [] ∧ l = cy ∧ p = 0 ∧ q = 0 ∧ e = 100) ∨ (cy = [] ∧ l = [] ∧ ((∃ s r, lpG gs (nbE now) gs.length = s :: r ∧ p = s.1 ∧ q = s.2 ∧ e = 101) ∨ (lpG gs (nbE now) gs.length = [] ∧ p = 0 ∧ q = 0 ∧ e = 0)))))
theorem vd_doc {gs : GL} {l : List Nat} {p q : Nat} {cd : Int} (h : VdR gs l p q cd) : ∃ now, ((ckG gs).2 = 0 → KnF gs now ∧ now.length = gs.length) ∧ VdD gs now l p q cd := by
  by_cases hz : (ckG gs).2 = 0
  · obtain ⟨now, h1, h2, h3⟩ := h.2 hz
    exact ⟨now, fun _ => ⟨h1, h2⟩, fun q => absurd hz q, fun _ => h3⟩
  · exact ⟨[], fun q => absurd q hz, h.1, fun q => absurd q hz⟩
theorem vd_one {gs : GL} {now : List Em} {l l2 : List Nat} {p q p2 q2 : Nat} {cd cd2 : Int} (h : VdD gs now l p q cd) (g : VdD gs now l2 p2 q2 cd2) : l2 = l ∧ p2 = p ∧ q2 = q ∧ cd2 = cd := by
  by_cases hz : (ckG gs).2 = 0
  · have hc := hdM_lt (nb := nbE now) (ckG_ok.1 hz)
    obtain ⟨cy, h1, h2⟩ := h.2 hz
    obtain ⟨cy2, g1, g2⟩ := g.2 hz
    obtain rfl := h1.one hc g1
    rcases h2 with ⟨a1, rfl, rfl, rfl, rfl⟩ | ⟨a1, rfl, h2⟩
    · rcases g2 with ⟨_, rfl, rfl, rfl, rfl⟩ | ⟨b1, _⟩
      · exact ⟨rfl, rfl, rfl, rfl⟩
      · exact absurd b1 a1
    · rcases g2 with ⟨b1, _⟩ | ⟨_, rfl, g2⟩
      · exact absurd a1 b1
      · rcases h2 with ⟨s, r, e1, rfl, rfl, rfl⟩ | ⟨e1, rfl, rfl, rfl⟩
        · rcases g2 with ⟨s2, r2, e2, rfl, rfl, rfl⟩ | ⟨e2, _⟩
          · rw [e1] at e2
            obtain ⟨rfl, _⟩ := List.cons.inj e2
            exact ⟨rfl, rfl, rfl, rfl⟩
          · rw [e1] at e2; cases e2
        · rcases g2 with ⟨s2, r2, e2, _⟩ | ⟨_, rfl, rfl, rfl⟩
          · rw [e1] at e2; cases e2
          · exact ⟨rfl, rfl, rfl, rfl⟩
  · obtain ⟨rfl, h1, rfl⟩ := h.1 hz
    obtain ⟨rfl, g1, rfl⟩ := g.1 hz
    rw [← g1] at h1
    obtain ⟨rfl, rfl⟩ := Prod.mk.inj h1
    exact ⟨rfl, rfl, rfl, rfl⟩
theorem pgS_bd {gs : GL} {bd bd2 : Nat → Bool} (h : ∀ i, i < gs.length → bd i = bd2 i) : pgS gs bd = pgS gs bd2 := by
  unfold pgS
  refine List.map_congr_left fun i hi => ?_
  rw [h i (List.mem_range.1 hi)]
theorem rdE_bd0 {gs : GL} {kd : List Nd → Nat → List Nat} {bd bd2 : Nat → Bool} (h : ∀ i, i < gs.length → bd i = bd2 i) (now : List Em) : rdE gs kd bd now = rdE gs kd bd2 now := by
  apply List.ext_getElem?
  intro i
  by_cases hi : i < gs.length
  · have hg : gs[i]? = some gs[i] := List.getElem?_eq_getElem hi
    rw [rdE_get hg, rdE_get hg, h i hi]
  · rw [List.getElem?_eq_none (by rw [rdE_len]; omega), List.getElem?_eq_none (by rw [rdE_len]; omega)]
theorem pgE_bd {gs : GL} {kd : List Nd → Nat → List Nat} {bd bd2 : Nat → Bool} (h : ∀ i, i < gs.length → bd i = bd2 i) : ∀ m, pgE gs kd bd m = pgE gs kd bd2 m := by
  intro m
  induction m with
  | zero => exact pgS_bd h
  | succ m ih =>
    show rdE gs kd bd (pgE gs kd bd m) = rdE gs kd bd2 (pgE gs kd bd2 m)
    rw [ih, rdE_bd0 h]
theorem kf_same {gs : GL} {a b : List Em} (h1 : KnF gs a) (h2 : KnF gs b) : a = b := by
  obtain ⟨R, bd, m, hI, hbd, rfl, he⟩ := h1
  obtain ⟨R2, bd2, m2, hI2, hbd2, rfl, he2⟩ := h2
  have hs : ∀ i, i < gs.length → bd2 i = bd i := fun i hi => by
    rw [hbd2 i, hbd i]
    congr 1
    rw [Bool.eq_iff_iff, hI2.rl i i hi hi, hI.rl i i hi hi]
  rw [pgE_bd hs] at he2 ⊢
  rw [pgE_bd hs] at he2
  have e1 := pg_fix he m2
  have e2 := pg_fix he2 m
  rw [← e1, ← e2, Nat.add_comm]

theorem vd_same {gs : GL} {l l2 : List Nat} {p q p2 q2 : Nat} {cd cd2 : Int} (h : VdR gs l p q cd) (g : VdR gs l2 p2 q2 cd2) : l2 = l ∧ p2 = p ∧ q2 = q ∧ cd2 = cd := by
  obtain ⟨n1, a1, a2⟩ := vd_doc h
  obtain ⟨n2, b1, b2⟩ := vd_doc g
  by_cases hz : (ckG gs).2 = 0
  · obtain rfl := kf_same (a1 hz).1 (b1 hz).1
    exact vd_one a2 b2
  · obtain ⟨e1, e2, e3⟩ := a2.1 hz
    obtain ⟨f1, f2, f3⟩ := b2.1 hz
    rw [← f2] at e2
    obtain ⟨rfl, rfl⟩ := Prod.mk.inj e2
    exact ⟨by rw [f1, e1], rfl, rfl, by rw [f3, e3]⟩
/-- What Order answers: nothing but the number where it is not 0, else the order. -/
def OrR (gs : GL) (w w' : World) (e : Ending) : Prop := ∃ (A : Option Addr) (c : Nat) (o l : List Nat) (p q : Nat) (cd : Int), VdR gs l p q cd ∧ e = .returned (.tuple #[.slice A o.length c, .int .i64 cd]) ∧ w'.ownsRow w.heap.size 3 1 (.slice A o.length c) o.length (o.map U.nI) ∧ (cd ≠ 0 → o = []) ∧ (cd = 0 → ∃ now, KnF gs now ∧ now.length = gs.length ∧ o = ordK gs.length (hdM gs (nbE now)) gs.length)
set_option maxRecDepth 100000 in
set_option maxHeartbeats 16000000 in
/-- Order, by the program. -/
theorem forder_any (gs : GL) (A : Option Addr) (c : Nat) (w : World) (hp : GI w A gs) :
    Calls Try.prog 6 #[.agg #[.slice A gs.length c]] w fun e w' => OrR gs w w' e ∧ Below w.heap.size w w' := by
  obtain ⟨w1, hw1⟩ : ∃ w1, w1 = w.alloc (.cells #[.slice A gs.length c] 24) := ⟨_, rfl⟩
  have HE1 := (show Hid (w.alloc (.cells #[.slice A gs.length c] 24) = w1) from hw1.symm)
  have HS := (show Hid (Below w.heap.size w w1 ∧ GX w1 w.heap.size (.slice A gs.length c)) from by rw [hw1]; exact ⟨below_box _ _, GX.mk (heap_alloc_new w _)⟩)
  have HJ := (show Hid (∀ _ : Unit, Calls Try.prog 11 #[.agg #[.slice A gs.length c]] w1 fun e w' => (∃ (hv vc : Value) (l : List Nat) (p q : Nat) (cd : Int), e = .returned (.tuple #[hv, .agg #[vc, .int .i64 (p : Int), .int .i64 (q : Int)], .int .i64 cd]) ∧ VdR gs l p q cd ∧ w'.ownsRow w1.heap.size 3 1 vc l.length (l.map U.nI) ∧ (cd = 0 → ∃ now xs, KnF gs now ∧ now.length = gs.length ∧ xs.length = gs.length ∧ TT w' w1.heap.size 25 3 hv (hdT gs.length (hdM gs (nbE now)) gs.length) xs)) ∧ Below w1.heap.size w1 w') from fun _ => judged_any gs A c w1 (hp.later HS.out.1))
  have q1 := HS.out.2.cl
  clear hw1 hp
  go_enter Try.func6, Try.ntmps6
  go_wp2_with (rw [HE1.out])
  refine (HJ.out ()).mono ?_
  rintro e w2 ⟨⟨hv, vc, l, p, q, cd, rfl, hvd, ho, hT⟩, b2⟩
  obtain ⟨Ac, cc, rfl⟩ := own_slice ho
  have HV := (show Hid (VdR gs l p q cd) from hvd)
  obtain ⟨w3, hw3⟩ : ∃ w3, w3 = w2.alloc (.cells #[.slice Ac l.length cc, .int .i64 (p : Int), .int .i64 (q : Int)] 29) := ⟨_, rfl⟩
  have HE3 := (show Hid (w2.alloc (.cells #[.slice Ac l.length cc, .int .i64 (p : Int), .int .i64 (q : Int)] 29) = w3) from hw3.symm)
  have hb3 : Below w2.heap.size w2 w3 := by rw [hw3]; exact below_box _ _
  have HB3 := (show Hid (Below w.heap.size w w3) from (HS.out.1.trans (b2.mono HS.out.1.size)).trans (hb3.mono (HS.out.1.trans (b2.mono HS.out.1.size)).size))
  clear ho b2 hw3 HS HE1 HJ q1
  by_cases hcd : cd = 0
  · subst hcd
    have hz : (ckG gs).2 = 0 := by
      by_cases e : (ckG gs).2 = 0
      · exact e
      · exact (hvd.1 e).2.2.symm ▸ rfl
    have hR := ckG_ok.1 hz
    obtain ⟨now, xs, k2, n2, hxl, hT2⟩ := hT rfl
    obtain ⟨Ah, ch, hAh⟩ := own_slice hT2.o
    rw [hxl] at hAh
    subst hAh
    have HK := (show Hid (KnF gs now ∧ now.length = gs.length) from ⟨k2, n2⟩)
    have HOr := (show Hid (∀ _ : Unit, Calls Try.prog 12 #[.slice Ah gs.length ch] w3 fun e w' => (∃ v, e = .returned v ∧ w'.ownsRow w3.heap.size 3 1 v (ordK gs.length (hdM gs (nbE now)) gs.length).length ((ordK gs.length (hdM gs (nbE now)) gs.length).map U.nI)) ∧ Below w3.heap.size w3 w') from fun _ => order_any (hdM_lt hR) hR.n2 Ah ch w3 (tt_rdl (hT2.below hb3) hxl hR.n1))
    clear hz hR k2 n2 hxl hT2 hT hb3 hvd
    go_wp2_with (rw [HE3.out])
    refine (HOr.out ()).mono ?_
    rintro e w4 ⟨⟨v, rfl, ho⟩, b4⟩
    obtain ⟨Ao, co, rfl⟩ := own_slice ho
    have HF := (show Hid (w4.ownsRow w.heap.size 3 1 (.slice Ao (ordK gs.length (hdM gs (nbE now)) gs.length).length co) (ordK gs.length (hdM gs (nbE now)) gs.length).length ((ordK gs.length (hdM gs (nbE now)) gs.length).map U.nI) ∧ Below w.heap.size w w4) from ⟨own_base ho HB3.out.size, HB3.out.trans (b4.mono HB3.out.size)⟩)
    clear ho b4 HOr HE3
    go_wp2_with fail
    refine bodyPost_ret (v := .tuple #[.slice Ao (ordK gs.length (hdM gs (nbE now)) gs.length).length co, .int .i64 0]) (by simp [results, Try.results6, go_sem]) rfl ?_
    exact ⟨⟨Ao, co, _, l, p, q, 0, HV.out, rfl, HF.out.1, fun e => absurd rfl e, fun _ => ⟨now, HK.out.1, HK.out.2, rfl⟩⟩, HF.out.2⟩
  · have tz : (cd != 0) = true := by rw [bne, beq_eq_false_iff_ne.2 hcd]; rfl
    have HZ := (show Hid (cd ≠ 0) from hcd)
    clear hcd hT hb3 hvd
    go_wp2_with (rw [HE3.out])
    refine bodyPost_ret (v := .tuple #[.slice none 0 0, .int .i64 cd]) (by simp [results, Try.results6, go_sem]) rfl ?_
    exact ⟨⟨none, 0, [], l, p, q, cd, HV.out, rfl, World.ownsRow_nil _ _ _ _, fun _ => rfl, fun e => absurd e HZ.out⟩, HB3.out⟩
end Go.Proofs.Ytbipjdgholdhcaa.N

namespace Go.Proofs.Ytbipjdgholdhcaa.N
open Go.RowKit Go.Maps
open Go.Proofs.Ytbipjdgholdhcaa.T

open U (own_get own_slice below_grown)
def lvA : Nd := ⟨3, 0, ⟨#[]⟩, 0, 0, 0, 0⟩
def lvB : Nd := ⟨6, 0, ⟨#[115]⟩, 0, 0, 0, 0⟩
def lvG (n : Nd) : GL := [(⟨#[115]⟩, [n])]
theorem lv_a : ckG (lvG lvA) = ((0, 0), 0) := by kernel_rfl
theorem lv_b : ckG (lvG lvB) = ((0, 0), 0) := by kernel_rfl
theorem rc_some {n : Nat} {c : Mx} {x y : Nat} (h : Rc n c x y) : ∃ k, c x k = true :=
  Rc.least (d := fun i _ => ∃ k, c i k = true) (fun _i j hc => ⟨j, hc⟩) (fun _i _k _j _ h1 _ => h1) h
theorem lv_ha (nb : List Bool) (i q : Nat) : hdM (lvG lvA) nb i q = false := by
  cases i with
  | zero => rfl
  | succ i => rfl
theorem lv_la (nb : List Bool) : lpG (lvG lvA) nb 1 = [] := rfl
theorem lv_hb (nb : List Bool) : hdM (lvG lvB) nb 0 0 = true := by
  rfl
theorem lv_va {l : List Nat} {p q : Nat} {cd : Int} (h : VdR (lvG lvA) l p q cd) : cd = 0 := by
  have hz : (ckG (lvG lvA)).2 = 0 := by rw [lv_a]
  obtain ⟨now, _, _, cy, hcy, h3⟩ := h.2 hz
  have hno : cy = [] := (hcy.nil (hdM_lt (ckG_ok.1 hz))).2 fun r hr => by
    obtain ⟨k, hk⟩ := rc_some hr
    rw [lv_ha] at hk
    cases hk
  rcases h3 with ⟨q1, _⟩ | ⟨_, _, ⟨s, r, q1, _⟩ | ⟨_, _, _, q1⟩⟩
  · exact absurd hno q1
  · have e : lpG (lvG lvA) (nbE now) (lvG lvA).length = [] := lv_la _
    rw [e] at q1
    cases q1
  · exact q1
theorem lv_vb {l : List Nat} {p q : Nat} {cd : Int} (h : VdR (lvG lvB) l p q cd) : cd = 100 ∧ l.length = 1 := by
  have hz : (ckG (lvG lvB)).2 = 0 := by rw [lv_b]
  obtain ⟨now, _, _, cy, hcy, h3⟩ := h.2 hz
  have hlt := hdM_lt (nb := nbE now) (ckG_ok.1 hz)
  have hc : hdM (lvG lvB) (nbE now) 0 0 = true := lv_hb _
  have hne : cy ≠ [] := fun e => (hcy.nil hlt).1 e 0 (Rc.of hc)
  rcases h3 with ⟨_, rfl, _, _, q1⟩ | ⟨q1, _⟩
  · refine ⟨q1, ?_⟩
    rcases hcy with ⟨q2, _⟩ | ⟨r, m, hd, _, hp⟩
    · exact absurd q2 hne
    · have hr : r < 1 := (Ds.lt hlt hd).1
      obtain rfl : r = 0 := by omega
      rw [hp.n]
      exact hd.one (Ds.first.2 hc)
  · exact absurd q1 hne
/-- Nodes that were just laid are read. -/
theorem rd_lit (w : World) (L : List Nd) (cs : Array Value) (hn : L.length ≤ 100) (hc : cs.toList = ndc L) : RdN (w.alloc (.cells cs 51)) (some ⟨w.heap.size, 0, none⟩) L := fun _ => by
  have hs : cs.size = L.length * 7 := by rw [← Array.length_toList, hc, ndc_len]
  have ho : (w.alloc (.cells cs 51)).ownsRow w.heap.size 51 7 (.slice (some ⟨w.heap.size, 0, none⟩) L.length L.length) L.length (ndc L ++ []) := by
    rw [List.append_nil, ← hc]
    exact World.ownsRow_lit w cs L.length (Nat.le_refl _) (by unfold maxLen; omega) hs
  exact ⟨w.heap.size, 0, rfl, by rw [World.size_alloc]; omega, own_ndl ho⟩
theorem lv_gi (w : World) (n : Nd) (cs : Array Value) (hc : cs.toList = ndc [n]) (ht : n.tx.size ≤ 140737488355328) : GI ((w.alloc (.cells cs 51)).alloc (.cells #[.string ⟨#[115]⟩, .slice (some ⟨w.heap.size, 0, none⟩) 1 1] 55)) (some ⟨w.heap.size + 1, 0, none⟩) (lvG n) ∧ Below w.heap.size w ((w.alloc (.cells cs 51)).alloc (.cells #[.string ⟨#[115]⟩, .slice (some ⟨w.heap.size, 0, none⟩) 1 1] 55)) := by
  have r1 := rd_lit w [n] cs (by show 1 ≤ 100; omega) hc
  have s1 := World.size_alloc w (.cells cs 51)
  have b1 := below_box w (.cells cs 51)
  obtain ⟨w1, h1⟩ : ∃ w1, w1 = w.alloc (.cells cs 51) := ⟨_, rfl⟩
  rw [← h1] at s1 r1 b1 ⊢
  have hnew := heap_alloc_new w1 (.cells #[.string ⟨#[115]⟩, .slice (some ⟨w.heap.size, 0, none⟩) 1 1] 55)
  have b2 := below_box w1 (.cells #[.string ⟨#[115]⟩, .slice (some ⟨w.heap.size, 0, none⟩) 1 1] 55)
  have s2 := World.size_alloc w1 (.cells #[.string ⟨#[115]⟩, .slice (some ⟨w.heap.size, 0, none⟩) 1 1] 55)
  rw [s1] at hnew
  have key := fun j => cell_of_row (w1.alloc (.cells #[.string ⟨#[115]⟩, .slice (some ⟨w.heap.size, 0, none⟩) 1 1] 55)) (w.heap.size + 1) j _ 55 (0, 0) hnew
  refine ⟨⟨fun k g hg => ?_, by show 1 ≤ _; omega, fun g hg => ?_⟩, b1.trans (b2.mono b1.size)⟩
  · match k, hg with
    | 0, hg =>
      cases hg
      exact ⟨_, 0, _, 1, rfl, by omega, key 0, key 1, r1.below b2 (Nat.le_refl _)⟩
    | k + 1, hg => simp [lvG] at hg
  · simp only [lvG, List.mem_cons, List.not_mem_nil, or_false] at hg
    subst hg
    refine ⟨by show 1 ≤ _; omega, by show 1 ≤ _; omega, fun m hm => ?_⟩
    simp only [List.mem_cons, List.not_mem_nil, or_false] at hm
    subst hm
    exact ht
set_option maxRecDepth 100000 in
set_option maxHeartbeats 16000000 in
theorem lives_any (w : World) : Calls Try.prog 7 #[] w fun e w' => e = .returned (.bool true) ∧ Below w.heap.size w w' := by
  obtain ⟨w1, hw1⟩ : ∃ w1, w1 = ((w.alloc (.cells #[.int .i64 3, .int .i64 0, .string ⟨#[]⟩, .int .u64 0, .int .u64 0, .int .u64 0, .int .u64 0] 51)).alloc (.cells #[.string ⟨#[115]⟩, .slice (some ⟨w.heap.size, 0, none⟩) 1 1] 55)) := ⟨_, rfl⟩
  have HE1 := (show Hid (((w.alloc (.cells #[.int .i64 3, .int .i64 0, .string ⟨#[]⟩, .int .u64 0, .int .u64 0, .int .u64 0, .int .u64 0] 51)).alloc (.cells #[.string ⟨#[115]⟩, .slice (some ⟨w.heap.size, 0, none⟩) 1 1] 55)) = w1) from hw1.symm)
  have h1 := lv_gi w lvA #[.int .i64 3, .int .i64 0, .string ⟨#[]⟩, .int .u64 0, .int .u64 0, .int .u64 0, .int .u64 0] rfl (by show 0 ≤ _; omega)
  rw [← hw1] at h1
  have HB1 := (show Hid (Below w.heap.size w w1) from h1.2)
  have HC1 := (show Hid (∀ _ : Unit, Calls Try.prog 5 #[.agg #[.slice (some ⟨w.heap.size + 1, 0, none⟩) 1 1]] w1 fun e w' => (∃ (A : Option Addr) (n c p q : Nat), e = .returned (.tuple #[.agg #[.slice A n c, .int .i64 (p : Int), .int .i64 (q : Int)], .int .i64 0])) ∧ Below w1.heap.size w1 w') from fun _ => by
    refine (fcheck_any (lvG lvA) (some ⟨w.heap.size + 1, 0, none⟩) 1 w1 h1.1).mono ?_
    rintro e w' ⟨⟨vc, l, p, q, cd, rfl, hv, ho⟩, b⟩
    obtain ⟨A, c, rfl⟩ := own_slice ho
    rw [lv_va hv]
    exact ⟨⟨A, _, c, p, q, rfl⟩, b⟩)
  have HC2 := (show Hid (∀ W : World, Calls Try.prog 5 #[.agg #[.slice (some ⟨W.heap.size + 1, 0, none⟩) 1 1]] ((W.alloc (.cells #[.int .i64 6, .int .i64 0, .string ⟨#[115]⟩, .int .u64 0, .int .u64 0, .int .u64 0, .int .u64 0] 51)).alloc (.cells #[.string ⟨#[115]⟩, .slice (some ⟨W.heap.size, 0, none⟩) 1 1] 55)) fun e w' => (∃ (A : Option Addr) (c p q : Nat), e = .returned (.tuple #[.agg #[.slice A 1 c, .int .i64 (p : Int), .int .i64 (q : Int)], .int .i64 100])) ∧ Below W.heap.size W w') from fun W => by
    have h2 := lv_gi W lvB #[.int .i64 6, .int .i64 0, .string ⟨#[115]⟩, .int .u64 0, .int .u64 0, .int .u64 0, .int .u64 0] rfl (by show 1 ≤ _; omega)
    refine (fcheck_any (lvG lvB) (some ⟨W.heap.size + 1, 0, none⟩) 1 _ h2.1).mono ?_
    rintro e w' ⟨⟨vc, l, p, q, cd, rfl, hv, ho⟩, b⟩
    obtain ⟨A, c, rfl⟩ := own_slice ho
    obtain ⟨e1, e2⟩ := lv_vb hv
    rw [e1, e2]
    exact ⟨⟨A, c, p, q, rfl⟩, h2.2.trans (b.mono h2.2.size)⟩)
  clear h1 hw1
  go_enter Try.func7, Try.ntmps7
  go_wp2_with (rw [HE1.out])
  refine (HC1.out ()).mono ?_
  rintro e w2 ⟨⟨A, n, c, p, q, rfl⟩, b2⟩
  have HB2 := (show Hid (Below w.heap.size w w2) from HB1.out.trans (b2.mono HB1.out.size))
  clear HC1 HE1 b2 HB1
  obtain ⟨w3, hw3⟩ : ∃ w3, w3 = w2.alloc (.cells #[.slice A n c, .int .i64 (p : Int), .int .i64 (q : Int)] 29) := ⟨_, rfl⟩
  have HE3 := (show Hid (w2.alloc (.cells #[.slice A n c, .int .i64 (p : Int), .int .i64 (q : Int)] 29) = w3) from hw3.symm)
  have HB3 := (show Hid (Below w.heap.size w w3) from by rw [hw3]; exact HB2.out.trans ((below_box _ _).mono HB2.out.size))
  clear hw3 HB2
  go_wp2_with (rw [HE3.out])
  refine (HC2.out w3).mono ?_
  rintro e w4 ⟨⟨A4, c4, p4, q4, rfl⟩, b4⟩
  have HB4 := (show Hid (Below w.heap.size w w4) from HB3.out.trans (b4.mono HB3.out.size))
  clear HC2 HE3 b4 HB3
  obtain ⟨w5, hw5⟩ : ∃ w5, w5 = w4.alloc (.cells #[.slice A4 1 c4, .int .i64 (p4 : Int), .int .i64 (q4 : Int)] 29) := ⟨_, rfl⟩
  have HE5 := (show Hid (w4.alloc (.cells #[.slice A4 1 c4, .int .i64 (p4 : Int), .int .i64 (q4 : Int)] 29) = w5) from hw5.symm)
  have HB5 := (show Hid (Below w.heap.size w w5) from by rw [hw5]; exact HB4.out.trans ((below_box _ _).mono HB4.out.size))
  have hd5 : DX w5 w4.heap.size (.slice A4 1 c4) (p4 : Int) (q4 : Int) := by rw [hw5]; exact DX.new w4 _ _ _
  have c0 := hd5.c0
  clear hw5 HB4 hd5
  go_wp2_with (rw [HE5.out])
  go_ret
  exact ⟨rfl, HB5.out⟩
end Go.Proofs.Ytbipjdgholdhcaa.N

namespace Go.Proofs.Ytbipjdgholdhcaa.N
open Go.RowKit Go.Maps
open Go.Proofs.Ytbipjdgholdhcaa.T

open U (own_get own_slice below_grown)
theorem own_sg {W : World} {B e s n : Nat} {v : Value} {xs : List Value} (h : W.ownsRow B e s v n xs) : ∃ A cap, v = .slice A n cap := by
  rcases h.2 with ⟨rfl, rfl⟩ | ⟨g, cap, cur, rfl, _⟩
  · exact ⟨_, _, rfl⟩
  · exact ⟨_, _, rfl⟩
/-- Heads of a rule of a right grammar, with what is known of it at hand. -/
theorem fheads_rt (gs : GL) {now : List Em} (hz : (ckG gs).2 = 0) (hkn : KnF gs now) (A : Option Addr) (c r : Nat) (hr : r < gs.length) (w : World) (hp : GI w A gs) :
    Calls Try.prog 9 #[.agg #[.slice A gs.length c], .int .i64 (r : Int)] w fun e w' => (∃ (A1 : Option Addr) (c1 : Nat), e = .returned (.tuple #[.slice A1 (hdl gs.length (hdM gs (nbE now)) r).length c1, .int .i64 0]) ∧ RdI w' A1 (hdl gs.length (hdM gs (nbE now)) r)) ∧ Below w.heap.size w w' := by
  refine (fheads_any gs A c (r : Int) w hp).mono ?_
  rintro e w' ⟨hh, b⟩
  obtain ⟨now2, v, k2, _, rfl, ho⟩ := (hh.2 hz).2 r rfl hr
  obtain rfl := kf_same hkn k2
  obtain ⟨A1, c1, rfl⟩ := own_slice ho
  exact ⟨⟨A1, c1, rfl, own_rdi ho⟩, b⟩
/-- While rules are told. -/
structure TdS (w w5 wr : World) (a : Value) (Ao : Option Addr) (o : List Nat) (v : Value) (k : Nat) : Prop where
  b0 : Below w.heap.size w w5
  b : Below w5.heap.size w5 wr
  x : GX w5 w.heap.size a
  r : RdI w5 Ao o
  o : wr.ownsRow w5.heap.size 3 1 v k ((o.take k).map U.nI)
theorem TdS.later {w w5 wr W' : World} {a v : Value} {Ao : Option Addr} {o : List Nat} {k : Nat} (h : TdS w w5 wr a Ao o v k) (hb : Below wr.heap.size wr W') : TdS w w5 W' a Ao o v k := ⟨h.b0, h.b.trans (hb.mono h.b.size), h.x, h.r, own_below h.o hb⟩
theorem TdS.all {w w5 wr : World} {a v : Value} {Ao : Option Addr} {o : List Nat} {k : Nat} (h : TdS w w5 wr a Ao o v k) : GX wr w.heap.size a ∧ RdI wr Ao o ∧ Below w.heap.size w wr := ⟨h.x.below h.b, h.r.later h.b, h.b0.trans (h.b.mono h.b0.size)⟩
theorem TdS.push {w w5 wr w7 : World} {a v v2 : Value} {Ao : Option Addr} {o : List Nat} {k x : Nat} (h : TdS w w5 wr a Ao o v k) (hk : o[k]? = some x) (hg : wr.grownBy w7 v.ownBlock) (ho : w7.ownsRow w5.heap.size 3 1 v2 (k + 1) ((o.take k).map U.nI ++ [U.nI x])) : TdS w w5 w7 a Ao o v2 (k + 1) := by
  refine ⟨h.b0, h.b.grown hg h.b.size (fun k e => (h.o.lt k e).1), h.x, h.r, ?_⟩
  rw [List.take_add_one, hk, List.map_append]
  exact ho
theorem has_at {l : List Nat} {k : Nat} (hk : l.length = k) (hl : k ≤ 1000000) {m : Nat} {b : Bool} (hb : l.contains m = b) {A : Option Addr} {c : Nat} {w : World} (hp : RdI w A l) : Calls Try.prog 10 #[.slice A k c, .int .i64 (m : Int)] w fun e w' => e = .returned (.bool b) ∧ w' = w := by
  subst hk hb
  exact has_any l hl m A c w hp
set_option maxRecDepth 100000 in
set_option maxHeartbeats 32000000 in
/-- The rules are told one by one: each behind its heads. -/
theorem order_law (gs : GL) (A : Option Addr) (c : Nat) (w : World) (hg : GrIn w A c gs) : Calls Try.prog 3 #[.agg #[.slice A gs.length c]] w fun e w' => e = .returned (.bool true) ∧ Below w.heap.size w w' := by
  obtain ⟨i0, hinf, hz0, hz1, hz2⟩ := info_parts Try.info3
  obtain ⟨w0, hw0⟩ : ∃ w0, w0 = w.alloc (.cells #[.slice A gs.length c] 24) := ⟨_, rfl⟩
  have HB0 := (show Hid (Below w.heap.size w w0) from by rw [hw0]; exact below_box w _)
  have HX0 := (show Hid (GX w0 w.heap.size (.slice A gs.length c)) from by rw [hw0]; exact GX.mk (heap_alloc_new w _))
  have HE0 := (show Hid (w.alloc (.cells #[.slice A gs.length c] 24) = w0) from hw0.symm)
  have HP := (show Hid (GI w A gs) from hg.gi)
  have HWk := (show Hid (∀ W, Calls Try.prog 7 #[] W fun e w' => e = .returned (.bool true) ∧ Below W.heap.size W w') from lives_any)
  have HCk := (show Hid (∀ _ : Unit, Calls Try.prog 5 #[.agg #[.slice A gs.length c]] w0 fun e w' => (∃ (A1 : Option Addr) (c1 : Nat) (l : List Nat) (p q : Nat) (cd : Int), e = .returned (.tuple #[.agg #[.slice A1 l.length c1, .int .i64 (p : Int), .int .i64 (q : Int)], .int .i64 cd]) ∧ VdR gs l p q cd) ∧ Below w0.heap.size w0 w') from fun _ => by
    refine (fcheck_any gs A c w0 (HP.out.later HB0.out)).mono ?_
    rintro e w' ⟨⟨v, l, p, q, cd, rfl, hr, ho⟩, b⟩
    obtain ⟨A1, c1, rfl⟩ := own_slice ho
    exact ⟨⟨A1, c1, l, p, q, cd, rfl, hr⟩, b⟩)
  have x0 := HX0.out.cl
  clear hg hw0
  go_enter Try.func3, Try.ntmps3
  go_wp2_with (rw [HE0.out])
  refine (HCk.out ()).mono ?_
  rintro e w1 ⟨⟨A1, c1, l, p, q, cd, rfl, hv1⟩, b1⟩
  obtain ⟨w2, hw2⟩ : ∃ w2, w2 = w1.alloc (.cells #[.slice A1 l.length c1, .int .i64 (p : Int), .int .i64 (q : Int)] 29) := ⟨_, rfl⟩
  have HE2 := (show Hid (w1.alloc (.cells #[.slice A1 l.length c1, .int .i64 (p : Int), .int .i64 (q : Int)] 29) = w2) from hw2.symm)
  have hb2 : Below w1.heap.size w1 w2 := by rw [hw2]; exact below_box _ _
  have HB2 := (show Hid (Below w.heap.size w w2 ∧ GX w2 w.heap.size (.slice A gs.length c)) from by
    have h1 := b1.trans (hb2.mono b1.size)
    exact ⟨HB0.out.trans (h1.mono HB0.out.size), HX0.out.below h1⟩)
  have HD2 := (show Hid (DX w2 w1.heap.size (.slice A1 l.length c1) (p : Int) (q : Int)) from by rw [hw2]; exact DX.new w1 _ _ _)
  have HV1 := (show Hid (VdR gs l p q cd) from hv1)
  have HOr := (show Hid (∀ _ : Unit, Calls Try.prog 6 #[.agg #[.slice A gs.length c]] w2 fun e w' => OrR gs w2 w' e ∧ Below w2.heap.size w2 w') from fun _ => forder_any gs A c w2 (HP.out.later HB2.out.1))
  have x2 := HB2.out.2.cl
  clear hv1 b1 hb2 hw2 x0 HE0 HX0 HB0 HCk
  go_wp2_with (rw [HE2.out])
  refine (HOr.out ()).mono ?_
  rintro e w3 ⟨⟨Ao, co, o, l2, p2, q2, cd2, hv2, rfl, ho, hne, heq⟩, b3⟩
  obtain ⟨rfl, rfl, rfl, rfl⟩ := vd_same HV1.out hv2
  have HB3 := (show Hid (Below w.heap.size w w3 ∧ GX w3 w.heap.size (.slice A gs.length c) ∧ DX w3 w1.heap.size (.slice A1 l2.length c1) (p2 : Int) (q2 : Int)) from ⟨HB2.out.1.trans (b3.mono HB2.out.1.size), HB2.out.2.below b3, HD2.out.below b3⟩)
  have HO3 := (show Hid (w3.ownsRow w2.heap.size 3 1 (.slice Ao o.length co) o.length (o.map U.nI)) from ho)
  have x3 := HB3.out.2.1.cl
  have d0 := HB3.out.2.2.c0
  generalize w1.heap.size = k1 at *
  clear hv2 ho b3 HB2 HD2 HOr HE2 x2
  by_cases hcd : cd2 = 0
  · subst hcd
    obtain ⟨now, hkn, hnl, hoe⟩ := heq rfl
    have hz : (ckG gs).2 = 0 := by
      by_cases e : (ckG gs).2 = 0
      · exact e
      · exact (HV1.out.1 e).2.2.symm ▸ rfl
    have hR := ckG_ok.1 hz
    have hcyl : CyR gs.length (hdM gs (nbE now)) [] ∧ l2 = [] ∧ lpG gs (nbE now) gs.length = [] := by
      obtain ⟨now2, k2, _, cy, h1, h2⟩ := HV1.out.2 hz
      obtain rfl := kf_same hkn k2
      rcases h2 with ⟨_, _, _, _, q⟩ | ⟨rfl, e2, ⟨_, _, _, _, _, q⟩ | ⟨e3, _⟩⟩
      · omega
      · omega
      · exact ⟨h1, e2, e3⟩
    have hc := hdM_lt (nb := nbE now) hR
    have hno := (hcyl.1.nil hc).1 rfl
    have hon : o.length = gs.length := by rw [hoe]; exact ord_full hc hno gs.length (Nat.le_refl _)
    have HAt := (show Hid (∀ (k r : Nat), o[k]? = some r → r < gs.length ∧ r ∉ o.take k ∧ ∀ x ∈ hdl gs.length (hdM gs (nbE now)) r, x ∈ o.take k) from fun k r hk => by rw [hoe] at hk ⊢; exact ord_at hc hno hk)
    have HK := (show Hid ((ckG gs).2 = 0 ∧ KnF gs now ∧ gs.length ≤ 200 ∧ o.length = gs.length) from ⟨hz, hkn, hR.n2, hon⟩)
    have hl2 := hcyl.2.1
    subst hl2
    have HLo := (show Hid (∀ _ : Unit, Calls Try.prog 8 #[.agg #[.slice A gs.length c]] w3 fun e w' => (∃ (A1 : Option Addr) (c1 : Nat), e = .returned (.tuple #[.slice A1 0 c1, .int .i64 0])) ∧ Below w3.heap.size w3 w') from fun _ => by
      refine (floops_any gs A c w3 (HP.out.later HB3.out.1)).mono ?_
      rintro e w' ⟨hh, b⟩
      obtain ⟨now2, v, k2, _, rfl, ho⟩ := hh.2 hz
      obtain rfl := kf_same hkn k2
      rw [hcyl.2.2] at ho
      obtain ⟨A1, c1, rfl⟩ := own_sg ho
      exact ⟨⟨A1, c1, rfl⟩, b⟩)
    clear hoe hnl hkn hz hR hcyl hc hno heq hne HV1 hon
    go_wp2_with fail
    refine (HLo.out ()).mono ?_
    rintro e w5 ⟨⟨Al, cl, rfl⟩, b5⟩
    have HS := (show Hid (TdS w w5 w5 (.slice A gs.length c) Ao o (.slice none 0 0) 0) from ⟨HB3.out.1.trans (b5.mono HB3.out.1.size), Below.refl _ _, HB3.out.2.1.below b5, (own_rdi HO3.out).later b5, World.ownsRow_nil _ _ _ _⟩)
    have x5 := (HB3.out.2.1.below b5).cl
    have d5 := (HB3.out.2.2.below b5).c0
    have z1 : ((o.length : Int) != (gs.length : Int)) = false := by rw [HK.out.2.2.2]; simp
    have HOn := (show Hid (o.length = gs.length) from HK.out.2.2.2)
    clear b5 HB3 HO3 HLo x3 d0
    go_wp2_with fail
    clear x5 d5 z1
    go_loopw [9, 10] (fun v t wr => ∃ (k : Nat) (At : Option Addr) (ct : Nat), k ≤ o.length ∧ v = .slice At k ct ∧ t = .int .i64 (k : Int) ∧ Hid (TdS w w5 wr (.slice A gs.length c) Ao o (.slice At k ct) k)) (fun _ t _ => o.length - (intOf t).toNat)
    case atStart => exact ⟨0, none, 0, Nat.zero_le _, rfl, by go_num, HS⟩
    case round =>
      obtain ⟨k, At, ct, hk, rfl, rfl, HW⟩ := hrel
      clear HS
      by_cases hlt : k < o.length
      · obtain ⟨r, hr⟩ : ∃ r, o[k]? = some r := ⟨_, List.getElem?_eq_getElem hlt⟩
        obtain ⟨hrn, hrt, hrh⟩ := HAt.out k r hr
        obtain ⟨g0, o0, rfl, lg, y⟩ := HW.out.all.2.1 k r hr
        have hk6 : k ≤ 1000000 := by have h1 := HOn.out; have h2 := HK.out.2.2.1; omega
        have HTk := (show Hid ((o.take k).length = k ∧ (o.take k).contains r = false ∧ ∀ x ∈ hdl gs.length (hdM gs (nbE now)) r, (o.take k).contains x = true) from ⟨by rw [List.length_take]; omega, by
          cases e : (o.take k).contains r with
          | false => rfl
          | true => exact absurd (List.contains_iff_mem.1 e) hrt, fun x hx => List.contains_iff_mem.2 (hrh x hx)⟩)
        have HHe := (show Hid (∀ W, Below wr.heap.size wr W → Calls Try.prog 9 #[.agg #[.slice A gs.length c], .int .i64 (r : Int)] W fun e w' => (∃ (A1 : Option Addr) (c1 : Nat), e = .returned (.tuple #[.slice A1 (hdl gs.length (hdM gs (nbE now)) r).length c1, .int .i64 0]) ∧ RdI w' A1 (hdl gs.length (hdM gs (nbE now)) r)) ∧ Below wr.heap.size wr w') from fun W hW =>
          (fheads_rt gs HK.out.1 HK.out.2.1 A c r hrn W (HP.out.later (HW.out.all.2.2.trans (hW.mono HW.out.all.2.2.size)))).mono fun e w' ⟨h1, h2⟩ => ⟨h1, hW.trans (h2.mono hW.size)⟩)
        have HKe := (show Hid (∀ W, Below wr.heap.size wr W → W.cell? ⟨w.heap.size, 0, none⟩ = some (.slice A gs.length c) ∧ W.cell? ⟨g0, o0 + k, none⟩ = some (.int .i64 (r : Int))) from fun W hW => ⟨(HW.out.all.1.below hW).cl, (hW.cell (p := ⟨g0, o0 + k, none⟩) lg).trans y⟩)
        have HRk := (show Hid (o[k]? = some r) from hr)
        have HLh := (show Hid ((hdl gs.length (hdM gs (nbE now)) r).length ≤ 1000000) from Nat.le_trans (hdl_len _ _ _) (by have h2 := HK.out.2.2.1; omega))
        have q0 := (HKe.out wr (Below.refl _ _)).1
        have q1 := (HKe.out wr (Below.refl _ _)).2
        have z0 : (0 : Int) ≤ (k : Int) := by omega
        have z1 : (k : Int) < (o.length : Int) := by omega
        clear hr hrn hrt hrh lg y hk
        generalize hdl gs.length (hdM gs (nbE now)) r = hs at *
        go_wp2_with fail
        go_region_held3 (fun W => W.cell? ⟨w.heap.size, 0, none⟩ = some (.slice A gs.length c) ∧ W.cell? ⟨g0, o0 + k, none⟩ = some (.int .i64 (r : Int))) (first | go_keep | exact HKe.out _ b4 | exact HKe.out _ (Below.refl _ _) | exact HKe.out _ ((Below.refl _ _).drew)) ((go_at_call 9; with_reducible refine (HHe.out _ ((Below.refl _ _).drew)).mono ?_; rintro e w4 ⟨⟨A4, c4, rfl, r4⟩, b4⟩))
        rename_i hHeld
        have HW4 := (show Hid (TdS w w5 w4 (.slice A gs.length c) (some ⟨g0, o0, none⟩) o (.slice At k ct) k ∧ RdI w4 A4 hs) from ⟨HW.out.later b4, r4⟩)
        have y4 := hHeld.2
        have HH1 := (show Hid (∀ _ : Unit, Calls Try.prog 10 #[.slice At k ct, .int .i64 (r : Int)] w4 fun e w' => e = .returned (.bool false) ∧ w' = w4) from fun _ => has_at HTk.out.1 hk6 HTk.out.2.1 (own_rdi HW4.out.1.o))
        have HH2 := (show Hid (∀ x : Nat, x ∈ hs → Calls Try.prog 10 #[.slice At k ct, .int .i64 (x : Int)] w4 fun e w' => e = .returned (.bool true) ∧ w' = w4) from fun x hx => has_at HTk.out.1 hk6 (HTk.out.2.2 x hx) (own_rdi HW4.out.1.o))
        clear hHeld b4 r4 HHe HKe HW HTk q0 q1
        go_wp2_with fail
        refine (HH1.out ()).mono ?_
        rintro e w6 ⟨rfl, rfl⟩
        clear HH1
        go_wp2_with fail
        go_loopw [13] (fun t wr => ∃ j : Nat, j ≤ hs.length ∧ t = .int .i64 (j : Int) ∧ wr = w6) (fun t _ => hs.length - (intOf t).toNat)
        case atStart => exact ⟨0, Nat.zero_le _, by go_num, by first | rfl | trivial⟩
        case round =>
          obtain ⟨j, hj, rfl, rfl⟩ := hrel
          by_cases hjl : j < hs.length
          · obtain ⟨x, hx⟩ : ∃ x, hs[j]? = some x := ⟨_, List.getElem?_eq_getElem hjl⟩
            obtain ⟨g9, o9, rfl, l9, y9⟩ := HW4.out.2 j x hx
            have HH3 := (show Hid (∀ _ : Unit, Calls Try.prog 10 #[.slice At k ct, .int .i64 (x : Int)] wr fun e w' => e = .returned (.bool true) ∧ w' = wr) from fun _ => HH2.out x (List.mem_of_getElem? hx))
            have z3 : (0 : Int) ≤ (j : Int) := by omega
            have z4 : (j : Int) < (hs.length : Int) := by omega
            have z5 : hs.length ≤ 1000000 := HLh.out
            clear l9 hx
            go_wp2_with fail
            refine (HH3.out ()).mono ?_
            rintro e w7 ⟨rfl, rfl⟩
            clear HH3
            go_wp2_with fail
            go_roundw
            case rel => exact ⟨j + 1, by omega, by go_num, by first | rfl | trivial⟩
            case measure => simp [intOf]; omega
          · obtain rfl : j = hs.length := by omega
            clear HH2
            have HO := (show Hid (∀ W, W = wr → W.ownsRow w5.heap.size 3 1 (.slice At k ct) k ((o.take k).map U.nI)) from fun W h => by rw [h]; exact HW4.out.1.o)
            have HNs := (show Hid (w5.heap.size ≤ wr.heap.size) from HW4.out.1.b.size)
            go_wp2_with (at_builtin; refine U.wpList_app1 rfl _ _ 25 rfl (.int .i64 0) 8 Try.underlying25 Try.info3 rfl w5.heap.size k _ _ rfl rfl (HO.out _ rfl) rfl (by omega) (by decide) HNs.out ?_; intro g7 cap7 w7 ho7 hg7 hat7 hl7; have HN := (show Hid (TdS w w5 w7 (.slice A gs.length c) (some ⟨g0, o0, none⟩) o (.slice (some ⟨g7, 0, none⟩) (k + 1) cap7) (k + 1)) from HW4.out.1.push HRk.out hg7 ho7); clear ho7 hg7 hat7 hl7 HO HNs)
            go_roundw
            case rel => exact ⟨k + 1, some ⟨g7, 0, none⟩, cap7, by omega, rfl, by go_num, HN⟩
            case measure => simp [intOf]; omega
      · obtain rfl : k = o.length := by omega
        have HB := (show Hid (Below w.heap.size w wr) from HW.out.all.2.2)
        clear HW HAt
        go_wp2_with fail
        refine (HWk.out _).mono ?_
        rintro e w8 ⟨rfl, b8⟩
        have HF := (show Hid (Below w.heap.size w w8) from HB.out.trans (b8.mono HB.out.size))
        clear b8 HB
        go_wp2_with fail
        go_ret
        exact ⟨rfl, HF.out⟩
  · have ho0 : o = [] := hne hcd
    subst ho0
    have t1 : (cd2 != 0) = true := by rw [bne_iff_ne]; exact hcd
    have t2 : (cd2 == cd2) = true := by rw [beq_iff_eq]
    have HB := (show Hid (Below w.heap.size w w3) from HB3.out.1)
    clear hne heq HV1 HO3 HB3 hcd
    go_wp2_with fail
    refine (HWk.out _).mono ?_
    rintro e w8 ⟨rfl, b8⟩
    have HF := (show Hid (Below w.heap.size w w8) from HB.out.trans (b8.mono HB.out.size))
    clear b8 HB
    go_wp2_with fail
    go_ret
    exact ⟨rfl, HF.out⟩
end Go.Proofs.Ytbipjdgholdhcaa.N

namespace Go.Proofs.Ytbipjdgholdhcaa
open Go.ChangeShapes Go.WideShapes Go.ChangeAt Go.RowKit
open Go.ChangeMaps (open_string shut_string)
set_option maxRecDepth 100000 in
theorem fordOrder_lifted (os : Os) (started : os.Started) (H : Type) (enc : TypeId × Value → H) :
    ReturnsInHanded {} Try.checked os 3 .any (Rows.fordOrderSpec.pre6 enc Try.prog Try.f3 Rows.fordOrderRow.domain false) (Rows.fordOrderSpec.post enc Try.prog Try.f3 false true false false) := by
  refine returnsInHanded_of_change_sized (C := Try.checked) T.own started (by kernel_rfl) Try.func3
    (ChangeSpec.witness6 (enc := enc) (C := Try.checked) false ⟨#[], #[.agg #[.slice none 0 0]], []⟩ 8 (by kernel_rfl) (by kernel_rfl) (by kernel_rfl) (by kernel_rfl)) ?_
  intro W base args ds gs before hval0 hW hcnd hsz _
  have hval : ∀ (j : Nat) t v, Try.f3.params[j]? = some t → args[j]? = some v → Value.okWide Try.prog W .any base t v := hval0
  have hW' := hW
  obtain ⟨p, q, hA0, hV, rfl, hfz, hnd⟩ := hW
  have hA : DataW.TrodAll enc Try.prog W 0 (fun _ => true) true Try.f3.params.toList args.toList ds p := hA0
  rw [Try.params3] at hA hval
  have hsz : (DataW.weightsEach Try.prog (#[24].toList ++ Rows.fordOrderSpec.plain.varTypes Try.prog) (ds ++ gs)).all (· ≤ reachBytes) = true := hsz
  obtain ⟨v0, d0, rfl, rfl, h0⟩ := trodAll_one hA
  obtain ⟨rfl, rfl⟩ := trodVars_none hV
  have lt0 : ∀ x ∈ p, x.block < W.heap.size := by obtain ⟨m, hm⟩ := h0; exact DataW.trod_lt m _ _ _ hm
  obtain ⟨A0, c0, L0, rfl, r0⟩ := N.open_gram h0 (hval 0 24 v0 rfl rfl) (T.sized_at hsz (j := 0) rfl rfl)
  clear hA0 hval0
  refine (N.order_law L0 A0 c0 W r0).mono fun e W' ⟨he, bel⟩ => ?_
  subst he
  exact ⟨_, rfl, _, _, _, [], _, [], hW', trodAll_mk1 (shut_bool Try.underlying4 _), (trodAll_mk1 (Below.trod T.laidOut (by kernel_rfl) (of_decide_eq_true (by kernel_rfl)) h0 bel lt0)), rfl, bel.frame _, fun h => by cases h⟩

theorem fordOrder_holds : Rows.FordOrderSaid :=
  OpenClaim.holds_of_wide 3 Try.f3 rfl rfl rfl rfl rfl rfl rfl ⟨rfl, rfl, rfl, rfl, rfl⟩ rfl rfl rfl rfl rfl (by kernel_rfl) Try.func3 (by kernel_rfl)
    (of_decide_eq_true (by kernel_rfl)) (by unfold Func.isWrapper; first | (rw [if_pos (by decide +kernel)]; kernel_rfl) | (rw [if_neg (by decide +kernel)]; exact ⟨rfl, rfl⟩))
    (fun os started H enc _ => fordOrder_lifted os started H enc)
end Go.Proofs.Ytbipjdgholdhcaa
