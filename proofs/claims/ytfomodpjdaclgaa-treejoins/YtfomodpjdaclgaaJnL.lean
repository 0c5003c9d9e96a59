/- DERIVED. The walk of TreeJoins. -/
import Derived.Test.YtfomodpjdaclgaaJnC
namespace Go.Proofs.Ytfomodpjdaclgaa
open Go.RowKit

set_option maxRecDepth 100000 in
set_option maxHeartbeats 8000000 in
theorem treeJoins_law (n : Nd) (A : Option Addr) (c : Nat) (ps : List Ls) (hn : n.tx.size ≤ 140737488351232) (hm : ps.length * 24 ≤ 140737488351232) (w : World) (h : RdL w A ps) (hp : ∀ p ∈ ps, PatIn w p.1 p.2.1 p.2.2) :
    Calls Try.prog 6 #[ndG n, .slice A ps.length c] w fun e w' => e = .returned (.bool true) ∧ Below w.heap.size w w' := by
  obtain ⟨i3, hinf, hz0, hz1, hz2⟩ := info_parts Try.info23
  have hl2 : ∀ p ∈ ps, p.2.2.length ≤ 140737488355328 := fun p hp2 => by have := (hp p hp2).len; omega
  have ht2 : ∀ p ∈ ps, ∀ x ∈ p.2.2, x.tx.size ≤ 140737488355328 := fun p hp2 x hx => by have := (hp p hp2).tx x hx; omega
  have HG := (show Hid (∀ i, i < ps.length → ∃ p, ps[i]? = some p) from fun i hi => ⟨_, List.getElem?_eq_getElem hi⟩)
  have HK : Hid (∀ (i : Nat) p, ps[i]? = some p → (∀ W, Below w.heap.size w W → ∃ g o, A = some ⟨g, o, none⟩ ∧ W.cell? ⟨g, o + i, none⟩ = some (.slice p.1 p.2.2.length p.2.1)) ∧ (∀ W, Below w.heap.size w W → Calls Try.prog 9 #[.slice p.1 p.2.2.length p.2.1] W fun e w' => (∃ g cap, e = .returned (.slice (some ⟨g, 0, none⟩) p.2.2.length cap) ∧ LentR w' W.heap.size g cap p.2.2) ∧ Below W.heap.size W w') ∧ ∀ W g cap B, Below w.heap.size w W → LentR W B g cap p.2.2 → Calls Try.prog 15 #[.slice (some ⟨g, 0, none⟩) p.2.2.length cap, .slice p.1 p.2.2.length p.2.1] W fun e w' => e = .returned (.bool true) ∧ Below W.heap.size W w') := fun i p hp2 => by
    have hmem := List.mem_of_getElem? hp2
    refine ⟨fun W hW => ?_, fun W hW => lend_any p.1 p.2.1 p.2.2 W (hp p hmem).len ⟨(hp p hmem).i.1.below hW (Nat.le_refl _), (hp p hmem).i.2⟩, fun W g cap B hW hr => kept_any p.1 p.2.1 g cap B p.2.2 (hp p hmem).len W ((hp p hmem).i.1.below hW (Nat.le_refl _)) hr⟩
    obtain ⟨g, o, e, lg, hc⟩ := h.1 (by rintro rfl; cases hmem)
    exact ⟨g, o, e, (hW.cell (p := ⟨g, o + i, none⟩) lg).trans (hc i p hp2)⟩
  have H27 : Hid (∀ W v qs, AtI w W n ps ps.length v qs → Calls Try.prog 27 #[ndG n, v] W fun e w' => (∃ u, e = .returned (.tuple #[u, .int .i64 (jnE n (ps.map fun p => p.2.2))]) ∧ w'.ownsRow w.heap.size 43 7 u (jnL n (ps.map fun p => p.2.2)).length (ndc (jnL n (ps.map fun p => p.2.2)))) ∧ Below W.heap.size W w') := fun W v qs hA => by
    have hs : (qs.map fun q => q.2.2) = ps.map fun q => q.2.2 := by rw [hA.same, List.take_length]
    have hq : ∀ q ∈ qs, ∃ p ∈ ps, p.2.2 = q.2.2 := fun q hq => by
      have : q.2.2 ∈ ps.map fun q => q.2.2 := by rw [← hs]; exact List.mem_map.2 ⟨q, hq, rfl⟩
      obtain ⟨p, hp, e⟩ := List.mem_map.1 this
      exact ⟨p, hp, e⟩
    have hq1 : ∀ q ∈ qs, q.2.2.length ≤ 140737488355328 := fun q hq2 => by obtain ⟨p, hp2, e⟩ := hq q hq2; rw [← e]; exact hl2 p hp2
    have hq2 : ∀ q ∈ qs, ∀ x ∈ q.2.2, x.tx.size ≤ 140737488355328 := fun q hq2 => by obtain ⟨p, hp2, e⟩ := hq q hq2; rw [← e]; exact ht2 p hp2
    obtain ⟨A', c', rfl, hr⟩ := hA.rd
    have hj := join_any n qs A' c' (by omega) (by rw [hA.len]; omega) hq1 hq2 W hr
    rw [hs] at hj
    exact hj.mono fun e w' ⟨⟨u, e1, e2⟩, e3⟩ => ⟨⟨u, e1, own_base e2 hA.b.size⟩, e3⟩
  have H28 : Hid (∀ W, Below w.heap.size w W → Calls Try.prog 28 #[ndG n, .slice A ps.length c] W fun e w' => (∃ u, e = .returned (.tuple #[u, .int .i64 (jnE n (ps.map fun p => p.2.2))]) ∧ w'.ownsRow w.heap.size 43 7 u (jnL n (ps.map fun p => p.2.2)).length (ndc (jnL n (ps.map fun p => p.2.2)))) ∧ Below W.heap.size W w') := fun W hW => (joinR_any n ps A c (by omega) (by omega) hl2 ht2 W (h.below hW (Nat.le_refl _))).mono fun e w' ⟨⟨u, e1, e2⟩, e3⟩ => ⟨⟨u, e1, own_base e2 hW.size⟩, e3⟩
  have H12 : Hid (∀ w, Calls Try.prog 12 #[] w fun e w' => e = .returned (.bool true) ∧ Below w.heap.size w w') := fun w => lives_any w
  have H24 : Hid (∀ W v1 v2, W.ownsRow w.heap.size 43 7 v1 (jnL n (ps.map fun p => p.2.2)).length (ndc (jnL n (ps.map fun p => p.2.2))) → W.ownsRow w.heap.size 43 7 v2 (jnL n (ps.map fun p => p.2.2)).length (ndc (jnL n (ps.map fun p => p.2.2))) → Calls Try.prog 24 #[v1, v2] W fun e w' => e = .returned (.bool true) ∧ Below W.heap.size W w') := fun W v1 v2 h1 h2 => same_rows v1 v2 _ _ _ (Nat.le_trans jnL_len (by omega)) W h1 h2
  have HS := (show Hid (AtI w (w.alloc (ndO n)) n ps 0 (.slice none 0 0) []) from AtI.start w n ps)
  clear h hp hl2 ht2
  generalize jnE n (ps.map fun p => p.2.2) = jne at *
  generalize jnL n (ps.map fun p => p.2.2) = jnl at *
  generalize ps.length = m at *
  go_enter Try.func6, Try.ntmps6
  go_wp2_with fail
  go_loopw [5, 6] (fun v t wr => ∃ i : Nat, i ≤ m ∧ t = .int .i64 i ∧ ∃ qs, Hid (AtI w wr n ps i v qs)) (fun _ t _ => m - (intOf t).toNat)
  case atStart => exact ⟨0, by omega, by go_num, [], HS⟩
  case round =>
    obtain ⟨i, hi, rfl, qs, HW⟩ := hrel
    clear HS
    by_cases hlt : i < m
    · obtain ⟨p, hp⟩ := HG.out i hlt
      obtain ⟨hcell, hlend, _⟩ := HK.out i p hp
      obtain ⟨g, o, rfl, e0⟩ := hcell wr HW.out.b
      have z0 : (0 : Int) ≤ (i : Int) := by omega
      have z1 : (i : Int) < (m : Int) := by omega
      have HL := (show Hid (∀ _ : Unit, Calls Try.prog 9 #[.slice p.1 p.2.2.length p.2.1] wr fun e w' => (∃ g cap, e = .returned (.slice (some ⟨g, 0, none⟩) p.2.2.length cap) ∧ LentR w' wr.heap.size g cap p.2.2) ∧ Below wr.heap.size wr w') from fun _ => hlend wr HW.out.b)
      have HP := (show Hid (ps[i]? = some p) from hp)
      obtain ⟨Ap, cp, Lp⟩ := p
      simp only at e0 HL
      clear hp hcell hlend HK HG H27 H28 H12 H24
      go_wp2_with fail
      refine (HL.out ()).mono ?_
      rintro e w2 ⟨⟨g2, cap2, rfl, hlr⟩, b2⟩
      have hO : w2.ownsRow (w.heap.size + 1) 23 1 u5 i (qs.map lsV) := own_below HW.out.o b2
      have HLr := (show Hid (LentR w2 wr.heap.size g2 cap2 Lp) from hlr)
      have HB2 := (show Hid (Below wr.heap.size wr w2) from b2)
      have hs2 : w.heap.size + 1 ≤ w2.heap.size := Nat.le_trans HW.out.x.lt b2.size
      clear HL hlr b2 e0
      go_wp2_with (at_builtin; refine wpList_append_lies _ rfl _ _ 44 rfl (w.heap.size + 1) 23 i3 (.slice none 0 0) 1 24 Try.underlying44 hinf hz0 hz1 hz2 rfl (by decide) _ _ _ rfl (hO.alloc _) ⟨w2.heap.size, 0, none⟩ 1 1 [.slice (some ⟨g2, 0, none⟩) Lp.length cap2] rfl rfl (cell_one_new _ _ _) (by simp [Value.oneCell']) (by decide) ?c3 ?c4 ?c5 (w2.heap.size + 1) (by simp) ?_)
      case c3 => unfold maxLen; omega
      case c4 => omega
      case c5 => first | omega | (simp; omega)
      intro g3 cap3 w3 hown hgrow hat _
      have HW3 := (show Hid (AtI w w3 n ps (i + 1) (.slice (some ⟨g3, 0, none⟩) (i + 1) cap3) (qs ++ [(some ⟨g2, 0, none⟩, cap2, Lp)])) from HW.out.next HP.out HB2.out HLr.out hown hgrow hat)
      clear hown hgrow hat hO HLr HB2 HP HW
      go_wp2_with fail
      go_roundw
      case rel => exact ⟨i + 1, by omega, by go_num, _, HW3⟩
      case measure => simp [intOf]; omega
    · obtain rfl : i = m := by omega
      obtain ⟨d0, d1, d2, d3, d4, d5, d6⟩ := HW.out.x.cells
      go_wp2_with fail
      refine (H27.out _ _ _ HW.out).mono ?_
      rintro e w3 ⟨⟨v3, rfl, o3⟩, b3⟩
      have HW3 := (show Hid (AtI w w3 n ps i u5 qs) from HW.out.below b3)
      have HO3 := (show Hid (w3.ownsRow w.heap.size 43 7 v3 jnl.length (ndc jnl)) from o3)
      clear H27 HW b3 o3 d0 d1 d2 d3 d4 d5 d6
      obtain ⟨d0, d1, d2, d3, d4, d5, d6⟩ := HW3.out.x.cells
      go_wp2_with fail
      refine (H28.out _ HW3.out.b).mono ?_
      rintro e w4 ⟨⟨v4, rfl, o4⟩, b4⟩
      have HW4 := (show Hid (AtI w w4 n ps i u5 qs) from HW3.out.below b4)
      have HO4 := (show Hid (w4.ownsRow w.heap.size 43 7 v3 jnl.length (ndc jnl) ∧ w4.ownsRow w.heap.size 43 7 v4 jnl.length (ndc jnl)) from ⟨own_below HO3.out b4, o4⟩)
      clear H28 HW3 HO3 b4 o4 d0 d1 d2 d3 d4 d5 d6
      go_wp2_with fail
      refine (H12.out _).mono ?_
      rintro e w5 ⟨rfl, b5⟩
      have HW5 := (show Hid (AtI w w5 n ps i u5 qs) from HW4.out.below b5)
      have HO5 := (show Hid (w5.ownsRow w.heap.size 43 7 v3 jnl.length (ndc jnl) ∧ w5.ownsRow w.heap.size 43 7 v4 jnl.length (ndc jnl)) from ⟨own_below HO4.out.1 b5, own_below HO4.out.2 b5⟩)
      clear H12 HW4 HO4 b5
      go_wp2_with fail
      refine (H24.out _ _ _ HO5.out.1 HO5.out.2).mono ?_
      rintro e w6 ⟨rfl, b6⟩
      have HW6 := (show Hid (AtI w w6 n ps i u5 qs) from HW5.out.below b6)
      clear H24 HW5 HO5 b6
      have HQ := (show Hid (∀ k p, ps[k]? = some p → k < i → ∃ g cap, qs[k]? = some (some ⟨g, 0, none⟩, cap, p.2.2) ∧ ∃ gv cv, u5 = .slice (some ⟨gv, 0, none⟩) i cv ∧ ∀ W, AtI w W n ps i u5 qs → W.cell? ⟨gv, k, none⟩ = some (.slice (some ⟨g, 0, none⟩) p.2.2.length cap) ∧ LentR W (w.heap.size + 1) g cap p.2.2) from fun k p hp hk => by
        have hsm := HW6.out.same
        have hln := HW6.out.len
        have hkq : qs[k]? = some qs[k] := List.getElem?_eq_getElem (by omega)
        have e2 : qs[k].2.2 = p.2.2 := by
          have h1 := congrArg (fun l => l[k]?) hsm
          simp only [List.getElem?_map, List.getElem?_take, if_pos hk, hp, hkq, Option.map_some] at h1
          exact Option.some.inj h1
        obtain ⟨g, e1, _, _⟩ := HW6.out.l qs[k] (List.getElem_mem (by omega))
        have e3 : qs[k] = (some ⟨g, 0, none⟩, qs[k].2.1, p.2.2) := Prod.ext e1 (Prod.ext rfl e2)
        refine ⟨g, qs[k].2.1, by rw [hkq, ← e3], ?_⟩
        rcases HW6.out.o.2 with ⟨_, q0⟩ | ⟨gv, cv, cur, q, _⟩
        · omega
        · refine ⟨gv, cv, q, fun W hW => ⟨?_, ?_⟩⟩
          · have := hW.o.cells (g := gv) (by rw [q]; rfl) k (lsV qs[k]) (by rw [List.getElem?_map, hkq]; rfl)
            rw [Addr.add_lit, Nat.zero_add, e3] at this
            exact this
          · obtain ⟨g', e1', hl', _⟩ := hW.l qs[k] (List.getElem_mem (by omega : k < qs.length))
            rw [e1] at e1'
            cases e1'
            rw [e2] at hl'
            exact hl')
      go_wp2_with fail
      go_loopw [11] (fun t wr => ∃ k : Nat, k ≤ i ∧ t = .int .i64 k ∧ Hid (AtI w wr n ps i u5 qs)) (fun t _ => i - (intOf t).toNat)
      case atStart => exact ⟨0, by omega, by go_num, HW6⟩
      case round =>
        obtain ⟨k, hk, rfl, HW⟩ := hrel
        clear HW6
        by_cases hlt2 : k < i
        · obtain ⟨p, hp⟩ := HG.out k hlt2
          obtain ⟨hcell, _, hkept⟩ := HK.out k p hp
          obtain ⟨g, o, rfl, e0⟩ := hcell wr HW.out.b
          obtain ⟨g2, cap2, _, gv, cv, rfl, hq⟩ := HQ.out k p hp hlt2
          obtain ⟨e1, hlr⟩ := hq wr HW.out
          have z0 : (0 : Int) ≤ (k : Int) := by omega
          have z1 : (k : Int) < (i : Int) := by omega
          have HD := (show Hid (AtI w wr.drew n ps i _ qs) from HW.out.below (below_drewN (Below.refl _ _) 1))
          have HKp := (show Hid (∀ _ : Unit, Calls Try.prog 15 #[.slice (some ⟨g2, 0, none⟩) p.2.2.length cap2, .slice p.1 p.2.2.length p.2.1] wr.drew fun e w' => e = .returned (.bool true) ∧ Below wr.drew.heap.size wr.drew w') from fun _ => hkept wr.drew g2 cap2 _ HD.out.b (hq wr.drew HD.out).2)
          obtain ⟨Ap, cp, Lp⟩ := p
          simp only at e0 e1 HKp
          clear hp hcell hkept hq hlr HQ HG HK HW
          go_wp2_with fail
          go_region_law (refine step_call2 enters15 rfl _ _ _ _ (by rfl) (.slice (some ⟨g2, 0, none⟩) Lp.length cap2) (.slice Ap Lp.length cp) (by rfl) (by rfl) ?_; with_reducible refine (HKp.out ()).mono ?_; rintro e wA ⟨rfl, bA⟩; refine ⟨_, rfl, ?_⟩)
          all_goals
            have HW8 := (show Hid (AtI w wA n ps i _ qs) from HD.out.below bA)
            clear HD bA e0 e1
            go_wp2_with fail
            go_roundw
            case rel => exact ⟨k + 1, by omega, by go_num, HW8⟩
            case measure => simp [intOf]; omega
        · obtain rfl : k = i := by omega
          clear HQ HG HK
          go_wp2_with fail
          go_ret
          exact ⟨rfl, HW.out.b⟩
end Go.Proofs.Ytfomodpjdaclgaa
