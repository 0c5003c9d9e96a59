/- DERIVED. Walks: Join, by the program. -/
import Derived.Test.YtfomodpjdaclgabJnP
namespace Go.Proofs.Ytfomodpjdaclgab
open Go.RowKit

set_option maxRecDepth 100000 in
set_option maxHeartbeats 4000000 in
theorem chain_nil (A : Option Addr) (c : Nat) (w : World) : Calls Try.prog 24 #[.slice A 0 c] w fun e w' => e = .returned (.slice none 0 0) ∧ Below w.heap.size w w' := by
  have HB := (show Hid (Below w.heap.size w w) from Below.refl _ _)
  go_enter Try.func24, Try.ntmps24
  go_wp2_with fail
  go_loopw [3, 10] (fun v t wr => v = .slice none 0 0 ∧ t = .int .i64 0 ∧ wr = w) (fun _ _ _ => 0)
  case atStart => exact ⟨rfl, by go_num, rfl⟩
  case round =>
    obtain ⟨rfl, rfl, rfl⟩ := hrel
    go_wp2_with fail
    go_ret
    exact ⟨rfl, HB.out⟩
theorem chain_all (ps : List Ls) (A : Option Addr) (c : Nat) (h3 : ps.length ≤ 3) (hl : ∀ p ∈ ps, p.2.2.length ≤ 2048) (w : World) (h : RdL w A ps) :
    Calls Try.prog 24 #[.slice A ps.length c] w fun e w' => (∃ v, e = .returned v ∧ w'.ownsRow w.heap.size 37 7 v (flatL ps).length (ndc (flatL ps))) ∧ Below w.heap.size w w' := by
  by_cases hne : ps = []
  · subst hne
    exact (chain_nil A c w).mono fun e w' ⟨h1, h2⟩ => ⟨⟨_, h1, World.ownsRow_nil _ _ _ _⟩, h2⟩
  · obtain ⟨g, o, rfl, _, hc⟩ := h.1 hne
    exact chain_any ps g o c h3 hl w (fun i p hp => ⟨hc i p hp, h.2 p (List.mem_of_getElem? hp)⟩)
/-- While the parts are looked at. -/
structure AtJ (w wr : World) (n : Nd) (Ps : List (List Nd)) (i : Nat) : Prop where
  b : Below w.heap.size w wr
  x : NX wr w.heap.size n
  z : ∀ j q, j < i → Ps[j]? = some q → (ck q).2 = 0
theorem AtJ.below {w wr w' : World} {n : Nd} {Ps : List (List Nd)} {i : Nat} (h : AtJ w wr n Ps i) (hb : Below wr.heap.size wr w') : AtJ w w' n Ps i := ⟨h.b.trans (hb.mono h.b.size), h.x.same (hb.block _ h.x.lt), h.z⟩
theorem AtJ.next {w wr : World} {n : Nd} {Ps : List (List Nd)} {i : Nat} {p : List Nd} (h : AtJ w wr n Ps i) (hp : Ps[i]? = some p) (he : (ck p).2 = 0) : AtJ w wr n Ps (i + 1) := ⟨h.b, h.x, fun j q hj hq => by
  by_cases e : j = i
  · subst e; rw [hp] at hq; cases hq; exact he
  · exact h.z j q (by omega) hq⟩
theorem NX.cells {W : World} {b : Nat} {n : Nd} (h : NX W b n) : W.cell? ⟨b, 0, none⟩ = some (.int .i64 n.op) ∧ W.cell? ⟨b, 1, none⟩ = some (.int .i64 n.nn) ∧ W.cell? ⟨b, 2, none⟩ = some (.string n.tx) ∧ W.cell? ⟨b, 3, none⟩ = some (.int .u64 n.s0) ∧ W.cell? ⟨b, 4, none⟩ = some (.int .u64 n.s1) ∧ W.cell? ⟨b, 5, none⟩ = some (.int .u64 n.s2) ∧ W.cell? ⟨b, 6, none⟩ = some (.int .u64 n.s3) := by
  obtain ⟨d0, d1, d2, d3, d4, d5, d6⟩ := h.nb
  simp only [Nat.zero_add] at d0 d1 d2 d3 d4 d5 d6
  exact ⟨d0, d1, d2, d3, d4, d5, d6⟩

set_option maxRecDepth 100000 in
set_option maxHeartbeats 8000000 in
theorem join_any (n : Nd) (ps : List Ls) (A : Option Addr) (c : Nat) (hn : n.tx.size ≤ 140737488355328) (hm : ps.length ≤ 140737488355328) (hl : ∀ p ∈ ps, p.2.2.length ≤ 140737488355328) (ht : ∀ p ∈ ps, ∀ x ∈ p.2.2, x.tx.size ≤ 140737488355328) (w : World) (h : RdL w A ps) :
    Calls Try.prog 13 #[ndG n, .slice A ps.length c] w fun e w' => JnV w w' n (ps.map fun p => p.2.2) e ∧ Below w.heap.size w w' := by
  obtain ⟨i0, hinf, hz0, hz1, hz2⟩ := info_parts Try.info43
  obtain ⟨Ps, hPs⟩ : ∃ Ps, Ps = ps.map fun p => p.2.2 := ⟨_, rfl⟩
  have hlen : Ps.length = ps.length := by rw [hPs, List.length_map]
  have HAl : Hid (∀ w, Calls Try.prog 27 #[ndG n] w fun e w' => e = .returned (.int .i64 (alE n)) ∧ Below w.heap.size w w') := fun w => alone_any n hn w
  have HAr : Hid (∀ w, Calls Try.prog 10 #[.int .i64 n.op] w fun e w' => e = .returned (.int .i64 (ar n.op)) ∧ w' = w) := fun w => arity_any n.op w
  have HCo : Hid (∀ n w, Calls Try.prog 29 #[ndG n] w fun e w' => e = .returned (ndG n) ∧ Below w.heap.size w w') := fun n w => copied_any n w
  have HK : Hid (∀ (i : Nat) p, ps[i]? = some p → Ps[i]? = some p.2.2 ∧ (∀ W, Below w.heap.size w W → ∃ g o, A = some ⟨g, o, none⟩ ∧ W.cell? ⟨g, o + i, none⟩ = some (.slice p.1 p.2.2.length p.2.1)) ∧ ∀ W, Below w.heap.size w W → Calls Try.prog 12 #[.slice p.1 p.2.2.length p.2.1] W fun e w' => e = .returned (.tuple #[.int .i64 (ck p.2.2).1, .int .i64 (ck p.2.2).2]) ∧ Below W.heap.size W w') := fun i p hp => by
    have hmem := List.mem_of_getElem? hp
    refine ⟨by rw [hPs, List.getElem?_map, hp]; rfl, fun W hW => ?_, fun W hW => check_any p.2.2 p.1 p.2.1 (hl p hmem) (ht p hmem) W ((h.2 p hmem).below hW (Nat.le_refl _))⟩
    obtain ⟨g, o, e, lg, hc⟩ := h.1 (by rintro rfl; cases hmem)
    exact ⟨g, o, e, (hW.cell (p := ⟨g, o + i, none⟩) lg).trans (hc i p hp)⟩
  have HG := (show Hid (∀ i, i < ps.length → ∃ p, ps[i]? = some p) from fun i hi => ⟨_, List.getElem?_eq_getElem hi⟩)
  have HCh : Hid (alE n = 0 → (ps.length : Int) = ar n.op → prt Ps = 0 → ∀ W, Below w.heap.size w W → Calls Try.prog 24 #[.slice A ps.length c] W fun e w' => (∃ v, e = .returned v ∧ w'.ownsRow w.heap.size 37 7 v (flatL ps).length (ndc (flatL ps))) ∧ Below W.heap.size W w') := fun _ h2 h3 W hW => by
    have h4 := ar_hi n.op
    refine (chain_all ps A c (by omega) (fun p hp => ?_) W (h.below hW (Nat.le_refl _))).mono fun e w' ⟨⟨v, e1, e2⟩, e3⟩ => ⟨⟨v, e1, own_base e2 hW.size⟩, e3⟩
    have := (rt_of (prt_all h3 p.2.2 (by rw [hPs]; exact List.mem_map.2 ⟨p, hp, rfl⟩))).len
    omega
  have HFl := (show Hid (alE n = 0 → (ps.length : Int) = ar n.op → prt Ps = 0 → (flatL ps).length ≤ 4096 ∧ flatL ps ++ [n] = Ps.flatten ++ [n] ∧ ∀ x ∈ flatL ps ++ [n], x.tx.size ≤ 140737488355328) from fun _ h2 h3 => by
    have h4 := ar_hi n.op
    have h5 := flat_len (fun q hq => rt_of (prt_all h3 q hq))
    have h6 : flatL ps = Ps.flatten := by rw [hPs]; exact flatL_eq ps
    refine ⟨by rw [h6]; omega, by rw [h6], fun x hx => ?_⟩
    rcases List.mem_append.1 hx with hx | hx
    · obtain ⟨p, hp, hx⟩ := List.mem_flatMap.1 hx
      exact ht p hp x hx
    · cases List.mem_singleton.1 hx; exact hn)
  have HJ0 := (show Hid (AtJ w (w.alloc (ndO n)) n Ps 0) from ⟨below_box _ _, ⟨heap_alloc_new w _⟩, fun j q hj => by omega⟩)
  have HPs := (show Hid (Ps.length = ps.length) from hlen)
  rw [← hPs]
  clear h hl ht hPs hlen
  generalize flatL ps = F at *
  have k0 := HJ0.out.x.cells
  obtain ⟨d0, d1, d2, d3, d4, d5, d6⟩ := k0
  go_enter Try.func13, Try.ntmps13
  go_wp2_with fail
  refine (HAl.out _).mono ?_
  rintro e w2 ⟨rfl, b2⟩
  have HJ2 := (show Hid (AtJ w w2 n Ps 0) from HJ0.out.below b2)
  clear HAl b2 HJ0 d0 d1 d2 d3 d4 d5 d6
  by_cases ha : alE n = 0
  · have t1 : (alE n != 0) = false := by rw [ha]; rfl
    have HI := (show Hid (alE n = 0) from ha)
    obtain ⟨d0, d1, d2, d3, d4, d5, d6⟩ := HJ2.out.x.cells
    clear ha
    go_wp2_with fail
    refine (HAr.out _).mono ?_
    rintro e w3 ⟨rfl, rfl⟩
    clear HAr
    by_cases hb : (ps.length : Int) = ar n.op
    · have t2 : ((ps.length : Int) != ar n.op) = false := by rw [hb]; simp
      have HI2 := (show Hid ((ps.length : Int) = ar n.op) from hb)
      clear hb d0 d1 d2 d3 d4 d5 d6
      generalize hmm : ps.length = m at *
      clear hmm
      go_wp2_with fail
      go_loopw [24] (fun t wr => ∃ i : Nat, i ≤ m ∧ t = .int .i64 i ∧ Hid (AtJ w wr n Ps i)) (fun t _ => m - (intOf t).toNat)
      case atStart => exact ⟨0, by omega, by go_num, HJ2⟩
      case round =>
        obtain ⟨i, hi, rfl, HW⟩ := hrel
        clear HJ2
        by_cases hlt : i < m
        · obtain ⟨p, hp⟩ := HG.out i hlt
          obtain ⟨hq, hcell, hck⟩ := HK.out i p hp
          obtain ⟨g, o, rfl, e0⟩ := hcell wr HW.out.b
          have z0 : (0 : Int) ≤ (i : Int) := by omega
          have z1 : (i : Int) < (m : Int) := by omega
          have HCk := (show Hid (∀ _ : Unit, Calls Try.prog 12 #[.slice p.1 p.2.2.length p.2.1] wr fun e w' => e = .returned (.tuple #[.int .i64 (ck p.2.2).1, .int .i64 (ck p.2.2).2]) ∧ Below wr.heap.size wr w') from fun _ => hck wr HW.out.b)
          have HQ := (show Hid (Ps[i]? = some p.2.2) from hq)
          obtain ⟨Ap, cp, Lp⟩ := p
          simp only at e0 HCk HQ
          clear hp hq hcell hck HK HG HCh HFl HCo
          go_wp2_with fail
          refine (HCk.out ()).mono ?_
          rintro e w5 ⟨rfl, b5⟩
          have HW5 := (show Hid (AtJ w w5 n Ps i) from HW.out.below b5)
          clear HCk HW b5 e0
          by_cases hc : (ck Lp).2 = 0
          · have t3 : ((ck Lp).2 != 0) = false := by rw [hc]; rfl
            have HW6 := (show Hid (AtJ w w5 n Ps (i + 1)) from HW5.out.next HQ.out hc)
            clear hc HW5 HQ
            go_wp2_with fail
            go_roundw
            case rel => exact ⟨i + 1, by omega, by go_num, HW6⟩
            case measure => simp [intOf]; omega
          · have t3 : ((ck Lp).2 != 0) = true := by rw [bne, beq_eq_false_iff_ne.2 hc]; rfl
            have HE := (show Hid (jnE n Ps = (ck Lp).2 ∧ (ck Lp).2 ≠ 0) from by
              have h1 := prt_bad HW5.out.z HQ.out hc
              exact ⟨(jnE_3 HI.out (by rw [HPs.out]; exact HI2.out) (by rw [h1]; exact hc)).trans h1, hc⟩)
            clear hc HQ
            go_wp2_with fail
            go_ret2
            exact ⟨JnV.bad HE.out.1 HE.out.2, HW5.out.b⟩
        · obtain rfl : i = m := by omega
          have HZ := (show Hid (prt Ps = 0) from prt_ok fun q hq => by
            obtain ⟨j, hj⟩ := List.mem_iff_getElem?.1 hq
            have hjl : j < Ps.length := by
              by_cases q : j < Ps.length
              · exact q
              · rw [List.getElem?_eq_none (by omega)] at hj; cases hj
            exact HW.out.z j q (by have := HPs.out; omega) hj)
          have HCh2 := (show Hid _ from HCh.out HI.out HI2.out HZ.out)
          obtain ⟨hF, hF2, hF3⟩ := HFl.out HI.out HI2.out HZ.out
          have HRi : Hid (∀ W v, W.ownsRow w.heap.size 37 7 v (F.length + 1) (ndc F ++ ndV n) → Calls Try.prog 28 #[v] W fun e w' => (∃ u, e = .returned (.tuple #[u, .int .i64 (ck (F ++ [n])).2]) ∧ w'.ownsRow w.heap.size 37 7 u (if (ck (F ++ [n])).2 = 0 then F ++ [n] else []).length (ndc (if (ck (F ++ [n])).2 = 0 then F ++ [n] else []))) ∧ Below W.heap.size W w') := fun W v hv => by
            have e1 : ndc F ++ ndV n = ndc (F ++ [n]) := by rw [ndc_append, ndc_one]
            have e2 : F.length + 1 = (F ++ [n]).length := by rw [List.length_append, List.length_singleton]
            rw [e1, e2] at hv
            exact (right_any (F ++ [n]) v _ (by rw [← e2]; omega) hF3 W hv).mono fun e w' ⟨h1, h2⟩ => ⟨h1.row, h2⟩
          have HF2 := (show Hid (F ++ [n] = Ps.flatten ++ [n]) from hF2)
          have HD := (show Hid (Below w.heap.size w wr.drew ∧ Below wr.heap.size wr wr.drew) from ⟨below_drewN HW.out.b 1, below_drewN (Below.refl _ _) 1⟩)
          have HXs := (show Hid (∀ W, Below wr.drew.heap.size wr.drew W → Below w.heap.size w W ∧ W.cell? ⟨w.heap.size, 0, none⟩ = some (.int .i64 n.op) ∧ W.cell? ⟨w.heap.size, 1, none⟩ = some (.int .i64 n.nn) ∧ W.cell? ⟨w.heap.size, 2, none⟩ = some (.string n.tx) ∧ W.cell? ⟨w.heap.size, 3, none⟩ = some (.int .u64 n.s0) ∧ W.cell? ⟨w.heap.size, 4, none⟩ = some (.int .u64 n.s1) ∧ W.cell? ⟨w.heap.size, 5, none⟩ = some (.int .u64 n.s2) ∧ W.cell? ⟨w.heap.size, 6, none⟩ = some (.int .u64 n.s3)) from fun W hW => ⟨HD.out.1.trans (hW.mono HD.out.1.size), ((HW.out.below HD.out.2).below hW).x.cells⟩)
          obtain ⟨d0, d1, d2, d3, d4, d5, d6⟩ := HW.out.x.cells
          clear HK HG HCh HFl hF2 hF3 HW
          go_wp2_with fail
          go_region_law (first
            | (refine step_call1 enters41 rfl _ _ (by rfl) (.slice A i c) (by rfl) ?_; with_reducible refine (HCh2.out _ HD.out.1).mono ?_; rintro e wA ⟨⟨vA, rfl, oA⟩, bA⟩; refine ⟨_, rfl, ?_⟩; obtain ⟨BA, a0, a1, a2, a3, a4, a5, a6⟩ := HXs.out _ bA)
            | (refine step_call47 rfl _ (by rfl) _ (by rfl) ?_; refine (HCo.out n _).mono ?_; rintro e wB ⟨rfl, bB⟩; refine ⟨_, rfl, ?_⟩; have BB := BA.trans (bB.mono BA.size); have oB := own_below oA bB)
            | (refine step_append_lies _ (by rfl) _ _ _ (by rfl) w.heap.size 37 i0 _ 7 64 Try.underlying23 hinf hz0 hz1 hz2 rfl (by omega) _ _ (ndc F) (by rfl) (oB.alloc _) ⟨wB.heap.size, 0, none⟩ 1 1 (ndV n) (by rfl) (by rfl) (World.news_of_block (cs := #[.int .i64 n.op, .int .i64 n.nn, .string n.tx, .int .u64 n.s0, .int .u64 n.s1, .int .u64 n.s2, .int .u64 n.s3]) (t := 37) (fr := (0, 0)) (heap_alloc_new wB _)) (nd_one _) (by omega) (by unfold maxLen; omega) (by omega) (by have q1 := BB.size; rw [World.size_alloc]; omega) (wB.heap.size + 1) (by simp) ?_; intro g3 cap w5 hown1 hgrow hat hltg; have B5 := (BB.alloc BB.size _).grown hgrow (by have q1 := BB.size; rw [World.size_alloc]; omega) (fun j e => (oB.lt j e).1))
            | (refine step_call1 enters46 rfl _ _ (by rfl) _ (by rfl) ?_; refine (HRi.out _ _ hown1).mono ?_; rintro e wC ⟨⟨vC, rfl, oC⟩, bC⟩; refine ⟨_, rfl, ?_⟩))
          all_goals
            have hfin := (show Hid (JnV w wC n Ps (.returned (.tuple #[vC, .int .i64 (ck (F ++ [n])).2])) ∧ Below w.heap.size w wC) from ⟨JnV.end HI.out (by rw [HPs.out]; exact HI2.out) HZ.out HF2.out oC, B5.trans (bC.mono B5.size)⟩)
            clear oA oB oC hown1 hgrow hat hltg bA bB bC B5 BA BB
            go_wp2_with fail
            go_ret2
            exact hfin.out
    · have t2 : ((ps.length : Int) != ar n.op) = true := by rw [bne, beq_eq_false_iff_ne.2 hb]; rfl
      have HE := (show Hid (jnE n Ps = 42) from jnE_2 HI.out (by rw [HPs.out]; exact hb))
      clear hb d0 d1 d2 d3 d4 d5 d6 HK HG HCh HFl HCo
      go_wp2_with fail
      go_ret2
      exact ⟨JnV.bad HE.out (by decide), HJ2.out.b⟩
  · have t1 : (alE n != 0) = true := by rw [bne, beq_eq_false_iff_ne.2 ha]; rfl
    have HE := (show Hid (jnE n Ps = alE n ∧ alE n ≠ 0) from ⟨jnE_1 ha, ha⟩)
    clear ha HK HG HCh HFl HCo HAr
    go_wp2_with fail
    go_ret2
    exact ⟨JnV.bad HE.out.1 HE.out.2, HJ2.out.b⟩
end Go.Proofs.Ytfomodpjdaclgab
