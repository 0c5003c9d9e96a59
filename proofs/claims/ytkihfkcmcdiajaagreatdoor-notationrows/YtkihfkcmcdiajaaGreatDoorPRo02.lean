/- NotationRows holds of every two texts and either sign between: the nodes of the one, of the other, and a PChoice or PSeq; the laid tables runes.blocks and token.signs are tied to the program's text. -/
import Derived.Test.YtkihfkcmcdiajaaGreatDoorPRo01
namespace Go.Proofs.YtkihfkcmcdiajaaGreatDoor.T
open Go.RowKit
set_option maxRecDepth 100000 in
set_option maxHeartbeats 4000000 in
theorem chain_nil (A : Option Addr) (c : Nat) (w : World) : Calls Tryz.prog 42 #[.slice A 0 c] w fun e w' => e = .returned (.slice none 0 0) ∧ Below w.heap.size w w' := by
  have HB := (show Hid (Below w.heap.size w w) from Below.refl _ _)
  go_enter Tryz.func42, Tryz.ntmps42
  go_wp2_with fail
  go_loopw [3, 10] (fun v t wr => v = .slice none 0 0 ∧ t = .int .i64 0 ∧ wr = w) (fun _ _ _ => 0)
  case atStart => exact ⟨rfl, by go_num, rfl⟩
  case round =>
    obtain ⟨rfl, rfl, rfl⟩ := hrel
    go_wp2_with fail
    go_ret
    exact ⟨rfl, HB.out⟩
theorem chain_all (ps : List Ls) (A : Option Addr) (c : Nat) (h3 : ps.length ≤ 3) (hl : ∀ p ∈ ps, p.2.2.length ≤ 2048) (w : World) (h : RdL w A ps) :
    Calls Tryz.prog 42 #[.slice A ps.length c] w fun e w' => (∃ v, e = .returned v ∧ w'.ownsRow w.heap.size 51 7 v (flatL ps).length (ndc (flatL ps))) ∧ Below w.heap.size w w' := by
  by_cases hne : ps = []
  · subst hne
    exact (chain_nil A c w).mono fun e w' ⟨h1, h2⟩ => ⟨⟨_, h1, World.ownsRow_nil _ _ _ _⟩, h2⟩
  · obtain ⟨g, o, rfl, _, hc⟩ := h.1 hne
    exact chain_any ps g o c h3 hl w (fun i p hp => ⟨hc i p hp, h.2 p (List.mem_of_getElem? hp)⟩)
/-- While the parts are looked at. -/
structure AtJ (w wr : World) (n : Nd) (Ps : List (List Nd)) (i : Nat) : Prop where
  b : Below w.heap.size w wr
  x : NX wr w.heap.size n
  z : ∀ j q, j < i → Ps[j]? = some q → (ck q).2 = 0
theorem AtJ.below {w wr w' : World} {n : Nd} {Ps : List (List Nd)} {i : Nat} (h : AtJ w wr n Ps i) (hb : Below wr.heap.size wr w') : AtJ w w' n Ps i := ⟨h.b.trans (hb.mono h.b.size), h.x.same (hb.block _ h.x.lt), h.z⟩
theorem AtJ.next {w wr : World} {n : Nd} {Ps : List (List Nd)} {i : Nat} {p : List Nd} (h : AtJ w wr n Ps i) (hp : Ps[i]? = some p) (he : (ck p).2 = 0) : AtJ w wr n Ps (i + 1) := ⟨h.b, h.x, fun j q hj hq => by
  by_cases e : j = i
  · subst e; rw [hp] at hq; cases hq; exact he
  · exact h.z j q (by omega) hq⟩
theorem NX.cells {W : World} {b : Nat} {n : Nd} (h : NX W b n) : W.cell? ⟨b, 0, none⟩ = some (.int .i64 n.op) ∧ W.cell? ⟨b, 1, none⟩ = some (.int .i64 n.nn) ∧ W.cell? ⟨b, 2, none⟩ = some (.string n.tx) ∧ W.cell? ⟨b, 3, none⟩ = some (.int .u64 n.s0) ∧ W.cell? ⟨b, 4, none⟩ = some (.int .u64 n.s1) ∧ W.cell? ⟨b, 5, none⟩ = some (.int .u64 n.s2) ∧ W.cell? ⟨b, 6, none⟩ = some (.int .u64 n.s3) := by
  obtain ⟨d0, d1, d2, d3, d4, d5, d6⟩ := h.nb
  simp only [Nat.zero_add] at d0 d1 d2 d3 d4 d5 d6
  exact ⟨d0, d1, d2, d3, d4, d5, d6⟩

set_option maxRecDepth 100000 in
set_option maxHeartbeats 8000000 in
theorem join_any (n : Nd) (ps : List Ls) (A : Option Addr) (c : Nat) (hn : n.tx.size ≤ 140737488355328) (hm : ps.length ≤ 140737488355328) (hl : ∀ p ∈ ps, p.2.2.length ≤ 140737488355328) (ht : ∀ p ∈ ps, ∀ x ∈ p.2.2, x.tx.size ≤ 140737488355328) (w : World) (h : RdL w A ps) :
    Calls Tryz.prog 19 #[ndG n, .slice A ps.length c] w fun e w' => JnV w w' n (ps.map fun p => p.2.2) e ∧ Below w.heap.size w w' := by
  obtain ⟨i0, hinf, hz0, hz1, hz2⟩ := info_parts Tryz.info43
  obtain ⟨Ps, hPs⟩ : ∃ Ps, Ps = ps.map fun p => p.2.2 := ⟨_, rfl⟩
  have hlen : Ps.length = ps.length := by rw [hPs, List.length_map]
  have HAl : Hid (∀ w, Calls Tryz.prog 39 #[ndG n] w fun e w' => e = .returned (.int .i64 (alE n)) ∧ Below w.heap.size w w') := fun w => alone_any n hn w
  have HAr : Hid (∀ w, Calls Tryz.prog 40 #[.int .i64 n.op] w fun e w' => e = .returned (.int .i64 (ar n.op)) ∧ w' = w) := fun w => arity_any n.op w
  have HCo : Hid (∀ n w, Calls Tryz.prog 43 #[ndG n] w fun e w' => e = .returned (ndG n) ∧ Below w.heap.size w w') := fun n w => copied_any n w
  have HK : Hid (∀ (i : Nat) p, ps[i]? = some p → Ps[i]? = some p.2.2 ∧ (∀ W, Below w.heap.size w W → ∃ g o, A = some ⟨g, o, none⟩ ∧ W.cell? ⟨g, o + i, none⟩ = some (.slice p.1 p.2.2.length p.2.1)) ∧ ∀ W, Below w.heap.size w W → Calls Tryz.prog 16 #[.slice p.1 p.2.2.length p.2.1] W fun e w' => e = .returned (.tuple #[.int .i64 (ck p.2.2).1, .int .i64 (ck p.2.2).2]) ∧ Below W.heap.size W w') := fun i p hp => by
    have hmem := List.mem_of_getElem? hp
    refine ⟨by rw [hPs, List.getElem?_map, hp]; rfl, fun W hW => ?_, fun W hW => check_any p.2.2 p.1 p.2.1 (hl p hmem) (ht p hmem) W ((h.2 p hmem).below hW (Nat.le_refl _))⟩
    obtain ⟨g, o, e, lg, hc⟩ := h.1 (by rintro rfl; cases hmem)
    exact ⟨g, o, e, (hW.cell (p := ⟨g, o + i, none⟩) lg).trans (hc i p hp)⟩
  have HG := (show Hid (∀ i, i < ps.length → ∃ p, ps[i]? = some p) from fun i hi => ⟨_, List.getElem?_eq_getElem hi⟩)
  have HCh : Hid (alE n = 0 → (ps.length : Int) = ar n.op → prt Ps = 0 → ∀ W, Below w.heap.size w W → Calls Tryz.prog 42 #[.slice A ps.length c] W fun e w' => (∃ v, e = .returned v ∧ w'.ownsRow w.heap.size 51 7 v (flatL ps).length (ndc (flatL ps))) ∧ Below W.heap.size W w') := fun _ h2 h3 W hW => by
    have h4 := ar_hi n.op
    refine (chain_all ps A c (by omega) (fun p hp => ?_) W (h.below hW (Nat.le_refl _))).mono fun e w' ⟨⟨v, e1, e2⟩, e3⟩ => ⟨⟨v, e1, own_base e2 hW.size⟩, e3⟩
    have := (rt_of (prt_all h3 p.2.2 (by rw [hPs]; exact List.mem_map.2 ⟨p, hp, rfl⟩))).len
    omega
  have HFl := (show Hid (alE n = 0 → (ps.length : Int) = ar n.op → prt Ps = 0 → (flatL ps).length ≤ 4096 ∧ flatL ps ++ [n] = Ps.flatten ++ [n] ∧ ∀ x ∈ flatL ps ++ [n], x.tx.size ≤ 140737488355328) from fun _ h2 h3 => by
    have h4 := ar_hi n.op
    have h5 := flat_len (fun q hq => rt_of (prt_all h3 q hq))
    have h6 : flatL ps = Ps.flatten := by rw [hPs]; exact flatL_eq ps
    refine ⟨by rw [h6]; omega, by rw [h6], fun x hx => ?_⟩
    rcases List.mem_append.1 hx with hx | hx
    · obtain ⟨p, hp, hx⟩ := List.mem_flatMap.1 hx
      exact ht p hp x hx
    · cases List.mem_singleton.1 hx; exact hn)
  have HJ0 := (show Hid (AtJ w (w.alloc (ndO n)) n Ps 0) from ⟨below_box _ _, ⟨heap_alloc_new w _⟩, fun j q hj => by omega⟩)
  have HPs := (show Hid (Ps.length = ps.length) from hlen)
  rw [← hPs]
  clear h hl ht hPs hlen
  generalize flatL ps = F at *
  have k0 := HJ0.out.x.cells
  obtain ⟨d0, d1, d2, d3, d4, d5, d6⟩ := k0
  go_enter Tryz.func19, Tryz.ntmps19
  go_wp2_with fail
  refine (HAl.out _).mono ?_
  rintro e w2 ⟨rfl, b2⟩
  have HJ2 := (show Hid (AtJ w w2 n Ps 0) from HJ0.out.below b2)
  clear HAl b2 HJ0 d0 d1 d2 d3 d4 d5 d6
  by_cases ha : alE n = 0
  · have t1 : (alE n != 0) = false := by rw [ha]; rfl
    have HI := (show Hid (alE n = 0) from ha)
    obtain ⟨d0, d1, d2, d3, d4, d5, d6⟩ := HJ2.out.x.cells
    clear ha
    go_wp2_with fail
    refine (HAr.out _).mono ?_
    rintro e w3 ⟨rfl, rfl⟩
    clear HAr
    by_cases hb : (ps.length : Int) = ar n.op
    · have t2 : ((ps.length : Int) != ar n.op) = false := by rw [hb]; simp
      have HI2 := (show Hid ((ps.length : Int) = ar n.op) from hb)
      clear hb d0 d1 d2 d3 d4 d5 d6
      generalize hmm : ps.length = m at *
      clear hmm
      go_wp2_with fail
      go_loopw [24] (fun t wr => ∃ i : Nat, i ≤ m ∧ t = .int .i64 i ∧ Hid (AtJ w wr n Ps i)) (fun t _ => m - (intOf t).toNat)
      case atStart => exact ⟨0, by omega, by go_num, HJ2⟩
      case round =>
        obtain ⟨i, hi, rfl, HW⟩ := hrel
        clear HJ2
        by_cases hlt : i < m
        · obtain ⟨p, hp⟩ := HG.out i hlt
          obtain ⟨hq, hcell, hck⟩ := HK.out i p hp
          obtain ⟨g, o, rfl, e0⟩ := hcell wr HW.out.b
          have z0 : (0 : Int) ≤ (i : Int) := by omega
          have z1 : (i : Int) < (m : Int) := by omega
          have HCk := (show Hid (∀ _ : Unit, Calls Tryz.prog 16 #[.slice p.1 p.2.2.length p.2.1] wr fun e w' => e = .returned (.tuple #[.int .i64 (ck p.2.2).1, .int .i64 (ck p.2.2).2]) ∧ Below wr.heap.size wr w') from fun _ => hck wr HW.out.b)
          have HQ := (show Hid (Ps[i]? = some p.2.2) from hq)
          obtain ⟨Ap, cp, Lp⟩ := p
          simp only at e0 HCk HQ
          clear hp hq hcell hck HK HG HCh HFl HCo
          go_wp2_with fail
          refine (HCk.out ()).mono ?_
          rintro e w5 ⟨rfl, b5⟩
          have HW5 := (show Hid (AtJ w w5 n Ps i) from HW.out.below b5)
          clear HCk HW b5 e0
          by_cases hc : (ck Lp).2 = 0
          · have t3 : ((ck Lp).2 != 0) = false := by rw [hc]; rfl
            have HW6 := (show Hid (AtJ w w5 n Ps (i + 1)) from HW5.out.next HQ.out hc)
            clear hc HW5 HQ
            go_wp2_with fail
            go_roundw
            case rel => exact ⟨i + 1, by omega, by go_num, HW6⟩
            case measure => simp [intOf]; omega
          · have t3 : ((ck Lp).2 != 0) = true := by rw [bne, beq_eq_false_iff_ne.2 hc]; rfl
            have HE := (show Hid (jnE n Ps = (ck Lp).2 ∧ (ck Lp).2 ≠ 0) from by
              have h1 := prt_bad HW5.out.z HQ.out hc
              exact ⟨(jnE_3 HI.out (by rw [HPs.out]; exact HI2.out) (by rw [h1]; exact hc)).trans h1, hc⟩)
            clear hc HQ
            go_wp2_with fail
            go_ret2
            exact ⟨JnV.bad HE.out.1 HE.out.2, HW5.out.b⟩
        · obtain rfl : i = m := by omega
          have HZ := (show Hid (prt Ps = 0) from prt_ok fun q hq => by
            obtain ⟨j, hj⟩ := List.mem_iff_getElem?.1 hq
            have hjl : j < Ps.length := by
              by_cases q : j < Ps.length
              · exact q
              · rw [List.getElem?_eq_none (by omega)] at hj; cases hj
            exact HW.out.z j q (by have := HPs.out; omega) hj)
          have HCh2 := (show Hid _ from HCh.out HI.out HI2.out HZ.out)
          obtain ⟨hF, hF2, hF3⟩ := HFl.out HI.out HI2.out HZ.out
          have HRi : Hid (∀ W v, W.ownsRow w.heap.size 51 7 v (F.length + 1) (ndc F ++ ndV n) → Calls Tryz.prog 41 #[v] W fun e w' => (∃ u, e = .returned (.tuple #[u, .int .i64 (ck (F ++ [n])).2]) ∧ w'.ownsRow w.heap.size 51 7 u (if (ck (F ++ [n])).2 = 0 then F ++ [n] else []).length (ndc (if (ck (F ++ [n])).2 = 0 then F ++ [n] else []))) ∧ Below W.heap.size W w') := fun W v hv => by
            have e1 : ndc F ++ ndV n = ndc (F ++ [n]) := by rw [ndc_append, ndc_one]
            have e2 : F.length + 1 = (F ++ [n]).length := by rw [List.length_append, List.length_singleton]
            rw [e1, e2] at hv
            exact (right_any (F ++ [n]) v _ (by rw [← e2]; omega) hF3 W hv).mono fun e w' ⟨h1, h2⟩ => ⟨h1.row, h2⟩
          have HF2 := (show Hid (F ++ [n] = Ps.flatten ++ [n]) from hF2)
          have HD := (show Hid (Below w.heap.size w wr.drew ∧ Below wr.heap.size wr wr.drew) from ⟨below_drewN HW.out.b 1, below_drewN (Below.refl _ _) 1⟩)
          have HXs := (show Hid (∀ W, Below wr.drew.heap.size wr.drew W → Below w.heap.size w W ∧ W.cell? ⟨w.heap.size, 0, none⟩ = some (.int .i64 n.op) ∧ W.cell? ⟨w.heap.size, 1, none⟩ = some (.int .i64 n.nn) ∧ W.cell? ⟨w.heap.size, 2, none⟩ = some (.string n.tx) ∧ W.cell? ⟨w.heap.size, 3, none⟩ = some (.int .u64 n.s0) ∧ W.cell? ⟨w.heap.size, 4, none⟩ = some (.int .u64 n.s1) ∧ W.cell? ⟨w.heap.size, 5, none⟩ = some (.int .u64 n.s2) ∧ W.cell? ⟨w.heap.size, 6, none⟩ = some (.int .u64 n.s3)) from fun W hW => ⟨HD.out.1.trans (hW.mono HD.out.1.size), ((HW.out.below HD.out.2).below hW).x.cells⟩)
          obtain ⟨d0, d1, d2, d3, d4, d5, d6⟩ := HW.out.x.cells
          clear HK HG HCh HFl hF2 hF3 HW
          go_wp2_with fail
          go_region_law (first
            | (refine step_call1 enters41 rfl _ _ (by rfl) (.slice A i c) (by rfl) ?_; with_reducible refine (HCh2.out _ HD.out.1).mono ?_; rintro e wA ⟨⟨vA, rfl, oA⟩, bA⟩; refine ⟨_, rfl, ?_⟩; obtain ⟨BA, a0, a1, a2, a3, a4, a5, a6⟩ := HXs.out _ bA)
            | (refine step_call47 rfl _ (by rfl) _ (by rfl) ?_; refine (HCo.out n _).mono ?_; rintro e wB ⟨rfl, bB⟩; refine ⟨_, rfl, ?_⟩; have BB := BA.trans (bB.mono BA.size); have oB := own_below oA bB)
            | (refine step_append_lies _ (by rfl) _ _ _ (by rfl) w.heap.size 51 i0 _ 7 64 Tryz.underlying34 hinf hz0 hz1 hz2 rfl (by omega) _ _ (ndc F) (by rfl) (oB.alloc _) ⟨wB.heap.size, 0, none⟩ 1 1 (ndV n) (by rfl) (by rfl) (World.news_of_block (cs := #[.int .i64 n.op, .int .i64 n.nn, .string n.tx, .int .u64 n.s0, .int .u64 n.s1, .int .u64 n.s2, .int .u64 n.s3]) (t := 51) (fr := (0, 0)) (heap_alloc_new wB _)) (nd_one _) (by omega) (by unfold maxLen; omega) (by omega) (by have q1 := BB.size; rw [World.size_alloc]; omega) (wB.heap.size + 1) (by simp) ?_; intro g3 cap w5 hown1 hgrow hat hltg; have B5 := (BB.alloc BB.size _).grown hgrow (by have q1 := BB.size; rw [World.size_alloc]; omega) (fun j e => (oB.lt j e).1))
            | (refine step_call1 enters46 rfl _ _ (by rfl) _ (by rfl) ?_; refine (HRi.out _ _ hown1).mono ?_; rintro e wC ⟨⟨vC, rfl, oC⟩, bC⟩; refine ⟨_, rfl, ?_⟩))
          all_goals
            have hfin := (show Hid (JnV w wC n Ps (.returned (.tuple #[vC, .int .i64 (ck (F ++ [n])).2])) ∧ Below w.heap.size w wC) from ⟨JnV.end HI.out (by rw [HPs.out]; exact HI2.out) HZ.out HF2.out oC, B5.trans (bC.mono B5.size)⟩)
            clear oA oB oC hown1 hgrow hat hltg bA bB bC B5 BA BB
            go_wp2_with fail
            go_ret2
            exact hfin.out
    · have t2 : ((ps.length : Int) != ar n.op) = true := by rw [bne, beq_eq_false_iff_ne.2 hb]; rfl
      have HE := (show Hid (jnE n Ps = 42) from jnE_2 HI.out (by rw [HPs.out]; exact hb))
      clear hb d0 d1 d2 d3 d4 d5 d6 HK HG HCh HFl HCo
      go_wp2_with fail
      go_ret2
      exact ⟨JnV.bad HE.out (by decide), HJ2.out.b⟩
  · have t1 : (alE n != 0) = true := by rw [bne, beq_eq_false_iff_ne.2 ha]; rfl
    have HE := (show Hid (jnE n Ps = alE n ∧ alE n ≠ 0) from ⟨jnE_1 ha, ha⟩)
    clear ha HK HG HCh HFl HCo HAr
    go_wp2_with fail
    go_ret2
    exact ⟨JnV.bad HE.out.1 HE.out.2, HJ2.out.b⟩
end Go.Proofs.YtkihfkcmcdiajaaGreatDoor.T

namespace Go.Proofs.YtkihfkcmcdiajaaGreatDoor.N
open Go.RowKit
theorem paR_ok1 {s : ByteArray} {ns : List Nd} (h : paR s = .inl [(⟨#[]⟩, ns)]) : (T.ck ns).2 = 0 := by
  obtain ⟨l, ns', hl, h1, h2, h3, h4⟩ := paR_ok h
  have e1 : ns' = ns := by
    injection h1 with h5 h6
    injection h5 with h7 h8
    exact h8.symm
  subst e1
  exact h3
theorem paR_sz {s : ByteArray} {ns : List Nd} (h : paR s = .inl [(⟨#[]⟩, ns)]) : s.size ≤ 65536 := by
  obtain ⟨l, ns', hl, h1, h2, h3, h4⟩ := paR_ok h
  exact (lex_chn hl).1
set_option maxRecDepth 100000 in
set_option maxHeartbeats 8000000 in
theorem rows_nn (a b : ByteArray) (g : Bool) (w : World) (hg : GW w) (pa : Int × Int) (ha : paR a = .inr pa) (pb : Int × Int) (hb : paR b = .inr pb) : Calls Tryz.prog 8 #[.string a, .string b, .bool g] w fun e w' => e = .returned (.bool true) ∧ Below w.heap.size w w' := by
  have HP : Hid (∀ W, GW W → Calls Tryz.prog 13 #[.string a] W fun e w' => e = .returned (.tuple #[.slice none 0 0, .agg #[.int .i64 pa.1, .int .i64 pa.2]]) ∧ Below W.heap.size W w') := fun W hW => by
    have := patt_any a W hW
    rw [ha] at this
    exact this
  have HQ : Hid (∀ W, GW W → Calls Tryz.prog 13 #[.string b] W fun e w' => e = .returned (.tuple #[.slice none 0 0, .agg #[.int .i64 pb.1, .int .i64 pb.2]]) ∧ Below W.heap.size W w') := fun W hW => by
    have := patt_any b W hW
    rw [hb] at this
    exact this
  have HL : Hid (∀ W, GW W → Calls Tryz.prog 11 #[] W fun e w' => e = .returned (.bool true) ∧ Below W.heap.size W w') := fun W h => lives_any W h
  have HG := (show Hid (GW w) from hg)
  have ta : (pa.2 != 0) = true := by simpa using (paR_err ha).1
  have ta2 : (pa.2 == 0) = false := by simpa using (paR_err ha).1
  obtain ⟨pa1, pa2⟩ := pa
  simp only at ta ta2 HP
  have tb : (pb.2 != 0) = true := by simpa using (paR_err hb).1
  have tb2 : (pb.2 == 0) = false := by simpa using (paR_err hb).1
  obtain ⟨pb1, pb2⟩ := pb
  simp only at tb tb2 HQ
  clear hg ha hb
  go_enter Tryz.func8, Tryz.ntmps8
  go_wp2_with fail
  refine (HP.out _ HG.out).mono ?_
  rintro e w1 ⟨rfl, hb⟩
  have HB := (show Hid (Below w.heap.size w (w1.alloc (.cells #[.int .i64 pa1, .int .i64 pa2] 27)) ∧ FX (w1.alloc (.cells #[.int .i64 pa1, .int .i64 pa2] 27)) w1.heap.size pa1 pa2) from ⟨hb.alloc hb.size _, ⟨heap_alloc_new w1 _⟩⟩)
  clear hb HP
  go_wp2_with fail
  generalize w1.alloc (.cells #[.int .i64 pa1, .int .i64 pa2] 27) = w2 at *
  generalize w1.heap.size = k1 at *
  refine (HQ.out _ (HG.out.later HB.out.1)).mono ?_
  rintro e w3 ⟨rfl, hb⟩
  have HB2 := (show Hid (Below w.heap.size w (w3.alloc (.cells #[.int .i64 pb1, .int .i64 pb2] 27)) ∧ FX (w3.alloc (.cells #[.int .i64 pb1, .int .i64 pb2] 27)) k1 pa1 pa2 ∧ FX (w3.alloc (.cells #[.int .i64 pb1, .int .i64 pb2] 27)) w3.heap.size pb1 pb2) from ⟨(HB.out.1.trans (hb.mono HB.out.1.size)).alloc (Nat.le_trans HB.out.1.size hb.size) _, (HB.out.2.below hb).below (below_box _ _), ⟨heap_alloc_new w3 _⟩⟩)
  have c1 := HB2.out.2.1.c1
  have c2 := HB2.out.2.2.c1
  clear hb HQ HB
  go_wp2_with fail
  generalize w3.alloc (.cells #[.int .i64 pb1, .int .i64 pb2] 27) = w4 at *
  generalize w3.heap.size = k2 at *
  go_wp2_with fail
  refine (HL.out _ (HG.out.later HB2.out.1)).mono ?_
  rintro e w5 ⟨rfl, hb⟩
  have HB3 := (show Hid (Below w.heap.size w w5 ∧ FX w5 k1 pa1 pa2 ∧ FX w5 k2 pb1 pb2) from ⟨HB2.out.1.trans (hb.mono HB2.out.1.size), HB2.out.2.1.below hb, HB2.out.2.2.below hb⟩)
  clear hb HB2 HL c1 c2
  have c1 := HB3.out.2.1.c1
  have c2 := HB3.out.2.2.c1
  go_wp2_with fail
  go_ret
  exact ⟨rfl, HB3.out.1⟩
set_option maxRecDepth 100000 in
set_option maxHeartbeats 8000000 in
theorem rows_ny (a b : ByteArray) (g : Bool) (w : World) (hg : GW w) (pa : Int × Int) (ha : paR a = .inr pa) (nb : List Nd) (hb : paR b = .inl [(⟨#[]⟩, nb)]) : Calls Tryz.prog 8 #[.string a, .string b, .bool g] w fun e w' => e = .returned (.bool true) ∧ Below w.heap.size w w' := by
  have HP : Hid (∀ W, GW W → Calls Tryz.prog 13 #[.string a] W fun e w' => e = .returned (.tuple #[.slice none 0 0, .agg #[.int .i64 pa.1, .int .i64 pa.2]]) ∧ Below W.heap.size W w') := fun W hW => by
    have := patt_any a W hW
    rw [ha] at this
    exact this
  have HQ : Hid (∀ W, GW W → Calls Tryz.prog 13 #[.string b] W fun e w' => (∃ v, e = .returned (.tuple #[v, .agg #[.int .i64 0, .int .i64 0]]) ∧ w'.ownsRow W.heap.size 51 7 v (nb).length (T.ndc (nb))) ∧ Below W.heap.size W w') := fun W hW => by
    refine (patt_any _ W hW).mono ?_
    rintro e w' ⟨h1, h2⟩
    rw [hb] at h1
    obtain ⟨v, ns', h3, h4, h5⟩ := h1
    injection h3 with h6 _
    injection h6 with _ h8
    subst h8
    exact ⟨⟨v, h4, h5⟩, h2⟩
  have HL : Hid (∀ W, GW W → Calls Tryz.prog 11 #[] W fun e w' => e = .returned (.bool true) ∧ Below W.heap.size W w') := fun W h => lives_any W h
  have HG := (show Hid (GW w) from hg)
  have ta : (pa.2 != 0) = true := by simpa using (paR_err ha).1
  have ta2 : (pa.2 == 0) = false := by simpa using (paR_err ha).1
  obtain ⟨pa1, pa2⟩ := pa
  simp only at ta ta2 HP
  clear hg ha hb
  go_enter Tryz.func8, Tryz.ntmps8
  go_wp2_with fail
  refine (HP.out _ HG.out).mono ?_
  rintro e w1 ⟨rfl, hb⟩
  have HB := (show Hid (Below w.heap.size w (w1.alloc (.cells #[.int .i64 pa1, .int .i64 pa2] 27)) ∧ FX (w1.alloc (.cells #[.int .i64 pa1, .int .i64 pa2] 27)) w1.heap.size pa1 pa2) from ⟨hb.alloc hb.size _, ⟨heap_alloc_new w1 _⟩⟩)
  clear hb HP
  go_wp2_with fail
  generalize w1.alloc (.cells #[.int .i64 pa1, .int .i64 pa2] 27) = w2 at *
  generalize w1.heap.size = k1 at *
  refine (HQ.out _ (HG.out.later HB.out.1)).mono ?_
  rintro e w3 ⟨⟨v, rfl, ho⟩, hb⟩
  obtain ⟨A2, n2, rfl⟩ := own_form ho
  clear ho
  generalize nb.length = lb at *
  have HB2 := (show Hid (Below w.heap.size w (w3.alloc fxZ) ∧ FX (w3.alloc fxZ) k1 pa1 pa2 ∧ FX (w3.alloc fxZ) w3.heap.size 0 0) from ⟨(HB.out.1.trans (hb.mono HB.out.1.size)).alloc (Nat.le_trans HB.out.1.size hb.size) _, (HB.out.2.below hb).below (below_box _ _), ⟨heap_alloc_new w3 _⟩⟩)
  have c1 := HB2.out.2.1.c1
  have c2 := HB2.out.2.2.c1
  clear hb HQ HB
  go_wp2_with fail
  generalize w3.alloc fxZ = w4 at *
  generalize w3.heap.size = k2 at *
  go_wp2_with fail
  refine (HL.out _ (HG.out.later HB2.out.1)).mono ?_
  rintro e w5 ⟨rfl, hb⟩
  have HB3 := (show Hid (Below w.heap.size w w5 ∧ FX w5 k1 pa1 pa2 ∧ FX w5 k2 0 0) from ⟨HB2.out.1.trans (hb.mono HB2.out.1.size), HB2.out.2.1.below hb, HB2.out.2.2.below hb⟩)
  clear hb HB2 HL c1 c2
  have c1 := HB3.out.2.1.c1
  have c2 := HB3.out.2.2.c1
  cases tl : (((lb : Nat) : Int) == 0) with
  | true =>
    go_wp2_with fail
    go_ret
    exact ⟨rfl, HB3.out.1⟩
  | false =>
    go_wp2_with fail
    go_ret
    exact ⟨rfl, HB3.out.1⟩
set_option maxRecDepth 100000 in
set_option maxHeartbeats 8000000 in
theorem rows_yn (a b : ByteArray) (g : Bool) (w : World) (hg : GW w) (na : List Nd) (ha : paR a = .inl [(⟨#[]⟩, na)]) (pb : Int × Int) (hb : paR b = .inr pb) : Calls Tryz.prog 8 #[.string a, .string b, .bool g] w fun e w' => e = .returned (.bool true) ∧ Below w.heap.size w w' := by
  have HP : Hid (∀ W, GW W → Calls Tryz.prog 13 #[.string a] W fun e w' => (∃ v, e = .returned (.tuple #[v, .agg #[.int .i64 0, .int .i64 0]]) ∧ w'.ownsRow W.heap.size 51 7 v (na).length (T.ndc (na))) ∧ Below W.heap.size W w') := fun W hW => by
    refine (patt_any _ W hW).mono ?_
    rintro e w' ⟨h1, h2⟩
    rw [ha] at h1
    obtain ⟨v, ns', h3, h4, h5⟩ := h1
    injection h3 with h6 _
    injection h6 with _ h8
    subst h8
    exact ⟨⟨v, h4, h5⟩, h2⟩
  have HQ : Hid (∀ W, GW W → Calls Tryz.prog 13 #[.string b] W fun e w' => e = .returned (.tuple #[.slice none 0 0, .agg #[.int .i64 pb.1, .int .i64 pb.2]]) ∧ Below W.heap.size W w') := fun W hW => by
    have := patt_any b W hW
    rw [hb] at this
    exact this
  have HL : Hid (∀ W, GW W → Calls Tryz.prog 11 #[] W fun e w' => e = .returned (.bool true) ∧ Below W.heap.size W w') := fun W h => lives_any W h
  have HG := (show Hid (GW w) from hg)
  have tb : (pb.2 != 0) = true := by simpa using (paR_err hb).1
  have tb2 : (pb.2 == 0) = false := by simpa using (paR_err hb).1
  obtain ⟨pb1, pb2⟩ := pb
  simp only at tb tb2 HQ
  clear hg ha hb
  go_enter Tryz.func8, Tryz.ntmps8
  go_wp2_with fail
  refine (HP.out _ HG.out).mono ?_
  rintro e w1 ⟨⟨v, rfl, ho⟩, hb⟩
  obtain ⟨A1, n1, rfl⟩ := own_form ho
  clear ho
  generalize na.length = la at *
  have HB := (show Hid (Below w.heap.size w (w1.alloc fxZ) ∧ FX (w1.alloc fxZ) w1.heap.size 0 0) from ⟨hb.alloc hb.size _, ⟨heap_alloc_new w1 _⟩⟩)
  clear hb HP
  go_wp2_with fail
  generalize w1.alloc fxZ = w2 at *
  generalize w1.heap.size = k1 at *
  refine (HQ.out _ (HG.out.later HB.out.1)).mono ?_
  rintro e w3 ⟨rfl, hb⟩
  have HB2 := (show Hid (Below w.heap.size w (w3.alloc (.cells #[.int .i64 pb1, .int .i64 pb2] 27)) ∧ FX (w3.alloc (.cells #[.int .i64 pb1, .int .i64 pb2] 27)) k1 0 0 ∧ FX (w3.alloc (.cells #[.int .i64 pb1, .int .i64 pb2] 27)) w3.heap.size pb1 pb2) from ⟨(HB.out.1.trans (hb.mono HB.out.1.size)).alloc (Nat.le_trans HB.out.1.size hb.size) _, (HB.out.2.below hb).below (below_box _ _), ⟨heap_alloc_new w3 _⟩⟩)
  have c1 := HB2.out.2.1.c1
  have c2 := HB2.out.2.2.c1
  clear hb HQ HB
  go_wp2_with fail
  generalize w3.alloc (.cells #[.int .i64 pb1, .int .i64 pb2] 27) = w4 at *
  generalize w3.heap.size = k2 at *
  go_wp2_with fail
  refine (HL.out _ (HG.out.later HB2.out.1)).mono ?_
  rintro e w5 ⟨rfl, hb⟩
  have HB3 := (show Hid (Below w.heap.size w w5 ∧ FX w5 k1 0 0 ∧ FX w5 k2 pb1 pb2) from ⟨HB2.out.1.trans (hb.mono HB2.out.1.size), HB2.out.2.1.below hb, HB2.out.2.2.below hb⟩)
  clear hb HB2 HL c1 c2
  have c1 := HB3.out.2.1.c1
  have c2 := HB3.out.2.2.c1
  cases tl : (((la : Nat) : Int) == 0) with
  | true =>
    go_wp2_with fail
    go_ret
    exact ⟨rfl, HB3.out.1⟩
  | false =>
    go_wp2_with fail
    go_ret
    exact ⟨rfl, HB3.out.1⟩
set_option maxRecDepth 100000 in
set_option maxHeartbeats 8000000 in
theorem rows_false (a b : ByteArray) (w : World) (hg : GW w) (na : List Nd) (ha : paR a = .inl [(⟨#[]⟩, na)]) (nb : List Nd) (hb : paR b = .inl [(⟨#[]⟩, nb)]) : Calls Tryz.prog 8 #[.string a, .string b, .bool false] w fun e w' => e = .returned (.bool true) ∧ Below w.heap.size w w' := by
  have HP : Hid (∀ W, GW W → Calls Tryz.prog 13 #[.string a] W fun e w' => (∃ v, e = .returned (.tuple #[v, .agg #[.int .i64 0, .int .i64 0]]) ∧ w'.ownsRow W.heap.size 51 7 v (na).length (T.ndc (na))) ∧ Below W.heap.size W w') := fun W hW => by
    refine (patt_any _ W hW).mono ?_
    rintro e w' ⟨h1, h2⟩
    rw [ha] at h1
    obtain ⟨v, ns', h3, h4, h5⟩ := h1
    injection h3 with h6 _
    injection h6 with _ h8
    subst h8
    exact ⟨⟨v, h4, h5⟩, h2⟩
  have HQ : Hid (∀ W, GW W → Calls Tryz.prog 13 #[.string b] W fun e w' => (∃ v, e = .returned (.tuple #[v, .agg #[.int .i64 0, .int .i64 0]]) ∧ w'.ownsRow W.heap.size 51 7 v (nb).length (T.ndc (nb))) ∧ Below W.heap.size W w') := fun W hW => by
    refine (patt_any _ W hW).mono ?_
    rintro e w' ⟨h1, h2⟩
    rw [hb] at h1
    obtain ⟨v, ns', h3, h4, h5⟩ := h1
    injection h3 with h6 _
    injection h6 with _ h8
    subst h8
    exact ⟨⟨v, h4, h5⟩, h2⟩
  have HL : Hid (∀ W, GW W → Calls Tryz.prog 11 #[] W fun e w' => e = .returned (.bool true) ∧ Below W.heap.size W w') := fun W h => lives_any W h
  have HG := (show Hid (GW w) from hg)
  have HJ : Hid (∀ W v1 v2 B1 B2 k, W.ownsRow B1 51 7 v1 na.length (T.ndc na) → W.ownsRow B2 51 7 v2 nb.length (T.ndc nb) → k < W.heap.size → W.cell? ⟨k, 0, none⟩ = some v1 → W.cell? ⟨k, 1, none⟩ = some v2 → Calls Tryz.prog 19 #[T.ndG (nd0 7), .slice (some ⟨k, 0, none⟩) 2 2] W fun e w' => (∃ v, e = .returned (.tuple #[v, .int .i64 (T.jnE (nd0 7) [na, nb])]) ∧ w'.ownsRow W.heap.size 51 7 v (T.jnL (nd0 7) [na, nb]).length (T.ndc (T.jnL (nd0 7) [na, nb]))) ∧ Below W.heap.size W w') := fun W v1 v2 B1 B2 k h1 h2 hk k1 k2 => by
    obtain ⟨A1, c1, rfl, r1⟩ := T.own_rd h1 rfl
    obtain ⟨A2, c2, rfl, r2⟩ := T.own_rd h2 rfl
    have hla := ck_len (paR_ok1 ha)
    have hlb := ck_len (paR_ok1 hb)
    have hta := pa_tx ha
    have htb := pa_tx hb
    exact T.join_any (nd0 7) [(A1, c1, na), (A2, c2, nb)] _ 2 (by have := nd0_tx 7; omega) (by simp) (fun p hp => by
      simp only [List.mem_cons, List.not_mem_nil, or_false] at hp
      rcases hp with rfl | rfl <;> (dsimp only; omega)) (fun p hp x hx => by
      simp only [List.mem_cons, List.not_mem_nil, or_false] at hp
      rcases hp with rfl | rfl
      · have := hta x hx; omega
      · have := htb x hx; omega) W ⟨fun _ => ⟨k, 0, rfl, hk, fun i p hp => by
        match i, hp with
        | 0, hp => cases hp; exact k1
        | 1, hp => cases hp; exact k2⟩, fun p hp => by
      simp only [List.mem_cons, List.not_mem_nil, or_false] at hp
      rcases hp with rfl | rfl
      · exact r1
      · exact r2⟩
  have hsa := paR_sz ha
  have hsb := paR_sz hb
  have m1 : ¬ 9223372036854775807 < 1 + a.size := by omega
  have m2 : ¬ 9223372036854775807 < 1 + a.size + 4 := by omega
  have m3 : ¬ 9223372036854775807 < 1 + a.size + 4 + b.size := by omega
  have m4 : ¬ 9223372036854775807 < 1 + a.size + 4 + b.size + 2 := by omega
  have HA := (show Hid (paR a = .inl [(⟨#[]⟩, na)] ∧ paR b = .inl [(⟨#[]⟩, nb)]) from ⟨ha, hb⟩)
  have HS := (show Hid (a.size ≤ 65536 ∧ b.size ≤ 65536) from ⟨hsa, hsb⟩)
  have HK : Hid (∀ s r, paR s = r → ∀ W, GW W → Calls Tryz.prog 13 #[.string s] W fun e w' => PaV W w' r e ∧ Below W.heap.size W w') := fun s r hr W hW => by rw [← hr]; exact patt_any s W hW
  have HSm : Hid (∀ L : List Nd, L.length ≤ 2048 → ∀ W v1 v2 B1 B2, W.ownsRow B1 51 7 v1 L.length (T.ndc L) → W.ownsRow B2 51 7 v2 L.length (T.ndc L) → Calls Tryz.prog 15 #[v1, v2] W fun e w' => e = .returned (.bool true) ∧ Below W.heap.size W w') := fun L hn W v1 v2 B1 B2 h1 h2 => by
    have := same_any hn hn h1 h2
    rw [T.patB_refl] at this
    exact this
  have hfe := fx_eql
  clear hg ha hb hsa hsb
  go_enter Tryz.func8, Tryz.ntmps8
  go_wp2_with fail
  refine (HP.out _ HG.out).mono ?_
  rintro e w1 ⟨⟨v, rfl, ho⟩, hb⟩
  obtain ⟨A1, n1, rfl⟩ := own_form ho
  have HB := (show Hid (Below w.heap.size w (w1.alloc fxZ) ∧ (w1.alloc fxZ).ownsRow w.heap.size 51 7 (.slice A1 na.length n1) na.length (T.ndc na) ∧ FX (w1.alloc fxZ) w1.heap.size 0 0) from ⟨hb.alloc hb.size _, ho.alloc _, ⟨heap_alloc_new w1 _⟩⟩)
  clear hb HP ho
  go_wp2_with fail
  generalize w1.alloc fxZ = w2 at *
  generalize w1.heap.size = k1 at *
  refine (HQ.out _ (HG.out.later HB.out.1)).mono ?_
  rintro e w3 ⟨⟨v2, rfl, ho⟩, hb⟩
  obtain ⟨A2, n2, rfl⟩ := own_form ho
  have HB2 := (show Hid (Below w.heap.size w (((w3.alloc fxZ).alloc (.cells #[.int .i64 7, .int .i64 0, .string ⟨#[]⟩, .int .u64 0, .int .u64 0, .int .u64 0, .int .u64 0] 51)).alloc (.cells #[.slice A1 na.length n1, .slice A2 nb.length n2] 34)) ∧ (((w3.alloc fxZ).alloc (.cells #[.int .i64 7, .int .i64 0, .string ⟨#[]⟩, .int .u64 0, .int .u64 0, .int .u64 0, .int .u64 0] 51)).alloc (.cells #[.slice A1 na.length n1, .slice A2 nb.length n2] 34)).ownsRow w.heap.size 51 7 (.slice A1 na.length n1) na.length (T.ndc na) ∧ (((w3.alloc fxZ).alloc (.cells #[.int .i64 7, .int .i64 0, .string ⟨#[]⟩, .int .u64 0, .int .u64 0, .int .u64 0, .int .u64 0] 51)).alloc (.cells #[.slice A1 na.length n1, .slice A2 nb.length n2] 34)).ownsRow w2.heap.size 51 7 (.slice A2 nb.length n2) nb.length (T.ndc nb) ∧ w3.heap.size + 1 + 1 < (((w3.alloc fxZ).alloc (.cells #[.int .i64 7, .int .i64 0, .string ⟨#[]⟩, .int .u64 0, .int .u64 0, .int .u64 0, .int .u64 0] 51)).alloc (.cells #[.slice A1 na.length n1, .slice A2 nb.length n2] 34)).heap.size ∧ (((w3.alloc fxZ).alloc (.cells #[.int .i64 7, .int .i64 0, .string ⟨#[]⟩, .int .u64 0, .int .u64 0, .int .u64 0, .int .u64 0] 51)).alloc (.cells #[.slice A1 na.length n1, .slice A2 nb.length n2] 34)).cell? ⟨w3.heap.size + 1 + 1, 0, none⟩ = some (.slice A1 na.length n1) ∧ (((w3.alloc fxZ).alloc (.cells #[.int .i64 7, .int .i64 0, .string ⟨#[]⟩, .int .u64 0, .int .u64 0, .int .u64 0, .int .u64 0] 51)).alloc (.cells #[.slice A1 na.length n1, .slice A2 nb.length n2] 34)).cell? ⟨w3.heap.size + 1 + 1, 1, none⟩ = some (.slice A2 nb.length n2)) from by
    have h0 : Below w.heap.size w w3 := HB.out.1.trans (hb.mono HB.out.1.size)
    have h1 := h0.size
    have h2 := heap_alloc_new ((w3.alloc fxZ).alloc (.cells #[.int .i64 7, .int .i64 0, .string ⟨#[]⟩, .int .u64 0, .int .u64 0, .int .u64 0, .int .u64 0] 51)) (.cells #[.slice A1 na.length n1, .slice A2 nb.length n2] 34)
    rw [World.size_alloc, World.size_alloc] at h2
    refine ⟨((h0.alloc h1 _).alloc (by rw [World.size_alloc]; omega) _).alloc (by rw [World.size_alloc, World.size_alloc]; omega) _, (((ownB HB.out.2.1 hb).alloc _).alloc _).alloc _, ((ho.alloc _).alloc _).alloc _, by rw [World.size_alloc, World.size_alloc, World.size_alloc]; omega, ?_, ?_⟩
    · rw [cell_of_row _ _ 0 _ 34 (0, 0) h2]; rfl
    · rw [cell_of_row _ _ 1 _ 34 (0, 0) h2]; rfl)
  have HF := (show Hid (FX (w3.alloc fxZ) k1 0 0 ∧ FX (w3.alloc fxZ) w3.heap.size 0 0) from ⟨(HB.out.2.2.below hb).below (below_box _ _), ⟨heap_alloc_new w3 _⟩⟩)
  generalize w2.heap.size = kk at *
  have c1 := HF.out.1.c1
  have c2 := HF.out.2.c1
  clear hb HQ HB ho
  go_wp2_with fail
  clear c1 c2 HF m1 m2 m3 m4
  generalize hT : ((⟨#[40]⟩ : ByteArray) ++ a ++ ⟨#[10, 41, 32, 40]⟩ ++ b ++ (⟨#[10, 41]⟩ : ByteArray)) = t4 at *
  have HT := (show Hid (rwT false a b = t4) from hT)
  clear hT
  generalize ((w3.alloc fxZ).alloc (.cells #[.int .i64 7, .int .i64 0, .string ⟨#[]⟩, .int .u64 0, .int .u64 0, .int .u64 0, .int .u64 0] 51)).alloc (.cells #[.slice A1 na.length n1, .slice A2 nb.length n2] 34) = w6 at *
  generalize w3.heap.size = k2 at *
  refine (HJ.out _ _ _ _ _ _ HB2.out.2.1 HB2.out.2.2.1 HB2.out.2.2.2.1 HB2.out.2.2.2.2.1 HB2.out.2.2.2.2.2).mono ?_
  rintro e w7 ⟨⟨v, rfl, ho⟩, hb⟩
  have HB7 := (show Hid (Below w.heap.size w w7 ∧ w7.ownsRow w6.heap.size 51 7 v (T.jnL (nd0 7) [na, nb]).length (T.ndc (T.jnL (nd0 7) [na, nb]))) from ⟨HB2.out.1.trans (hb.mono HB2.out.1.size), ho⟩)
  clear ho hb HB2 HJ
  by_cases hj : T.jnE (nd0 7) [na, nb] = 0
  · have t1 : (T.jnE (nd0 7) [na, nb] != 0) = false := by rw [hj]; rfl
    have eJ : T.jnL (nd0 7) [na, nb] = na ++ nb ++ [nd0 7] := by unfold T.jnL; rw [if_pos hj]; simp
    have HJ := (show Hid (T.jnE (nd0 (rwO false)) [na, nb] = 0) from hj)
    have hn0 : (na ++ nb ++ [nd0 7]).length ≤ 2048 := by have := ck_len (jn_ck hj); simpa using this
    have HN := (show Hid ((na ++ nb ++ [nd0 7]).length ≤ 2048) from hn0)
    rw [eJ] at HB7
    generalize T.jnE (nd0 7) [na, nb] = je at *
    by_cases hs : t4.size ≤ 65536
    · have t2 : ¬ (65536 : Int) < (t4.size : Int) := by omega
      rcases paR_rows false HA.out.1 HA.out.2 (by rw [HT.out]; exact hs) HJ.out with q | ⟨⟨p, q⟩, q2⟩
      · have HX : Hid (∀ W, GW W → Calls Tryz.prog 13 #[.string t4] W fun e w' => (∃ v, e = .returned (.tuple #[v, .agg #[.int .i64 0, .int .i64 0]]) ∧ w'.ownsRow W.heap.size 51 7 v (na ++ nb ++ [nd0 7]).length (T.ndc (na ++ nb ++ [nd0 7]))) ∧ Below W.heap.size W w') := fun W hW => by
          rw [HT.out] at q
          refine (HK.out t4 _ q W hW).mono ?_
          rintro e w' ⟨⟨v, ns', h3, h4, h5⟩, h2⟩
          injection h3 with h6 _
          injection h6 with _ h8
          subst h8
          exact ⟨⟨v, h4, h5⟩, h2⟩

        clear HT HA HS hj eJ HK hn0 q
        go_wp2_with fail
        refine (HX.out _ (HG.out.later HB7.out.1)).mono ?_
        rintro e w8 ⟨⟨v8, rfl, ho⟩, hb⟩
        have HB8 := (show Hid (Below w.heap.size w (w8.alloc fxZ) ∧ (w8.alloc fxZ).ownsRow w6.heap.size 51 7 v (na ++ nb ++ [nd0 7]).length (T.ndc (na ++ nb ++ [nd0 7])) ∧ (w8.alloc fxZ).ownsRow w7.heap.size 51 7 v8 (na ++ nb ++ [nd0 7]).length (T.ndc (na ++ nb ++ [nd0 7])) ∧ FX (w8.alloc fxZ) w8.heap.size 0 0) from ⟨(HB7.out.1.trans (hb.mono HB7.out.1.size)).alloc (Nat.le_trans HB7.out.1.size hb.size) _, (ownB HB7.out.2 hb).alloc _, ho.alloc _, ⟨heap_alloc_new w8 _⟩⟩)
        have c1 := HB8.out.2.2.2.c1
        clear ho hb HB7 HX
        go_wp2_with fail
        clear c1
        generalize w8.alloc fxZ = w9 at *
        generalize w8.heap.size = k8 at *
        refine (HL.out _ (HG.out.later HB8.out.1)).mono ?_
        rintro e w10 ⟨rfl, hb⟩
        have HB10 := (show Hid (Below w.heap.size w w10 ∧ w10.ownsRow w6.heap.size 51 7 v (na ++ nb ++ [nd0 7]).length (T.ndc (na ++ nb ++ [nd0 7])) ∧ w10.ownsRow w7.heap.size 51 7 v8 (na ++ nb ++ [nd0 7]).length (T.ndc (na ++ nb ++ [nd0 7])) ∧ FX w10 k8 0 0) from ⟨HB8.out.1.trans (hb.mono HB8.out.1.size), ownB HB8.out.2.1 hb, ownB HB8.out.2.2.1 hb, HB8.out.2.2.2.below hb⟩)
        clear hb HB8 HL
        have c0 := HB10.out.2.2.2.c0
        have c1 := HB10.out.2.2.2.c1
        go_wp2_with fail
        refine (HSm.out _ HN.out _ _ _ _ _ HB10.out.2.2.1 HB10.out.2.1).mono ?_
        rintro e w11 ⟨rfl, hb⟩
        have HB11 := (show Hid (Below w.heap.size w w11) from HB10.out.1.trans (hb.mono HB10.out.1.size))
        clear hb HB10 c0 c1
        go_wp2_with fail
        go_ret
        exact ⟨rfl, HB11.out⟩
      · have HX : Hid (∀ W, GW W → Calls Tryz.prog 13 #[.string t4] W fun e w' => e = .returned (.tuple #[.slice none 0 0, .agg #[.int .i64 p, .int .i64 4]]) ∧ Below W.heap.size W w') := fun W hW => by
          rw [HT.out] at q
          exact HK.out t4 _ q W hW
        have t3 : (240 : Int) < (t4.size : Int) := by rw [HT.out] at q2; omega
        clear HT HA HS hj eJ HK hn0 q q2
        go_wp2_with fail
        refine (HX.out _ (HG.out.later HB7.out.1)).mono ?_
        rintro e w8 ⟨rfl, hb⟩
        have HB8 := (show Hid (Below w.heap.size w (w8.alloc (.cells #[.int .i64 p, .int .i64 4] 27)) ∧ FX (w8.alloc (.cells #[.int .i64 p, .int .i64 4] 27)) w8.heap.size p 4) from ⟨(HB7.out.1.trans (hb.mono HB7.out.1.size)).alloc (Nat.le_trans HB7.out.1.size hb.size) _, ⟨heap_alloc_new w8 _⟩⟩)
        have c1 := HB8.out.2.c1
        clear hb HB7 HX
        go_wp2_with fail
        clear c1
        generalize w8.alloc (.cells #[.int .i64 p, .int .i64 4] 27) = w9 at *
        refine (HL.out _ (HG.out.later HB8.out.1)).mono ?_
        rintro e w10 ⟨rfl, hb⟩
        have HB10 := (show Hid (Below w.heap.size w w10) from HB8.out.1.trans (hb.mono HB8.out.1.size))
        clear hb HB8 HL
        go_wp2_with fail
        go_ret
        exact ⟨rfl, HB10.out⟩
    · have t2 : (65536 : Int) < (t4.size : Int) := by omega
      clear HT HA HS hj eJ HK hn0 HN
      go_wp2_with fail
      refine (HL.out _ (HG.out.later HB7.out.1)).mono ?_
      rintro e w8 ⟨rfl, hb⟩
      have HB8 := (show Hid (Below w.heap.size w w8) from HB7.out.1.trans (hb.mono HB7.out.1.size))
      clear hb HB7 HL
      go_wp2_with fail
      go_ret
      exact ⟨rfl, HB8.out⟩
  · have t1 : (T.jnE (nd0 7) [na, nb] != 0) = true := by simpa using hj
    clear HT HA HS hj HK
    generalize T.jnE (nd0 7) [na, nb] = je at *
    go_wp2_with fail
    refine (HL.out _ (HG.out.later HB7.out.1)).mono ?_
    rintro e w8 ⟨rfl, hb⟩
    have HB8 := (show Hid (Below w.heap.size w w8) from HB7.out.1.trans (hb.mono HB7.out.1.size))
    clear hb HB7 HL
    go_wp2_with fail
    go_ret
    exact ⟨rfl, HB8.out⟩
set_option maxRecDepth 100000 in
set_option maxHeartbeats 8000000 in
theorem rows_true (a b : ByteArray) (w : World) (hg : GW w) (na : List Nd) (ha : paR a = .inl [(⟨#[]⟩, na)]) (nb : List Nd) (hb : paR b = .inl [(⟨#[]⟩, nb)]) : Calls Tryz.prog 8 #[.string a, .string b, .bool true] w fun e w' => e = .returned (.bool true) ∧ Below w.heap.size w w' := by
  have HP : Hid (∀ W, GW W → Calls Tryz.prog 13 #[.string a] W fun e w' => (∃ v, e = .returned (.tuple #[v, .agg #[.int .i64 0, .int .i64 0]]) ∧ w'.ownsRow W.heap.size 51 7 v (na).length (T.ndc (na))) ∧ Below W.heap.size W w') := fun W hW => by
    refine (patt_any _ W hW).mono ?_
    rintro e w' ⟨h1, h2⟩
    rw [ha] at h1
    obtain ⟨v, ns', h3, h4, h5⟩ := h1
    injection h3 with h6 _
    injection h6 with _ h8
    subst h8
    exact ⟨⟨v, h4, h5⟩, h2⟩
  have HQ : Hid (∀ W, GW W → Calls Tryz.prog 13 #[.string b] W fun e w' => (∃ v, e = .returned (.tuple #[v, .agg #[.int .i64 0, .int .i64 0]]) ∧ w'.ownsRow W.heap.size 51 7 v (nb).length (T.ndc (nb))) ∧ Below W.heap.size W w') := fun W hW => by
    refine (patt_any _ W hW).mono ?_
    rintro e w' ⟨h1, h2⟩
    rw [hb] at h1
    obtain ⟨v, ns', h3, h4, h5⟩ := h1
    injection h3 with h6 _
    injection h6 with _ h8
    subst h8
    exact ⟨⟨v, h4, h5⟩, h2⟩
  have HL : Hid (∀ W, GW W → Calls Tryz.prog 11 #[] W fun e w' => e = .returned (.bool true) ∧ Below W.heap.size W w') := fun W h => lives_any W h
  have HG := (show Hid (GW w) from hg)
  have HJ : Hid (∀ W v1 v2 B1 B2 k, W.ownsRow B1 51 7 v1 na.length (T.ndc na) → W.ownsRow B2 51 7 v2 nb.length (T.ndc nb) → k < W.heap.size → W.cell? ⟨k, 0, none⟩ = some v1 → W.cell? ⟨k, 1, none⟩ = some v2 → Calls Tryz.prog 19 #[T.ndG (nd0 8), .slice (some ⟨k, 0, none⟩) 2 2] W fun e w' => (∃ v, e = .returned (.tuple #[v, .int .i64 (T.jnE (nd0 8) [na, nb])]) ∧ w'.ownsRow W.heap.size 51 7 v (T.jnL (nd0 8) [na, nb]).length (T.ndc (T.jnL (nd0 8) [na, nb]))) ∧ Below W.heap.size W w') := fun W v1 v2 B1 B2 k h1 h2 hk k1 k2 => by
    obtain ⟨A1, c1, rfl, r1⟩ := T.own_rd h1 rfl
    obtain ⟨A2, c2, rfl, r2⟩ := T.own_rd h2 rfl
    have hla := ck_len (paR_ok1 ha)
    have hlb := ck_len (paR_ok1 hb)
    have hta := pa_tx ha
    have htb := pa_tx hb
    exact T.join_any (nd0 8) [(A1, c1, na), (A2, c2, nb)] _ 2 (by have := nd0_tx 8; omega) (by simp) (fun p hp => by
      simp only [List.mem_cons, List.not_mem_nil, or_false] at hp
      rcases hp with rfl | rfl <;> (dsimp only; omega)) (fun p hp x hx => by
      simp only [List.mem_cons, List.not_mem_nil, or_false] at hp
      rcases hp with rfl | rfl
      · have := hta x hx; omega
      · have := htb x hx; omega) W ⟨fun _ => ⟨k, 0, rfl, hk, fun i p hp => by
        match i, hp with
        | 0, hp => cases hp; exact k1
        | 1, hp => cases hp; exact k2⟩, fun p hp => by
      simp only [List.mem_cons, List.not_mem_nil, or_false] at hp
      rcases hp with rfl | rfl
      · exact r1
      · exact r2⟩
  have hsa := paR_sz ha
  have hsb := paR_sz hb
  have m1 : ¬ 9223372036854775807 < 1 + a.size := by omega
  have m2 : ¬ 9223372036854775807 < 1 + a.size + 6 := by omega
  have m3 : ¬ 9223372036854775807 < 1 + a.size + 6 + b.size := by omega
  have m4 : ¬ 9223372036854775807 < 1 + a.size + 6 + b.size + 2 := by omega
  have HA := (show Hid (paR a = .inl [(⟨#[]⟩, na)] ∧ paR b = .inl [(⟨#[]⟩, nb)]) from ⟨ha, hb⟩)
  have HS := (show Hid (a.size ≤ 65536 ∧ b.size ≤ 65536) from ⟨hsa, hsb⟩)
  have HK : Hid (∀ s r, paR s = r → ∀ W, GW W → Calls Tryz.prog 13 #[.string s] W fun e w' => PaV W w' r e ∧ Below W.heap.size W w') := fun s r hr W hW => by rw [← hr]; exact patt_any s W hW
  have HSm : Hid (∀ L : List Nd, L.length ≤ 2048 → ∀ W v1 v2 B1 B2, W.ownsRow B1 51 7 v1 L.length (T.ndc L) → W.ownsRow B2 51 7 v2 L.length (T.ndc L) → Calls Tryz.prog 15 #[v1, v2] W fun e w' => e = .returned (.bool true) ∧ Below W.heap.size W w') := fun L hn W v1 v2 B1 B2 h1 h2 => by
    have := same_any hn hn h1 h2
    rw [T.patB_refl] at this
    exact this
  have hfe := fx_eql
  clear hg ha hb hsa hsb
  go_enter Tryz.func8, Tryz.ntmps8
  go_wp2_with fail
  refine (HP.out _ HG.out).mono ?_
  rintro e w1 ⟨⟨v, rfl, ho⟩, hb⟩
  obtain ⟨A1, n1, rfl⟩ := own_form ho
  have HB := (show Hid (Below w.heap.size w (w1.alloc fxZ) ∧ (w1.alloc fxZ).ownsRow w.heap.size 51 7 (.slice A1 na.length n1) na.length (T.ndc na) ∧ FX (w1.alloc fxZ) w1.heap.size 0 0) from ⟨hb.alloc hb.size _, ho.alloc _, ⟨heap_alloc_new w1 _⟩⟩)
  clear hb HP ho
  go_wp2_with fail
  generalize w1.alloc fxZ = w2 at *
  generalize w1.heap.size = k1 at *
  refine (HQ.out _ (HG.out.later HB.out.1)).mono ?_
  rintro e w3 ⟨⟨v2, rfl, ho⟩, hb⟩
  obtain ⟨A2, n2, rfl⟩ := own_form ho
  have HB2 := (show Hid (Below w.heap.size w (((w3.alloc fxZ).alloc (.cells #[.int .i64 8, .int .i64 0, .string ⟨#[]⟩, .int .u64 0, .int .u64 0, .int .u64 0, .int .u64 0] 51)).alloc (.cells #[.slice A1 na.length n1, .slice A2 nb.length n2] 34)) ∧ (((w3.alloc fxZ).alloc (.cells #[.int .i64 8, .int .i64 0, .string ⟨#[]⟩, .int .u64 0, .int .u64 0, .int .u64 0, .int .u64 0] 51)).alloc (.cells #[.slice A1 na.length n1, .slice A2 nb.length n2] 34)).ownsRow w.heap.size 51 7 (.slice A1 na.length n1) na.length (T.ndc na) ∧ (((w3.alloc fxZ).alloc (.cells #[.int .i64 8, .int .i64 0, .string ⟨#[]⟩, .int .u64 0, .int .u64 0, .int .u64 0, .int .u64 0] 51)).alloc (.cells #[.slice A1 na.length n1, .slice A2 nb.length n2] 34)).ownsRow w2.heap.size 51 7 (.slice A2 nb.length n2) nb.length (T.ndc nb) ∧ w3.heap.size + 1 + 1 < (((w3.alloc fxZ).alloc (.cells #[.int .i64 8, .int .i64 0, .string ⟨#[]⟩, .int .u64 0, .int .u64 0, .int .u64 0, .int .u64 0] 51)).alloc (.cells #[.slice A1 na.length n1, .slice A2 nb.length n2] 34)).heap.size ∧ (((w3.alloc fxZ).alloc (.cells #[.int .i64 8, .int .i64 0, .string ⟨#[]⟩, .int .u64 0, .int .u64 0, .int .u64 0, .int .u64 0] 51)).alloc (.cells #[.slice A1 na.length n1, .slice A2 nb.length n2] 34)).cell? ⟨w3.heap.size + 1 + 1, 0, none⟩ = some (.slice A1 na.length n1) ∧ (((w3.alloc fxZ).alloc (.cells #[.int .i64 8, .int .i64 0, .string ⟨#[]⟩, .int .u64 0, .int .u64 0, .int .u64 0, .int .u64 0] 51)).alloc (.cells #[.slice A1 na.length n1, .slice A2 nb.length n2] 34)).cell? ⟨w3.heap.size + 1 + 1, 1, none⟩ = some (.slice A2 nb.length n2)) from by
    have h0 : Below w.heap.size w w3 := HB.out.1.trans (hb.mono HB.out.1.size)
    have h1 := h0.size
    have h2 := heap_alloc_new ((w3.alloc fxZ).alloc (.cells #[.int .i64 8, .int .i64 0, .string ⟨#[]⟩, .int .u64 0, .int .u64 0, .int .u64 0, .int .u64 0] 51)) (.cells #[.slice A1 na.length n1, .slice A2 nb.length n2] 34)
    rw [World.size_alloc, World.size_alloc] at h2
    refine ⟨((h0.alloc h1 _).alloc (by rw [World.size_alloc]; omega) _).alloc (by rw [World.size_alloc, World.size_alloc]; omega) _, (((ownB HB.out.2.1 hb).alloc _).alloc _).alloc _, ((ho.alloc _).alloc _).alloc _, by rw [World.size_alloc, World.size_alloc, World.size_alloc]; omega, ?_, ?_⟩
    · rw [cell_of_row _ _ 0 _ 34 (0, 0) h2]; rfl
    · rw [cell_of_row _ _ 1 _ 34 (0, 0) h2]; rfl)
  have HF := (show Hid (FX (w3.alloc fxZ) k1 0 0 ∧ FX (w3.alloc fxZ) w3.heap.size 0 0) from ⟨(HB.out.2.2.below hb).below (below_box _ _), ⟨heap_alloc_new w3 _⟩⟩)
  generalize w2.heap.size = kk at *
  have c1 := HF.out.1.c1
  have c2 := HF.out.2.c1
  clear hb HQ HB ho
  go_wp2_with fail
  clear c1 c2 HF m1 m2 m3 m4
  generalize hT : ((⟨#[40]⟩ : ByteArray) ++ a ++ ⟨#[10, 41, 32, 47, 32, 40]⟩ ++ b ++ (⟨#[10, 41]⟩ : ByteArray)) = t4 at *
  have HT := (show Hid (rwT true a b = t4) from hT)
  clear hT
  generalize ((w3.alloc fxZ).alloc (.cells #[.int .i64 8, .int .i64 0, .string ⟨#[]⟩, .int .u64 0, .int .u64 0, .int .u64 0, .int .u64 0] 51)).alloc (.cells #[.slice A1 na.length n1, .slice A2 nb.length n2] 34) = w6 at *
  generalize w3.heap.size = k2 at *
  refine (HJ.out _ _ _ _ _ _ HB2.out.2.1 HB2.out.2.2.1 HB2.out.2.2.2.1 HB2.out.2.2.2.2.1 HB2.out.2.2.2.2.2).mono ?_
  rintro e w7 ⟨⟨v, rfl, ho⟩, hb⟩
  have HB7 := (show Hid (Below w.heap.size w w7 ∧ w7.ownsRow w6.heap.size 51 7 v (T.jnL (nd0 8) [na, nb]).length (T.ndc (T.jnL (nd0 8) [na, nb]))) from ⟨HB2.out.1.trans (hb.mono HB2.out.1.size), ho⟩)
  clear ho hb HB2 HJ
  by_cases hj : T.jnE (nd0 8) [na, nb] = 0
  · have t1 : (T.jnE (nd0 8) [na, nb] != 0) = false := by rw [hj]; rfl
    have eJ : T.jnL (nd0 8) [na, nb] = na ++ nb ++ [nd0 8] := by unfold T.jnL; rw [if_pos hj]; simp
    have HJ := (show Hid (T.jnE (nd0 (rwO true)) [na, nb] = 0) from hj)
    have hn0 : (na ++ nb ++ [nd0 8]).length ≤ 2048 := by have := ck_len (jn_ck hj); simpa using this
    have HN := (show Hid ((na ++ nb ++ [nd0 8]).length ≤ 2048) from hn0)
    rw [eJ] at HB7
    generalize T.jnE (nd0 8) [na, nb] = je at *
    by_cases hs : t4.size ≤ 65536
    · have t2 : ¬ (65536 : Int) < (t4.size : Int) := by omega
      rcases paR_rows true HA.out.1 HA.out.2 (by rw [HT.out]; exact hs) HJ.out with q | ⟨⟨p, q⟩, q2⟩
      · have HX : Hid (∀ W, GW W → Calls Tryz.prog 13 #[.string t4] W fun e w' => (∃ v, e = .returned (.tuple #[v, .agg #[.int .i64 0, .int .i64 0]]) ∧ w'.ownsRow W.heap.size 51 7 v (na ++ nb ++ [nd0 8]).length (T.ndc (na ++ nb ++ [nd0 8]))) ∧ Below W.heap.size W w') := fun W hW => by
          rw [HT.out] at q
          refine (HK.out t4 _ q W hW).mono ?_
          rintro e w' ⟨⟨v, ns', h3, h4, h5⟩, h2⟩
          injection h3 with h6 _
          injection h6 with _ h8
          subst h8
          exact ⟨⟨v, h4, h5⟩, h2⟩

        clear HT HA HS hj eJ HK hn0 q
        go_wp2_with fail
        refine (HX.out _ (HG.out.later HB7.out.1)).mono ?_
        rintro e w8 ⟨⟨v8, rfl, ho⟩, hb⟩
        have HB8 := (show Hid (Below w.heap.size w (w8.alloc fxZ) ∧ (w8.alloc fxZ).ownsRow w6.heap.size 51 7 v (na ++ nb ++ [nd0 8]).length (T.ndc (na ++ nb ++ [nd0 8])) ∧ (w8.alloc fxZ).ownsRow w7.heap.size 51 7 v8 (na ++ nb ++ [nd0 8]).length (T.ndc (na ++ nb ++ [nd0 8])) ∧ FX (w8.alloc fxZ) w8.heap.size 0 0) from ⟨(HB7.out.1.trans (hb.mono HB7.out.1.size)).alloc (Nat.le_trans HB7.out.1.size hb.size) _, (ownB HB7.out.2 hb).alloc _, ho.alloc _, ⟨heap_alloc_new w8 _⟩⟩)
        have c1 := HB8.out.2.2.2.c1
        clear ho hb HB7 HX
        go_wp2_with fail
        clear c1
        generalize w8.alloc fxZ = w9 at *
        generalize w8.heap.size = k8 at *
        refine (HL.out _ (HG.out.later HB8.out.1)).mono ?_
        rintro e w10 ⟨rfl, hb⟩
        have HB10 := (show Hid (Below w.heap.size w w10 ∧ w10.ownsRow w6.heap.size 51 7 v (na ++ nb ++ [nd0 8]).length (T.ndc (na ++ nb ++ [nd0 8])) ∧ w10.ownsRow w7.heap.size 51 7 v8 (na ++ nb ++ [nd0 8]).length (T.ndc (na ++ nb ++ [nd0 8])) ∧ FX w10 k8 0 0) from ⟨HB8.out.1.trans (hb.mono HB8.out.1.size), ownB HB8.out.2.1 hb, ownB HB8.out.2.2.1 hb, HB8.out.2.2.2.below hb⟩)
        clear hb HB8 HL
        have c0 := HB10.out.2.2.2.c0
        have c1 := HB10.out.2.2.2.c1
        go_wp2_with fail
        refine (HSm.out _ HN.out _ _ _ _ _ HB10.out.2.2.1 HB10.out.2.1).mono ?_
        rintro e w11 ⟨rfl, hb⟩
        have HB11 := (show Hid (Below w.heap.size w w11) from HB10.out.1.trans (hb.mono HB10.out.1.size))
        clear hb HB10 c0 c1
        go_wp2_with fail
        go_ret
        exact ⟨rfl, HB11.out⟩
      · have HX : Hid (∀ W, GW W → Calls Tryz.prog 13 #[.string t4] W fun e w' => e = .returned (.tuple #[.slice none 0 0, .agg #[.int .i64 p, .int .i64 4]]) ∧ Below W.heap.size W w') := fun W hW => by
          rw [HT.out] at q
          exact HK.out t4 _ q W hW
        have t3 : (240 : Int) < (t4.size : Int) := by rw [HT.out] at q2; omega
        clear HT HA HS hj eJ HK hn0 q q2
        go_wp2_with fail
        refine (HX.out _ (HG.out.later HB7.out.1)).mono ?_
        rintro e w8 ⟨rfl, hb⟩
        have HB8 := (show Hid (Below w.heap.size w (w8.alloc (.cells #[.int .i64 p, .int .i64 4] 27)) ∧ FX (w8.alloc (.cells #[.int .i64 p, .int .i64 4] 27)) w8.heap.size p 4) from ⟨(HB7.out.1.trans (hb.mono HB7.out.1.size)).alloc (Nat.le_trans HB7.out.1.size hb.size) _, ⟨heap_alloc_new w8 _⟩⟩)
        have c1 := HB8.out.2.c1
        clear hb HB7 HX
        go_wp2_with fail
        clear c1
        generalize w8.alloc (.cells #[.int .i64 p, .int .i64 4] 27) = w9 at *
        refine (HL.out _ (HG.out.later HB8.out.1)).mono ?_
        rintro e w10 ⟨rfl, hb⟩
        have HB10 := (show Hid (Below w.heap.size w w10) from HB8.out.1.trans (hb.mono HB8.out.1.size))
        clear hb HB8 HL
        go_wp2_with fail
        go_ret
        exact ⟨rfl, HB10.out⟩
    · have t2 : (65536 : Int) < (t4.size : Int) := by omega
      clear HT HA HS hj eJ HK hn0 HN
      go_wp2_with fail
      refine (HL.out _ (HG.out.later HB7.out.1)).mono ?_
      rintro e w8 ⟨rfl, hb⟩
      have HB8 := (show Hid (Below w.heap.size w w8) from HB7.out.1.trans (hb.mono HB7.out.1.size))
      clear hb HB7 HL
      go_wp2_with fail
      go_ret
      exact ⟨rfl, HB8.out⟩
  · have t1 : (T.jnE (nd0 8) [na, nb] != 0) = true := by simpa using hj
    clear HT HA HS hj HK
    generalize T.jnE (nd0 8) [na, nb] = je at *
    go_wp2_with fail
    refine (HL.out _ (HG.out.later HB7.out.1)).mono ?_
    rintro e w8 ⟨rfl, hb⟩
    have HB8 := (show Hid (Below w.heap.size w w8) from HB7.out.1.trans (hb.mono HB7.out.1.size))
    clear hb HB7 HL
    go_wp2_with fail
    go_ret
    exact ⟨rfl, HB8.out⟩
/-- NotationRows, at any two texts. -/
theorem rows_any (a b : ByteArray) (g : Bool) (w : World) (hg : GW w) : Calls Tryz.prog 8 #[.string a, .string b, .bool g] w fun e w' => e = .returned (.bool true) ∧ Below w.heap.size w w' := by
  cases ha : paR a with
  | inr p =>
    cases hb : paR b with
    | inr q => exact rows_nn a b g w hg p ha q hb
    | inl gs =>
      obtain ⟨_, ns, _, rfl, _⟩ := paR_ok hb
      exact rows_ny a b g w hg p ha ns hb
  | inl gs =>
    obtain ⟨_, na, _, rfl, _⟩ := paR_ok ha
    cases hb : paR b with
    | inr q => exact rows_yn a b g w hg na ha q hb
    | inl gs =>
      obtain ⟨_, nb, _, rfl, _⟩ := paR_ok hb
      cases g
      · exact rows_false a b w hg na ha nb hb
      · exact rows_true a b w hg na ha nb hb
end Go.Proofs.YtkihfkcmcdiajaaGreatDoor.N

namespace Go.Proofs.YtkihfkcmcdiajaaGreatDoor
open Go.ChangeShapes Go.WideShapes Go.ChangeAt Go.RowKit
open Go.ChangeMaps (open_string shut_string)
set_option maxRecDepth 100000 in
theorem notationRows_contract (H : Type) (enc : TypeId × Value → H) (W : World) (base : Nat) (args : Array Value) (ds gs : List (DataW H)) (before : List MemPlace)
    (hval0 : ∀ (j : Nat) t v, Tryz.f8.params[j]? = some t → args[j]? = some v → Value.okWide Tryz.prog W .any base t v)
    (hW : DataW.Whole enc Tryz.prog Tryz.f8.params.toList Rows.notationRowsSpec.vars false W args.toList ds gs before) (hvb : N.GW W)
    (hsz : (DataW.weightsEach Tryz.prog (Tryz.f8.params.toList ++ (OpenSpec.ofChange Rows.notationRowsSpec).bare.plain.varTypes Tryz.prog) (ds ++ gs)).all (· ≤ reachBytes) = true) :
    Calls Tryz.prog 8 args W fun e W' => ∃ v, e = .returned v ∧ Rows.notationRowsSpec.post enc Tryz.prog Tryz.f8 false true false false W args v W' := by
  have hval : ∀ (j : Nat) t v, Tryz.f8.params[j]? = some t → args[j]? = some v → Value.okWide Tryz.prog W .any base t v := hval0
  have hW' := hW
  obtain ⟨p, q, hA0, hV, rfl, hfz, hnd⟩ := hW
  have hA : DataW.TrodAll enc Tryz.prog W 0 (fun _ => true) true Tryz.f8.params.toList args.toList ds p := hA0
  rw [Tryz.params8] at hA hval hsz
  obtain ⟨v1, v2, v3, d1, d2, d3, p1, p2, p3, rfl, rfl, rfl, h1, h2, h3⟩ := trodAll_three hA
  obtain ⟨rfl, rfl⟩ := trodVars_none hV
  obtain ⟨s1, rfl, rfl, rfl, hs1⟩ := open_string Tryz.underlying9 (hval 0 9 v1 rfl rfl) h1
  obtain ⟨s2, rfl, rfl, rfl, hs2⟩ := open_string Tryz.underlying9 (hval 1 9 v2 rfl rfl) h2
  obtain ⟨m3, rfl, rfl, rfl⟩ := open_bool Tryz.underlying4 (hval 2 4 v3 rfl rfl) h3
  clear hA0 hval0
  refine (N.rows_any s1 s2 m3 W hvb).mono fun e W' ⟨he, bel⟩ => ?_
  subst he
  exact ⟨_, rfl, _, _, _, [], _, [], hW', trodAll_mk1 (shut_bool Tryz.underlying4 _), (trodAll_cons_mk (shut_string Tryz.underlying9 hs1) (trodAll_cons_mk (shut_string Tryz.underlying9 hs2) (trodAll_cons_mk (shut_bool Tryz.underlying4 _) trodAll_mk0))), rfl, bel.frame _, fun h => by cases h⟩

theorem notationRows_met (os : Os) : laidMet Tryz.prog Rows.notationRowsRow.laid ((layTab (World.holding Tryz.prog os ⟨#[], #[], []⟩)).forCall (fun _ _ => 0) ⟨#[], #[.string ByteArray.empty, .string ByteArray.empty, .bool false], []⟩).memory :=
  laidMet_of_run' 8 (by kernel_rfl) (by kernel_rfl)
theorem notationRows_reads (os : Os) {H : Type} (enc : TypeId × Value → H) : ∃ places, DataW.whole enc Tryz.prog ((layTab (World.holding Tryz.prog os ⟨#[], #[], []⟩)).forCall (fun _ _ => 0) ⟨#[], #[.string ByteArray.empty, .string ByteArray.empty, .bool false], []⟩).memory Tryz.f8.params.toList Rows.notationRowsSpec.vars false (#[.string ByteArray.empty, .string ByteArray.empty, .bool false] : Array Value).toList 8 = some ([.lit (.string []), .lit (.string []), .lit (.bool false)], [], places) :=
  ⟨[], by kernel_rfl⟩

set_option maxRecDepth 100000 in
theorem notationRows_lifted (os : Os) (started : os.Started) (H : Type) (enc : TypeId × Value → H) (F : Stop.Interp) :
    ReturnsInHanded {} Tryz.checked os 8 .any ((OpenSpec.ofChange Rows.notationRowsSpec).preRow enc Tryz.prog Tryz.f8 Rows.notationRowsRow.domain false Rows.notationRowsRow.laid) (((OpenSpec.ofChange Rows.notationRowsSpec).at F).post enc Tryz.prog Tryz.f8 false true false false) := by
  obtain ⟨places, hx⟩ := notationRows_reads os enc
  refine returnsInHanded_of_row (C := Tryz.checked) (s := OpenSpec.ofChange Rows.notationRowsSpec) own started (by kernel_rfl) Tryz.func8
    (witness_row_at (enc := enc) (C := Tryz.checked) false (layTab (World.holding Tryz.prog os ⟨#[], #[], []⟩)) #[.string ByteArray.empty, .string ByteArray.empty, .bool false] rfl (by kernel_rfl) (by kernel_rfl) (by kernel_rfl)
      (OpenSpec.preRow_of_cond 8 hx (by kernel_rfl) (fun k hk => by cases hk) (by kernel_rfl) (notationRows_met os))) ?_
  intro W base args ds gs before hval hW _ hcond hsz hL _ _
  exact notationRows_contract H enc W base args ds gs before hval hW (gw_of_laid hL) hsz

theorem notationRows_row : Rows.NotationRowsSaid :=
  OpenClaim.holds_of_cond 8 Tryz.f8 rfl rfl rfl rfl rfl rfl rfl ⟨rfl, rfl, rfl, rfl, rfl⟩ rfl rfl rfl rfl rfl (by kernel_rfl) Tryz.func8 (by kernel_rfl)
    (of_decide_eq_true (by kernel_rfl)) (by unfold Func.isWrapper; first | (rw [if_pos (by decide +kernel)]; kernel_rfl) | (rw [if_neg (by decide +kernel)]; exact ⟨rfl, rfl⟩))
    (fun os started H enc _ F => by rw [OpenClaim.pre_eq_preRow]; exact notationRows_lifted os started H enc F)
theorem notationRows_plain (f : FuncId) (fn : Func) (hf : Tryz.pinned.checked.prog.funcNamed "harrow/harrowlaw06.NotationRows" = some f) (hfn : Tryz.pinned.checked.prog.funcs[f]? = some fn) :
    true = Tryz.pinned.checked.prog.looks [] ∧ ∀ (j : Nat) t, fn.params[j]? = some t → Tryz.pinned.checked.prog.wantsStandIn t = false := by
  obtain rfl : f = 8 := Option.some.inj ((show Tryz.prog.funcNamed "harrow/harrowlaw06.NotationRows" = some 8 by kernel_rfl).symm.trans hf) |>.symm
  obtain rfl : fn = Tryz.f8 := (Option.some.inj (Tryz.func8.symm.trans hfn)).symm
  refine ⟨by kernel_rfl, fun j t ht => ?_⟩
  rw [Tryz.params8] at ht
  have hm : t ∈ [9, 9, 4] := by simpa using Array.mem_of_getElem? ht
  have hall : ([9, 9, 4].all fun u => !Tryz.prog.wantsStandIn u) = true := by kernel_rfl
  exact (show Tryz.prog.wantsStandIn t = false by simpa using List.all_eq_true.1 hall t hm)
theorem notationRows_holds : Rows.NotationRowsCardSaid :=
  Claim7.holds_tied_plain_at .later [] _ _ _ _ notationRows_row (fun _ h => by cases h) (by kernel_rfl) (fun _ h => by cases h) notationRows_row_tie rfl ⟨rfl, rfl⟩ (by kernel_rfl) rfl notationRows_plain (by kernel_rfl)
end Go.Proofs.YtkihfkcmcdiajaaGreatDoor
