/- DERIVED. Walks: Join, by the document. -/
import Derived.Test.YtfomodpjdaclgabJnA
namespace Go.Proofs.Ytfomodpjdaclgab
open Go.RowKit

/-- While the parts are laid one behind the other. -/
structure AtK (w wr : World) (n : Nd) (Ps : List (List Nd)) (i : Nat) (v : Value) : Prop where
  j : AtJ w wr n Ps i
  o : wr.ownsRow (w.heap.size + 1) 37 7 v (Ps.take i).flatten.length (ndc (Ps.take i).flatten)
theorem take_flat {Ps : List (List Nd)} {i : Nat} {p : List Nd} (h : Ps[i]? = some p) : (Ps.take (i + 1)).flatten = (Ps.take i).flatten ++ p := by
  rw [List.take_add_one, h, List.flatten_append]
  simp
theorem take_flat_len {Ps : List (List Nd)} : ∀ {i : Nat}, (∀ j q, j < i → Ps[j]? = some q → (ck q).2 = 0) → (Ps.take i).flatten.length ≤ 2048 * i := by
  intro i
  induction i with
  | zero => intro _; simp
  | succ i ih =>
    intro h
    have h1 := ih (fun j q hj hq => h j q (by omega) hq)
    by_cases hi : i < Ps.length
    · have hp := List.getElem?_eq_getElem hi
      have := (rt_of (h i _ (by omega) hp)).len
      rw [take_flat hp, List.length_append]
      omega
    · rw [List.take_of_length_le (by omega)]
      rw [List.take_of_length_le (by omega)] at h1
      omega

set_option maxRecDepth 100000 in
set_option maxHeartbeats 8000000 in
theorem joinR_any (n : Nd) (ps : List Ls) (A : Option Addr) (c : Nat) (hn : n.tx.size ≤ 140737488355328) (hm : ps.length ≤ 140737488355328) (hl : ∀ p ∈ ps, p.2.2.length ≤ 140737488355328) (ht : ∀ p ∈ ps, ∀ x ∈ p.2.2, x.tx.size ≤ 140737488355328) (w : World) (h : RdL w A ps) :
    Calls Try.prog 22 #[ndG n, .slice A ps.length c] w fun e w' => JnV w w' n (ps.map fun p => p.2.2) e ∧ Below w.heap.size w w' := by
  obtain ⟨i0, hinf, hz0, hz1, hz2⟩ := info_parts Try.info43
  obtain ⟨Ps, hPs⟩ : ∃ Ps, Ps = ps.map fun p => p.2.2 := ⟨_, rfl⟩
  have hlen : Ps.length = ps.length := by rw [hPs, List.length_map]
  have HAr : Hid (∀ w, Calls Try.prog 34 #[.int .i64 n.op] w fun e w' => e = .returned (.int .i64 (ar n.op)) ∧ w' = w) := fun w => arityR_any n.op w
  have HFi : Hid (∀ w, Calls Try.prog 35 #[ndG n] w fun e w' => e = .returned (.bool (fdF n)) ∧ Below w.heap.size w w') := fun w => fieldR n hn w
  have HK : Hid (∀ (i : Nat) p, ps[i]? = some p → Ps[i]? = some p.2.2 ∧ (∀ W, Below w.heap.size w W → ∃ g o, A = some ⟨g, o, none⟩ ∧ W.cell? ⟨g, o + i, none⟩ = some (.slice p.1 p.2.2.length p.2.1)) ∧ (∀ W, Below w.heap.size w W → Calls Try.prog 33 #[.slice p.1 p.2.2.length p.2.1] W fun e w' => e = .returned (.tuple #[.int .i64 (ck p.2.2).1, .int .i64 (ck p.2.2).2]) ∧ Below W.heap.size W w') ∧ ((ck p.2.2).2 = 0 → ∃ ad, p.1 = some ad ∧ p.2.2.length ≤ 2048 ∧ ∀ W, Below w.heap.size w W → ∀ (k : Nat) u, (ndc p.2.2)[k]? = some u → W.cell? (ad.add k) = some u)) := fun i p hp => by
    have hmem := List.mem_of_getElem? hp
    refine ⟨by rw [hPs, List.getElem?_map, hp]; rfl, fun W hW => ?_, fun W hW => checkR_any p.2.2 p.1 p.2.1 (hl p hmem) (ht p hmem) W ((h.2 p hmem).below hW (Nat.le_refl _)), fun h0 => ?_⟩
    · obtain ⟨g, o, e, lg, hc⟩ := h.1 (by rintro rfl; cases hmem)
      exact ⟨g, o, e, (hW.cell (p := ⟨g, o + i, none⟩) lg).trans (hc i p hp)⟩
    · have hr := rt_of h0
      obtain ⟨g, o, e, _, _⟩ := h.2 p hmem (by have := (pt_last hr).2; intro q; rw [q] at this; simp at this)
      have h3 := h.2 p hmem
      rw [e] at h3 ⊢
      exact ⟨_, rfl, by have := hr.len; omega, fun W hW => in_cells (h3.below hW (Nat.le_refl _))⟩
  have HG := (show Hid (∀ i, i < ps.length → ∃ p, ps[i]? = some p) from fun i hi => ⟨_, List.getElem?_eq_getElem hi⟩)
  have HCk : Hid (∀ W v (F : List Nd), F.length ≤ 8192 → (∀ x ∈ F, x.tx.size ≤ 140737488355328) → W.ownsRow w.heap.size 37 7 v F.length (ndc F) → Calls Try.prog 33 #[v] W fun e w' => e = .returned (.tuple #[.int .i64 (ck F).1, .int .i64 (ck F).2]) ∧ Below W.heap.size W w') := fun W v F hF hx hv => by
    obtain ⟨A, c, rfl, hrd⟩ := own_rd hv rfl
    exact checkR_any F A c (by omega) hx W hrd
  have HTx := (show Hid (∀ x ∈ Ps.flatten ++ [n], x.tx.size ≤ 140737488355328) from fun x hx => by
    rcases List.mem_append.1 hx with hx | hx
    · obtain ⟨q, hq, hx⟩ := List.mem_flatten.1 hx
      rw [hPs] at hq
      obtain ⟨p, hp, rfl⟩ := List.mem_map.1 hq
      exact ht p hp x hx
    · cases List.mem_singleton.1 hx; exact hn)
  have HJ0 := (show Hid (AtJ w (w.alloc (ndO n)) n Ps 0) from ⟨below_box _ _, ⟨heap_alloc_new w _⟩, fun j q hj => by omega⟩)
  have HPs := (show Hid (Ps.length = ps.length) from hlen)
  rw [← hPs]
  clear h hl ht hPs hlen
  obtain ⟨d0, d1, d2, d3, d4, d5, d6⟩ := HJ0.out.x.cells
  go_enter Try.func22, Try.ntmps22
  go_wp2_with fail
  refine (HAr.out _).mono ?_
  rintro e w2 ⟨rfl, rfl⟩
  clear HAr
  by_cases ha : ar n.op < 0
  · have HE := (show Hid (jnE n Ps = 40) from by
      have h1 : alE n = 40 := by unfold alE; rw [if_pos ha]
      rw [show jnE n Ps = alE n from jnE_1 (by rw [h1]; decide)]; exact h1)
    clear HK HG HCk HTx HFi
    go_wp2_with fail
    go_ret2
    exact ⟨JnV.bad HE.out (by decide), HJ0.out.b⟩
  · go_wp2_with fail
    refine (HFi.out _).mono ?_
    rintro e w2 ⟨rfl, b2⟩
    have HJ2 := (show Hid (AtJ w w2 n Ps 0) from HJ0.out.below b2)
    clear HFi b2 HJ0 d0 d1 d2 d3 d4 d5 d6
    by_cases hf : fdF n = true
    · have HI := (show Hid (alE n = 0) from by show alE n = 0; unfold alE; rw [if_neg (by omega), if_pos hf])
      by_cases hb : (ps.length : Int) = ar n.op
      · have t2 : (ar n.op != (ps.length : Int)) = false := by rw [hb]; simp
        have HI2 := (show Hid ((ps.length : Int) = ar n.op) from hb)
        have hm2 : ps.length ≤ 2 := by have := ar_hi n.op; omega
        have HK0 := (show Hid (AtK w (w2.alloc (.cells #[] 37)) n Ps 0 (.slice (some ⟨w2.heap.size, 0, none⟩) 0 0)) from ⟨HJ2.out.below (below_box _ _), own_base (own_empty w2) HJ2.out.x.lt⟩)
        clear hb HJ2
        generalize hmm : ps.length = m at *
        clear hmm
        go_wp2_with fail
        go_loopw [7, 8] (fun v t wr => ∃ i : Nat, i ≤ m ∧ t = .int .i64 i ∧ Hid (AtK w wr n Ps i v)) (fun _ t _ => m - (intOf t).toNat)
        case atStart => exact ⟨0, by omega, by go_num, HK0⟩
        case round =>
          obtain ⟨i, hi, rfl, HW⟩ := hrel
          clear HK0
          by_cases hlt : i < m
          · obtain ⟨p, hp⟩ := HG.out i hlt
            obtain ⟨hq, hcell, hck, hgd⟩ := HK.out i p hp
            obtain ⟨g, o, rfl, e0⟩ := hcell wr HW.out.j.b
            have z0 : (0 : Int) ≤ (i : Int) := by omega
            have z1 : (i : Int) < (m : Int) := by omega
            have HCl := (show Hid (∀ _ : Unit, Calls Try.prog 33 #[.slice p.1 p.2.2.length p.2.1] wr fun e w' => e = .returned (.tuple #[.int .i64 (ck p.2.2).1, .int .i64 (ck p.2.2).2]) ∧ Below wr.heap.size wr w') from fun _ => hck wr HW.out.j.b)
            have HQ := (show Hid (Ps[i]? = some p.2.2) from hq)
            have HGd := (show Hid _ from hgd)
            have HCe := (show Hid (∀ W, Below w.heap.size w W → W.cell? ⟨g, o + i, none⟩ = some (.slice p.1 p.2.2.length p.2.1)) from fun W hW => by
              obtain ⟨g2, o2, e, h2⟩ := hcell W hW
              cases e
              exact h2)
            obtain ⟨Ap, cp, Lp⟩ := p
            simp only at e0 HCl HQ HGd HCe
            clear hp hq hcell hck hgd HK HG HCk HTx
            go_wp2_with fail
            refine (HCl.out ()).mono ?_
            rintro e w5 ⟨rfl, b5⟩
            have HW5 := (show Hid (AtK w w5 n Ps i u7) from ⟨HW.out.j.below b5, own_below HW.out.o b5⟩)
            clear HCl HW b5 e0
            by_cases hc : (ck Lp).2 = 0
            · have t3 : ((ck Lp).2 != 0) = false := by rw [hc]; rfl
              obtain ⟨ad, rfl, hl8, hcs⟩ := HGd.out hc
              have e1 := HCe.out w5 HW5.out.j.b
              have HLq := (show Hid ((ndc Lp).length = Lp.length * 7 ∧ ∀ u ∈ ndc Lp, u.oneCell' = true) from ⟨ndc_len Lp, ndc_cell Lp⟩)
              have HCs := (show Hid (∀ (k : Nat) u, (ndc Lp)[k]? = some u → w5.cell? (ad.add k) = some u) from hcs w5 HW5.out.j.b)
              have hfl := take_flat_len HW5.out.j.z
              have hO : w5.ownsRow (w.heap.size + 1) 37 7 u7 (Ps.take i).flatten.length (ndc (Ps.take i).flatten) := HW5.out.o
              have hs5 : w.heap.size + 1 ≤ w5.heap.size := HW5.out.j.x.lt
              have HEq := (show Hid ((Ps.take (i + 1)).flatten = (Ps.take i).flatten ++ Lp) from take_flat HQ.out)
              have HJ6 := (show Hid (AtJ w w5 n Ps (i + 1)) from HW5.out.j.next HQ.out hc)
              clear hc HW5 HQ HGd HCe hcs
              generalize (Ps.take i).flatten = F at *
              go_wp2_with (at_builtin; refine wpList_append_own _ rfl _ _ 23 rfl (w.heap.size + 1) 37 i0 zA 7 64 Try.underlying23 hinf hz0 hz1 hz2 rfl (by decide) _ _ _ rfl hO ad Lp.length cp (ndc Lp) rfl HLq.out.1 HCs.out HLq.out.2 ?c3 ?c4 ?c5 ?_)
              case c3 => unfold maxLen; omega
              case c4 => omega
              case c5 => omega
              intro v6 w6 ho6 hg6 _
              have HK6 := (show Hid (AtK w w6 n Ps (i + 1) v6) from by
                refine ⟨⟨HJ6.out.b.grown hg6 HJ6.out.b.size (fun k e => Nat.le_of_succ_le (hO.lt k e).1), HJ6.out.x.same (hg6.block _ HJ6.out.x.lt (fun e => by have := (hO.lt _ e.symm).1; omega)), HJ6.out.z⟩, ?_⟩
                rw [HEq.out, ndc_append, List.length_append]; exact ho6)
              clear hg6 ho6 hO HJ6 HEq HLq HCs e1
              go_wp2_with fail
              go_roundw
              case rel => exact ⟨i + 1, by omega, by go_num, HK6⟩
              case measure => simp [intOf]; omega
            · have t3 : ((ck Lp).2 != 0) = true := by rw [bne, beq_eq_false_iff_ne.2 hc]; rfl
              have HE := (show Hid (jnE n Ps = (ck Lp).2 ∧ (ck Lp).2 ≠ 0) from by
                have h1 := prt_bad HW5.out.j.z HQ.out hc
                exact ⟨(jnE_3 HI.out (by rw [HPs.out]; exact HI2.out) (by rw [h1]; exact hc)).trans h1, hc⟩)
              clear hc HQ HGd HCe
              go_wp2_with fail
              go_ret2
              exact ⟨JnV.bad HE.out.1 HE.out.2, HW5.out.j.b⟩
          · obtain rfl : i = m := by omega
            have HZ := (show Hid (prt Ps = 0) from prt_ok fun q hq => by
              obtain ⟨j, hj⟩ := List.mem_iff_getElem?.1 hq
              have hjl : j < Ps.length := by
                by_cases q : j < Ps.length
                · exact q
                · rw [List.getElem?_eq_none (by omega)] at hj; cases hj
              exact HW.out.j.z j q (by have := HPs.out; omega) hj)
            have hfl := take_flat_len HW.out.j.z
            have hO : wr.ownsRow w.heap.size 37 7 u7 (Ps.take i).flatten.length (ndc (Ps.take i).flatten) := own_base HW.out.o (Nat.le_succ _)
            have HEq := (show Hid ((Ps.take i).flatten = Ps.flatten) from by show _ = _; rw [List.take_of_length_le (by have := HPs.out; omega)])
            have HB := (show Hid (Below w.heap.size w wr) from HW.out.j.b)
            have hsr := HB.out.size
            obtain ⟨d0, d1, d2, d3, d4, d5, d6⟩ := HW.out.j.x.cells
            rw [HEq.out] at hO hfl
            clear HK HG HEq HW
            obtain ⟨F, hF⟩ : ∃ F, F = Ps.flatten := ⟨_, rfl⟩
            rw [← hF] at hO hfl HTx
            have HF := (show Hid (F = Ps.flatten) from hF)
            clear hF
            go_wp2_with (at_builtin; refine wpList_append_lies _ rfl _ _ 23 rfl w.heap.size 37 i0 zA 7 64 Try.underlying23 hinf hz0 hz1 hz2 rfl (by decide) _ _ _ rfl (hO.alloc _) ⟨wr.heap.size, 0, none⟩ 1 1 (ndV n) rfl rfl ?c1 (nd_one _) (by decide) ?c3 ?c4 ?c5 (wr.heap.size + 1) (by simp) ?_)
            case c1 => exact World.news_of_block (cs := #[.int .i64 n.op, .int .i64 n.nn, .string n.tx, .int .u64 n.s0, .int .u64 n.s1, .int .u64 n.s2, .int .u64 n.s3]) (t := 37) (fr := (0, 0)) (heap_alloc_new wr _)
            case c3 => unfold maxLen; omega
            case c4 => omega
            case c5 => first | omega | (simp; omega)
            intro g3 cap w3 hown hgrow _ _
            have HB3 := (show Hid (Below w.heap.size w w3) from (HB.out.alloc hsr _).grown hgrow (by simp; omega) (fun j e => (hO.lt j e).1))
            have HO3 := (show Hid (w3.ownsRow w.heap.size 37 7 (.slice (some ⟨g3, 0, none⟩) (F.length + 1) cap) (F ++ [n]).length (ndc (F ++ [n]))) from by
              rw [List.length_append, ndc_append, ndc_one]
              exact hown)
            clear hown hgrow hO HB d0 d1 d2 d3 d4 d5 d6
            go_wp2_with fail
            refine (HCk.out _ _ (F ++ [n]) (by rw [List.length_append, List.length_singleton]; omega) HTx.out HO3.out).mono ?_
            rintro e w7 ⟨rfl, b7⟩
            have HB7 := (show Hid (Below w.heap.size w w7) from HB3.out.trans (b7.mono HB3.out.size))
            have HO7 := (show Hid (w7.ownsRow w.heap.size 37 7 (.slice (some ⟨g3, 0, none⟩) (F.length + 1) cap) (F ++ [n]).length (ndc (F ++ [n]))) from own_below HO3.out b7)
            clear HCk b7 HO3 HB3
            by_cases hk : (ck (F ++ [n])).2 = 0
            · have t4 : ((ck (F ++ [n])).2 != 0) = false := by rw [hk]; rfl
              have HE := (show Hid (JnV w w7 n Ps (.returned (.tuple #[.slice (some ⟨g3, 0, none⟩) (F.length + 1) cap, .int .i64 0]))) from by
                have hh := JnV.end (w := w) (w' := w7) HI.out (by rw [HPs.out]; exact HI2.out) HZ.out (v := .slice (some ⟨g3, 0, none⟩) (F.length + 1) cap) (F := F ++ [n]) (by rw [HF.out]) (by rw [if_pos hk]; exact HO7.out)
                rw [hk] at hh
                exact hh)
              clear hk HO7
              go_wp2_with fail
              go_ret2
              exact ⟨HE.out, HB7.out⟩
            · have t4 : ((ck (F ++ [n])).2 != 0) = true := by rw [bne, beq_eq_false_iff_ne.2 hk]; rfl
              have HE := (show Hid (JnV w w7 n Ps (.returned (.tuple #[.slice none 0 0, .int .i64 (ck (F ++ [n])).2]))) from JnV.end HI.out (by rw [HPs.out]; exact HI2.out) HZ.out (by rw [HF.out]) (by rw [if_neg hk]; exact World.ownsRow_nil _ _ _ _))
              clear hk HO7
              go_wp2_with fail
              go_ret2
              exact ⟨HE.out, HB7.out⟩
      · have t2 : (ar n.op != (ps.length : Int)) = true := by rw [bne, beq_eq_false_iff_ne.2 (fun q => hb q.symm)]; rfl
        have HE := (show Hid (jnE n Ps = 42) from jnE_2 HI.out (by rw [HPs.out]; exact hb))
        clear hb HK HG HCk HTx
        go_wp2_with fail
        go_ret2
        exact ⟨JnV.bad HE.out (by decide), HJ2.out.b⟩
    · have hf2 : fdF n = false := by cases q : fdF n with | true => exact absurd q hf | false => rfl
      have HE := (show Hid (jnE n Ps = 41) from by
        have h1 : alE n = 41 := by unfold alE; rw [if_neg (by omega), if_neg hf]
        rw [show jnE n Ps = alE n from jnE_1 (by rw [h1]; decide)]; exact h1)
      clear hf HK HG HCk HTx
      go_wp2_with fail
      go_ret2
      exact ⟨JnV.bad HE.out (by decide), HJ2.out.b⟩
end Go.Proofs.Ytfomodpjdaclgab
