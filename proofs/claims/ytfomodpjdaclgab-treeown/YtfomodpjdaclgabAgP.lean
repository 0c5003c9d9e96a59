/- DERIVED. TreeAgain: what is put together of a pattern's own parts; what is held meanwhile. -/
import Derived.Test.YtfomodpjdaclgabTlL
import Derived.Test.YtfomodpjdaclgabPuL
import Derived.Test.YtfomodpjdaclgabJnC
namespace Go.Proofs.Ytfomodpjdaclgab
open Go.RowKit

/-- A node's parts, each alone. -/
def kidL (L : List Nd) (j : Nat) : List (List Nd) := (kid L j).map fun x => cutL L x.1 (x.2.1 + 1)
theorem kid_right {L : List Nd} (hr : Rt L) {j : Nat} (hj : j < L.length) {i : Nat} {x : Pt} (hx : (kid L j)[i]? = some x) : Rt (cutL L x.1 (x.2.1 + 1)) ∧ x.2.1 < L.length ∧ (pt L x.2.1).1 = x.1 := by
  obtain ⟨_, nx, _, _, h2⟩ := tiles_of hr hj
  obtain ⟨_, _, _, x4, x5⟩ := h2 i x hx
  have e : (pt L x.2.1).1 = x.1 := by rw [← x5]
  refine ⟨?_, by omega, e⟩
  rw [← e]
  exact (cut_right hr (by omega)).1
theorem kidL_ck {L : List Nd} (hr : Rt L) {j : Nat} (hj : j < L.length) : ∀ q ∈ kidL L j, Rt q := fun q hq => by
  obtain ⟨x, hx, rfl⟩ := List.mem_map.1 hq
  obtain ⟨i, hi⟩ := List.mem_iff_getElem?.1 hx
  exact (kid_right hr hj hi).1
theorem again_join {L : List Nd} (hr : Rt L) {j : Nat} {n : Nd} (hn : L[j]? = some n) (hj : j < L.length) : jnE n (kidL L j) = 0 ∧ jnL n (kidL L j) = cutL L (pt L j).1 (j + 1) := by
  have h1 := (er_ok hn (hr.each j hj)).al
  have h2 : ((kidL L j).length : Int) = ar n.op := by
    unfold kidL
    rw [List.length_map, (tiles_of hr hj).1, op_of hn]
    exact arN_of h1
  have h3 : prt (kidL L j) = 0 := prt_ok fun q hq => by rw [(kidL_ck hr hj q hq).ck]
  have h4 : (kidL L j).flatten ++ [n] = cutL L (pt L j).1 (j + 1) := by
    have := join_own hr hn
    rw [List.flatMap_def] at this
    exact this
  have h5 : jnE n (kidL L j) = 0 := by rw [jnE_4 h1 h2 h3, h4, (cut_right hr hj).1.ck]
  refine ⟨h5, ?_⟩
  unfold jnL
  rw [if_pos h5, h4]
theorem put_own {L : List Nd} (hr : Rt L) {j : Nat} (hj : j < L.length) : putL L j (cutL L (pt L j).1 (j + 1)) = L := (cut_split L (pt_le hr hj) hj).symm
theorem again_put {L : List Nd} (hr : Rt L) {j : Nat} (hj : j < L.length) : puE L (j : Int) (cutL L (pt L j).1 (j + 1)) = 0 ∧ puL L (j : Int) (cutL L (pt L j).1 (j + 1)) = L := by
  have h1 := (cut_right hr hj).1
  have h5 : puE L (j : Int) (cutL L (pt L j).1 (j + 1)) = 0 := by
    unfold puE
    rw [if_neg (by rw [fdE_of hr hj]; simp), if_neg (by rw [h1.ck]; simp), show (j : Int).toNat = j from rfl, put_own hr hj, hr.ck]
  refine ⟨h5, ?_⟩
  unfold puL
  rw [if_pos h5]
  exact put_own hr hj
theorem again_bad {L M : List Nd} (hr : Rt L) {j : Nat} (hj : j < L.length) (h : puE L (j : Int) M ≠ 0) : (ck M).2 ≠ 0 ∨ ((ck M).2 = 0 ∧ puE L (j : Int) M = 2) ∨ ((ck M).2 = 0 ∧ puE L (j : Int) M = 4) := by
  by_cases hc : (ck M).2 = 0
  · have e : puE L (j : Int) M = (ck (putL L j M)).2 := by
      unfold puE
      rw [if_neg (by rw [fdE_of hr hj]; simp), if_neg (by rw [hc]; simp)]
      rfl
    have hs := cut_split L (pt_le hr hj) hj
    have hp := put_ck (A := L.take (pt L j).1) (Q := cutL L (pt L j).1 (j + 1)) (S := M) (R := L.drop (j + 1)) (by rw [← hs]; exact hr) (cut_right hr hj).1 (rt_of hc)
    rw [show L.take (pt L j).1 ++ (M ++ L.drop (j + 1)) = putL L j M from rfl, ← e] at hp
    rcases hp with q | q | q
    · exact absurd q h
    · exact .inr (.inl ⟨hc, q⟩)
    · exact .inr (.inr ⟨hc, q⟩)
  · exact .inl hc
theorem again_other {L M : List Nd} (hr : Rt L) {j : Nat} (hj : j < L.length) (h : puE L (j : Int) M = 0) : Rt M ∧ Rt (putL L j M) ∧ puL L (j : Int) M = putL L j M ∧ (pt L j).1 + M.length - 1 < (putL L j M).length ∧ cutL (putL L j M) (pt (putL L j M) ((pt L j).1 + M.length - 1)).1 ((pt L j).1 + M.length - 1 + 1) = M ∧ (putL L j M).length + (cutL L (pt L j).1 (j + 1)).length = L.length + M.length := by
  have hb := pt_le hr hj
  have hc : (ck M).2 = 0 := by
    apply Classical.byContradiction
    intro q
    unfold puE at h
    rw [if_neg (by rw [fdE_of hr hj]; simp), if_pos q] at h
    exact q h
  have hm := rt_of hc
  have e : puE L (j : Int) M = (ck (putL L j M)).2 := by
    unfold puE
    rw [if_neg (by rw [fdE_of hr hj]; simp), if_neg (by rw [hc]; simp)]
    rfl
  have hy := rt_of (e.symm.trans h)
  have hm0 := (pt_last hm).2
  have ht : (L.take (pt L j).1).length = (pt L j).1 := by rw [List.length_take]; omega
  have hp : (pt (putL L j M) ((pt L j).1 + M.length - 1)).1 = (pt L j).1 := by
    have := put_pt (A := L.take (pt L j).1) (S := M) (R := L.drop (j + 1)) hm
    rw [ht] at this
    exact this
  have hlen : (putL L j M).length = (pt L j).1 + (M.length + (L.length - (j + 1))) := by
    unfold putL
    rw [List.length_append, List.length_append, ht, List.length_drop]
  refine ⟨hm, hy, ?_, by omega, ?_, ?_⟩
  · unfold puL; rw [if_pos h]; rfl
  · rw [hp]
    unfold cutL putL
    rw [List.drop_append_of_le_length (by omega), List.drop_of_length_le (by omega), List.nil_append, List.take_append_of_le_length (by omega), List.take_of_length_le (by omega)]
  · rw [hlen, cutL_len (by omega) (by omega)]; omega

theorem enters11 (args : Array Value) (w : World) : (callFunc 11 args).run Try.prog w = .ok (.enter 11 args) w := enters_of Try.func11 (by kernel_rfl) rfl args w
/-- Parts laid into a row, i of them. -/
structure AtQ (z wr : World) (Ps : List (List Nd)) (i : Nat) (v : Value) (qs : List Ls) : Prop where
  b : Below z.heap.size z wr
  len : qs.length = i
  same : (qs.map fun q => q.2.2) = Ps.take i
  o : wr.ownsRow z.heap.size 23 1 v i (qs.map lsV)
  l : ∀ q ∈ qs, ∃ g, q.1 = some ⟨g, 0, none⟩ ∧ wr.ownsRow z.heap.size 37 7 (.slice (some ⟨g, 0, none⟩) q.2.2.length q.2.1) q.2.2.length (ndc q.2.2) ∧ v.ownBlock ≠ some g
theorem AtQ.start (z : World) (Ps : List (List Nd)) : AtQ z z Ps 0 (.slice none 0 0) [] := ⟨Below.refl _ _, rfl, rfl, World.ownsRow_nil _ _ _ _, fun q hq => by cases hq⟩
theorem AtQ.below {z wr w' : World} {Ps : List (List Nd)} {i : Nat} {v : Value} {qs : List Ls} (h : AtQ z wr Ps i v qs) (hb : Below wr.heap.size wr w') : AtQ z w' Ps i v qs := ⟨h.b.trans (hb.mono h.b.size), h.len, h.same, own_below h.o hb, fun q hq => by
  obtain ⟨g, e, hl, hn⟩ := h.l q hq
  exact ⟨g, e, own_below hl hb, hn⟩⟩
theorem AtQ.next {z wr w2 w3 : World} {Ps : List (List Nd)} {i : Nat} {v : Value} {qs : List Ls} {p : List Nd} {g cap g3 cap3 : Nat} {ob : Obj} (h : AtQ z wr Ps i v qs) (hp : Ps[i]? = some p) (b2 : Below wr.heap.size wr w2) (hl : w2.ownsRow wr.heap.size 37 7 (.slice (some ⟨g, 0, none⟩) p.length cap) p.length (ndc p))
    (ho : w3.ownsRow z.heap.size 23 1 (.slice (some ⟨g3, 0, none⟩) (i + 1) cap3) (i + 1) (qs.map lsV ++ [.slice (some ⟨g, 0, none⟩) p.length cap])) (hg : (w2.alloc ob).grownBy w3 v.ownBlock) (hat : v.ownBlock = some g3 ∨ g3 = w2.heap.size + 1) :
    AtQ z w3 Ps (i + 1) (.slice (some ⟨g3, 0, none⟩) (i + 1) cap3) (qs ++ [(some ⟨g, 0, none⟩, cap, p)]) := by
  have h2 := h.below b2
  have hgl := hl.lt g rfl
  have hvb : ∀ b, v.ownBlock = some b → z.heap.size ≤ b ∧ b < wr.heap.size := fun b e => h.o.lt b e
  have hbk : ∀ b, b < w2.heap.size → v.ownBlock ≠ some b → w3.heap[b]? = w2.heap[b]? := fun b hb hn => by
    rw [hg.block b (by rw [World.size_alloc]; omega) (fun e => hn e.symm)]
    exact (below_box w2 ob).block b hb
  have hs2 := b2.size
  have hsz := h.b.size
  refine ⟨(h2.b.alloc h2.b.size _).grown hg (by have := h2.b.size; rw [World.size_alloc]; omega) (fun k e => (hvb k e).1), by rw [List.length_append, h.len]; rfl, ?_, ?_, fun q hq => ?_⟩
  · rw [List.map_append, h.same, List.take_add_one, hp]; rfl
  · rw [List.map_append]; exact ho
  · rcases List.mem_append.1 hq with hq | hq
    · obtain ⟨g1, e, hl1, hn⟩ := h2.l q hq
      have hg1 := (hl1.lt g1 rfl).2
      refine ⟨g1, e, own_block hl1 (hbk g1 hg1 hn), fun e2 => ?_⟩
      have e3 : g3 = g1 := Option.some.inj e2
      subst e3
      rcases hat with q2 | q2
      · exact hn q2
      · omega
    · cases List.mem_singleton.1 hq
      have hn : v.ownBlock ≠ some g := fun e => by have := (hvb g e).2; omega
      refine ⟨g, rfl, own_base (own_block hl (hbk g hgl.2 hn)) (by omega), fun e2 => ?_⟩
      have e3 : g3 = g := Option.some.inj e2
      subst e3
      rcases hat with q2 | q2
      · exact hn q2
      · omega
theorem row_rd {W : World} {B : Nat} {A : Option Addr} {c : Nat} {L : List Nd} (h : W.ownsRow B 37 7 (.slice A L.length c) L.length (ndc L)) : RdN W A L := by
  obtain ⟨A', c', e, hr⟩ := own_rd h rfl
  cases e
  exact hr
theorem row_cap {W : World} {B : Nat} {A : Option Addr} {n c e s : Nat} {xs : List Value} (h : W.ownsRow B e s (.slice A n c) n xs) : n ≤ c := by
  rcases h.2 with ⟨q, h0⟩ | ⟨g2, c2, cur, q, _, _, h3, _⟩
  · cases q; omega
  · cases q; exact h3
theorem AtQ.rd {z wr : World} {Ps : List (List Nd)} {i : Nat} {v : Value} {qs : List Ls} (h : AtQ z wr Ps i v qs) : ∃ A c, v = .slice A qs.length c ∧ RdL wr A qs := own_ls h.o h.len fun q hq => by
  obtain ⟨g, e, hl, _⟩ := h.l q hq
  rw [e]
  exact row_rd hl
end Go.Proofs.Ytfomodpjdaclgab
