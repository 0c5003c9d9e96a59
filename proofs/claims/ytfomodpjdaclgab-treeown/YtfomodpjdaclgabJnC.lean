/- DERIVED. What is held while parts are lent one by one. -/
import Derived.Test.YtfomodpjdaclgabJnB
import Derived.Test.YtfomodpjdaclgabOpS
namespace Go.Proofs.Ytfomodpjdaclgab
open Go.RowKit

theorem Try.info23 : (Try.prog.info? 23).map (fun i => (i.zero, i.size, i.bytes)) = some (some (.slice none 0 0), 1, 24) := by kernel_rfl
theorem enters15 (args : Array Value) (w : World) : (callFunc 20 args).run Try.prog w = .ok (.enter 20 args) w := enters_of Try.func20 (by kernel_rfl) rfl args w
/-- A call with two arguments as a step of a region that draws its order. -/
theorem step_call2 {F : Nat} (hen : ∀ args w, (callFunc F args).run Try.prog w = .ok (.enter F args) w) {ops : Array Oper} {o : Oper} {a : Act} {w : World} {K : Act → World → Prop} {Q : Exit → Act → World → Prop} {E : Prop} (hgd : o.guard = none) (x y : Operand) (T U : TypeId) (ho : o.op = .call { callee := .value (.func F), args := #[x, y], argTypes := #[T, U] }) (v u : Value) (hx : a.eval x = v) (hy : a.eval y = u)
    (hc : Calls Try.prog F #[v, u] w fun e w' => ∃ r, e = .returned r ∧ K (a.put o.dst r) w') :
    if Region.wanted o (yielded ops a.tmps) = true then Oper.wp Try.prog o a w K Q else E := by
  have hw : Region.wanted o (yielded ops a.tmps) = true := by simp [Region.wanted, hgd]
  rw [if_pos hw]
  have he : (execOp a.eval o).run Try.prog w = .ok (.enter F #[v, u]) w := by
    unfold execOp
    simp [ho, go_sem, invoke, hen]
    rw [← hx, ← hy]
    cases x <;> cases y <;> simp [Act.eval]
  unfold Oper.wp
  rw [he, Oper.upon_enter]
  refine hc.mono ?_
  rintro e w' ⟨r, rfl, hk⟩
  exact hk
theorem own_block {W W' : World} {B e s g n cap : Nat} {xs : List Value} (h : W.ownsRow B e s (.slice (some ⟨g, 0, none⟩) n cap) n xs) (hb : W'.heap[g]? = W.heap[g]?) : W'.ownsRow B e s (.slice (some ⟨g, 0, none⟩) n cap) n xs := by
  rcases h.2 with ⟨q, _⟩ | ⟨g2, c2, cur, q, h1, h2, h3⟩
  · cases q
  · cases q
    exact ⟨h.1, .inr ⟨g, cap, cur, rfl, h1, hb.trans h2, h3⟩⟩
/-- Parts that were lent, i of them. -/
structure AtI (w wr : World) (n : Nd) (ps : List Ls) (i : Nat) (v : Value) (qs : List Ls) : Prop where
  b : Below w.heap.size w wr
  x : NX wr w.heap.size n
  len : qs.length = i
  same : (qs.map fun q => q.2.2) = (ps.take i).map fun q => q.2.2
  o : wr.ownsRow (w.heap.size + 1) 23 1 v i (qs.map lsV)
  l : ∀ q ∈ qs, ∃ g, q.1 = some ⟨g, 0, none⟩ ∧ LentR wr (w.heap.size + 1) g q.2.1 q.2.2 ∧ v.ownBlock ≠ some g
theorem AtI.start (w : World) (n : Nd) (ps : List Ls) : AtI w (w.alloc (ndO n)) n ps 0 (.slice none 0 0) [] := ⟨below_box _ _, ⟨heap_alloc_new w _⟩, rfl, rfl, World.ownsRow_nil _ _ _ _, fun q hq => by cases hq⟩
theorem AtI.below {w wr w' : World} {n : Nd} {ps : List Ls} {i : Nat} {v : Value} {qs : List Ls} (h : AtI w wr n ps i v qs) (hb : Below wr.heap.size wr w') : AtI w w' n ps i v qs := ⟨h.b.trans (hb.mono h.b.size), h.x.same (hb.block _ h.x.lt), h.len, h.same, own_below h.o hb, fun q hq => by
  obtain ⟨g, e, hl, hn⟩ := h.l q hq
  exact ⟨g, e, hl.below hb, hn⟩⟩
theorem AtI.next {w wr w2 w3 : World} {n : Nd} {ps : List Ls} {i : Nat} {v : Value} {qs : List Ls} {p : Ls} {g cap g3 cap3 : Nat} {ob : Obj} (h : AtI w wr n ps i v qs) (hp : ps[i]? = some p) (b2 : Below wr.heap.size wr w2) (hl : LentR w2 wr.heap.size g cap p.2.2)
    (ho : w3.ownsRow (w.heap.size + 1) 23 1 (.slice (some ⟨g3, 0, none⟩) (i + 1) cap3) (i + 1) (qs.map lsV ++ [.slice (some ⟨g, 0, none⟩) p.2.2.length cap])) (hg : (w2.alloc ob).grownBy w3 v.ownBlock) (hat : v.ownBlock = some g3 ∨ g3 = w2.heap.size + 1) :
    AtI w w3 n ps (i + 1) (.slice (some ⟨g3, 0, none⟩) (i + 1) cap3) (qs ++ [(some ⟨g, 0, none⟩, cap, p.2.2)]) := by
  have h2 := h.below b2
  have hgl := hl.lt g rfl
  have hvb : ∀ b, v.ownBlock = some b → w.heap.size + 1 ≤ b ∧ b < wr.heap.size := fun b e => h.o.lt b e
  have hbk : ∀ b, b < w2.heap.size → v.ownBlock ≠ some b → w3.heap[b]? = w2.heap[b]? := fun b hb hn => by
    rw [hg.block b (by rw [World.size_alloc]; omega) (fun e => hn e.symm)]
    exact (below_box w2 ob).block b hb
  have hs2 := b2.size
  refine ⟨(h2.b.alloc h2.b.size _).grown hg (by have := h2.b.size; rw [World.size_alloc]; omega) (fun k e => by have := (hvb k e).1; omega), h2.x.same (hbk _ h2.x.lt (fun e => by have := (hvb _ e).1; omega)), by rw [List.length_append, h.len]; rfl, ?_, ?_, fun q hq => ?_⟩
  · rw [List.map_append, h.same, List.take_add_one, hp, List.map_append]; rfl
  · rw [List.map_append]; exact ho
  · rcases List.mem_append.1 hq with hq | hq
    · obtain ⟨g1, e, hl1, hn⟩ := h2.l q hq
      obtain ⟨_, _, hl0, _⟩ := h.l q hq
      have hg1 := (hl1.lt g1 rfl).2
      refine ⟨g1, e, own_block hl1 (hbk g1 hg1 hn), fun e2 => ?_⟩
      have e3 : g3 = g1 := Option.some.inj e2
      subst e3
      rcases hat with q2 | q2
      · exact hn q2
      · omega
    · cases List.mem_singleton.1 hq
      have hn : v.ownBlock ≠ some g := fun e => by have := (hvb g e).2; omega
      refine ⟨g, rfl, own_base (own_block hl (hbk g hgl.2 hn)) (by have := h.x.lt; omega), fun e2 => ?_⟩
      have e3 : g3 = g := Option.some.inj e2
      subst e3
      rcases hat with q2 | q2
      · exact hn q2
      · omega
theorem own_ls {W : World} {B i : Nat} {v : Value} {qs : List Ls} (h : W.ownsRow B 23 1 v i (qs.map lsV)) (hi : qs.length = i) (hr : ∀ q ∈ qs, RdN W q.1 q.2.2) : ∃ A c, v = .slice A qs.length c ∧ RdL W A qs := by
  subst hi
  have hc := h
  rcases h.2 with ⟨rfl, h0⟩ | ⟨g, cap, cur, rfl, _⟩
  · exact ⟨none, 0, by rw [h0], fun hl => absurd (List.eq_nil_of_length_eq_zero h0) hl, hr⟩
  · refine ⟨_, cap, rfl, fun _ => ⟨g, 0, rfl, (hc.lt g rfl).2, fun i p hp => ?_⟩, hr⟩
    have := hc.cells (g := g) rfl i (lsV p) (by rw [List.getElem?_map, hp]; rfl)
    rw [Addr.add_lit] at this
    exact this
theorem AtI.rd {w wr : World} {n : Nd} {ps : List Ls} {i : Nat} {v : Value} {qs : List Ls} (h : AtI w wr n ps i v qs) : ∃ A c, v = .slice A qs.length c ∧ RdL wr A qs := own_ls h.o h.len fun q hq => by
  obtain ⟨g, e, hl, _⟩ := h.l q hq
  rw [e]
  exact hl.rd
end Go.Proofs.Ytfomodpjdaclgab
