/- DERIVED. Plain mathematics and walks, laid together (6). -/
import Derived.Shelf.Strconv.Clone
import Derived.Test.YtppggnmlbcdegaaProg
import Derived.Lib.ConvBytes
import Derived.Lib.AtoiErrMem
import Derived.Lib.UnsafeStr
import Derived.Lib.AppendStr
import Derived.Deep.RegionLaw
import Derived.Deep.AppendLies
import Derived.Test.YtppggnmlbcdegaaRn05
namespace Go.Proofs
open Go.Shelf
def Try.laysM316_ren : Go.Shelf.Ren := ⟨fun | 316 => 76 | n => n, fun | 9 => 9 | 3 => 3 | 4 => 4 | 37 => 112 | 0 => 0 | 127 => 113 | 5 => 5 | n => n, fun | n => n⟩
theorem Try.laysM316 : Go.Proofs.LaysM.n316 Try.prog Try.laysM316_ren := {
  mixed := by kernel_rfl
  f316 := Try.func76.trans (congrArg some (by kernel_rfl))
  t0 := Try.underlying0
  a0 := Try.isAgg0
  z0 := Try.sizeOf0
  v0 := Try.zeroValue0
  t3 := Try.underlying3
  a3 := Try.isAgg3
  z3 := Try.sizeOf3
  v3 := Try.zeroValue3
  t4 := Try.underlying4
  a4 := Try.isAgg4
  z4 := Try.sizeOf4
  v4 := Try.zeroValue4
  t9 := Try.underlying9
  a9 := Try.isAgg9
  z9 := Try.sizeOf9
  v9 := Try.zeroValue9
  t37 := Try.underlying112
  a37 := Try.isAgg112
  z37 := Try.sizeOf112
  v37 := Try.zeroValue112
  t127 := Try.underlying113
  a127 := Try.isAgg113
  z127 := Try.sizeOf113
  v127 := Try.zeroValue113
  t5 := Try.underlying5
  a5 := Try.isAgg5
  z5 := Try.sizeOf5
  v5 := Try.zeroValue5
  i0 := by kernel_rfl
  i3 := by kernel_rfl
  i4 := by kernel_rfl
  i5 := by kernel_rfl
  i9 := by kernel_rfl
  i37 := by kernel_rfl
  i127 := by kernel_rfl }
end Go.Proofs

namespace Go.Proofs.Ytppggnmlbcdegaa.N
open Go.RowKit Go.Maps
open Go.Proofs.Ytppggnmlbcdegaa.T
set_option maxRecDepth 100000 in
set_option maxHeartbeats 4000000 in
theorem clone_any (s : ByteArray) (hs : s.size ≤ 281474976710656) (w : World) : Calls Try.prog 66 #[.string s] w fun e w' => e = .returned (.string s) ∧ Below w.heap.size w w' := by
  have H := (show Hid (∀ _ : Unit, Calls Try.prog 76 #[.string s] w fun e w' => e = .returned (.string s) ∧ Below w.heap.size w w') from fun _ => Any.stringslite_Clone Try.laysM316 s w hs)
  clear hs
  go_enter Try.func66, Try.ntmps66
  go_wp2_with fail
  refine (H.out ()).mono ?_
  rintro e w2 ⟨rfl, b2⟩
  have HB := (show Hid _ from b2)
  clear H b2
  go_wp2_with fail
  go_ret
  exact ⟨rfl, HB.out⟩
/-- A text in a box of its own. -/
structure BX (W : World) (b : Nat) (s : ByteArray) : Prop where
  heap : W.heap[b]? = some (.cells #[.string s] 9 (0, 0))
theorem BX.lt {W : World} {b : Nat} {s : ByteArray} (h : BX W b s) : b < W.heap.size := (Array.getElem?_eq_some_iff.1 h.heap).1
theorem BX.cl {W : World} {b : Nat} {s : ByteArray} (h : BX W b s) : W.cell? ⟨b, 0, none⟩ = some (.string s) := by rw [cell_of_row W b 0 _ 9 (0, 0) h.heap]; rfl
theorem BX.later {W W' : World} {b : Nat} {s : ByteArray} (h : BX W b s) (hb : Below W.heap.size W W') : BX W' b s := ⟨(hb.block b h.lt).trans h.heap⟩
/-- One name in another one's place. -/
def rnB (a b s : ByteArray) : ByteArray := if s = a then b else s
set_option maxRecDepth 100000 in
set_option maxHeartbeats 4000000 in
theorem renamed1_any (a b s : ByteArray) (ha : b.size ≤ 281474976710656) (hs : s.size ≤ 281474976710656) (p q : Nat) (w : World) (h1 : BX w p a) (h2 : BX w q b) : Calls Try.prog 65 #[.string s, .pointer (some ⟨p, 0, none⟩), .pointer (some ⟨q, 0, none⟩)] w fun e w' => e = .returned (.string (rnB a b s)) ∧ Below w.heap.size w w' := by
  have y1 := h1.cl
  have y2 := h2.cl
  by_cases e : s = a
  · have te := te_of e
    have HE := (show Hid (rnB a b s = b) from if_pos e)
    have H := (show Hid (∀ _ : Unit, Calls Try.prog 66 #[.string b] w fun e w' => e = .returned (.string b) ∧ Below w.heap.size w w') from fun _ => clone_any b ha w)
    clear e h1 h2
    go_enter Try.func65, Try.ntmps65
    go_wp2_with fail
    refine (H.out ()).mono ?_
    rintro e w2 ⟨rfl, b2⟩
    have HB := (show Hid _ from b2)
    clear H b2 y1 y2
    go_wp2_with fail
    go_ret
    exact ⟨by rw [HE.out]; rfl, HB.out⟩
  · have te := te_no e
    have HE := (show Hid (rnB a b s = s) from if_neg e)
    have H := (show Hid (∀ _ : Unit, Calls Try.prog 66 #[.string s] w fun e w' => e = .returned (.string s) ∧ Below w.heap.size w w') from fun _ => clone_any s hs w)
    clear e h1 h2
    go_enter Try.func65, Try.ntmps65
    go_wp2_with fail
    refine (H.out ()).mono ?_
    rintro e w2 ⟨rfl, b2⟩
    have HB := (show Hid _ from b2)
    clear H b2 y1 y2
    go_wp2_with fail
    go_ret
    exact ⟨by rw [HE.out]; rfl, HB.out⟩
end Go.Proofs.Ytppggnmlbcdegaa.N

namespace Go.Proofs.Ytppggnmlbcdegaa.T
open Go.RowKit
/-- A node in a box that is the call's own. -/
structure NX (W : World) (b : Nat) (n : Nd) : Prop where
  heap : W.heap[b]? = some (.cells #[.int .i64 n.op, .int .i64 n.nn, .string n.tx, .int .u64 n.s0, .int .u64 n.s1, .int .u64 n.s2, .int .u64 n.s3] 68 (0, 0))
theorem NX.lt {W : World} {b : Nat} {n : Nd} (h : NX W b n) : b < W.heap.size := (Array.getElem?_eq_some_iff.1 h.heap).1
theorem NX.same {W W' : World} {b : Nat} {n : Nd} (h : NX W b n) (hb : W'.heap[b]? = W.heap[b]?) : NX W' b n := ⟨hb.trans h.heap⟩
theorem NX.nb {W : World} {b : Nat} {n : Nd} (h : NX W b n) : NB W b 0 n := by
  have key : ∀ (j : Nat) u, (#[Value.int .i64 n.op, .int .i64 n.nn, .string n.tx, .int .u64 n.s0, .int .u64 n.s1, .int .u64 n.s2, .int .u64 n.s3] : Array Value)[j]? = some u → W.cell? ⟨b, j, none⟩ = some u := fun j u hu => by
    rw [cell_of_row W b j _ 68 (0, 0) h.heap]
    exact hu
  exact ⟨key 0 _ rfl, key 1 _ rfl, key 2 _ rfl, key 3 _ rfl, key 4 _ rfl, key 5 _ rfl, key 6 _ rfl⟩
theorem NX.fz {W : World} {b : Nat} {n : Nd} (h : NX W b n) (j : Nat) : W.frozen? ⟨b, j, none⟩ = false := frozen_of_row W b j _ 68 h.heap
end Go.Proofs.Ytppggnmlbcdegaa.T

namespace Go.Proofs.Ytppggnmlbcdegaa.T
open Go.RowKit
set_option maxRecDepth 100000 in
set_option maxHeartbeats 4000000 in
theorem copy_any (ad : Addr) (c : Nat) (L : List Nd) (w : World) (hl : L.length ≤ 2048) (hc : RdN w (some ad) L) :
    Calls Try.prog 67 #[.slice (some ad) L.length c] w fun e w' => (∃ v, e = .returned v ∧ w'.ownsRow w.heap.size 68 7 v L.length (ndc L)) ∧ Below w.heap.size w w' := by
  obtain ⟨i0, hinf, hz0, hz1, hz2⟩ := info_parts Try.info43
  have hO := own_empty w
  have HB := (show Hid (Below w.heap.size w (w.alloc (.cells #[] 68))) from below_box _ _)
  have HC := (show Hid (∀ (j : Nat) u, (ndc L)[j]? = some u → (w.alloc (.cells #[] 68)).cell? (ad.add j) = some u) from fun j u hj => by
    have h1 := in_cells hc j u hj
    have h2 := World.block_lt_of_cell? w _ h1
    exact ((below_box w (.cells #[] 68)).cell (p := ad.add j) h2).trans h1)
  have HI := (show Hid ((ndc L).length = L.length * 7 ∧ ∀ u ∈ ndc L, u.oneCell' = true) from ⟨ndc_len L, ndc_cell L⟩)
  clear hc
  go_enter Try.func67, Try.ntmps67
  go_wp2_with (at_builtin; refine wpList_append_own _ rfl _ _ 55 rfl w.heap.size 68 i0 zA 7 64 Try.underlying55 hinf hz0 hz1 hz2 rfl (by decide) _ _ _ rfl hO ad L.length c (ndc L) rfl HI.out.1 HC.out HI.out.2 ?c3 ?c4 ?c5 ?_)
  case c3 => unfold maxLen; omega
  case c4 => omega
  case c5 => simp
  intro v1 w1 hown hgrow _
  have HB1 := (show Hid (Below w.heap.size w w1) from HB.out.grown hgrow (by simp) (fun k e => (hO.lt k e).1))
  have HO := (show Hid (w1.ownsRow w.heap.size 68 7 v1 L.length (ndc L)) from hown)
  clear hgrow hO HB hown HC HI
  go_wp2_with fail
  go_ret
  exact ⟨⟨_, rfl, HO.out⟩, HB1.out⟩
end Go.Proofs.Ytppggnmlbcdegaa.T

namespace Go.Proofs.Ytppggnmlbcdegaa.N
open Go.RowKit
open Go.Proofs.Ytppggnmlbcdegaa.T (below_box)
theorem ret_gx {fn : Func} {R : Ending → World → Prop} {act : Act} {W : World} {k : Nat} {a : Value} (hF : fn.results = #[.cell 2 24]) (hd : act.defers = []) (h2 : act.tmps.getD 2 undef = .pointer (some ⟨k, 0, none⟩)) (hT : GX W k a) (hR : R (.returned (.agg #[a])) W) : bodyPost Try.prog fn R .ret act W := by
  have c0 := hT.cl
  refine bodyPost_ret (v := .agg #[a]) ?_ hd hR
  simp only [Array.getD_eq_getD_getElem?] at h2
  simp [results, hF, go_sem, h2, c0]
/-- A call with one argument as a step of a region that draws its order. -/
theorem step_call1 {F : Nat} (hen : ∀ args w, (callFunc F args).run Try.prog w = .ok (.enter F args) w) {ops : Array Oper} {o : Oper} {a : Act} {w : World} {K : Act → World → Prop} {Q : Exit → Act → World → Prop} {E : Prop} (hgd : o.guard = none) (x : Operand) (T : TypeId) (ho : o.op = .call { callee := .value (.func F), args := #[x], argTypes := #[T] }) (v : Value) (hx : a.eval x = v)
    (hc : Calls Try.prog F #[v] w fun e w' => ∃ r, e = .returned r ∧ K (a.put o.dst r) w') :
    if Region.wanted o (yielded ops a.tmps) = true then Oper.wp Try.prog o a w K Q else E := by
  have hw : Region.wanted o (yielded ops a.tmps) = true := by simp [Region.wanted, hgd]
  rw [if_pos hw]
  have he : (execOp a.eval o).run Try.prog w = .ok (.enter F #[v]) w := by
    unfold execOp
    simp [ho, go_sem, invoke, hen]
    rw [← hx]
    cases x <;> simp [Act.eval]
  unfold Oper.wp
  rw [he, Oper.upon_enter]
  refine hc.mono ?_
  rintro e w' ⟨r, rfl, hk⟩
  exact hk


/-- A rule that was lent: it, its pattern's block and room. -/
abbrev Le : Type := (ByteArray × List Nd) × Nat × Nat
def lgV (x : Le) : List Value := [.string x.1.1, .slice (some ⟨x.2.1, 0, none⟩) x.1.2.length x.2.2]
def lgc (l : List Le) : List Value := l.flatMap lgV
theorem lgc_app (a b : List Le) : lgc (a ++ b) = lgc a ++ lgc b := List.flatMap_append
theorem lgc_one (x : Le) : lgc [x] = lgV x := by unfold lgc; rw [List.flatMap_cons, List.flatMap_nil, List.append_nil]
theorem lgc_get (l : List Le) : ∀ (k j : Nat) (x : Le) (u : Value) (ys : List Value), l[k]? = some x → (lgV x)[j]? = some u → (lgc l ++ ys)[k * 2 + j]? = some u := by
  induction l with
  | nil => intro k j x u ys h; cases h
  | cons a l ih =>
    intro k j x u ys h hu
    have e : lgc (a :: l) ++ ys = lgV a ++ (lgc l ++ ys) := by unfold lgc; rw [List.flatMap_cons, List.append_assoc]
    rw [e]
    have hj : j < 2 := (List.getElem?_eq_some_iff.1 hu).1
    cases k with
    | zero =>
      cases h
      rw [Nat.zero_mul, Nat.zero_add, List.getElem?_append_left (by show j < 2; exact hj)]
      exact hu
    | succ k =>
      have h2 : l[k]? = some x := by simpa using h
      have e2 : (lgV a).length = 2 := rfl
      rw [List.getElem?_append_right (by rw [e2]; omega), e2, show (k + 1) * 2 + j - 2 = k * 2 + j from by omega]
      exact ih k j x u ys h2 hu
/-- While a grammar is lent. -/
structure LgI (w wr : World) (a : Value) (v : Value) (ov : List Le) : Prop where
  o : wr.ownsRow w.heap.size 57 2 v ov.length (lgc ov)
  e : ∀ x ∈ ov, T.LentR wr w.heap.size x.2.1 x.2.2 x.1.2
  b : Below w.heap.size w wr
  x : GX wr w.heap.size a
  y : GX wr (w.heap.size + 1) (.slice none 0 0)
theorem LgI.later {w wr W' : World} {a v : Value} {ov : List Le} (h : LgI w wr a v ov) (hb : Below wr.heap.size wr W') : LgI w W' a v ov :=
  ⟨T.own_below h.o hb, fun x hx => (h.e x hx).below hb, h.b.trans (hb.mono h.b.size), h.x.below hb, h.y.below hb⟩
theorem LgI.push {w wr wA w5 : World} {a v u : Value} {ov : List Le} {nm : ByteArray} {L : List Nd} {g cap : Nat} (h : LgI w wr a v ov) (hA : Below wr.heap.size wr wA) (hl : T.LentR wA w.heap.size g cap L) (hg : (wA.alloc (.cells #[.string nm, .slice (some ⟨g, 0, none⟩) L.length cap] 57)).grownBy w5 v.ownBlock) (ho : w5.ownsRow w.heap.size 57 2 u (ov.length + 1) (lgc ov ++ [.string nm, .slice (some ⟨g, 0, none⟩) L.length cap])) : LgI w w5 a u (ov ++ [((nm, L), g, cap)]) := by
  have h2 : LgI w (wA.alloc (.cells #[.string nm, .slice (some ⟨g, 0, none⟩) L.length cap] 57)) a v ov := (h.later hA).later (below_box wA _)
  have hl2 : T.LentR (wA.alloc (.cells #[.string nm, .slice (some ⟨g, 0, none⟩) L.length cap] 57)) w.heap.size g cap L := hl.below (below_box wA _)
  have key : ∀ (y : Le), T.LentR (wA.alloc (.cells #[.string nm, .slice (some ⟨g, 0, none⟩) L.length cap] 57)) w.heap.size y.2.1 y.2.2 y.1.2 → T.LentR w5 w.heap.size y.2.1 y.2.2 y.1.2 := fun y hy =>
    own_same (v := .slice (some ⟨y.2.1, 0, none⟩) (y.1.2.length + 1) y.2.2) hy fun k hk => hg.block k (World.ownsRow.lt hy k hk).2 (fun q => own_apart h2.o hy (by decide) q.symm hk)
  refine ⟨?_, fun y hy => ?_, h2.b.grown hg h2.b.size (fun k e => (h2.o.lt k e).1), h2.x.same (hg.block _ h2.x.lt (fun e => h2.x.ne h2.o (by decide) e.symm rfl)), h2.y.same (hg.block _ h2.y.lt (fun e => h2.y.ne h2.o (by decide) e.symm rfl))⟩
  · rw [List.length_append, lgc_app, lgc_one]
    exact ho
  · rcases List.mem_append.1 hy with q | q
    · exact key y (h2.e y q)
    · rw [List.mem_singleton.1 q]
      exact key ((nm, L), g, cap) hl2
/-- A grammar that was lent, and is as it was. -/
structure LgB (w w' : World) (g cap : Nat) (ov : List Le) : Prop where
  o : w'.ownsRow w.heap.size 57 2 (.slice (some ⟨g, 0, none⟩) (ov.length + 1) cap) (ov.length + 1) (lgc ov ++ [.string ⟨#[115, 112, 97, 114, 101, 32, 114, 111, 111, 109]⟩, .slice none 0 0])
  e : ∀ x ∈ ov, T.LentR w' w.heap.size x.2.1 x.2.2 x.1.2
  b : Below w.heap.size w w'
theorem LgB.later {w wr W' : World} {g cap : Nat} {ov : List Le} (h : LgB w wr g cap ov) (hb : Below wr.heap.size wr W') : LgB w W' g cap ov :=
  ⟨T.own_below h.o hb, fun x hx => (h.e x hx).below hb, h.b.trans (hb.mono h.b.size)⟩
theorem LgB.cell {w wr : World} {g cap : Nat} {ov : List Le} (h : LgB w wr g cap ov) {k : Nat} {x : Le} (hk : ov[k]? = some x) : wr.cell? ⟨g, k * 2, none⟩ = some (.string x.1.1) ∧ wr.cell? ⟨g, k * 2 + 1, none⟩ = some (.slice (some ⟨x.2.1, 0, none⟩) x.1.2.length x.2.2) := by
  have hc := h.o.cells (g := g) rfl
  have q0 := hc (k * 2 + 0) _ (lgc_get ov k 0 x _ _ hk rfl)
  have q1 := hc (k * 2 + 1) _ (lgc_get ov k 1 x _ _ hk rfl)
  rw [Addr.add_lit, Nat.zero_add] at q0 q1
  exact ⟨q0, q1⟩
theorem LgB.last {w wr : World} {g cap : Nat} {ov : List Le} (h : LgB w wr g cap ov) : wr.cell? ⟨g, ov.length * 2, none⟩ = some (.string ⟨#[115, 112, 97, 114, 101, 32, 114, 111, 111, 109]⟩) := by
  have hc := h.o.cells (g := g) rfl
  have hlen : (lgc ov).length = ov.length * 2 := by
    have := h.o.1
    rw [List.length_append] at this
    simp only [List.length_cons, List.length_nil] at this
    omega
  have q0 := hc (ov.length * 2) (.string ⟨#[115, 112, 97, 114, 101, 32, 114, 111, 111, 109]⟩) (by rw [List.getElem?_append_right (by omega), hlen, Nat.sub_self]; rfl)
  rw [Addr.add_lit, Nat.zero_add] at q0
  exact q0
theorem LgB.gr {w wr : World} {g cap : Nat} {ov : List Le} {gs : List (ByteArray × List Nd)} (h : LgB w wr g cap ov) (hm : ov.map (·.1) = gs) : GrD wr (some ⟨g, 0, none⟩) gs := fun k r hr => by
  rw [← hm, List.getElem?_map] at hr
  cases hx : ov[k]? with
  | none => rw [hx] at hr; cases hr
  | some x =>
    rw [hx] at hr
    obtain rfl : x.1 = r := by simpa using hr
    obtain ⟨q0, q1⟩ := h.cell hx
    exact ⟨g, 0, some ⟨x.2.1, 0, none⟩, x.2.2, rfl, (h.o.lt g rfl).2, by rw [Nat.zero_add]; exact q0, by rw [Nat.zero_add]; exact q1, (h.e x (List.mem_of_getElem? hx)).rd⟩
theorem enters8 (args : Array Value) (w : World) : (callFunc 33 args).run Try.prog w = .ok (.enter 33 args) w := enters_of Try.func33 (by kernel_rfl) rfl args w
set_option maxRecDepth 100000 in
set_option maxHeartbeats 8000000 in
theorem lendG_any (gs : List (ByteArray × List Nd)) (A : Option Addr) (c : Nat) (w : World) (hg : GrIn w A c gs) :
    Calls Try.prog 9 #[.agg #[.slice A gs.length c]] w fun e w' => ∃ g cap ov, e = .returned (.agg #[.slice (some ⟨g, 0, none⟩) gs.length cap]) ∧ ov.map (·.1) = gs ∧ LgB w w' g cap ov := by
  obtain ⟨i0, hinf, hz0, hz1, hz2⟩ := info_parts Try.info41
  have hl := hg.len
  have HG := (show Hid (∀ k, k < gs.length → ∃ g, gs[k]? = some g ∧ g.2.length * 64 ≤ 140737488351232 ∧ ∃ b o A2 c2, A = some ⟨b, o, none⟩ ∧ b < w.heap.size ∧ w.cell? ⟨b, o + k * 2, none⟩ = some (.string g.1) ∧ w.cell? ⟨b, o + k * 2 + 1, none⟩ = some (.slice A2 g.2.length c2) ∧ T.InP w A2 c2 g.2) from fun k hk => by
    have e : gs[k]? = some gs[k] := List.getElem?_eq_getElem hk
    obtain ⟨b, o, _, _, h1, h2, h3, _, _⟩ := hg.d k _ e
    obtain ⟨A3, c3, h6, h7⟩ := hg.each k _ e
    exact ⟨_, e, h6.2.2.2.1, b, o, A3, c3, h1, h2, h3, h7 b o h1, h6.1, h6.2.1⟩)
  have HA := (show Hid (LgI w ((w.alloc (.cells #[.slice A gs.length c] 24)).alloc (.cells #[.slice none 0 0] 24)) (.slice A gs.length c) (.slice none 0 0) []) from
    ⟨World.ownsRow_nil _ _ _ _, (fun x hx => by cases hx), ((Below.refl _ _).alloc (Nat.le_refl _) _).alloc (by rw [World.size_alloc]; omega) _, (GX.mk (heap_alloc_new w _)).below (below_box _ _), ⟨by have h := heap_alloc_new (w.alloc (.cells #[.slice A gs.length c] 24)) (.cells #[.slice none 0 0] 24); rw [World.size_alloc] at h; exact h⟩⟩)
  clear hg
  go_enter Try.func9, Try.ntmps9
  go_wp2_with fail
  generalize (w.alloc (.cells #[.slice A gs.length c] 24)).alloc (.cells #[.slice none 0 0] 24) = w1 at *
  go_loopw [3, 4] (fun v t wr => ∃ (k : Nat) (ov : List Le) (Av : Option Addr) (cv : Nat), k ≤ gs.length ∧ t = .int .i64 k ∧ v = .slice Av k cv ∧ Hid (ov.length = k ∧ ov.map (·.1) = gs.take k) ∧ Hid (LgI w wr (.slice A gs.length c) (.slice Av k cv) ov)) (fun _ t _ => gs.length - (intOf t).toNat)
  case atStart => exact ⟨0, [], none, 0, Nat.zero_le _, rfl, rfl, ⟨rfl, rfl⟩, HA⟩
  case round =>
    obtain ⟨k, ov, Av, cv, hk, rfl, rfl, HM, HW⟩ := hrel
    clear HA
    have x0 := HW.out.x.cl
    by_cases hlt : k < gs.length
    · obtain ⟨g, hgk, hgl, b, o, A2, c2, rfl, lb, e0, e1, hin⟩ := HG.out k hlt
      have z0 : (0 : Int) ≤ (k : Int) := by omega
      have z1 : (k : Int) < (gs.length : Int) := by omega
      have hD : Below wr.heap.size wr wr.drew := (Below.refl _ _).drew
      have HLd := (show Hid (LgI w wr.drew (.slice (some ⟨b, o, none⟩) gs.length c) (.slice Av k cv) ov) from HW.out.later hD)
      have d0 := (HLd.out.b.cell (p := ⟨b, o + k * 2, none⟩) lb).trans e0
      have d1 := (HLd.out.b.cell (p := ⟨b, o + k * 2 + 1, none⟩) lb).trans e1
      have dx := HLd.out.x.cl
      have hsz : w.heap.size ≤ wr.heap.size := HW.out.b.size
      have HCall := (show Hid (∀ _ : Unit, Calls Try.prog 33 #[.slice A2 g.2.length c2] wr.drew fun e w' => (∃ g9 cap, e = .returned (.slice (some ⟨g9, 0, none⟩) g.2.length cap) ∧ T.LentR w' w.heap.size g9 cap g.2) ∧ Below wr.drew.heap.size wr.drew w') from fun _ => by
        refine (T.lend_any A2 c2 g.2 wr.drew hgl ⟨hin.1.below HLd.out.b (Nat.le_refl _), hin.2⟩).mono ?_
        rintro e w' ⟨⟨g9, cap, rfl, r9⟩, b9⟩
        exact ⟨⟨g9, cap, rfl, T.own_base r9 (by show w.heap.size ≤ wr.heap.size; exact hsz)⟩, b9⟩)
      have HAft := (show Hid (∀ wA, Below wr.drew.heap.size wr.drew wA → wA.cell? ⟨w.heap.size, 0, none⟩ = some (.slice (some ⟨b, o, none⟩) gs.length c) ∧ wA.cell? ⟨b, o + k * 2, none⟩ = some (.string g.1)) from fun wA hA => by
        have h3 := HLd.out.later hA
        exact ⟨h3.x.cl, (h3.b.cell (p := ⟨b, o + k * 2, none⟩) lb).trans e0⟩)
      have HTk := (show Hid (gs.take (k + 1) = gs.take k ++ [g]) from by rw [List.take_add_one, hgk]; rfl)
      have hov := HM.out.1
      have HO := (show Hid (wr.drew.ownsRow w.heap.size 57 2 (.slice Av k cv) k (lgc ov)) from by have h := HLd.out.o; rw [hov] at h; exact h)
      clear hgk hin e0 e1 HG hlt hov
      obtain ⟨nm, L⟩ := g
      simp only at d0 d1 HCall HAft HTk hgl
      go_wp2_with fail
      go_region_law (first
        | (refine step_call1 enters8 rfl _ _ (by rfl) (.slice A2 L.length c2) (by rfl) ?_; with_reducible refine (HCall.out ()).mono ?_; rintro e wA ⟨⟨g, cap, rfl, rA⟩, bA⟩; refine ⟨_, rfl, ?_⟩; obtain ⟨ax, a0⟩ := HAft.out wA bA)
        | (refine step_append_lies _ (by rfl) _ _ _ (by rfl) w.heap.size 57 i0 (.agg #[.string ⟨#[]⟩, .slice none 0 0]) 2 40 Try.underlying22 hinf hz0 hz1 hz2 rfl (by omega) _ _ (lgc ov) (by rfl) ((T.own_below HO.out bA).alloc _) ⟨wA.heap.size, 0, none⟩ 1 1 [.string nm, .slice (some ⟨g, 0, none⟩) L.length cap] (by rfl) (by rfl) (World.news_of_block (cs := #[.string nm, .slice (some ⟨g, 0, none⟩) L.length cap]) (t := 57) (fr := (0, 0)) (heap_alloc_new wA _)) (by intro u hu; simp only [List.mem_cons, List.not_mem_nil, or_false] at hu; rcases hu with rfl | rfl <;> rfl) (by omega) (by unfold maxLen; omega) (by omega) (by have q1 := bA.size; have q2 : wr.drew.heap.size = wr.heap.size := rfl; rw [World.size_alloc]; omega) (wA.heap.size + 1) (by simp) ?_; intro g3 cap3 w5 hown hgrow hat hltg))
      all_goals
        have HN := (show Hid (LgI w w5 (.slice (some ⟨b, o, none⟩) gs.length c) (.slice (some ⟨g3, 0, none⟩) (k + 1) cap3) (ov ++ [((nm, L), g, cap)])) from by
          have q2 : wr.drew.heap.size = wr.heap.size := rfl
          have hA : Below wr.heap.size wr wA := hD.trans (by rw [← q2]; exact bA)
          exact HW.out.push hA rA hgrow (by rw [HM.out.1]; exact hown))
        clear hown hgrow hat hltg rA bA ax a0 HCall HAft HO HLd HW hD
        go_wp2_with fail
        go_roundw
        case rel => exact ⟨k + 1, _, _, _, by omega, by go_num, rfl, ⟨by rw [List.length_append, HM.out.1]; rfl, by rw [List.map_append, HM.out.2, HTk.out]; rfl⟩, HN⟩
        case measure => simp [intOf]; omega
    · obtain rfl : k = gs.length := by omega
      have hov := HM.out.1
      have hO := HW.out.o
      rw [hov] at hO
      have hsz : w.heap.size ≤ wr.heap.size := HW.out.b.size
      have HMm := (show Hid (ov.map (·.1) = gs) from by have := HM.out.2; rw [List.take_length] at this; exact this)
      have HWl := (show Hid (LgI w (wr.alloc (.cells #[.string ⟨#[115, 112, 97, 114, 101, 32, 114, 111, 111, 109]⟩, .slice none 0 0] 57)) (.slice A gs.length c) (.slice Av gs.length cv) ov) from HW.out.later (below_box _ _))
      have HL := (show Hid (ov.length = gs.length) from hov)
      clear HG hlt hov HM HW
      go_wp2_with (at_builtin; refine wpList_append_lies _ rfl _ _ 22 rfl w.heap.size 57 i0 (.agg #[.string ⟨#[]⟩, .slice none 0 0]) 2 40 Try.underlying22 hinf hz0 hz1 hz2 rfl (by decide) _ _ _ rfl (hO.alloc _) ⟨wr.heap.size, 0, none⟩ 1 1 [.string ⟨#[115, 112, 97, 114, 101, 32, 114, 111, 111, 109]⟩, .slice none 0 0] rfl rfl ?c1 ?c2 (by decide) ?c3 ?c4 ?c5 (wr.heap.size + 1) (by simp) ?_)
      case c1 => exact World.news_of_block (cs := #[.string ⟨#[115, 112, 97, 114, 101, 32, 114, 111, 111, 109]⟩, .slice none 0 0]) (t := 57) (fr := (0, 0)) (heap_alloc_new wr _)
      case c2 => intro u hu; simp only [List.mem_cons, List.not_mem_nil, or_false] at hu; rcases hu with rfl | rfl <;> rfl
      case c3 => unfold maxLen; omega
      case c4 => omega
      case c5 => rw [World.size_alloc]; omega
      intro g3 cap3 w5 hown hgrow hat hltg
      have hcap : gs.length + 1 ≤ cap3 := by
        rcases hown.2 with ⟨q, _⟩ | ⟨g2, c2, cur, q, _, _, h3, _⟩
        · cases q
        · cases q; exact h3
      have HF := (show Hid (GX w5 (w.heap.size + 1) (.slice none 0 0) ∧ LgB w w5 g3 cap3 ov) from by
        have h2 := HWl.out
        have key : ∀ (y : Le), T.LentR (wr.alloc (.cells #[.string ⟨#[115, 112, 97, 114, 101, 32, 114, 111, 111, 109]⟩, .slice none 0 0] 57)) w.heap.size y.2.1 y.2.2 y.1.2 → T.LentR w5 w.heap.size y.2.1 y.2.2 y.1.2 := fun y hy =>
          own_same (v := .slice (some ⟨y.2.1, 0, none⟩) (y.1.2.length + 1) y.2.2) hy fun k hk => hgrow.block k (World.ownsRow.lt hy k hk).2 (fun q => own_apart h2.o hy (by decide) q.symm hk)
        refine ⟨h2.y.same (hgrow.block _ h2.y.lt (fun e => h2.y.ne h2.o (by decide) e.symm rfl)), ?_, fun y hy => key y (h2.e y hy), h2.b.grown hgrow h2.b.size (fun k e => (h2.o.lt k e).1)⟩
        rw [HL.out]
        exact hown)
      have hf := HF.out.1.fz
      have hcl := HF.out.1.cl
      have z0 : (0 : Int) ≤ (gs.length : Int) := by omega
      have z1 : (gs.length : Int) ≤ (cap3 : Int) := by omega
      clear hown hgrow hat hltg hO HWl x0
      go_wp2_with fail
      refine ret_gx rfl rfl rfl (HF.out.1.set _) ?_
      have hb := HF.out.2
      have hk : (w5.setCell ⟨w.heap.size + 1, 0, none⟩ (.slice (some ⟨g3, 0, none⟩) gs.length cap3)).heap.size = w5.heap.size := by simp [World.setCell]
      have key : ∀ (j : Nat), j ≠ w.heap.size + 1 → (w5.setCell ⟨w.heap.size + 1, 0, none⟩ (.slice (some ⟨g3, 0, none⟩) gs.length cap3)).heap[j]? = w5.heap[j]? := fun j hj => Below.heap_setCell _ _ _ _ hj
      refine ⟨g3, cap3, ov, rfl, HMm.out, own_same hb.o fun j hj => key j (HF.out.1.ne hb.o (by decide) hj), fun y hy => ?_, hb.b.setCell (p := ⟨w.heap.size + 1, 0, none⟩) (by show w.heap.size ≤ w.heap.size + 1; omega) _⟩
      exact own_same (v := .slice (some ⟨y.2.1, 0, none⟩) (y.1.2.length + 1) y.2.2) (hb.e y hy) fun j hj => key j (HF.out.1.ne (hb.e y hy) (by decide) hj)
end Go.Proofs.Ytppggnmlbcdegaa.N

namespace Go.Proofs.Ytppggnmlbcdegaa.U
open Go.RowKit
/-- What is written lies behind a block: what stands ahead of it is as it was. -/
theorem below_grown {w W W' : World} {row : Option Nat} (h : Below w.heap.size w W) (hg : W.grownBy W' row) (hr : ∀ k, row = some k → w.heap.size ≤ k) : Below w.heap.size w W' := h.grown hg h.size (fun j hj => hr j hj)
end Go.Proofs.Ytppggnmlbcdegaa.U

namespace Go.Proofs.Ytppggnmlbcdegaa.N
open Go.RowKit Go.Maps
open Go.Proofs.Ytppggnmlbcdegaa.T
/-- A rule that lies in memory of its own: it, and its pattern's list. -/
abbrev Rg : Type := (ByteArray × List Nd) × Value
def rgV (x : Rg) : List Value := [.string x.1.1, x.2]
def rgc (l : List Rg) : List Value := l.flatMap rgV
theorem rgc_app (a b : List Rg) : rgc (a ++ b) = rgc a ++ rgc b := List.flatMap_append
theorem rgc_one (x : Rg) : rgc [x] = rgV x := by unfold rgc; rw [List.flatMap_cons, List.flatMap_nil, List.append_nil]
theorem rgc_get (l : List Rg) : ∀ (k j : Nat) (x : Rg) (u : Value), l[k]? = some x → (rgV x)[j]? = some u → (rgc l)[k * 2 + j]? = some u := by
  induction l with
  | nil => intro k j x u h; cases h
  | cons a l ih =>
    intro k j x u h hu
    have e : rgc (a :: l) = rgV a ++ rgc l := by unfold rgc; rw [List.flatMap_cons]
    rw [e]
    have hj : j < 2 := (List.getElem?_eq_some_iff.1 hu).1
    cases k with
    | zero =>
      cases h
      rw [Nat.zero_mul, Nat.zero_add, List.getElem?_append_left (by show j < 2; exact hj)]
      exact hu
    | succ k =>
      have h2 : l[k]? = some x := by simpa using h
      have e2 : (rgV a).length = 2 := rfl
      rw [List.getElem?_append_right (by rw [e2]; omega), e2, show (k + 1) * 2 + j - 2 = k * 2 + j from by omega]
      exact ih k j x u h2 hu
/-- A grammar that lies in memory of its own, rule by rule. -/
structure OG (W : World) (B : Nat) (v : Value) (ov : List Rg) : Prop where
  o : W.ownsRow B 57 2 v ov.length (rgc ov)
  e : ∀ x ∈ ov, W.ownsRow B 68 7 x.2 x.1.2.length (ndc x.1.2)
  ap : ov.Pairwise fun x y => ∀ k, x.2.ownBlock = some k → y.2.ownBlock ≠ some k
theorem OG.nil (W : World) (B : Nat) : OG W B (.slice none 0 0) [] := ⟨World.ownsRow_nil _ _ _ _, (fun x hx => by cases hx), List.Pairwise.nil⟩
theorem OG.later {W W' : World} {B : Nat} {v : Value} {ov : List Rg} (h : OG W B v ov) (hb : Below W.heap.size W W') : OG W' B v ov :=
  ⟨T.own_below h.o hb, fun x hx => T.own_below (h.e x hx) hb, h.ap⟩
theorem OG.same {W W' : World} {B : Nat} {v : Value} {ov : List Rg} (h : OG W B v ov) (hk : ∀ k, (v.ownBlock = some k ∨ ∃ x ∈ ov, x.2.ownBlock = some k) → W'.heap[k]? = W.heap[k]?) : OG W' B v ov :=
  ⟨own_same h.o fun k q => hk k (.inl q), fun x hx => own_same (h.e x hx) fun k q => hk k (.inr ⟨x, hx, q⟩), h.ap⟩
theorem OG.ne {W : World} {B i : Nat} {v a : Value} {ov : List Rg} (h : OG W B v ov) (hx : GX W i a) {k : Nat} (hk : v.ownBlock = some k ∨ ∃ x ∈ ov, x.2.ownBlock = some k) : k ≠ i := by
  rcases hk with q | ⟨x, hx2, q⟩
  · exact hx.ne h.o (by decide) q
  · exact hx.ne (h.e x hx2) (by decide) q
theorem OG.push {W wA w5 : World} {B : Nat} {v u v2 : Value} {ov : List Rg} {nm : ByteArray} {L : List Nd} (h : OG W B v ov) (hB : B ≤ W.heap.size) (hA : Below W.heap.size W wA) (hl : wA.ownsRow W.heap.size 68 7 v2 L.length (ndc L)) (hg : (wA.alloc (.cells #[.string nm, v2] 57)).grownBy w5 v.ownBlock) (ho : w5.ownsRow B 57 2 u (ov.length + 1) (rgc ov ++ [.string nm, v2])) : OG w5 B u (ov ++ [((nm, L), v2)]) := by
  have h2 : OG (wA.alloc (.cells #[.string nm, v2] 57)) B v ov := (h.later hA).later (below_box wA _)
  have hl2 : (wA.alloc (.cells #[.string nm, v2] 57)).ownsRow W.heap.size 68 7 v2 L.length (ndc L) := T.own_below hl (below_box wA _)
  have key : ∀ (b : Nat) (y : Value) (n : Nat) (zs : List Value), (wA.alloc (.cells #[.string nm, v2] 57)).ownsRow b 68 7 y n zs → w5.ownsRow b 68 7 y n zs := fun b y n zs hy =>
    own_same hy fun k hk => hg.block k (World.ownsRow.lt hy k hk).2 (fun q => own_apart h2.o hy (by decide) q.symm hk)
  refine ⟨?_, fun y hy => ?_, ?_⟩
  · rw [List.length_append, rgc_app, rgc_one]
    exact ho
  · rcases List.mem_append.1 hy with q | q
    · exact key _ _ _ _ (h2.e y q)
    · rw [List.mem_singleton.1 q]
      exact T.own_base (key _ _ _ _ hl2) hB
  · refine List.pairwise_append.2 ⟨h.ap, List.pairwise_singleton _ _, fun x hx y hy k hk q => ?_⟩
    rw [List.mem_singleton.1 hy] at q
    have q1 := ((h.e x hx).lt k hk).2
    have q2 := (hl.lt k q).1
    omega
theorem OG.cell {W : World} {B g cap n : Nat} {ov : List Rg} (h : OG W B (.slice (some ⟨g, 0, none⟩) n cap) ov) {k : Nat} {x : Rg} (hk : ov[k]? = some x) : W.cell? ⟨g, k * 2, none⟩ = some (.string x.1.1) ∧ W.cell? ⟨g, k * 2 + 1, none⟩ = some x.2 := by
  have hc := h.o.cells (g := g) rfl
  have q0 := hc (k * 2 + 0) _ (rgc_get ov k 0 x _ hk rfl)
  have q1 := hc (k * 2 + 1) _ (rgc_get ov k 1 x _ hk rfl)
  rw [Addr.add_lit, Nat.zero_add] at q0 q1
  exact ⟨q0, q1⟩
theorem own_sl {W : World} {B e s n : Nat} {v : Value} {xs : List Value} (h : W.ownsRow B e s v n xs) : ∃ A cap, v = .slice A n cap := by
  rcases h.2 with ⟨rfl, rfl⟩ | ⟨g, cap, cur, rfl, _⟩
  · exact ⟨_, _, rfl⟩
  · exact ⟨_, _, rfl⟩
theorem own_rd {W : World} {B : Nat} {v : Value} {L : List Nd} (h : W.ownsRow B 68 7 v L.length (ndc L)) : ∃ A c, v = .slice A L.length c ∧ RdN W A L := by
  obtain ⟨A, c, rfl⟩ := own_sl h
  refine ⟨A, c, rfl, fun q => ?_⟩
  obtain ⟨g, cap, e, _⟩ := h.form (by cases L with | nil => exact absurd rfl q | cons a l => exact Nat.succ_pos _)
  obtain ⟨rfl, rfl⟩ : A = some ⟨g, 0, none⟩ ∧ c = cap := by injection e with e1 e2 e3; exact ⟨e1, e3⟩
  exact ⟨g, 0, rfl, (h.lt g rfl).2, own_ndl (xs := []) (by rw [List.append_nil]; exact h)⟩
theorem OG.rd {W : World} {B : Nat} {v : Value} {ov : List Rg} {gs : GL} (h : OG W B v ov) (hm : ov.map (·.1) = gs) : GrR W v gs := by
  have hl : ov.length = gs.length := by rw [← hm, List.length_map]
  have ho := h.o
  obtain ⟨A, c, rfl⟩ := own_sl ho
  refine ⟨A, c, by rw [hl], fun k r hr => ?_⟩
  have hk : k < gs.length := (List.getElem?_eq_some_iff.1 hr).1
  obtain ⟨g, cap, e, _⟩ := ho.form (by omega)
  obtain ⟨rfl, rfl⟩ : A = some ⟨g, 0, none⟩ ∧ c = cap := by injection e with e1 e2 e3; exact ⟨e1, e3⟩
  rw [← hm, List.getElem?_map] at hr
  cases hx : ov[k]? with
  | none => rw [hx] at hr; cases hr
  | some x =>
    rw [hx] at hr
    obtain rfl : x.1 = r := by simpa using hr
    obtain ⟨q0, q1⟩ := h.cell hx
    obtain ⟨A2, c2, e2, r2⟩ := own_rd (h.e x (List.mem_of_getElem? hx))
    exact ⟨g, 0, A2, c2, rfl, (h.o.lt g rfl).2, by rw [Nat.zero_add]; exact q0, by rw [Nat.zero_add, q1, e2], r2⟩
end Go.Proofs.Ytppggnmlbcdegaa.N

namespace Go.Proofs.Ytppggnmlbcdegaa.N
open Go.RowKit Go.Maps
open Go.Proofs.Ytppggnmlbcdegaa.T
/-- What the program makes of a rule when a name changes: by the name alone. -/
def rnR (a b : ByteArray) (g : ByteArray × List Nd) : ByteArray × List Nd := (rnB a b g.1, g.2.map (reN a b))
/-- Where all names differ, it is the rule of that number alone whose name changes. -/
theorem rnR_reG {gs : GL} {r : Nat} {a b : ByteArray} {g0 : ByteArray × List Nd} (hd : Dn gs) (hr : gs[r]? = some g0) (ha : g0.1 = a) : gs.map (rnR a b) = reG gs r a b := by
  refine List.ext_getElem? fun k => ?_
  rw [reG_get, List.getElem?_map]
  cases hk : gs[k]? with
  | none => rfl
  | some g =>
    simp only [Option.map_some]
    unfold rnR rnB
    have e : g.1 = a ↔ k = r := ⟨fun q => hd.d k r g g0 hk hr (by rw [q, ha]), fun q => by rw [q, hr] at hk; cases hk; exact ha⟩
    by_cases q : k = r
    · rw [if_pos q, if_pos (e.2 q)]
    · rw [if_neg q, if_neg (fun z => q (e.1 z))]
/-- What Rename answers. -/
def rnE (gs : GL) (r : Int) (s : ByteArray) : Int := if lkR gs r ≠ 0 then lkR gs r else if nmB s = false then 6 else if fdN gs s ≥ 0 ∧ fdN gs s ≠ r then 80 else 0
def rnG (gs : GL) (r : Int) (s : ByteArray) : GL := if rnE gs r s = 0 then reG gs r.toNat ((gs[r.toNat]?).getD (⟨#[]⟩, [])).1 s else []
theorem rnE_bad {gs : GL} {r : Int} {s : ByteArray} (h : lkR gs r ≠ 0) : rnE gs r s = lkR gs r ∧ rnG gs r s = [] := by
  have h1 : rnE gs r s = lkR gs r := by unfold rnE; rw [if_pos h]
  exact ⟨h1, by unfold rnG; rw [h1, if_neg h]⟩
theorem rnE_name {gs : GL} {r : Int} {s : ByteArray} (h : lkR gs r = 0) (hn : nmB s = false) : rnE gs r s = 6 ∧ rnG gs r s = [] := by
  have h1 : rnE gs r s = 6 := by unfold rnE; rw [if_neg (fun q => q h), if_pos hn]
  exact ⟨h1, by unfold rnG; rw [h1]; rfl⟩
theorem rnE_twice {gs : GL} {r : Int} {s : ByteArray} (h : lkR gs r = 0) (hn : nmB s = true) (h0 : fdN gs s ≥ 0) (hr : fdN gs s ≠ r) : rnE gs r s = 80 ∧ rnG gs r s = [] := by
  have h1 : rnE gs r s = 80 := by unfold rnE; rw [if_neg (fun q => q h), if_neg (by rw [hn]; exact Bool.noConfusion), if_pos ⟨h0, hr⟩]
  exact ⟨h1, by unfold rnG; rw [h1]; rfl⟩
end Go.Proofs.Ytppggnmlbcdegaa.N

namespace Go.Proofs.Ytppggnmlbcdegaa.N
open Go.RowKit Go.Maps
open Go.Proofs.Ytppggnmlbcdegaa.T
theorem flat_set {α : Type} (f : α → List Value) (m i : Nat) (hm : ∀ x, (f x).length = m) (hi : i < m) (y : α) (u : Value) : ∀ (l : List α) (k : Nat) (x : α), l[k]? = some x → f y = (f x).set i u → (l.set k y).flatMap f = (l.flatMap f).set (k * m + i) u := by
  intro l
  induction l with
  | nil => intro k x h _; cases h
  | cons a l ih =>
    intro k x h hy
    cases k with
    | zero =>
      cases h
      rw [List.set_cons_zero, List.flatMap_cons, List.flatMap_cons, Nat.zero_mul, Nat.zero_add, List.set_append_left _ _ (by rw [hm]; exact hi), hy]
    | succ k =>
      have h2 : l[k]? = some x := by simpa using h
      have e : (k + 1) * m + i = m + (k * m + i) := by rw [Nat.add_mul]; omega
      rw [List.set_cons_succ, List.flatMap_cons, List.flatMap_cons, ih k x h2 hy, e, List.set_append_right _ _ (by rw [hm]; omega), hm, Nat.add_sub_cancel_left]
theorem rgc_name {ov : List Rg} {k : Nat} {x : Rg} (s : ByteArray) (h : ov[k]? = some x) : rgc (ov.set k ((s, x.1.2), x.2)) = (rgc ov).set (k * 2) (.string s) := by
  have := flat_set rgV 2 0 (fun _ => rfl) (by omega) ((s, x.1.2), x.2) (.string s) ov k x h rfl
  exact this
theorem rgc_same {ov : List Rg} {k : Nat} {x : Rg} (L : List Nd) (h : ov[k]? = some x) : rgc (ov.set k ((x.1.1, L), x.2)) = rgc ov := by
  have := flat_set rgV 2 0 (fun _ => rfl) (by omega) ((x.1.1, L), x.2) (.string x.1.1) ov k x h rfl
  have e := rgc_get ov k 0 x _ h rfl
  unfold rgc at e ⊢
  rw [this]
  refine List.ext_getElem? fun j => ?_
  rw [List.getElem?_set]
  split
  · rename_i q
    subst q
    rw [if_pos (List.getElem?_eq_some_iff.1 e).1, e]
  · rfl
theorem ndc_text {L : List Nd} {j : Nat} {n : Nd} (s : ByteArray) (h : L[j]? = some n) : ndc (L.set j { n with tx := s }) = (ndc L).set (j * 7 + 2) (.string s) :=
  flat_set ndV 7 2 (fun _ => rfl) (by omega) { n with tx := s } (.string s) L j n h rfl
theorem pair_set {ov : List Rg} {k : Nat} {x y : Rg} (h : ov.Pairwise fun x y => ∀ k, x.2.ownBlock = some k → y.2.ownBlock ≠ some k) (hx : ov[k]? = some x) (hy : y.2 = x.2) : (ov.set k y).Pairwise fun x y => ∀ k, x.2.ownBlock = some k → y.2.ownBlock ≠ some k := by
  have e : (ov.set k y).map (·.2) = ov.map (·.2) := by
    refine List.ext_getElem? fun j => ?_
    rw [List.getElem?_map, List.getElem?_map, List.getElem?_set]
    split
    · rename_i q
      subst q
      rw [if_pos (List.getElem?_eq_some_iff.1 hx).1, hx, Option.map_some, Option.map_some, hy]
    · rfl
  have h2 : (ov.map (·.2)).Pairwise fun (u v : Value) => ∀ k, u.ownBlock = some k → v.ownBlock ≠ some k := List.pairwise_map.2 h
  rw [← e] at h2
  exact List.pairwise_map.1 h2
theorem mem_set {ov : List Rg} {k : Nat} {y z : Rg} (h : z ∈ ov.set k y) : z = y ∨ ∃ j, j ≠ k ∧ ov[j]? = some z := by
  obtain ⟨j, hj⟩ := List.mem_iff_getElem?.1 h
  rw [List.getElem?_set] at hj
  split at hj
  · split at hj
    · cases hj; exact .inl rfl
    · cases hj
  · rename_i q
    exact .inr ⟨j, fun e => q e.symm, hj⟩
/-- A rule's name is written. -/
theorem OG.name {W : World} {B g n cap : Nat} {ov : List Rg} {k : Nat} {x : Rg} (h : OG W B (.slice (some ⟨g, 0, none⟩) n cap) ov) (hn : n = ov.length) (hx : ov[k]? = some x) (s : ByteArray) : OG (W.setCell ⟨g, k * 2, none⟩ (.string s)) B (.slice (some ⟨g, 0, none⟩) n cap) (ov.set k ((s, x.1.2), x.2)) := by
  subst hn
  have hot : ∀ q, q ≠ g → (W.setCell ⟨g, k * 2, none⟩ (.string s)).heap[q]? = W.heap[q]? := fun q hq => Below.heap_setCell _ _ _ _ hq
  have he : ∀ z ∈ ov, (W.setCell ⟨g, k * 2, none⟩ (.string s)).ownsRow B 68 7 z.2 z.1.2.length (ndc z.1.2) := fun z hz => own_same (h.e z hz) fun q hq => hot q fun e => own_apart (h.e z hz) h.o (by decide) hq (by rw [e]; rfl)
  refine ⟨?_, fun z hz => ?_, pair_set h.ap hx rfl⟩
  · rw [List.length_set, rgc_name s hx]
    exact (h.o.stored (k * 2) (.string s)).1
  · rcases mem_set hz with rfl | ⟨j, _, hj⟩
    · exact he x (List.mem_of_getElem? hx)
    · exact he z (List.mem_of_getElem? hj)
/-- A node's text is written. -/
theorem OG.text {W : World} {B : Nat} {v : Value} {ov : List Rg} {k j g2 l2 c2 : Nat} {x : Rg} {nd : Nd} (h : OG W B v ov) (hx : ov[k]? = some x) (h2 : x.2 = .slice (some ⟨g2, 0, none⟩) l2 c2) (hl : l2 = x.1.2.length) (hj : x.1.2[j]? = some nd) (s : ByteArray) : OG (W.setCell ⟨g2, j * 7 + 2, none⟩ (.string s)) B v (ov.set k ((x.1.1, x.1.2.set j { nd with tx := s }), x.2)) := by
  subst hl
  have hot : ∀ q, q ≠ g2 → (W.setCell ⟨g2, j * 7 + 2, none⟩ (.string s)).heap[q]? = W.heap[q]? := fun q hq => Below.heap_setCell _ _ _ _ hq
  have hxo := h.e x (List.mem_of_getElem? hx)
  have hxb : x.2.ownBlock = some g2 := by rw [h2]; rfl
  refine ⟨?_, fun z hz => ?_, pair_set h.ap hx rfl⟩
  · rw [List.length_set, rgc_same _ hx]
    exact own_same h.o fun q hq => hot q fun e => own_apart h.o hxo (by decide) hq (by rw [e]; exact hxb)
  · rcases mem_set hz with rfl | ⟨i, hi, hz2⟩
    · show (W.setCell ⟨g2, j * 7 + 2, none⟩ (.string s)).ownsRow B 68 7 x.2 (x.1.2.set j { nd with tx := s }).length (ndc (x.1.2.set j { nd with tx := s }))
      rw [List.length_set, ndc_text s hj, h2]
      rw [h2] at hxo
      exact (hxo.stored (j * 7 + 2) (.string s)).1
    · have hzo := h.e z (List.mem_of_getElem? hz2)
      refine own_same hzo fun q hq => hot q fun e => ?_
      subst e
      obtain ⟨a1, a2⟩ := List.getElem?_eq_some_iff.1 hx
      obtain ⟨b1, b2⟩ := List.getElem?_eq_some_iff.1 hz2
      rcases Nat.lt_or_gt_of_ne hi with q1 | q1
      · have := List.pairwise_iff_getElem.1 h.ap i k b1 a1 q1
        rw [a2, b2] at this
        exact this q hq hxb
      · have := List.pairwise_iff_getElem.1 h.ap k i a1 b1 q1
        rw [a2, b2] at this
        exact this q hxb hq
end Go.Proofs.Ytppggnmlbcdegaa.N

namespace Go.Proofs.Ytppggnmlbcdegaa.N
open Go.RowKit Go.Maps
open Go.Proofs.Ytppggnmlbcdegaa.T
theorem ret_gx2 {fn : Func} {R : Ending → World → Prop} {act : Act} {W : World} {k : Nat} {a x : Value} (hF : fn.results = #[.cell 6 24, .tmp 7]) (hd : act.defers = []) (h6 : act.tmps.getD 6 undef = .pointer (some ⟨k, 0, none⟩)) (h7 : act.tmps.getD 7 undef = x) (hT : GX W k a) (hR : R (.returned (.tuple #[.agg #[a], x])) W) : bodyPost Try.prog fn R .ret act W := by
  have c0 := hT.cl
  refine bodyPost_ret (v := .tuple #[.agg #[a], x]) ?_ hd hR
  simp only [Array.getD_eq_getD_getElem?] at h6 h7
  simp [results, hF, go_sem, h6, h7, c0]
/-- While a name is changed: the grammar's box and the answer's. -/
structure RnS (w wr : World) (a : Value) : Prop where
  b : Below w.heap.size w wr
  x : GX wr w.heap.size a
  y : GX wr (w.heap.size + 1) (.slice none 0 0)
theorem RnS.later {w wr W' : World} {a : Value} (h : RnS w wr a) (hb : Below wr.heap.size wr W') : RnS w W' a := ⟨h.b.trans (hb.mono h.b.size), h.x.below hb, h.y.below hb⟩
theorem RnS.mk2 (w : World) (a : Value) : RnS w ((w.alloc (.cells #[a] 24)).alloc (.cells #[.slice none 0 0] 24)) a :=
  ⟨((Below.refl _ _).alloc (Nat.le_refl _) _).alloc (by rw [World.size_alloc]; omega) _, (GX.mk (heap_alloc_new w _)).below (below_box _ _), ⟨by have h := heap_alloc_new (w.alloc (.cells #[a] 24)) (.cells #[.slice none 0 0] 24); rw [World.size_alloc] at h; exact h⟩⟩
/-- What Rename hands back: a grammar of its own and a code. -/
def RnA (w w' : World) (e : Ending) (gs : GL) (r : Int) (s : ByteArray) : Prop := ∃ v ov, e = .returned (.tuple #[.agg #[v], .int .i64 (rnE gs r s)]) ∧ ov.map (·.1) = rnG gs r s ∧ OG w' w.heap.size v ov
theorem RnA.none {w w' : World} {gs : GL} {r : Int} {s : ByteArray} {c : Int} (h : rnE gs r s = c ∧ rnG gs r s = []) : RnA w w' (.returned (.tuple #[.agg #[.slice none 0 0], .int .i64 c])) gs r s := ⟨_, [], by rw [h.1], by rw [h.2]; rfl, OG.nil _ _⟩
end Go.Proofs.Ytppggnmlbcdegaa.N

namespace Go.Proofs.Ytppggnmlbcdegaa.N
open Go.RowKit Go.Maps
open Go.Proofs.Ytppggnmlbcdegaa.T
/-- A call of a function value that holds what it captured, as one step of a region that draws its order. -/
theorem step_callv {F : Nat} (hen : ∀ args w, (callFunc F args).run Try.prog w = .ok (.enter F args) w) {ops : Array Oper} {o : Oper} {a : Act} {w : World} {K : Act → World → Prop} {Q : Exit → Act → World → Prop} {E : Prop} (hgd : o.guard = none) (f : Nat) (x : Operand) (T : TypeId) (ho : o.op = .call { callee := .value (.tmp f), args := #[x], argTypes := #[T] }) (p q : Value) (hf : a.eval (.tmp f) = .func (.func F) #[] #[p, q]) (v : Value) (hx : a.eval x = v)
    (hc : Calls Try.prog F #[v, p, q] w fun e w' => ∃ r, e = .returned r ∧ K (a.put o.dst r) w') :
    if Region.wanted o (yielded ops a.tmps) = true then Oper.wp Try.prog o a w K Q else E := by
  have hw : Region.wanted o (yielded ops a.tmps) = true := by simp [Region.wanted, hgd]
  rw [if_pos hw]
  have he : (execOp a.eval o).run Try.prog w = .ok (.enter F #[v, p, q]) w := by
    have hf2 : a.tmps[f]?.getD undef = .func (.func F) #[] #[p, q] := by simpa [Act.eval] using hf
    unfold execOp
    simp [ho, go_sem, invoke]
    rw [hf2]
    rw [← hx]
    cases x <;> simp [Act.eval, hen]
  unfold Oper.wp
  rw [he, Oper.upon_enter]
  refine hc.mono ?_
  rintro e w' ⟨r, rfl, hk⟩
  exact hk
theorem enters65 (args : Array Value) (w : World) : (callFunc 65 args).run Try.prog w = .ok (.enter 65 args) w := enters_of Try.func65 (by kernel_rfl) rfl args w
/-- While a renamed grammar is made. -/
structure RnT (w wr : World) (a : Value) (old nm : ByteArray) (v : Value) (ov : List Rg) : Prop where
  o : OG wr w.heap.size v ov
  b : Below w.heap.size w wr
  x : GX wr w.heap.size a
  p : BX wr (w.heap.size + 1) old
  q : BX wr (w.heap.size + 2) nm
  y : GX wr (w.heap.size + 3) (.slice none 0 0)
  z : GX wr (w.heap.size + 4) v
theorem RnT.later {w wr W' : World} {a v : Value} {old nm : ByteArray} {ov : List Rg} (h : RnT w wr a old nm v ov) (hb : Below wr.heap.size wr W') : RnT w W' a old nm v ov :=
  ⟨h.o.later hb, h.b.trans (hb.mono h.b.size), h.x.below hb, h.p.later hb, h.q.later hb, h.y.below hb, h.z.below hb⟩
theorem BX.same {W W' : World} {b : Nat} {s : ByteArray} (h : BX W b s) (hb : W'.heap[b]? = W.heap[b]?) : BX W' b s := ⟨hb.trans h.heap⟩
theorem BX.ne {W : World} {k B e s n : Nat} {u : Value} {t : ByteArray} {xs : List Value} (h : BX W k t) (ho : W.ownsRow B e s u n xs) (he : e ≠ 9) {j : Nat} (hj : u.ownBlock = some j) : j ≠ k := fun q => by
  subst q
  rcases ho.2 with ⟨rfl, _⟩ | ⟨g, cap, cur, rfl, _, hg, _⟩
  · cases hj
  · cases hj
    have h2 := h.heap
    rw [hg] at h2
    have h3 := Option.some.inj h2
    injection h3 with e1 e2 e3
    exact he e2
theorem RnT.start (w : World) (a : Value) (old nm : ByteArray) : RnT w (((((w.alloc (.cells #[a] 24)).alloc (.cells #[.string old] 9)).alloc (.cells #[.string nm] 9)).alloc (.cells #[.slice none 0 0] 24)).alloc (.cells #[.slice none 0 0] 24)) a old nm (.slice none 0 0) [] := by
  obtain ⟨w1, e1⟩ : ∃ w1, w1 = w.alloc (.cells #[a] 24) := ⟨_, rfl⟩
  obtain ⟨w2, e2⟩ : ∃ w2, w2 = w1.alloc (.cells #[.string old] 9) := ⟨_, rfl⟩
  obtain ⟨w3, e3⟩ : ∃ w3, w3 = w2.alloc (.cells #[.string nm] 9) := ⟨_, rfl⟩
  obtain ⟨w4, e4⟩ : ∃ w4, w4 = w3.alloc (.cells #[.slice none 0 0] 24) := ⟨_, rfl⟩
  obtain ⟨w5, e5⟩ : ∃ w5, w5 = w4.alloc (.cells #[.slice none 0 0] 24) := ⟨_, rfl⟩
  rw [← e1, ← e2, ← e3, ← e4, ← e5]
  have s1 : w1.heap.size = w.heap.size + 1 := by rw [e1, World.size_alloc]
  have s2 : w2.heap.size = w.heap.size + 2 := by rw [e2, World.size_alloc, s1]
  have s3 : w3.heap.size = w.heap.size + 3 := by rw [e3, World.size_alloc, s2]
  have s4 : w4.heap.size = w.heap.size + 4 := by rw [e4, World.size_alloc, s3]
  have b1 : Below w.heap.size w w1 := by rw [e1]; exact below_box _ _
  have b2 : Below w1.heap.size w1 w2 := by rw [e2]; exact below_box _ _
  have b3 : Below w2.heap.size w2 w3 := by rw [e3]; exact below_box _ _
  have b4 : Below w3.heap.size w3 w4 := by rw [e4]; exact below_box _ _
  have b5 : Below w4.heap.size w4 w5 := by rw [e5]; exact below_box _ _
  have g1 : GX w1 w.heap.size a := by rw [e1]; exact GX.mk (heap_alloc_new w _)
  have g2 : BX w2 (w.heap.size + 1) old := ⟨by rw [e2, ← s1]; exact heap_alloc_new w1 _⟩
  have g3 : BX w3 (w.heap.size + 2) nm := ⟨by rw [e3, ← s2]; exact heap_alloc_new w2 _⟩
  have g4 : GX w4 (w.heap.size + 3) (.slice none 0 0) := ⟨by rw [e4, ← s3]; exact heap_alloc_new w3 _⟩
  have g5 : GX w5 (w.heap.size + 4) (.slice none 0 0) := ⟨by rw [e5, ← s4]; exact heap_alloc_new w4 _⟩
  have c4 := b1.trans (((b2.trans (b3.mono b2.size)).trans (b4.mono (Nat.le_trans b2.size b3.size))).mono b1.size)
  exact ⟨OG.nil _ _, c4.trans (b5.mono c4.size), (((g1.below b2).below b3).below b4).below b5, ((g2.later b3).later b4).later b5, (g3.later b4).later b5, g4.below b5, g5⟩
theorem RnT.push {w wr wA w5 : World} {a v u v2 : Value} {old mm : ByteArray} {ov : List Rg} {nm : ByteArray} {L : List Nd} (h : RnT w wr a old mm v ov) (hA : Below wr.heap.size wr wA) (hl : wA.ownsRow wr.heap.size 68 7 v2 L.length (ndc L)) (hg : (wA.alloc (.cells #[.string nm, v2] 57)).grownBy w5 v.ownBlock) (ho : w5.ownsRow w.heap.size 57 2 u (ov.length + 1) (rgc ov ++ [.string nm, v2])) : GX w5 (w.heap.size + 4) v ∧ RnT w (w5.setCell ⟨w.heap.size + 4, 0, none⟩ u) a old mm u (ov ++ [((nm, L), v2)]) := by
  have h2 := (h.later hA).later (below_box wA (.cells #[.string nm, v2] 57))
  have kk : ∀ (j : Nat), j < (wA.alloc (.cells #[.string nm, v2] 57)).heap.size → (∀ q, v.ownBlock = some q → q ≠ j) → w5.heap[j]? = (wA.alloc (.cells #[.string nm, v2] 57)).heap[j]? := fun j hj hq => hg.block j hj (fun e => hq j e.symm rfl)
  have z5 := h2.z.same (kk _ h2.z.lt (fun q hq => h2.z.ne h2.o.o (by decide) hq))
  have x5 := h2.x.same (kk _ h2.x.lt (fun q hq => h2.x.ne h2.o.o (by decide) hq))
  have y5 := h2.y.same (kk _ h2.y.lt (fun q hq => h2.y.ne h2.o.o (by decide) hq))
  have p5 := h2.p.same (kk _ h2.p.lt (fun q hq => h2.p.ne h2.o.o (by decide) hq))
  have q5 := h2.q.same (kk _ h2.q.lt (fun q hq => h2.q.ne h2.o.o (by decide) hq))
  have o5 := h.o.push h.b.size hA hl hg ho
  have b5 : Below w.heap.size w w5 := h2.b.grown hg h2.b.size (fun k e => (h2.o.o.lt k e).1)
  have key : ∀ (j : Nat), j ≠ w.heap.size + 4 → (w5.setCell ⟨w.heap.size + 4, 0, none⟩ u).heap[j]? = w5.heap[j]? := fun j hj => Below.heap_setCell _ _ _ _ hj
  exact ⟨z5, o5.same fun k hk => key k (o5.ne z5 hk), b5.setCell (p := ⟨w.heap.size + 4, 0, none⟩) (by show w.heap.size ≤ w.heap.size + 4; omega) _, x5.same (key _ (by omega)), p5.same (key _ (by omega)), q5.same (key _ (by omega)), y5.same (key _ (by omega)), z5.set _⟩
/-- While a pattern of it is made. -/
structure RnJ (wA wr : World) (v : Value) (k : Nat) (L : List Nd) : Prop where
  b : Below wA.heap.size wA wr
  o : wr.ownsRow wA.heap.size 68 7 v k (ndc L)
theorem nx_put {W : World} {b : Nat} {n : Nd} (h : NX W b n) (t : ByteArray) : NX (W.setCell ⟨b, 2, none⟩ (.string t)) b { n with tx := t } := ⟨by rw [heap_setCell_same W b 2 _ 68 _ h.heap]; rfl⟩
theorem RnJ.wrote {wA wr wC : World} {v : Value} {k : Nat} {L : List Nd} {n : Nd} (h : RnJ wA wr v k L) (hC : Below (wr.alloc (ndO n)).heap.size (wr.alloc (ndO n)) wC) (t : ByteArray) : NX wC wr.heap.size n ∧ RnJ wA (wC.setCell ⟨wr.heap.size, 2, none⟩ (.string t)) v k L ∧ NX (wC.setCell ⟨wr.heap.size, 2, none⟩ (.string t)) wr.heap.size { n with tx := t } := by
  have n1 : NX (wr.alloc (ndO n)) wr.heap.size n := ⟨heap_alloc_new wr _⟩
  have n2 : NX wC wr.heap.size n := n1.same (hC.block _ n1.lt)
  have b2 : Below wr.heap.size wr wC := (below_box wr (ndO n)).trans (hC.mono (by rw [World.size_alloc]; omega))
  have o2 := T.own_below h.o b2
  have b3 := h.b.trans (b2.mono h.b.size)
  refine ⟨n2, ⟨b3.setCell (p := ⟨wr.heap.size, 2, none⟩) h.b.size _, own_same o2 fun q hq => Below.heap_setCell _ _ _ _ ?_⟩, nx_put n2 t⟩
  have := (h.o.lt q hq).2
  show q ≠ wr.heap.size
  omega
theorem RnJ.push {wA wD w5 : World} {v u : Value} {k : Nat} {L : List Nd} {n : Nd} (h : RnJ wA wD v k L) (hg : (wD.alloc (ndO n)).grownBy w5 v.ownBlock) (ho : w5.ownsRow wA.heap.size 68 7 u (k + 1) (ndc L ++ ndV n)) : RnJ wA w5 u (k + 1) (L ++ [n]) := by
  have b2 := h.b.alloc h.b.size (ndO n)
  have o2 := h.o.alloc (ndO n)
  refine ⟨b2.grown hg b2.size (fun q e => (o2.lt q e).1), ?_⟩
  have e : ndc (L ++ [n]) = ndc L ++ ndV n := by unfold ndc; rw [List.flatMap_append, List.flatMap_cons, List.flatMap_nil, List.append_nil]
  rw [e]
  exact ho
/-- What becomes of a node: by its kind. -/
theorem reN_call {a b : ByteArray} {n : Nd} (h : n.op = 6) : reN a b n = { n with tx := rnB a b n.tx } := by
  unfold reN rnB
  by_cases e : n.tx = a
  · rw [if_pos ⟨h, e⟩, if_pos e]
  · rw [if_neg (fun q => e q.2), if_neg e]
theorem reN_else {a b : ByteArray} {n : Nd} (h : ¬ n.op = 6) : reN a b n = { n with tx := n.tx } := by
  unfold reN
  rw [if_neg (fun q => h q.1)]
theorem make_nodes (w : World) (n : Nat) (hn : n ≤ 2048) : ∃ w1, (Instr.makeSlice 55 (.int .i64 0) (.int .i64 (n : Int))).run Try.prog w = .ok (.slice (some ⟨w.heap.size, 0, none⟩) 0 n) w1 ∧ RnJ w w1 (.slice (some ⟨w.heap.size, 0, none⟩) 0 n) 0 [] := by
  obtain ⟨i0, hinf, hz0, hz1, hz2⟩ := info_parts Try.info43
  obtain ⟨w2, hmk, ho2, hg2⟩ := run_make_own (P := Try.prog) w w.heap.size 55 68 i0 zA 7 Try.underlying55 hinf hz0 hz1 .i64 .i64 n (by rw [hz2]; omega) (by unfold maxLen; omega) (Nat.le_refl _)
  exact ⟨w2, hmk, U.below_grown (Below.refl _ _) hg2 (fun j e => by cases e), ho2⟩
end Go.Proofs.Ytppggnmlbcdegaa.N

namespace Go.Proofs.Ytppggnmlbcdegaa.N
open Go.RowKit Go.Maps
open Go.Proofs.Ytppggnmlbcdegaa.T
theorem ret_gx6 {fn : Func} {R : Ending → World → Prop} {act : Act} {W : World} {k : Nat} {a : Value} (hF : fn.results = #[.cell 6 24]) (hd : act.defers = []) (h6 : act.tmps.getD 6 undef = .pointer (some ⟨k, 0, none⟩)) (hT : GX W k a) (hR : R (.returned (.agg #[a])) W) : bodyPost Try.prog fn R .ret act W := by
  have c0 := hT.cl
  refine bodyPost_ret (v := .agg #[a]) ?_ hd hR
  simp only [Array.getD_eq_getD_getElem?] at h6
  simp [results, hF, go_sem, h6, c0]
/-- A rule in a box of its own. -/
structure RlX (W : World) (k : Nat) (s : ByteArray) (v : Value) : Prop where
  heap : W.heap[k]? = some (.cells #[.string s, v] 57 (0, 0))
theorem RlX.lt {W : World} {k : Nat} {s : ByteArray} {v : Value} (h : RlX W k s v) : k < W.heap.size := (Array.getElem?_eq_some_iff.1 h.heap).1
theorem RlX.later {W W' : World} {k : Nat} {s : ByteArray} {v : Value} (h : RlX W k s v) (hb : Below W.heap.size W W') : RlX W' k s v := ⟨(hb.block k h.lt).trans h.heap⟩
theorem RlX.c0 {W : World} {k : Nat} {s : ByteArray} {v : Value} (h : RlX W k s v) : W.cell? ⟨k, 0, none⟩ = some (.string s) := by rw [cell_of_row W k 0 _ 57 (0, 0) h.heap]; rfl
theorem RlX.c1 {W : World} {k : Nat} {s : ByteArray} {v : Value} (h : RlX W k s v) : W.cell? ⟨k, 1, none⟩ = some v := by rw [cell_of_row W k 1 _ 57 (0, 0) h.heap]; rfl
set_option maxRecDepth 100000 in
set_option maxHeartbeats 32000000 in
theorem renamed_any (gs : GL) (A : Option Addr) (c : Nat) (old nm : ByteArray) (hnm : nm.size ≤ 281474976710656) (w : World) (hp : GI w A gs) (hn : gs.length ≤ 200) (hL : ∀ g ∈ gs, g.2 ≠ [] ∧ g.2.length ≤ 2048) :
    Calls Try.prog 52 #[.agg #[.slice A gs.length c], .string old, .string nm] w fun e w' => (∃ v ov, e = .returned (.agg #[v]) ∧ ov.map (·.1) = gs.map (rnR old nm) ∧ OG w' w.heap.size v ov) ∧ Below w.heap.size w w' := by
  obtain ⟨i0, hinf, hz0, hz1, hz2⟩ := info_parts Try.info41
  obtain ⟨i1, jinf, jz0, jz1, jz2⟩ := info_parts Try.info43
  have hmf : ∀ (fn : Fn) (first cap : Array Value) (w : World), (Instr.makeFunc fn first cap).run Try.prog w = .ok (.func fn first cap) w := fun _ _ _ _ => rfl
  have HG := (show Hid (∀ k, k < gs.length → ∃ g, gs[k]? = some g ∧ g.2.length ≤ 2048 ∧ g.1.size ≤ 281474976710656 ∧ (∀ n ∈ g.2, n.tx.size ≤ 281474976710656) ∧ ∃ b o g2 o2 c2, A = some ⟨b, o, none⟩ ∧ b < w.heap.size ∧ w.cell? ⟨b, o + k * 2, none⟩ = some (.string g.1) ∧ w.cell? ⟨b, o + k * 2 + 1, none⟩ = some (.slice (some ⟨g2, o2, none⟩) g.2.length c2) ∧ g2 < w.heap.size ∧ NdL w g2 o2 g.2) from fun k hk => by
    have e : gs[k]? = some gs[k] := List.getElem?_eq_getElem hk
    obtain ⟨b, o, A2, c2, h1, h2, h3, h4, h5⟩ := hp.d k _ e
    have h6 := hL _ (List.getElem_mem hk)
    have h7 := hp.t _ (List.getElem_mem hk)
    obtain ⟨b2, o2, rfl, l2, d2⟩ := h5 h6.1
    exact ⟨_, e, h6.2, by omega, fun n hn => by have := h7.2.2 n hn; omega, b, o, _, _, c2, h1, h2, h3, h4, l2, d2⟩)
  have HA := (show Hid _ from RnT.start w (.slice A gs.length c) old nm)
  have q1 := HA.out.x.cl
  clear hp hL
  go_enter Try.func52, Try.ntmps52
  go_wp2_with fail
  rw [show w.heap.size + 1 + 1 + 1 + 1 = w.heap.size + 4 from rfl, show w.heap.size + 1 + 1 + 1 = w.heap.size + 3 from rfl, show w.heap.size + 1 + 1 = w.heap.size + 2 from rfl]
  generalize ((((w.alloc (.cells #[.slice A gs.length c] 24)).alloc (.cells #[.string old] 9)).alloc (.cells #[.string nm] 9)).alloc (.cells #[.slice none 0 0] 24)).alloc (.cells #[.slice none 0 0] 24) = w1 at *
  clear q1
  go_loopw [18] (fun t wr => ∃ (i : Nat) (ov : List Rg) (Av : Option Addr) (cv : Nat), i ≤ gs.length ∧ t = .int .i64 (i : Int) ∧ Hid (ov.length = i ∧ ov.map (·.1) = (gs.take i).map (rnR old nm)) ∧ Hid (RnT w wr (.slice A gs.length c) old nm (.slice Av i cv) ov)) (fun t _ => gs.length - (intOf t).toNat)
  case atStart => exact ⟨0, [], none, 0, Nat.zero_le _, rfl, ⟨rfl, rfl⟩, HA⟩
  case round =>
    obtain ⟨i, ov, Av, cv, hi, rfl, HM, HW⟩ := hrel
    clear HA
    obtain ⟨wL, hwL⟩ : ∃ wL, wL = wr := ⟨_, rfl⟩
    subst hwL
    by_cases hlt : i < gs.length
    · obtain ⟨g, hgk, hgl, hgs, htx, b, o, g2, o2, c2, rfl, lb, e0, e1, lg2, hNd⟩ := HG.out i hlt
      have z0 : (0 : Int) ≤ (i : Int) := by omega
      have z1 : (i : Int) < (gs.length : Int) := by omega
      have d0 := (HW.out.b.cell (p := ⟨b, o + i * 2, none⟩) lb).trans e0
      have d1 := (HW.out.b.cell (p := ⟨b, o + i * 2 + 1, none⟩) lb).trans e1
      have HTk := (show Hid (gs.take (i + 1) = gs.take i ++ [g]) from by rw [List.take_add_one, hgk]; rfl)
      have HNd := (show Hid (NdL w g2 o2 g.2) from hNd)
      have HTx := (show Hid (∀ n ∈ g.2, n.tx.size ≤ 281474976710656) from htx)
      have HNm := (show Hid (nm.size ≤ 281474976710656 ∧ g.1.size ≤ 281474976710656) from ⟨hnm, hgs⟩)
      clear hgk hNd htx hgs hnm e0 e1 HG hlt lb
      obtain ⟨gn, L⟩ := g
      simp only at d0 d1 hgl HTk HNd HTx HNm
      obtain ⟨wA, hwA⟩ : ∃ wA, wA = wL.alloc (.cells #[.string gn, .slice (some ⟨g2, o2, none⟩) L.length c2] 57) := ⟨_, rfl⟩
      have HEA := (show Hid (wL.alloc (.cells #[.string gn, .slice (some ⟨g2, o2, none⟩) L.length c2] 57) = wA) from hwA.symm)
      have HBA := (show Hid (Below wL.heap.size wL wA) from by show Below _ _ _; rw [hwA]; exact below_box _ _)
      have HRl := (show Hid (RlX wA wL.heap.size gn (.slice (some ⟨g2, o2, none⟩) L.length c2)) from ⟨by rw [hwA]; exact heap_alloc_new wL _⟩)
      obtain ⟨wM, hmk, hJ0⟩ := make_nodes wA L.length hgl
      have HJ0 := (show Hid _ from hJ0)
      have r1 := HRl.out.c1
      have r2 := (HRl.out.later hJ0.b).c1
      have HT := (show Hid (∀ W, Below wA.heap.size wA W → RnT w W (.slice (some ⟨b, o, none⟩) gs.length c) old nm (.slice Av i cv) ov) from fun W hW => (HW.out.later HBA.out).later hW)
      clear hwA hJ0
      go_wp2_with (rw [HEA.out])
      clear hmk r1 r2 d0 d1 HEA
      go_loopw [11, 29] (fun u t wr => ∃ (k : Nat) (Ab : Option Addr) (cb : Nat), k ≤ L.length ∧ t = .int .i64 (k : Int) ∧ u = .slice Ab k cb ∧ Hid (RnJ wA wr (.slice Ab k cb) k ((L.take k).map (reN old nm)))) (fun _ t _ => L.length - (intOf t).toNat)
      case atStart => exact ⟨0, _, _, Nat.zero_le _, by go_num, rfl, HJ0⟩
      case round =>
        obtain ⟨k, Ab, cb, hk, rfl, rfl, HJ⟩ := hrel
        clear HJ0
        obtain ⟨wK, hwK⟩ : ∃ wK, wK = wr := ⟨_, rfl⟩
        subst hwK
        by_cases hkl : k < L.length
        · obtain ⟨nd, hnd⟩ : ∃ nd, L[k]? = some nd := ⟨_, List.getElem?_eq_getElem hkl⟩
          have y0 : (0 : Int) ≤ (k : Int) := by omega
          have y1 : (k : Int) < (L.length : Int) := by omega
          have HTL := (show Hid ((L.take (k + 1)).map (reN old nm) = (L.take k).map (reN old nm) ++ [reN old nm nd]) from by show List.map _ _ = _; rw [List.take_add_one, hnd, List.map_append]; rfl)
          have hNB := (HNd.out k nd hnd).same (((HT.out wK HJ.out.b).b).block g2 lg2)
          obtain ⟨n0, n1, n2, n3, n4, n5, n6⟩ := hNB
          have HTB := (show Hid (RnT w (wK.alloc (ndO nd)) (.slice (some ⟨b, o, none⟩) gs.length c) old nm (.slice Av i cv) ov) from (HT.out wK HJ.out.b).later (below_box _ _))
          have HX := (show Hid (NX (wK.alloc (ndO nd)) wK.heap.size nd) from ⟨heap_alloc_new wK _⟩)
          have x0 : (wK.alloc (ndO nd)).cell? ⟨wK.heap.size, 0, none⟩ = _ := HX.out.nb.c0
          have x2 : (wK.alloc (ndO nd)).cell? ⟨wK.heap.size, 2, none⟩ = _ := HX.out.nb.c2
          have hts := HTx.out nd (List.mem_of_getElem? hnd)
          obtain ⟨wB, hwB⟩ : ∃ wB, wB = wK.alloc (ndO nd) := ⟨_, rfl⟩
          have HEB := (show Hid (wK.alloc (.cells #[.int .i64 nd.op, .int .i64 nd.nn, .string nd.tx, .int .u64 nd.s0, .int .u64 nd.s1, .int .u64 nd.s2, .int .u64 nd.s3] 68) = wB) from hwB.symm)
          have HW3 := (show Hid (∀ wC t, Below wB.heap.size wB wC → NX wC wK.heap.size nd ∧ RnJ wA (wC.setCell ⟨wK.heap.size, 2, none⟩ (.string t)) (.slice Ab k cb) k ((L.take k).map (reN old nm)) ∧ NX (wC.setCell ⟨wK.heap.size, 2, none⟩ (.string t)) wK.heap.size { nd with tx := t }) from fun wC t hC => HJ.out.wrote (by rw [hwB] at hC; exact hC) t)
          have H65 := (show Hid (∀ _ : Unit, Calls Try.prog 65 #[.string nd.tx, .pointer (some ⟨w.heap.size + 1, 0, none⟩), .pointer (some ⟨w.heap.size + 2, 0, none⟩)] wB fun e w' => e = .returned (.string (rnB old nm nd.tx)) ∧ Below wB.heap.size wB w') from fun _ => by
            rw [hwB]
            exact renamed1_any old nm nd.tx HNm.out.1 hts _ _ _ HTB.out.p HTB.out.q)
          have H66 := (show Hid (∀ _ : Unit, Calls Try.prog 66 #[.string nd.tx] wB fun e w' => e = .returned (.string nd.tx) ∧ Below wB.heap.size wB w') from fun _ => clone_any nd.tx hts wB)
          rw [← hwB] at x0 x2
          clear hnd hts HTB HX hwB
          by_cases h6 : nd.op = 6
          · have te : (nd.op == 6) = true := by rw [h6]; rfl
            have HRe := (show Hid (reN old nm nd = { nd with tx := rnB old nm nd.tx }) from reN_call h6)
            clear h6 H66
            go_wp2_with (rw [HEB.out])
            refine (H65.out ()).mono ?_
            rintro e wC ⟨rfl, bC⟩
            obtain ⟨m0, m1, m2⟩ := HW3.out wC (rnB old nm nd.tx) bC
            have f2 := m0.fz 2
            have k2 : wC.cell? ⟨wK.heap.size, 2, none⟩ = some (.string nd.tx) := m0.nb.c2
            clear H65 HW3 bC m0 x0 x2 n0 n1 n2 n3 n4 n5 n6 HEB te
            generalize rnB old nm nd.tx = tt at *
            obtain ⟨wD, hwD⟩ : ∃ wD, wD = wC.setCell ⟨wK.heap.size, 2, none⟩ (.string tt) := ⟨_, rfl⟩
            have HED := (show Hid (wC.setCell ⟨wK.heap.size, 2, none⟩ (.string tt) = wD) from hwD.symm)
            rw [← hwD] at m1 m2
            have HJD := (show Hid _ from m1)
            have v0 : wD.cell? ⟨wK.heap.size, 0, none⟩ = some (.int .i64 nd.op) := m2.nb.c0
            have v1 : wD.cell? ⟨wK.heap.size, 1, none⟩ = some (.int .i64 nd.nn) := m2.nb.c1
            have v2 : wD.cell? ⟨wK.heap.size, 2, none⟩ = some (.string tt) := m2.nb.c2
            have v3 : wD.cell? ⟨wK.heap.size, 3, none⟩ = some (.int .u64 nd.s0) := m2.nb.c3
            have v4 : wD.cell? ⟨wK.heap.size, 4, none⟩ = some (.int .u64 nd.s1) := m2.nb.c4
            have v5 : wD.cell? ⟨wK.heap.size, 5, none⟩ = some (.int .u64 nd.s2) := m2.nb.c5
            have v6 : wD.cell? ⟨wK.heap.size, 6, none⟩ = some (.int .u64 nd.s3) := m2.nb.c6
            have HDs := (show Hid (wA.heap.size ≤ wD.heap.size) from m1.b.size)
            clear hwD m1 m2
            go_wp2_with (first | rw [HED.out] | (at_builtin; refine wpList_append_lies _ rfl _ _ 55 rfl wA.heap.size 68 i1 zA 7 64 Try.underlying55 jinf jz0 jz1 jz2 rfl (by decide) _ _ _ rfl (HJD.out.o.alloc _) ⟨wD.heap.size, 0, none⟩ 1 1 (ndV { nd with tx := tt }) rfl rfl (World.news_of_block (cs := #[.int .i64 nd.op, .int .i64 nd.nn, .string tt, .int .u64 nd.s0, .int .u64 nd.s1, .int .u64 nd.s2, .int .u64 nd.s3]) (t := 68) (fr := (0, 0)) (heap_alloc_new wD _)) (nd_one _) (by decide) (by unfold maxLen; omega) (by omega) (by rw [World.size_alloc]; exact Nat.le_succ_of_le HDs.out) (wD.heap.size + 1) (by simp) ?_; intro g3 cap3 w5 hown hgrow hat hltg; have HJ5 := (show Hid (RnJ wA w5 (.slice (some ⟨g3, 0, none⟩) (k + 1) cap3) (k + 1) ((L.take (k + 1)).map (reN old nm))) from (by show RnJ _ _ _ _ _; rw [HTL.out, HRe.out]; exact HJD.out.push hgrow hown)); clear hown hgrow hat hltg))
            go_roundw
            case rel => exact ⟨k + 1, _, _, by omega, by go_num, rfl, HJ5⟩
            case measure => simp [intOf]; omega
          · have te : (nd.op == 6) = false := by rw [beq_eq_false_iff_ne]; exact h6
            obtain ⟨tt, htt⟩ : ∃ tt, tt = nd.tx := ⟨_, rfl⟩
            have HRe := (show Hid (reN old nm nd = { nd with tx := tt }) from by show reN old nm nd = _; rw [htt]; exact reN_else h6)
            have H67 := (show Hid (∀ _ : Unit, Calls Try.prog 66 #[.string nd.tx] wB fun e w' => e = .returned (.string tt) ∧ Below wB.heap.size wB w') from fun _ => by rw [htt]; exact H66.out ())
            clear h6 H65 htt H66
            go_wp2_with (rw [HEB.out])
            refine (H67.out ()).mono ?_
            rintro e wC ⟨rfl, bC⟩
            obtain ⟨m0, m1, m2⟩ := HW3.out wC tt bC
            have f2 := m0.fz 2
            have k2 : wC.cell? ⟨wK.heap.size, 2, none⟩ = some (.string nd.tx) := m0.nb.c2
            clear H67 HW3 bC m0 x0 x2 n0 n1 n2 n3 n4 n5 n6 HEB te
            obtain ⟨wD, hwD⟩ : ∃ wD, wD = wC.setCell ⟨wK.heap.size, 2, none⟩ (.string tt) := ⟨_, rfl⟩
            have HED := (show Hid (wC.setCell ⟨wK.heap.size, 2, none⟩ (.string tt) = wD) from hwD.symm)
            rw [← hwD] at m1 m2
            have HJD := (show Hid _ from m1)
            have v0 : wD.cell? ⟨wK.heap.size, 0, none⟩ = some (.int .i64 nd.op) := m2.nb.c0
            have v1 : wD.cell? ⟨wK.heap.size, 1, none⟩ = some (.int .i64 nd.nn) := m2.nb.c1
            have v2 : wD.cell? ⟨wK.heap.size, 2, none⟩ = some (.string tt) := m2.nb.c2
            have v3 : wD.cell? ⟨wK.heap.size, 3, none⟩ = some (.int .u64 nd.s0) := m2.nb.c3
            have v4 : wD.cell? ⟨wK.heap.size, 4, none⟩ = some (.int .u64 nd.s1) := m2.nb.c4
            have v5 : wD.cell? ⟨wK.heap.size, 5, none⟩ = some (.int .u64 nd.s2) := m2.nb.c5
            have v6 : wD.cell? ⟨wK.heap.size, 6, none⟩ = some (.int .u64 nd.s3) := m2.nb.c6
            have HDs := (show Hid (wA.heap.size ≤ wD.heap.size) from m1.b.size)
            clear hwD m1 m2
            go_wp2_with (first | rw [HED.out] | (at_builtin; refine wpList_append_lies _ rfl _ _ 55 rfl wA.heap.size 68 i1 zA 7 64 Try.underlying55 jinf jz0 jz1 jz2 rfl (by decide) _ _ _ rfl (HJD.out.o.alloc _) ⟨wD.heap.size, 0, none⟩ 1 1 (ndV { nd with tx := tt }) rfl rfl (World.news_of_block (cs := #[.int .i64 nd.op, .int .i64 nd.nn, .string tt, .int .u64 nd.s0, .int .u64 nd.s1, .int .u64 nd.s2, .int .u64 nd.s3]) (t := 68) (fr := (0, 0)) (heap_alloc_new wD _)) (nd_one _) (by decide) (by unfold maxLen; omega) (by omega) (by rw [World.size_alloc]; exact Nat.le_succ_of_le HDs.out) (wD.heap.size + 1) (by simp) ?_; intro g3 cap3 w5 hown hgrow hat hltg; have HJ5 := (show Hid (RnJ wA w5 (.slice (some ⟨g3, 0, none⟩) (k + 1) cap3) (k + 1) ((L.take (k + 1)).map (reN old nm))) from (by show RnJ _ _ _ _ _; rw [HTL.out, HRe.out]; exact HJD.out.push hgrow hown)); clear hown hgrow hat hltg))
            go_roundw
            case rel => exact ⟨k + 1, _, _, by omega, by go_num, rfl, HJ5⟩
            case measure => simp [intOf]; omega
        · obtain rfl : k = L.length := by omega
          have HJe := (show Hid (RnJ wA wK (.slice Ab L.length cb) L.length (L.map (reN old nm))) from by have h := HJ.out; rw [List.take_length] at h; exact h)
          have hD : Below wK.heap.size wK wK.drew := (Below.refl _ _).drew
          have HTd := (show Hid (RnT w wK.drew (.slice (some ⟨b, o, none⟩) gs.length c) old nm (.slice Av i cv) ov) from (HT.out wK HJe.out.b).later hD)
          have HRd := (show Hid (RlX wK.drew wL.heap.size gn (.slice (some ⟨g2, o2, none⟩) L.length c2)) from (HRl.out.later HJe.out.b).later hD)
          have HOd := (show Hid (wK.drew.ownsRow wL.heap.size 68 7 (.slice Ab L.length cb) L.length (ndc (L.map (reN old nm)))) from T.own_base (T.own_below HJe.out.o hD) HBA.out.size)
          have HBd := (show Hid (Below wL.heap.size wL wK.drew) from (HBA.out.trans (HJe.out.b.mono HBA.out.size)).drew)
          have dz := HTd.out.z.cl
          have dn := HRd.out.c0
          have HCall := (show Hid (∀ _ : Unit, Calls Try.prog 65 #[.string gn, .pointer (some ⟨w.heap.size + 1, 0, none⟩), .pointer (some ⟨w.heap.size + 2, 0, none⟩)] wK.drew fun e w' => e = .returned (.string (rnB old nm gn)) ∧ Below wK.drew.heap.size wK.drew w') from fun _ => renamed1_any old nm gn HNm.out.1 HNm.out.2 _ _ _ HTd.out.p HTd.out.q)
          have HAft := (show Hid (∀ wX, Below wK.drew.heap.size wK.drew wX → wX.cell? ⟨wL.heap.size, 0, none⟩ = some (.string gn) ∧ wX.cell? ⟨w.heap.size + 4, 0, none⟩ = some (.slice Av i cv) ∧ ∀ ob : Obj, (wX.alloc ob).cell? ⟨w.heap.size + 4, 0, none⟩ = some (.slice Av i cv)) from fun wX hX => by
            have h3 := HTd.out.later hX
            exact ⟨(HRd.out.later hX).c0, h3.z.cl, fun ob => (h3.later (below_box wX ob)).z.cl⟩)
          have hov := HM.out.1
          have HO := (show Hid (wK.drew.ownsRow w.heap.size 57 2 (.slice Av i cv) i (rgc ov)) from by have h := HTd.out.o.o; rw [hov] at h; exact h)
          have HPu := (show Hid (∀ (wX w5 : World) (u : Value) (t : ByteArray), Below wK.drew.heap.size wK.drew wX → (wX.alloc (.cells #[.string t, .slice Ab L.length cb] 57)).grownBy w5 (Value.slice Av i cv).ownBlock → w5.ownsRow w.heap.size 57 2 u (i + 1) (rgc ov ++ [.string t, .slice Ab L.length cb]) → GX w5 (w.heap.size + 4) (.slice Av i cv) ∧ RnT w (w5.setCell ⟨w.heap.size + 4, 0, none⟩ u) (.slice (some ⟨b, o, none⟩) gs.length c) old nm u (ov ++ [((t, L.map (reN old nm)), .slice Ab L.length cb)])) from fun wX w5 u t hX hg ho => by
            refine HW.out.push (HBd.out.trans (hX.mono HBd.out.size)) ?_ hg (by rw [HM.out.1]; exact ho)
            rw [List.length_map]
            exact T.own_below HOd.out hX)
          have HsD := (show Hid (∀ wX, Below wK.drew.heap.size wK.drew wX → w.heap.size ≤ wX.heap.size) from fun wX hX => Nat.le_trans HTd.out.b.size hX.size)
          obtain ⟨tn, htn⟩ : ∃ tn, tn = rnB old nm gn := ⟨_, rfl⟩
          have HTn := (show Hid (tn = rnB old nm gn) from htn)
          rw [← htn] at HCall
          clear htn
          clear HNd HTx HNm HT HJ HJe HTd HRd HOd HBd HRl HBA hov
          go_wp2_with fail
          go_region_law (first
            | (refine step_callv enters65 rfl _ _ _ (by rfl) (.pointer (some ⟨w.heap.size + 1, 0, none⟩)) (.pointer (some ⟨w.heap.size + 2, 0, none⟩)) (by rfl) (.string gn) (by rfl) ?_; with_reducible refine (HCall.out ()).mono ?_; rintro e wX ⟨rfl, bX⟩; refine ⟨_, rfl, ?_⟩; obtain ⟨a0, az, ay⟩ := HAft.out wX bX)
            | (refine step_append_lies _ (by rfl) _ _ _ (by rfl) w.heap.size 57 i0 (.agg #[.string ⟨#[]⟩, .slice none 0 0]) 2 40 Try.underlying22 hinf hz0 hz1 hz2 rfl (by omega) _ _ (rgc ov) (by rfl) ((T.own_below HO.out bX).alloc _) ⟨wX.heap.size, 0, none⟩ 1 1 [.string tn, .slice Ab L.length cb] (by rfl) (by rfl) (World.news_of_block (cs := #[.string tn, .slice Ab L.length cb]) (t := 57) (fr := (0, 0)) (heap_alloc_new wX _)) (by intro u hu; simp only [List.mem_cons, List.not_mem_nil, or_false] at hu; rcases hu with rfl | rfl <;> rfl) (by omega) (by unfold maxLen; omega) (by omega) (by rw [World.size_alloc]; exact Nat.le_succ_of_le (HsD.out wX bX)) (wX.heap.size + 1) (by simp) ?_; intro g3 cap3 w5 hown hgrow hat hltg; obtain ⟨hz5, hpu⟩ := HPu.out wX w5 (.slice (some ⟨g3, 0, none⟩) (i + 1) cap3) tn bX hgrow hown; have HPn := (show Hid _ from hpu); clear hpu; have hzf := hz5.fz; have hzc := hz5.cl; clear hz5))
          all_goals
            clear hown hgrow hat hltg bX a0 az ay HCall HAft HO HPu HsD
            generalize w5.setCell ⟨w.heap.size + 4, 0, none⟩ (.slice (some ⟨g3, 0, none⟩) (i + 1) cap3) = w6 at *
            go_wp2_with fail
            go_roundw
            case rel => exact ⟨i + 1, _, _, _, by omega, by go_num, ⟨by rw [List.length_append, HM.out.1]; rfl, by rw [List.map_append, HM.out.2, HTk.out, List.map_append, HTn.out]; rfl⟩, HPn⟩
            case measure => simp [intOf]; omega
    · obtain rfl : i = gs.length := by omega
      have HMm := (show Hid (ov.map (·.1) = gs.map (rnR old nm)) from by have := HM.out.2; rw [List.take_length] at this; exact this)
      have hyf := HW.out.y.fz
      have hyc := HW.out.y.cl
      have hzc := HW.out.z.cl
      clear HG HM
      go_wp2_with fail
      refine ret_gx6 rfl rfl rfl (HW.out.y.set _) ?_
      have h5 := HW.out
      have key : ∀ (j : Nat), j ≠ w.heap.size + 3 → (wL.setCell ⟨w.heap.size + 3, 0, none⟩ (.slice Av gs.length cv)).heap[j]? = wL.heap[j]? := fun j hj => Below.heap_setCell _ _ _ _ hj
      exact ⟨⟨_, ov, rfl, HMm.out, h5.o.same fun j hj => key j (h5.o.ne h5.y hj)⟩, h5.b.setCell (p := ⟨w.heap.size + 3, 0, none⟩) (by show w.heap.size ≤ w.heap.size + 3; omega) _⟩
end Go.Proofs.Ytppggnmlbcdegaa.N

namespace Go.Proofs.Ytppggnmlbcdegaa.N
open Go.RowKit Go.Maps
open Go.Proofs.Ytppggnmlbcdegaa.T
set_option maxRecDepth 100000 in
set_option maxHeartbeats 8000000 in
/-- The document's Rename where it refuses. -/
theorem renameD_no (gs : GL) (A : Option Addr) (c : Nat) (r : Int) (s : ByteArray) (hs : s.size ≤ 140737488355328) (w : World) (hp : GI w A gs) (hn : ¬ rnE gs r s = 0) :
    Calls Try.prog 29 #[.agg #[.slice A gs.length c], .int .i64 r, .string s] w fun e w' => RnA w w' e gs r s ∧ Below w.heap.size w w' := by
  have HA := (show Hid (RnS w ((w.alloc (.cells #[.slice A gs.length c] 24)).alloc (.cells #[.slice none 0 0] 24)) (.slice A gs.length c)) from RnS.mk2 _ _)
  have HP := (show Hid (GI w A gs) from hp)
  have HLk := (show Hid (∀ W, Below w.heap.size w W → Calls Try.prog 40 #[.agg #[.slice A gs.length c], .int .i64 r] W fun e w' => e = .returned (.int .i64 (lkR gs r)) ∧ Below W.heap.size W w') from fun W hW => lookD_any gs A c r W (HP.out.later hW))
  have HNm := (show Hid (∀ W, Calls Try.prog 14 #[.string s] W fun e w' => e = .returned (.bool (nmB s)) ∧ w' = W) from fun W => nameR_any s hs W)
  have HFd := (show Hid (∀ W, Below w.heap.size w W → Calls Try.prog 35 #[.agg #[.slice A gs.length c], .string s] W fun e w' => e = .returned (.int .i64 (fdN gs s)) ∧ Below W.heap.size W w') from fun W hW => find_any gs A c s W (HP.out.later hW))
  have q1 := HA.out.x.cl
  clear hp HP
  go_enter Try.func29, Try.ntmps29
  go_wp2_with fail
  generalize (w.alloc (.cells #[.slice A gs.length c] 24)).alloc (.cells #[.slice none 0 0] 24) = w1 at *
  go_wp2_with fail
  refine (HLk.out _ HA.out.b).mono ?_
  rintro e w2 ⟨rfl, b2⟩
  have HA2 := (show Hid (RnS w w2 (.slice A gs.length c)) from HA.out.later b2)
  clear HA q1 HLk b2
  by_cases hz : lkR gs r = 0
  · have tz : (lkR gs r != 0) = false := by rw [hz]; rfl
    have HZ := (show Hid (lkR gs r = 0) from hz)
    rw [hz] at tz ⊢
    clear hz
    go_wp2_with fail
    refine (HNm.out _).mono ?_
    rintro e w3 ⟨rfl, rfl⟩
    clear HNm tz
    cases hb : nmB s with
    | false =>
      have HE := (show Hid _ from rnE_name HZ.out hb)
      have hyf := HA2.out.y.fz
      have hyc := HA2.out.y.cl
      clear HZ hn HFd
      go_wp2_with fail
      refine ret_gx2 rfl rfl rfl rfl (HA2.out.y.set _) ?_
      exact ⟨RnA.none HE.out, HA2.out.b.setCell (p := ⟨w.heap.size + 1, 0, none⟩) (by show w.heap.size ≤ w.heap.size + 1; omega) _⟩
    | true =>
      obtain ⟨i, hf, hir⟩ : ∃ i : Nat, fdG gs s = some i ∧ (i : Int) ≠ r := by
        refine Classical.byContradiction fun q => hn ?_
        unfold rnE
        rw [if_neg (fun z => z HZ.out), if_neg (by rw [hb]; exact Bool.noConfusion), if_neg]
        rintro ⟨z1, z2⟩
        cases hf : fdG gs s with
        | none => rw [fdN_none hf] at z1; omega
        | some i => rw [fdN_some hf] at z2; exact q ⟨i, hf, z2⟩
      have HE := (show Hid _ from rnE_twice HZ.out hb (by rw [fdN_some hf]; omega) (by rw [fdN_some hf]; exact hir))
      rw [fdN_some hf] at HFd
      have ti : ((i : Int) != r) = true := by rw [bne, beq_eq_false_iff_ne.2 hir]; rfl
      have ti0 : (0 : Int) ≤ (i : Int) := by omega
      have q2 := HA2.out.x.cl
      clear HZ hn hf hir
      go_wp2_with fail
      refine (HFd.out _ HA2.out.b).mono ?_
      rintro e w4 ⟨rfl, b4⟩
      have HA4 := (show Hid (RnS w w4 (.slice A gs.length c)) from HA2.out.later b4)
      have hyf := HA4.out.y.fz
      have hyc := HA4.out.y.cl
      clear HA2 b4 HFd q2
      go_wp2_with fail
      refine ret_gx2 rfl rfl rfl rfl (HA4.out.y.set _) ?_
      exact ⟨RnA.none HE.out, HA4.out.b.setCell (p := ⟨w.heap.size + 1, 0, none⟩) (by show w.heap.size ≤ w.heap.size + 1; omega) _⟩
  · have tz : (lkR gs r != 0) = true := by rw [bne, beq_eq_false_iff_ne.2 hz]; rfl
    have HE := (show Hid _ from rnE_bad (s := s) hz)
    have hyf := HA2.out.y.fz
    have hyc := HA2.out.y.cl
    clear hz HNm HFd
    generalize lkR gs r = cd at *
    go_wp2_with fail
    refine ret_gx2 rfl rfl rfl rfl (HA2.out.y.set _) ?_
    exact ⟨RnA.none HE.out, HA2.out.b.setCell (p := ⟨w.heap.size + 1, 0, none⟩) (by show w.heap.size ≤ w.heap.size + 1; omega) _⟩
end Go.Proofs.Ytppggnmlbcdegaa.N
