/- DERIVED. Plain mathematics and walks, laid together (14). -/
import Derived.RangeFuncNested
import Derived.RangeFuncBound
import Derived.RangeFuncCalls
import Derived.RangeFuncLeaves
import Derived.RangeFuncFrom
import Derived.Shelf.Abstract
import Derived.Shelf.RegionOpen
import Derived.WalkKit
import Derived.OwnWalkIn
import Derived.TacticsInMore
import Derived.LoopNIn
import Derived.LoopIn
import Derived.Lib.OthersKept
import Derived.Deep.CutRange
import Derived.Deep.RegionLaw
import Derived.Deep.AppendLies
import Derived.Test.YtbnihflihelimaaGreatHa13
namespace Go.Proofs.YtbnihflihelimaaGreat.N
open Go.RowKit Go.Maps
open Go.Proofs.YtbnihflihelimaaGreat.T

open U (below_grown grow_alloc)
theorem KyX.all {W : World} {b : Nat} {m k bd r : Value} (h : KyX W b m k bd r) (m2 k2 b2 r2 : Value) : KyX ((((W.setCell ⟨b, 0, none⟩ m2).setCell ⟨b, 1, none⟩ k2).setCell ⟨b, 2, none⟩ b2).setCell ⟨b, 3, none⟩ r2) b m2 k2 b2 r2 := by
  have h1 : KyX (W.setCell ⟨b, 0, none⟩ m2) b m2 k bd r := ⟨by rw [heap_setCell_same W b 0 _ 56 _ h.heap]; rfl⟩
  have h2 : KyX ((W.setCell ⟨b, 0, none⟩ m2).setCell ⟨b, 1, none⟩ k2) b m2 k2 bd r := ⟨by rw [heap_setCell_same _ b 1 _ 56 _ h1.heap]; rfl⟩
  have h3 : KyX (((W.setCell ⟨b, 0, none⟩ m2).setCell ⟨b, 1, none⟩ k2).setCell ⟨b, 2, none⟩ b2) b m2 k2 b2 r := ⟨by rw [heap_setCell_same _ b 2 _ 56 _ h2.heap]; rfl⟩
  exact ⟨by rw [heap_setCell_same _ b 3 _ 56 _ h3.heap]; rfl⟩
theorem KyX.set2 {W : World} {b : Nat} {m k bd r : Value} (h : KyX W b m k bd r) (v : Value) : KyX (W.setCell ⟨b, 2, none⟩ v) b m k v r := ⟨by rw [heap_setCell_same W b 2 _ 56 _ h.heap]; rfl⟩
theorem KyX.set3 {W : World} {b : Nat} {m k bd r : Value} (h : KyX W b m k bd r) (v : Value) : KyX (W.setCell ⟨b, 3, none⟩ v) b m k bd v := ⟨by rw [heap_setCell_same W b 3 _ 56 _ h.heap]; rfl⟩
def ky4 (W : World) (b : Nat) (m k bd r : Value) : World := (((W.setCell ⟨b, 0, none⟩ m).setCell ⟨b, 1, none⟩ k).setCell ⟨b, 2, none⟩ bd).setCell ⟨b, 3, none⟩ r
theorem ky4_size (W : World) (b : Nat) (m k bd r : Value) : (ky4 W b m k bd r).heap.size = W.heap.size := by unfold ky4; simp only [World.size_setCell]
theorem ky4_other (W : World) (b : Nat) (m k bd r : Value) {j : Nat} (h : j ≠ b) : (ky4 W b m k bd r).heap[j]? = W.heap[j]? := by
  unfold ky4
  exact (((heap_setCell_other _ ⟨b, _, none⟩ j _ h).trans (heap_setCell_other _ ⟨b, _, none⟩ j _ h)).trans (heap_setCell_other _ ⟨b, _, none⟩ j _ h)).trans (heap_setCell_other _ ⟨b, _, none⟩ j _ h)
theorem ky4_below {B : Nat} {W0 W : World} (b : Nat) (m k bd r : Value) (h : Below B W0 W) (hb : B ≤ b) : Below B W0 (ky4 W b m k bd r) := by
  unfold ky4
  exact (((h.setCell (p := ⟨b, 0, none⟩) hb _).setCell (p := ⟨b, 1, none⟩) hb _).setCell (p := ⟨b, 2, none⟩) hb _).setCell (p := ⟨b, 3, none⟩) hb _
theorem ret_ky2 {s t : Nat} {fn : Func} {R : Ending → World → Prop} {act : Act} {W : World} {b : Nat} {m k bd r x : Value} (hF : fn.results = #[.cell s 56, .tmp t]) (hd : act.defers = []) (h6 : act.tmps.getD s undef = .pointer (some ⟨b, 0, none⟩)) (h7 : act.tmps.getD t undef = x) (hT : KyX W b m k bd r) (hR : R (.returned (.tuple #[.agg #[m, k, bd, r], x])) W) : bodyPost Tryz.prog fn R .ret act W := by
  have c0 : W.cell? ⟨b, 0, none⟩ = _ := hT.c0
  have c1 : W.cell? ⟨b, 1, none⟩ = _ := hT.c1
  have c2 : W.cell? ⟨b, 2, none⟩ = _ := hT.c2
  have c3 : W.cell? ⟨b, 3, none⟩ = _ := hT.c3
  refine bodyPost_ret (v := .tuple #[.agg #[m, k, bd, r], x]) ?_ hd hR
  simp only [Array.getD_eq_getD_getElem?] at h6 h7
  simp [results, hF, go_sem, h6, h7, c0, c1, c2, c3]
theorem enters_fsBodyOf (args : Array Value) (w : World) : (callFunc 48 args).run Tryz.prog w = .ok (.enter 48 args) w := enters_of Tryz.func48 (by kernel_rfl) rfl args w
theorem Tryz.infoB : (Tryz.prog.info? 67).map (fun i => (i.zero, i.size, i.bytes)) = some (some (.agg #[.slice none 0 0, .slice none 0 0]), 2, 48) := by kernel_rfl
theorem OB.lt {W : World} {B : Nat} {v : Value} {ov : List Bo} (h : OB W B v ov) {k : Nat} (hk : v.ownBlock = some k ∨ ∃ x ∈ ov, x.2.1.ownBlock = some k) : B ≤ k ∧ k < W.heap.size := by
  rcases hk with q | ⟨x, hx, q⟩
  · exact h.o.lt k q
  · exact (h.e x hx).lt k q
theorem sum_mem : ∀ (l : List Nat) (a : Nat), a ∈ l → a ≤ l.sum := by
  intro l
  induction l with
  | nil => intro a h; cases h
  | cons x l ih =>
    intro a h
    rw [List.sum_cons]
    rcases List.mem_cons.1 h with rfl | h
    · omega
    · have := ih a h; omega
/-- A right rule's pattern, as bodyOf wants it. -/
theorem rtB {gs : GL} (h : RtG gs) {g : ByteArray × List Nd} (hg : g ∈ gs) : Rt g.2 ∧ 0 < g.2.length ∧ g.2.length ≤ 2048 ∧ ∀ n ∈ g.2, n.op = 6 → ∃ i, fdG gs n.tx = some i := by
  have hr := rt_of (h.ck g hg)
  refine ⟨hr, ?_, ?_, h.dn.c g hg⟩
  · apply Nat.pos_of_ne_zero
    intro e
    have h1 := hr.one
    rw [e] at h1
    exact absurd h1 (by simp [run])
  · have h1 : g.2.length ≤ (gs.map fun g => g.2.length).sum := sum_mem _ _ (List.mem_map_of_mem (f := fun g : ByteArray × List Nd => g.2.length) hg)
    have := h.sm
    omega
/-- The first bodies. -/
structure BdK (gs : GL) (now : List Em) (w : World) (k : Nat) (ov : List Bo) : Prop where
  l : ov.length = k
  x : ∀ (j : Nat) r, j < k → gs[j]? = some r → ∃ Ap cp v, ov[j]? = some (.slice Ap r.2.length cp, v, mkV gs now r.2) ∧ RdN w Ap r.2
theorem BdK.nil (gs : GL) (now : List Em) (w : World) : BdK gs now w 0 [] := ⟨rfl, fun j r h => by omega⟩
theorem BdK.push {gs : GL} {now : List Em} {w : World} {k : Nat} {ov : List Bo} (h : BdK gs now w k ov) {r : ByteArray × List Nd} (hr : gs[k]? = some r) {Ap : Option Addr} {cp : Nat} (hp : RdN w Ap r.2) (v : Value) : BdK gs now w (k + 1) (ov ++ [(.slice Ap r.2.length cp, v, mkV gs now r.2)]) := by
  refine ⟨by rw [List.length_append, h.l]; rfl, fun j s hj hs => ?_⟩
  by_cases e : j = k
  · subst e
    rw [hr] at hs
    cases hs
    exact ⟨Ap, cp, v, by rw [List.getElem?_append_right (by rw [h.l]; exact Nat.le_refl _), h.l, Nat.sub_self]; rfl, hp⟩
  · obtain ⟨A2, c2, v2, h1, h2⟩ := h.x j s (by omega) hs
    exact ⟨A2, c2, v2, by rw [List.getElem?_append_left (by rw [h.l]; omega)]; exact h1, h2⟩
/-- While what is known begins. -/
structure BgF (gs : GL) (now : List Em) (w wr : World) (u : Value) (mb : Nat) (Ak : Option Addr) (ck : Nat) (gt : GL) (vb vr : Value) (ov : List Bo) (n : Nat) : Prop where
  b : Below w.heap.size w wr
  g : GX wr w.heap.size u
  r : KyX wr (w.heap.size + 1) (.map none) (.slice none 0 0) (.slice none 0 0) (.slice none 0 0)
  k : KyX wr (mb + 1) (.map (some mb)) (.slice Ak gs.length ck) vb vr
  m : NmM wr mb gt
  d : RdE wr Ak now
  e1 : w.heap.size + 2 ≤ mb
  e3 : ∀ g o, Ak = some ⟨g, o, none⟩ → w.heap.size + 2 ≤ g ∧ g < mb
  o : OB wr (mb + 2) vb ov
  p : wr.ownsRow (mb + 2) 36 6 vr n (fsc (List.replicate n f0))
theorem BgF.later {gs : GL} {now : List Em} {w wr w2 : World} {u : Value} {mb : Nat} {Ak : Option Addr} {ck : Nat} {gt : GL} {vb vr : Value} {ov : List Bo} {n : Nat} (h : BgF gs now w wr u mb Ak ck gt vb vr ov n) (hb : Below wr.heap.size wr w2) : BgF gs now w w2 u mb Ak ck gt vb vr ov n :=
  ⟨h.b.trans (hb.mono h.b.size), h.g.below hb, h.r.below hb, h.k.below hb, h.m.later hb, h.d.later hb, h.e1, h.e3, h.o.later hb, T.own_below h.p hb⟩
theorem BgF.put {gs : GL} {now : List Em} {w wX w1 : World} {u : Value} {mb : Nat} {Ak : Option Addr} {ck : Nat} {gt : GL} {vb vr : Value} {ov : List Bo} {n : Nat} {k : Nat} {g : ByteArray × List Nd} {D : DataW Unit} (h : BgF gs now w wX u mb Ak ck gt vb vr ov n) (hg : wX.grownBy w1 (some mb)) (ho : w1.ownsMap Tryz.prog 9 (plainElem Tryz.prog 3) mb (k + 1) (D.put (.string g.1.data.toList) (.lit (.int .i64 k)))) (hD : NmD D gt) (hf : fdG gt g.1 = none) (hk : gt.length = k) : BgF gs now w w1 u mb Ak ck (gt ++ [g]) vb vr ov n := by
  have hm : Maps.IsMap D := by
    obtain ⟨es, clock, _, _, _, e⟩ := ho
    cases D with
    | map es => exact ⟨es, rfl⟩
    | _ => cases e
  have e1 := h.e1
  have key : ∀ j, j < wX.heap.size → j ≠ mb → w1.heap[j]? = wX.heap[j]? := fun j hj hn => hg.block j hj (fun e => by injection e with e; exact hn e)
  refine ⟨h.b.grown hg h.b.size (fun j hj => by cases hj; omega), h.g.same (key _ h.g.lt (by omega)), h.r.same (key _ h.r.lt (by omega)), h.k.same (key _ h.k.lt (by omega)), ⟨⟨D.put (.string g.1.data.toList) (.lit (.int .i64 k)), ?_, ?_⟩⟩, h.d.same hg.size (fun g2 o2 e => key _ (by have := h.e3 g2 o2 e; have := h.m.lt; omega) (by have := h.e3 g2 o2 e; omega)), e1, h.e3, h.o.same (fun q hq => by have := h.o.lt hq; exact key q this.2 (by omega)), own_same h.p (fun q hq => by have := h.p.lt q hq; exact key q this.2 (by omega))⟩
  · rw [List.length_append, List.length_singleton, hk]; exact ho
  · have := NmD.put hm hD g hf
    rw [hk] at this
    exact this
/-- A body is put behind the others, and the row back into the box. -/
theorem BgF.body {gs : GL} {now : List Em} {w wr wA w5 : World} {u : Value} {mb : Nat} {Ak : Option Addr} {ck : Nat} {gt : GL} {vb vr v2 : Value} {ov : List Bo} {n : Nat} {x : Bo} (h : BgF gs now w wr u mb Ak ck gt vb vr ov n) (hA : Below wr.heap.size wr wA) (hl : wA.ownsRow wr.heap.size 4 1 x.2.1 x.2.2.length x.2.2) (hg : (wA.alloc (.cells #[x.1, x.2.1] 67)).grownBy w5 vb.ownBlock) (ho : w5.ownsRow (mb + 2) 67 2 v2 (ov.length + 1) (boc ov ++ boV x)) : KyX w5 (mb + 1) (.map (some mb)) (.slice Ak gs.length ck) vb vr ∧ BgF gs now w (w5.setCell ⟨mb + 1, 2, none⟩ v2) u mb Ak ck gt v2 vr (ov ++ [x]) n := by
  have h2 := (h.later hA).later (below_box wA (.cells #[x.1, x.2.1] 67))
  have hl2 : (wA.alloc (.cells #[x.1, x.2.1] 67)).ownsRow (mb + 2) 4 1 x.2.1 x.2.2.length x.2.2 := T.own_base (T.own_below hl (below_box wA _)) (by have := h.k.lt; omega)
  have hlow : ∀ q, vb.ownBlock = some q → mb + 2 ≤ q := fun q hq => (h.o.o.lt q hq).1
  have hob := h2.o.push hl2 hg ho
  have key : ∀ j, j < (wA.alloc (.cells #[x.1, x.2.1] 67)).heap.size → j < mb + 2 → w5.heap[j]? = (wA.alloc (.cells #[x.1, x.2.1] 67)).heap[j]? := fun j hj h3 => hg.block j hj (fun e => by have := hlow _ e.symm; omega)
  have e1 := h.e1
  have hky : KyX w5 (mb + 1) (.map (some mb)) (.slice Ak gs.length ck) vb vr := h2.k.same (key _ h2.k.lt (by omega))
  have hz : (w5.setCell ⟨mb + 1, 2, none⟩ v2).heap.size = w5.heap.size := World.size_setCell ..
  have hj : ∀ j, j ≠ mb + 1 → (w5.setCell ⟨mb + 1, 2, none⟩ v2).heap[j]? = w5.heap[j]? := fun j q => heap_setCell_other _ ⟨mb + 1, _, none⟩ j _ q
  refine ⟨hky, (below_grown h2.b hg (fun q e => by have := hlow q e; omega)).setCell (p := ⟨mb + 1, 2, none⟩) (by show w.heap.size ≤ mb + 1; omega) _, h2.g.same ((hj _ (by omega)).trans (key _ h2.g.lt (by omega))), h2.r.same ((hj _ (by omega)).trans (key _ h2.r.lt (by omega))), hky.set2 v2, h2.m.same ((hj _ (by omega)).trans (key _ h2.m.lt (by omega))), h2.d.same (by rw [hz]; exact hg.size) (fun g2 o2 e => by have h3 := h.e3 g2 o2 e; have := h2.m.lt; exact (hj _ (by omega)).trans (key _ (by omega) (by omega))), e1, h.e3, hob.same (fun q hq => by have := hob.lt hq; exact hj q (by omega)), ?_⟩
  have hp : w5.ownsRow (mb + 2) 36 6 vr n (fsc (List.replicate n f0)) := own_same h2.p fun q hq => hg.block q (h2.p.lt q hq).2 (fun e => own_apart h2.o.o h2.p (by decide) e.symm hq)
  exact own_same hp fun q hq => hj q (by have := (hp.lt q hq).1; omega)
/-- A rule of which nothing is known is put behind the others. -/
theorem BgF.rule {gs : GL} {now : List Em} {w wr w5 : World} {u : Value} {mb : Nat} {Ak : Option Addr} {ck : Nat} {gt : GL} {vb vr v2 : Value} {ov : List Bo} {n : Nat} (h : BgF gs now w wr u mb Ak ck gt vb vr ov n) (hg : wr.grownBy w5 vr.ownBlock) (ho : w5.ownsRow (mb + 2) 36 6 v2 (n + 1) (fsc (List.replicate n f0 ++ [f0]))) : KyX w5 (mb + 1) (.map (some mb)) (.slice Ak gs.length ck) vb vr ∧ BgF gs now w (w5.setCell ⟨mb + 1, 3, none⟩ v2) u mb Ak ck gt vb v2 ov (n + 1) := by
  have hlow : ∀ q, vr.ownBlock = some q → mb + 2 ≤ q := fun q hq => (h.p.lt q hq).1
  have key : ∀ j, j < wr.heap.size → j < mb + 2 → w5.heap[j]? = wr.heap[j]? := fun j hj h3 => hg.block j hj (fun e => by have := hlow _ e.symm; omega)
  have e1 := h.e1
  have hky : KyX w5 (mb + 1) (.map (some mb)) (.slice Ak gs.length ck) vb vr := h.k.same (key _ h.k.lt (by omega))
  have hz : (w5.setCell ⟨mb + 1, 3, none⟩ v2).heap.size = w5.heap.size := World.size_setCell ..
  have hj : ∀ j, j ≠ mb + 1 → (w5.setCell ⟨mb + 1, 3, none⟩ v2).heap[j]? = w5.heap[j]? := fun j q => heap_setCell_other _ ⟨mb + 1, _, none⟩ j _ q
  have hob : OB w5 (mb + 2) vb ov := h.o.apart h.p (by decide) (by decide) (fun q hq hne => hg.block q hq (fun e => hne e.symm))
  refine ⟨hky, (below_grown h.b hg (fun q e => by have := hlow q e; omega)).setCell (p := ⟨mb + 1, 3, none⟩) (by show w.heap.size ≤ mb + 1; omega) _, h.g.same ((hj _ (by omega)).trans (key _ h.g.lt (by omega))), h.r.same ((hj _ (by omega)).trans (key _ h.r.lt (by omega))), hky.set3 v2, h.m.same ((hj _ (by omega)).trans (key _ h.m.lt (by omega))), h.d.same (by rw [hz]; exact hg.size) (fun g2 o2 e => by have h3 := h.e3 g2 o2 e; have := h.m.lt; exact (hj _ (by omega)).trans (key _ (by omega) (by omega))), e1, h.e3, hob.same (fun q hq => by have := hob.lt hq; exact hj q (by omega)), ?_⟩
  rw [List.replicate_succ']
  exact own_same ho fun q hq => hj q (by have := (ho.lt q hq).1; omega)
/-- What is known of all rules, as it lies in memory. -/
structure KnS (gs : GL) (now : List Em) (w W : World) (mb : Nat) (Ak : Option Addr) (vb vr : Value) (ov : List Bo) (fs : List Fs) : Prop where
  m : NmM W mb gs
  d : RdE W Ak now
  e1 : w.heap.size + 2 ≤ mb
  e3 : ∀ g o, Ak = some ⟨g, o, none⟩ → w.heap.size + 2 ≤ g ∧ g < mb
  o : OB W (mb + 2) vb ov
  p : W.ownsRow (mb + 2) 36 6 vr fs.length (fsc fs)
/-- What begun answers. -/
def BgR (w w' : World) (gs : GL) (e : Ending) : Prop := ((ckG gs).2 ≠ 0 → e = .returned (.tuple #[.agg #[.map none, .slice none 0 0, .slice none 0 0, .slice none 0 0], .int .i64 (ckG gs).2])) ∧ ((ckG gs).2 = 0 → ∃ mb Ak ck now vb vr ov, e = .returned (.tuple #[.agg #[.map (some mb), .slice Ak gs.length ck, vb, vr], .int .i64 0]) ∧ KnS gs now w w' mb Ak vb vr ov (List.replicate gs.length f0) ∧ BdK gs now w gs.length ov ∧ KnF gs now ∧ now.length = gs.length ∧ OkN gs now)
end Go.Proofs.YtbnihflihelimaaGreat.N

namespace Go.Proofs.YtbnihflihelimaaGreat.N
open Go.RowKit Go.Maps
open Go.Proofs.YtbnihflihelimaaGreat.T

open U (below_grown)
theorem wpList_appF0 {ops : Array Oper} {rest : List Oper} {o : Oper} {a0 : Act} {Q : Exit → Act → World → Prop} {W : World} (H : Nat) (hH : W.heap.size = H) (hgd : o.guard = none) (s x : Operand)
    (ho : o.op = .call { callee := .builtin .append, args := #[s, x], argTypes := #[26, 26] })
    (base n : Nat) (v : Value) (l : List Fs) (hs : a0.eval s = v) (hx : a0.eval x = .slice (some ⟨H, 0, none⟩) 1 1) (hown : W.ownsRow base 36 6 v n (fsc l)) (hn : n ≤ 1000000) (hbase : base ≤ W.heap.size)
    (h : ∀ g cap w', w'.ownsRow base 36 6 (.slice (some ⟨g, 0, none⟩) (n + 1) cap) (n + 1) (fsc (l ++ [f0])) → W.grownBy w' v.ownBlock → (v.ownBlock = some g ∨ g = H + 1) → g < w'.heap.size → wpList Tryz.prog ops Q rest (a0.put o.dst (.slice (some ⟨g, 0, none⟩) (n + 1) cap)) w') :
    wpList Tryz.prog ops Q (o :: rest) a0 (W.alloc (.cells #[.int .u64 0, .int .u64 0, .int .u64 0, .int .u64 0, .bool false, .bool false] 36)) := by
  have z0 : ∀ i, wd f0.st i = 0 := fun i => wd_zero i
  have h2 := wpList_appF (ops := ops) (rest := rest) (o := o) (a0 := a0) (Q := Q) (W := W) (a := f0) H hH hgd s x ho base n v l hs hx hown hn hbase h
  rw [z0, z0, z0, z0] at h2
  exact h2
set_option maxRecDepth 100000 in
set_option maxHeartbeats 64000000 in
theorem fsBegun_any (gs : GL) (A : Option Addr) (c : Nat) (w : World) (hp : GI w A gs) :
    Calls Tryz.prog 34 #[.agg #[.slice A gs.length c]] w fun e w' => BgR w w' gs e ∧ Below w.heap.size w w' := by
  obtain ⟨i0, hinf, hz0, hz1, hz2⟩ := info_parts Tryz.infoB
  obtain ⟨w1, hw1⟩ : ∃ w1, w1 = (w.alloc (.cells #[.slice A gs.length c] 24)).alloc (.cells #[.map none, .slice none 0 0, .slice none 0 0, .slice none 0 0] 56) := ⟨_, rfl⟩
  have HE1 := (show Hid ((w.alloc (.cells #[.slice A gs.length c] 24)).alloc (.cells #[.map none, .slice none 0 0, .slice none 0 0, .slice none 0 0] 56) = w1) from hw1.symm)
  have HS1 := (show Hid (Below w.heap.size w w1 ∧ GX w1 w.heap.size (.slice A gs.length c) ∧ KyX w1 (w.heap.size + 1) (.map none) (.slice none 0 0) (.slice none 0 0) (.slice none 0 0) ∧ w1.heap.size = w.heap.size + 2) from by
    have s1 := World.size_alloc w (.cells #[.slice A gs.length c] 24)
    refine ⟨by rw [hw1]; exact ((Below.refl _ _).alloc (Nat.le_refl _) _).alloc (by omega) _, by rw [hw1]; exact (GX.mk (heap_alloc_new w _)).below (below_box _ _), ?_, by rw [hw1, World.size_alloc, s1]⟩
    have h := KyX.new (w.alloc (.cells #[.slice A gs.length c] 24)) (.map none) (.slice none 0 0) (.slice none 0 0) (.slice none 0 0)
    rw [s1, ← hw1] at h; exact h)
  have HRu := (show Hid (Calls Tryz.prog 52 #[.agg #[.slice A gs.length c]] w1 fun e w' => (∃ v now, e = .returned (.tuple #[v, .int .i64 (ckG gs).2]) ∧ RuR gs now ∧ w'.ownsRow w1.heap.size 74 4 v now.length (emc now)) ∧ Below w1.heap.size w1 w') from rulesP_any gs A c w1 (hp.later HS1.out.1))
  have HP := (show Hid (GI w A gs) from hp)
  have q1 := HS1.out.2.1.cl
  clear hw1 hp
  go_enter Tryz.func34, Tryz.ntmps34
  go_wp2_with (rw [HE1.out])
  refine HRu.out.mono ?_
  rintro e w2 ⟨⟨v, now, rfl, hr, ho⟩, b2⟩
  have HS2 := (show Hid (Below w.heap.size w w2 ∧ GX w2 w.heap.size (.slice A gs.length c) ∧ KyX w2 (w.heap.size + 1) (.map none) (.slice none 0 0) (.slice none 0 0) (.slice none 0 0) ∧ w.heap.size + 2 ≤ w2.heap.size) from ⟨HS1.out.1.trans (b2.mono HS1.out.1.size), HS1.out.2.1.below b2, HS1.out.2.2.1.below b2, by have := b2.size; have := HS1.out.2.2.2; omega⟩)
  have q2 := HS2.out.2.1.cl
  by_cases hz : (ckG gs).2 = 0
  · have hR := ckG_ok.1 hz
    obtain ⟨hk, hl, hok⟩ := hr.1 hz
    rw [hl] at ho
    obtain ⟨Ak, ck, rfl⟩ := own_fm ho
    have hn200 := hR.n2
    have HR := (show Hid (RtG gs) from hR)
    have HK := (show Hid (KnF gs now ∧ now.length = gs.length ∧ OkN gs now) from ⟨hk, hl, hok⟩)
    obtain ⟨mb, hmb⟩ : ∃ mb, mb = w2.heap.size := ⟨_, rfl⟩
    have HMb := (show Hid (w2.heap.size = mb) from hmb.symm)
    obtain ⟨w3, hw3⟩ : ∃ w3, w3 = (w2.alloc (.map #[] 0)).alloc (.cells #[.map (some w2.heap.size), .slice Ak gs.length ck, .slice none 0 0, .slice none 0 0] 56) := ⟨_, rfl⟩
    have HE3 := (show Hid ((w2.alloc (.map #[] 0)).alloc (.cells #[.map (some w2.heap.size), .slice Ak gs.length ck, .slice none 0 0, .slice none 0 0] 56) = w3) from hw3.symm)
    have HS := (show Hid (BgF gs now w w3 (.slice A gs.length c) mb Ak ck [] (.slice none 0 0) (.slice none 0 0) [] 0) from by
      have s3 := World.size_alloc w2 (.map #[] 0)
      have b3 : Below w2.heap.size w2 w3 := by rw [hw3]; exact ((Below.refl _ _).alloc (Nat.le_refl _) _).alloc (by omega) _
      have hrd := own_rd ho hl
      refine ⟨HS2.out.1.trans (b3.mono HS2.out.1.size), HS2.out.2.1.below b3, HS2.out.2.2.1.below b3, ?_, ?_, hrd.later b3, by rw [hmb]; exact HS2.out.2.2.2, fun g o e => ?_, OB.nil _ _, World.ownsRow_nil _ _ _ _⟩
      · have h := KyX.new (w2.alloc (.map #[] 0)) (.map (some w2.heap.size)) (.slice Ak gs.length ck) (.slice none 0 0) (.slice none 0 0)
        rw [s3, ← hw3] at h
        rw [hmb]
        exact h
      · rw [hw3, hmb]; exact (NmM.nil w2).later (below_box _ _)
      · obtain ⟨g2, c2, e2, h2, _⟩ := ho.form (by have := hR.n1; omega)
        injection e2 with e3 _ _
        rw [e] at e3
        obtain ⟨rfl, _⟩ := Addr.mk.inj (Option.some.inj e3)
        have h3 := ho.lt g (by rw [e]; rfl)
        have := HS1.out.2.2.2
        omega)
    have HGt := (show Hid (∀ (k : Nat), k < gs.length → ∃ g, gs[k]? = some g ∧ g.1.size ≤ 140737488355328 ∧ fdG (gs.take k) g.1 = none) from fun k hk => by
      have hg : gs[k]? = some gs[k] := List.getElem?_eq_getElem hk
      have hm := List.mem_of_getElem? hg
      refine ⟨_, hg, (HP.out.t _ hm).1, ?_⟩
      cases q : fdG (gs.take k) (gs[k]).1 with
      | none => rfl
      | some i =>
        obtain ⟨h, h1, h2, _⟩ := fdG_some q
        rw [List.getElem?_take] at h1
        by_cases hik : i < k
        · rw [if_pos hik] at h1
          have := hR.dn.d i k h _ h1 hg h2
          omega
        · rw [if_neg hik] at h1; cases h1)
    have tz : ((ckG gs).2 != 0) = false := by rw [hz]; rfl
    have HZ := (show Hid ((ckG gs).2 = 0) from hz)
    have hmm := @run_makeMap Tryz.prog
    have q3 := HS.out.g.cl
    clear hr ho hk hl hok b2 hw3 hmb hz hR HRu HS1 HE1 q1
    generalize (ckG gs).2 = cd at tz ⊢
    go_wp2_with (rw [HE3.out, HMb.out])
    clear HE3 HMb hmm q2 q3
    go_loopw [26] (fun t wr => ∃ k : Nat, k ≤ gs.length ∧ t = .int .i64 (k : Int) ∧ Hid (BgF gs now w wr (.slice A gs.length c) mb Ak ck (gs.take k) (.slice none 0 0) (.slice none 0 0) [] 0)) (fun t _ => gs.length - (intOf t).toNat)
    case atStart => exact ⟨0, Nat.zero_le _, by go_num, HS⟩
    case round =>
      obtain ⟨k, hk, rfl, HW⟩ := hrel
      clear HS
      by_cases hlt : k < gs.length
      · obtain ⟨g, hg, hsz, hfd⟩ := HGt.out k hlt
        obtain ⟨b, o, A2, c2, rfl, lb, x0, x1, r2⟩ := HP.out.d k g hg
        have x0' := (HW.out.b.cell (p := ⟨b, o + k * 2, none⟩) lb).trans x0
        have x1' := (HW.out.b.cell (p := ⟨b, o + k * 2 + 1, none⟩) lb).trans x1
        have z0 : (0 : Int) ≤ (k : Int) := by omega
        have z1 : (k : Int) < (gs.length : Int) := by omega
        obtain ⟨w4, hw4⟩ : ∃ w4, w4 = wr.alloc (.cells #[.string g.1, .slice A2 g.2.length c2] 50) := ⟨_, rfl⟩
        have HE4 := (show Hid (wr.alloc (.cells #[.string g.1, .slice A2 g.2.length c2] 50) = w4) from hw4.symm)
        have hb4 : Below wr.heap.size wr w4 := by rw [hw4]; exact below_box _ _
        have HR4 := (show Hid (RB w4 wr.heap.size g.1 (.slice A2 g.2.length c2)) from by rw [hw4]; exact ⟨heap_alloc_new wr _⟩)
        have HW4 := (show Hid (BgF gs now w w4 (.slice (some ⟨b, o, none⟩) gs.length c) mb Ak ck (gs.take k) (.slice none 0 0) (.slice none 0 0) [] 0) from HW.out.later hb4)
        have k1 := HW4.out.k.c0
        have y0 := HR4.out.c0
        obtain ⟨D, hown, hD⟩ := HW4.out.m.ex
        have hlk : (gs.take k).length = k := by rw [List.length_take]; omega
        rw [hlk] at hown
        have HOm := (show Hid (w4.ownsMap Tryz.prog 9 (plainElem Tryz.prog 3) mb k D) from hown)
        have HPut := (show Hid (∀ w3, w4.grownBy w3 (some mb) → w3.ownsMap Tryz.prog 9 (plainElem Tryz.prog 3) mb (k + 1) (D.put (.string g.1.data.toList) (.lit (.int .i64 k))) → BgF gs now w w3 (.slice (some ⟨b, o, none⟩) gs.length c) mb Ak ck (gs.take (k + 1)) (.slice none 0 0) (.slice none 0 0) [] 0) from fun w3 h1 h2 => by
          rw [show gs.take (k + 1) = gs.take k ++ [g] from by rw [List.take_add_one, hg]; rfl]
          exact HW4.out.put h1 h2 hD hfd hlk)
        have hkey := key_of hsz
        clear hw4 hb4 hg hD hown hfd hlk HW HW4 HGt HP hsz x0 x1 r2 lb
        go_wp2_with (first
          | rw [HE4.out]
          | (at_mapUpdate
             refine wpList_mapUpdate_own _ rfl _ _ _ 52 rfl 9 3 keyed Tryz.underlying52 _ mb k D rfl HOm.out (by unfold maxLen; omega) _ _ (.string g.1.data.toList) rfl rfl hkey _ [] (plainElem_int Tryz.underlying3 (WalkArith.wf_i64 (by omega))) ?_
             intro w5 hown5 hgrow5
             have HS5 := (show Hid (BgF gs now w w5 (.slice (some ⟨b, o, none⟩) gs.length c) mb Ak ck (gs.take (k + 1)) (.slice none 0 0) (.slice none 0 0) [] 0) from HPut.out w5 hgrow5 hown5)
             clear hown5 hgrow5 HPut HOm hkey k1 y0 HE4))
        go_roundw
        case rel => exact ⟨k + 1, by omega, by go_num, HS5⟩
        case measure => simp [intOf]; omega
      · obtain rfl : k = gs.length := by omega
        have HS := (show Hid (BgF gs now w wr (.slice A gs.length c) mb Ak ck gs (.slice none 0 0) (.slice none 0 0) [] 0) from by have h := HW.out; rw [List.take_length] at h; exact h)
        have g1 := HS.out.g.cl
        clear HW HGt
        go_wp2_with fail
        clear g1
        go_loopw [40] (fun t wr => ∃ (k : Nat) (ov : List Bo) (Ab Ar : Option Addr) (cb cr : Nat), k ≤ gs.length ∧ t = .int .i64 (k : Int) ∧ Hid (BdK gs now w k ov) ∧ Hid (BgF gs now w wr (.slice A gs.length c) mb Ak ck gs (.slice Ab k cb) (.slice Ar k cr) ov k)) (fun t _ => gs.length - (intOf t).toNat)
        case atStart => exact ⟨0, [], none, none, 0, 0, Nat.zero_le _, by go_num, BdK.nil _ _ _, HS⟩
        case round =>
          obtain ⟨k, ov, Ab, Ar, cb, cr, hk, rfl, HM, HW⟩ := hrel
          clear HS
          by_cases hlt : k < gs.length
          · obtain ⟨g, hg⟩ : ∃ g, gs[k]? = some g := ⟨_, List.getElem?_eq_getElem hlt⟩
            obtain ⟨b, o, A2, c2, rfl, lb, x0, x1, r2⟩ := HP.out.d k g hg
            have hgm := List.mem_of_getElem? hg
            obtain ⟨hrt, hpos, hlen, hdn⟩ := rtB HR.out hgm
            have htx := (HP.out.t g hgm).2.2
            have x0' := (HW.out.b.cell (p := ⟨b, o + k * 2, none⟩) lb).trans x0
            have x1' := (HW.out.b.cell (p := ⟨b, o + k * 2 + 1, none⟩) lb).trans x1
            have z0 : (0 : Int) ≤ (k : Int) := by omega
            have z1 : (k : Int) < (gs.length : Int) := by omega
            obtain ⟨w4, hw4⟩ : ∃ w4, w4 = wr.alloc (.cells #[.string g.1, .slice A2 g.2.length c2] 50) := ⟨_, rfl⟩
            have HE4 := (show Hid (wr.alloc (.cells #[.string g.1, .slice A2 g.2.length c2] 50) = w4) from hw4.symm)
            have hb4 : Below wr.heap.size wr w4 := by rw [hw4]; exact below_box _ _
            have hb4d : Below w4.heap.size w4 w4.drew := (Below.refl _ _).drew
            have HR4 := (show Hid (RB w4.drew wr.heap.size g.1 (.slice A2 g.2.length c2)) from by
              have h : RB w4 wr.heap.size g.1 (.slice A2 g.2.length c2) := by rw [hw4]; exact ⟨heap_alloc_new wr _⟩
              exact ⟨(hb4d.block _ h.lt).trans h.heap⟩)
            have HW4 := (show Hid (BgF gs now w w4.drew (.slice (some ⟨b, o, none⟩) gs.length c) mb Ak ck gs (.slice Ab k cb) (.slice Ar k cr) ov k) from (HW.out.later hb4).later hb4d)
            have hk0 := HW4.out.k.c0
            have hk1 := HW4.out.k.c1
            have hk2 := HW4.out.k.c2
            have hk3 := HW4.out.k.c3
            have y0 := HR4.out.c0
            have y1 := HR4.out.c1
            have HCall := (show Hid (∀ _ : Unit, Calls Tryz.prog 48 #[.agg #[.map (some mb), .slice Ak gs.length ck, .slice Ab k cb, .slice Ar k cr], .slice A2 g.2.length c2] w4.drew fun e w' => (∃ v, e = .returned (.agg #[.slice A2 g.2.length c2, v]) ∧ w'.ownsRow w4.drew.heap.size 4 1 v g.2.length (mkV gs now g.2)) ∧ Below w4.drew.heap.size w4.drew w') from fun _ =>
              fsBodyOf_any mb _ _ Ak A2 ck c2 hrt hpos hlen htx hdn w4.drew HW4.out.m HW4.out.d HK.out.2.1 (r2.below HW4.out.b (Nat.le_refl _)))
            have HAft := (show Hid (∀ wA, Below w4.drew.heap.size w4.drew wA → wA.cell? ⟨mb + 1, 2, none⟩ = some (.slice Ab k cb) ∧ ∀ ob : Obj, (wA.alloc ob).cell? ⟨mb + 1, 2, none⟩ = some (.slice Ab k cb)) from fun wA hA => by
              have h3 := HW4.out.later hA
              exact ⟨h3.k.c2, fun ob => (h3.later (below_box wA ob)).k.c2⟩)
            have hovl := HM.out.l
            have HOv := (show Hid (∀ wA, Below w4.drew.heap.size w4.drew wA → wA.ownsRow (mb + 2) 67 2 (.slice Ab k cb) k (boc ov) ∧ mb + 2 ≤ wA.heap.size) from fun wA hA => by
              have h3 := HW4.out.later hA
              have h4 := h3.o.o
              rw [hovl] at h4
              exact ⟨h4, h3.k.lt⟩)
            have HPu := (show Hid (∀ (wA w5 : World) (v2 u : Value), Below w4.drew.heap.size w4.drew wA → wA.ownsRow w4.drew.heap.size 4 1 v2 g.2.length (mkV gs now g.2) → (wA.alloc (.cells #[.slice A2 g.2.length c2, v2] 67)).grownBy w5 (Value.slice Ab k cb).ownBlock → w5.ownsRow (mb + 2) 67 2 u (k + 1) (boc ov ++ [.slice A2 g.2.length c2, v2]) → KyX w5 (mb + 1) (.map (some mb)) (.slice Ak gs.length ck) (.slice Ab k cb) (.slice Ar k cr) ∧ BgF gs now w (w5.setCell ⟨mb + 1, 2, none⟩ u) (.slice (some ⟨b, o, none⟩) gs.length c) mb Ak ck gs u (.slice Ar k cr) (ov ++ [(.slice A2 g.2.length c2, v2, mkV gs now g.2)]) k ∧ BdK gs now w (k + 1) (ov ++ [(.slice A2 g.2.length c2, v2, mkV gs now g.2)])) from fun wA w5 v2 u hA hl hg5 ho5 => by
              obtain ⟨h1, h2⟩ := HW4.out.body (x := (.slice A2 g.2.length c2, v2, mkV gs now g.2)) hA (by rw [mkV_len]; exact hl) hg5 (by rw [hovl]; exact ho5)
              exact ⟨h1, h2, HM.out.push hg r2 v2⟩)
            have hmx : k ≤ 1000000 := by omega
            clear hw4 hb4 hb4d hg hgm hrt hpos hlen hdn htx HW HM r2 lb x0 x1 HW4 hovl HR4
            obtain ⟨nm, L⟩ := g
            simp only at y0 y1 HCall HAft HPu HOv x0' x1' HE4
            go_wp2_with (rw [HE4.out])
            go_region_law (first
              | (refine step_call2 enters_fsBodyOf rfl _ _ _ _ (by rfl) (.agg #[.map (some mb), .slice Ak gs.length ck, .slice Ab k cb, .slice Ar k cr]) (.slice A2 L.length c2) (by rfl) (by rfl) ?_; with_reducible refine (HCall.out ()).mono ?_; rintro e wA ⟨⟨v2, rfl, rA⟩, bA⟩; obtain ⟨A9, c9, rfl⟩ := own_sl rA; refine ⟨_, rfl, ?_⟩; obtain ⟨a2, a2o⟩ := HAft.out wA bA)
              | (refine step_append_lies _ (by rfl) _ _ _ (by rfl) (mb + 2) 67 i0 (.agg #[.slice none 0 0, .slice none 0 0]) 2 48 Tryz.underlying54 hinf hz0 hz1 hz2 rfl (by omega) _ _ (boc ov) (by rfl) ((HOv.out wA bA).1.alloc _) ⟨wA.heap.size, 0, none⟩ 1 1 [.slice A2 L.length c2, .slice A9 L.length c9] (by rfl) (by rfl) (World.news_of_block (cs := #[.slice A2 L.length c2, .slice A9 L.length c9]) (t := 67) (fr := (0, 0)) (heap_alloc_new wA _)) (by intro u hu; simp only [List.mem_cons, List.not_mem_nil, or_false] at hu; rcases hu with rfl | rfl <;> rfl) (by omega) (by unfold maxLen; omega) (by omega) (by rw [World.size_alloc]; exact Nat.le_succ_of_le (HOv.out wA bA).2) (wA.heap.size + 1) (by simp) ?_; intro g3 cap3 w5 hown hgrow hat hltg; obtain ⟨hz5, hpu, hbk⟩ := HPu.out wA w5 (.slice A9 L.length c9) (.slice (some ⟨g3, 0, none⟩) (k + 1) cap3) bA rA hgrow hown; have HPn := (show Hid _ from hpu); have HBn := (show Hid _ from hbk); clear hpu hbk; have hzf := hz5.fz 2; have hzc := hz5.c2; clear hz5))
            all_goals
              clear hown hgrow hat hltg rA bA a2 a2o HCall HAft HPu HOv hk0 hk1 hk2 hk3 y0 y1
              generalize w5.setCell ⟨mb + 1, 2, none⟩ (.slice (some ⟨g3, 0, none⟩) (k + 1) cap3) = w6 at *
              clear hzf hzc
              have v3 := HPn.out.k.c3
              have HO7 := (show Hid (w6.ownsRow (mb + 2) 36 6 (.slice Ar k cr) k (fsc (List.replicate k f0)) ∧ mb + 2 ≤ w6.heap.size) from ⟨HPn.out.p, HPn.out.k.lt⟩)
              have HR7 := (show Hid (∀ (w8 : World) (u : Value), w6.grownBy w8 (Value.slice Ar k cr).ownBlock → w8.ownsRow (mb + 2) 36 6 u (k + 1) (fsc (List.replicate k f0 ++ [f0])) → _) from fun w8 u h1 h2 => HPn.out.rule h1 h2)
              go_wp2_with (at_builtin; refine wpList_appF0 w6.heap.size rfl rfl _ _ rfl (mb + 2) k _ _ rfl rfl HO7.out.1 (by omega) HO7.out.2 ?_; intro g4 cap4 w8 hown hgrow hat hltg; obtain ⟨hy8, h8⟩ := HR7.out w8 _ hgrow hown; have u3 := hy8.c3; have uf := hy8.fz 3; have H8 := (show Hid _ from h8); clear hown hgrow hat hltg hy8 h8 HO7 HR7 HPn v3)
              go_roundw
              case rel => exact ⟨k + 1, _, _, _, _, _, by omega, by go_num, HBn, H8⟩
              case measure => simp [intOf]; omega
          · obtain rfl : k = gs.length := by omega
            have HT := (show Hid (KyX (ky4 wr (w.heap.size + 1) (.map (some mb)) (.slice Ak gs.length ck) (.slice Ab gs.length cb) (.slice Ar gs.length cr)) (w.heap.size + 1) (.map (some mb)) (.slice Ak gs.length ck) (.slice Ab gs.length cb) (.slice Ar gs.length cr) ∧ KnS gs now w (ky4 wr (w.heap.size + 1) (.map (some mb)) (.slice Ak gs.length ck) (.slice Ab gs.length cb) (.slice Ar gs.length cr)) mb Ak (.slice Ab gs.length cb) (.slice Ar gs.length cr) ov (List.replicate gs.length f0) ∧ Below w.heap.size w (ky4 wr (w.heap.size + 1) (.map (some mb)) (.slice Ak gs.length ck) (.slice Ab gs.length cb) (.slice Ar gs.length cr))) from by
              have h := HW.out
              have e1 := h.e1
              have key : ∀ j, j ≠ w.heap.size + 1 → (ky4 wr (w.heap.size + 1) (.map (some mb)) (.slice Ak gs.length ck) (.slice Ab gs.length cb) (.slice Ar gs.length cr)).heap[j]? = wr.heap[j]? := fun j hj => ky4_other _ _ _ _ _ _ hj
              refine ⟨h.r.all _ _ _ _, ⟨h.m.same (key _ (by omega)), h.d.same (by rw [ky4_size]; exact Nat.le_refl _) (fun g2 o2 e => key _ (by have := h.e3 g2 o2 e; omega)), h.e1, h.e3, h.o.same (fun q hq => key _ (by have := h.o.lt hq; omega)), ?_⟩, ky4_below _ _ _ _ _ h.b (Nat.le_succ _)⟩
              rw [List.length_replicate]
              exact own_same h.p fun q hq => key _ (by have := (h.p.lt q hq).1; omega))
            unfold ky4 at HT
            have k0 := HW.out.k.c0
            have k1 := HW.out.k.c1
            have k2 := HW.out.k.c2
            have k3 := HW.out.k.c3
            have r0 := HW.out.r.c0
            have r1 := HW.out.r.c1
            have r2 := HW.out.r.c2
            have r3 := HW.out.r.c3
            have rf := HW.out.r.fz
            clear HW HP
            go_wp2_with fail
            refine ret_ky2 (s := 2) (t := 3) (b := w.heap.size + 1) (x := .int .i64 0) (by rfl) (by rfl) (by rfl) (by rfl) HT.out.1 ?_
            exact ⟨⟨fun q => absurd HZ.out q, fun _ => ⟨mb, Ak, ck, now, _, _, ov, rfl, HT.out.2.1, HM.out, HK.out.1, HK.out.2.1, HK.out.2.2⟩⟩, HT.out.2.2⟩
  · have tz : ((ckG gs).2 != 0) = true := by rw [bne, beq_eq_false_iff_ne.2 hz]; rfl
    have HZ := (show Hid ((ckG gs).2 ≠ 0) from hz)
    obtain rfl := hr.2 hz
    obtain ⟨Ak, ck, rfl⟩ := own_fm ho
    have HT := (show Hid (KyX (ky4 w2 (w.heap.size + 1) (.map none) (.slice none 0 0) (.slice none 0 0) (.slice none 0 0)) (w.heap.size + 1) (.map none) (.slice none 0 0) (.slice none 0 0) (.slice none 0 0) ∧ Below w.heap.size w (ky4 w2 (w.heap.size + 1) (.map none) (.slice none 0 0) (.slice none 0 0) (.slice none 0 0))) from ⟨HS2.out.2.2.1.all _ _ _ _, ky4_below _ _ _ _ _ HS2.out.1 (Nat.le_succ _)⟩)
    unfold ky4 at HT
    have r0 := HS2.out.2.2.1.c0
    have r1 := HS2.out.2.2.1.c1
    have r2 := HS2.out.2.2.1.c2
    have r3 := HS2.out.2.2.1.c3
    have rf := HS2.out.2.2.1.fz
    clear hr ho hz b2 HRu HS1 HE1 q1 HS2 HP
    generalize hcd : (ckG gs).2 = cd at tz ⊢
    have HCD := (show Hid ((ckG gs).2 = cd) from hcd)
    clear hcd
    go_wp2_with fail
    refine ret_ky2 (s := 2) (t := 3) (b := w.heap.size + 1) (x := .int .i64 cd) (by rfl) (by rfl) (by rfl) (by rfl) HT.out.1 ?_
    exact ⟨⟨fun _ => by rw [HCD.out], fun q => absurd q HZ.out⟩, HT.out.2⟩
end Go.Proofs.YtbnihflihelimaaGreat.N

namespace Go.Proofs.YtbnihflihelimaaGreat.N
open Go.RowKit Go.Maps
open Go.Proofs.YtbnihflihelimaaGreat.T
attribute [local go_sem] Oper.semAt_some
open Go.Shelf
/-- A box of one value. -/
structure BX1 (W : World) (b : Nat) (v : Value) (t : Nat) : Prop where
  heap : W.heap[b]? = some (.cells #[v] t (0, 0))
theorem BX1.lt {W : World} {b t : Nat} {v : Value} (h : BX1 W b v t) : b < W.heap.size := (Array.getElem?_eq_some_iff.1 h.heap).1
theorem BX1.same {W W' : World} {b t : Nat} {v : Value} (h : BX1 W b v t) (hb : W'.heap[b]? = W.heap[b]?) : BX1 W' b v t := ⟨hb.trans h.heap⟩
theorem BX1.c {W : World} {b t : Nat} {v : Value} (h : BX1 W b v t) : W.cell? ⟨b, 0, none⟩ = some v := by rw [cell_of_row W b 0 _ t (0, 0) h.heap]; rfl
theorem BX1.fz {W : World} {b t : Nat} {v : Value} (h : BX1 W b v t) : W.frozen? ⟨b, 0, none⟩ = false := frozen_of_row W b 0 _ t h.heap
theorem BX1.set {W : World} {b t : Nat} {v : Value} (h : BX1 W b v t) (u : Value) : BX1 (W.setCell ⟨b, 0, none⟩ u) b u t := ⟨by rw [heap_setCell_same W b 0 _ t u h.heap]; rfl⟩
theorem BX1.new (W : World) (v : Value) (t : Nat) : BX1 (W.alloc (.cells #[v] t)) W.heap.size v t := ⟨heap_alloc_new W _⟩
theorem cell_eqb {W W' : World} {p : Addr} (h : W'.heap[p.block]? = W.heap[p.block]?) : W'.cell? p = W.cell? p := by unfold World.cell?; rw [h]
/-- Numbers, from the last one on. -/
def bkA (n : Nat) : Nat → List (Fin n)
  | 0 => []
  | k + 1 => if h : k < n then ⟨k, h⟩ :: bkA n k else bkA n k
theorem bkA_succ {n k : Nat} (h : k < n) : bkA n (k + 1) = ⟨k, h⟩ :: bkA n k := by rw [bkA, dif_pos h]
theorem bkA_len (n : Nat) : ∀ k, k ≤ n → (bkA n k).length = k := by
  intro k
  induction k with
  | zero => intro _; rfl
  | succ k ih => intro h; rw [bkA_succ (by omega), List.length_cons, ih (by omega)]
theorem bkA_mem {n : Nat} (i : Fin n) : ∀ k, i.val < k → i ∈ bkA n k := by
  intro k
  induction k with
  | zero => intro h; omega
  | succ k ih =>
    intro h
    by_cases e : i.val = k
    · have hk : k < n := by have := i.isLt; omega
      rw [bkA_succ hk]
      exact List.mem_cons.2 (.inl (Fin.ext e))
    · have h2 := ih (by omega)
      rw [bkA]
      split
      · exact List.mem_cons_of_mem _ h2
      · exact h2
/-- Pairs that lie one behind the other. -/
def RdP (W : World) (A : Option Addr) (n : Nat) (f : Nat → Value × Value) : Prop := ∀ k, k < n → ∃ g o, A = some ⟨g, o, none⟩ ∧ g < W.heap.size ∧ W.cell? ⟨g, o + k * 2, none⟩ = some (f k).1 ∧ W.cell? ⟨g, o + k * 2 + 1, none⟩ = some (f k).2
theorem RdP.same {W W' : World} {A : Option Addr} {n : Nat} {f : Nat → Value × Value} (h : RdP W A n f) (hz : W.heap.size ≤ W'.heap.size) (hb : ∀ g o, A = some ⟨g, o, none⟩ → W'.heap[g]? = W.heap[g]?) : RdP W' A n f := fun k hk => by
  obtain ⟨g, o, e, lt, c0, c1⟩ := h k hk
  exact ⟨g, o, e, Nat.lt_of_lt_of_le lt hz, (cell_eqb (p := ⟨g, o + k * 2, none⟩) (hb g o e)).trans c0, (cell_eqb (p := ⟨g, o + k * 2 + 1, none⟩) (hb g o e)).trans c1⟩
/-- A block, and the block of a list, are as they were. -/
structure KeepP (b : Nat) (A : Option Addr) (W W' : World) : Prop where
  size : W.heap.size ≤ W'.heap.size
  blk : W'.heap[b]? = W.heap[b]?
  row : ∀ g o, A = some ⟨g, o, none⟩ → W'.heap[g]? = W.heap[g]?
theorem KeepP.trans {b : Nat} {A : Option Addr} {X Y Z : World} (h : KeepP b A X Y) (k : KeepP b A Y Z) : KeepP b A X Z := ⟨Nat.le_trans h.size k.size, k.blk.trans h.blk, fun g o e => (k.row g o e).trans (h.row g o e)⟩
theorem KeepP.put {b : Nat} {A : Option Addr} {w : World} (hb : b < w.heap.size) (hA : ∀ g o, A = some ⟨g, o, none⟩ → g < w.heap.size) (W : World) (l : Nat) (o o' : Obj) (hl : w.heap.size ≤ l) (_ : W.heap[l]? = some o) (_ : o.isCells = false) (_ : o.isWalk = false) : KeepP b A W (W.putObj l o') :=
  ⟨by simp [World.putObj], World.putObj_heap_other (by omega), fun g o e => World.putObj_heap_other (by have := hA g o e; omega)⟩
theorem KeepP.of_below {b : Nat} {A : Option Addr} {B : Nat} {W W' : World} (h : Below B W W') (hb : b < B) (hA : ∀ g o, A = some ⟨g, o, none⟩ → g < B) : KeepP b A W W' := ⟨h.size, h.block b hb, fun g o e => h.block g (hA g o e)⟩
/-- What holds within the iterator. -/
structure BkI (W : World) (Bn : Nat) (A : Option Addr) (n c : Nat) (f : Nat → Value × Value) : Prop where
  x : BX1 W Bn (.slice A n c) 54
  r : RdP W A n f
theorem BkI.keep {W W' : World} {Bn : Nat} {A : Option Addr} {n c : Nat} {f : Nat → Value × Value} (h : BkI W Bn A n c f) (k : KeepP Bn A W W') : BkI W' Bn A n c f := ⟨h.x.same k.blk, h.r.same k.size k.row⟩
set_option maxRecDepth 100000 in
set_option maxHeartbeats 4000000 in
theorem back1_in (m : Nat) (hm : 1 ≤ m) (l Bn : Nat) (A : Option Addr) (n c : Nat) (f : Nat → Value × Value) (hn : n ≤ 200) (J Jx : List (Fin n) → World → Prop) (W : World)
    (hY : ∀ pre x W1, J pre W1 → pre.length < n → YieldAt Fence.wide (m - 1) Tryz.prog l #[.int .i64 (x.val : Int), .agg #[(f x.val).1, (f x.val).2]] W1 fun e W' =>
      (e = .returned (.bool true) ∧ J (pre ++ [x]) W' ∧ KeepP Bn A W1 W') ∨ (e = .returned (.bool false) ∧ Jx (pre ++ [x]) W'))
    (hX : BkI W Bn A n c f) (h0 : J [] W) :
    CallsIn Fence.wide m Tryz.prog 53 #[.func (.yield l) #[] #[], .pointer (some ⟨Bn, 0, none⟩)] W fun e W' => (∃ v, e = .returned v) ∧
      ((∃ ys, ys = bkA n n ∧ J ys W') ∨ (∃ pre, pre <+: bkA n n ∧ Jx pre W')) := by
  have HY := (show Hid _ from hY)
  have HS0 := (show Hid (BkI W Bn A n c f) from hX)
  have H0 := (show Hid (J [] W) from h0)
  have q := hX.x.c
  clear hY h0 hX
  refine callsIn_of_wp Tryz.func53 rfl trivial ?_ rfl
  simp only [Tryz.ntmps53, List.size_toArray, List.length_cons, List.length_nil, Nat.reduceAdd, Nat.reduceSub, Array.replicate_succ, Array.replicate_zero, List.push_toArray, List.append_toArray, List.nil_append, List.cons_append]
  gi_wp2
  clear q
  gi_loopw [3] (fun t wr => ∃ (k : Nat) (z : Int) (pre : List (Fin n)), t = .int .i64 z ∧ z = (k : Int) - 1 ∧ k ≤ n ∧ Hid (pre ++ bkA n k = bkA n n) ∧ Hid (BkI wr Bn A n c f) ∧ Hid (J pre wr)) (fun t _ => (intOf t + 1).toNat)
  case atStart => exact ⟨n, (n : Int) - 1, [], by go_num, rfl, Nat.le_refl _, rfl, HS0, H0⟩
  case round =>
    obtain ⟨k, z, pre, rfl, hz, hk, HP, HS, HJ⟩ := hrel
    clear HS0 H0
    have q := HS.out.x.c
    cases k with
    | zero =>
      have t0 : decide (z ≥ 0) = false := decide_eq_false (by omega)
      have t1 : decide (0 ≤ z) = false := decide_eq_false (by omega)
      have HE := (show Hid (pre = bkA n n) from by have h := HP.out; rw [bkA, List.append_nil] at h; exact h)
      clear hz HP HS HY
      gi_wp2
      go_end0
      exact ⟨⟨_, rfl⟩, .inl ⟨pre, HE.out, HJ.out⟩⟩
    | succ k =>
      obtain rfl : z = (k : Int) := by omega
      have t0 : decide ((k : Int) ≥ 0) = true := decide_eq_true (by omega)
      have t1 : decide (0 ≤ (k : Int)) = true := decide_eq_true (by omega)
      have z0 : (0 : Int) ≤ (k : Int) := by omega
      have z1 : (k : Int) < (n : Int) := by omega
      obtain ⟨g, o, rfl, lt, c0, c1⟩ := HS.out.r k (by omega)
      have HL := (show Hid (pre.length < n) from by
        have h := congrArg List.length HP.out
        rw [List.length_append, bkA_len _ _ hk, bkA_len _ _ (Nat.le_refl _)] at h
        show pre.length < n
        omega)
      obtain ⟨fn, tmps, assign, body, hy, hR⟩ := HY.out pre ⟨k, hk⟩ wr HJ.out HL.out
      dsimp only at hy
      have HP2 := (show Hid ((pre ++ [⟨k, hk⟩]) ++ bkA n k = bkA n n) from by rw [List.append_assoc]; have h := HP.out; rw [bkA_succ hk] at h; exact h)
      clear hz HP HJ HL
      gi_wp2
      refine hR.mono ?_
      rintro e W3 (⟨rfl, hJ3, hk3⟩ | ⟨rfl, hJx3⟩)
      · have HJ3 := (show Hid _ from hJ3)
        have HS3 := (show Hid _ from HS.out.keep hk3)
        clear hJ3 hk3 hy HS c0 c1 q
        gi_wp2
        go_roundw
        case rel => exact ⟨k, (k : Int) - 1, pre ++ [⟨k, hk⟩], by go_num, rfl, by omega, HP2, HS3, HJ3⟩
        case measure => simp [intOf] <;> omega
      · have HX3 := (show Hid _ from hJx3)
        have HQ := (show Hid (pre ++ [⟨k, hk⟩] <+: bkA n n) from ⟨_, HP2.out⟩)
        clear hJx3 hy HS c0 c1 q HY HP2
        gi_wp2
        refine bodyPost_ret (results_none rfl _ _ _) rfl ?_
        exact ⟨⟨_, rfl⟩, .inr ⟨_, HQ.out, HX3.out⟩⟩
set_option maxHeartbeats 1000000 in
/-- Backward: the list is boxed; the function value captures the box. -/
theorem back_in (m : Nat) (A : Option Addr) (n c : Nat) (w : World) :
    CallsIn Fence.wide m Tryz.prog 35 #[.slice A n c] w fun e w' => e = .returned (.func (.func 53) #[] #[.pointer (some ⟨w.heap.size, 0, none⟩)]) ∧ w' = w.alloc (.cells #[.slice A n c] 54) := by
  refine callsIn_of_wp Tryz.func35 rfl trivial ?_ rfl
  simp only [Tryz.ntmps35, List.size_toArray, List.length_cons, List.length_nil, Nat.reduceAdd, Nat.reduceSub, Array.replicate_succ, Array.replicate_zero, List.push_toArray, List.append_toArray, List.nil_append, List.cons_append]
  gi_wp2
  go_ret
  exact ⟨rfl, rfl⟩
/-- What Backward hands back goes over the numbers and the pairs, from the last one on. -/
theorem back_stops (m : Nat) (hm : 1 ≤ m) (Bn : Nat) (A : Option Addr) (n c : Nat) (f : Nat → Value × Value) (hn : n ≤ 200) (w : World) (hX : BkI w Bn A n c f) (hA : ∀ g o, A = some ⟨g, o, none⟩ → g < w.heap.size) :
    SeqStopsK Fence.wide m Tryz.prog 53 #[.pointer (some ⟨Bn, 0, none⟩)] (fun x : Fin n => #[.int .i64 (x.val : Int), .agg #[(f x.val).1, (f x.val).2]]) (KeepP Bn A) (fun ys => ys = bkA n n) (fun pre => pre <+: bkA n n) n w := fun l J Jx W hW _ _ hY h0 =>
  back1_in m hm l Bn A n c f hn J Jx W hY (hX.keep (KeepP.of_below hW hX.x.lt hA)) h0
/-- Blocks of deferred calls, all empty, are taken in at the return. -/
theorem leaves_all {F : Fence} {n : Nat} {P : Program} {fn : Func} {tmps : Array Value} {R : Ending → World → Prop} : ∀ (ds : List Nat) (W : World), ds.Nodup → (∀ D ∈ ds, W.heap[D]? = some (.deferred (some []))) → (∀ W', W'.heap.size = W.heap.size → (∀ j, j ∉ ds → W'.heap[j]? = W.heap[j]?) → (∀ n0, (∀ D ∈ ds, n0 ≤ D) → Below n0 W W') → LeavesIn F n P fn tmps R [] .returning W') → LeavesInM F n P fn tmps R (ds.map fun D => { target := .collected D, args := #[] }) .returning W := by
  intro ds
  induction ds with
  | nil =>
    intro W _ _ h
    exact h W rfl (fun j _ => rfl) (fun n0 _ => Below.refl _ _)
  | cons D ds ih =>
    intro W hnd hD h
    have hDD := hD D (List.mem_cons_self ..)
    have hlt := (Array.getElem?_eq_some_iff.1 hDD).1
    refine ⟨by simp, .inl ⟨D, _, rfl, run_takeDeferred hDD, ?_⟩⟩
    have hnd2 := List.nodup_cons.1 hnd
    have hz : (W.putObj D (.deferred none)).heap.size = W.heap.size := by simp [World.putObj]
    refine ih _ hnd2.2 (fun E hE => ?_) (fun W' h1 h2 h3 => h W' (h1.trans hz) (fun j hj => ?_) (fun n0 hn0 => ?_))
    · rw [World.putObj_heap_other (by rintro rfl; exact hnd2.1 hE)]
      exact hD E (List.mem_cons_of_mem _ hE)
    · rw [h2 j (fun q => hj (List.mem_cons_of_mem _ q)), World.putObj_heap_other (by rintro rfl; exact hj (List.mem_cons_self ..))]
    · have hb : Below n0 W (W.putObj D (.deferred none)) := by
        have hle := hn0 D (List.mem_cons_self ..)
        exact (Below.refl n0 W).grown (grownBy_putObj' W D _) (by omega) (fun k e => by cases e; exact hle)
      exact hb.trans (h3 n0 (fun E hE => hn0 E (List.mem_cons_of_mem _ hE)))
end Go.Proofs.YtbnihflihelimaaGreat.N

namespace Go.Proofs.YtbnihflihelimaaGreat.N
open Go.RowKit Go.Maps
open Go.Proofs.YtbnihflihelimaaGreat.T

open U (below_grown own_get own_slice)
theorem enters_fsNode (args : Array Value) (w : World) : (callFunc 44 args).run Tryz.prog w = .ok (.enter 44 args) w := enters_of Tryz.func44 (by kernel_rfl) rfl args w
/-- Calls of three slots, as one step of a region that draws its order. -/
theorem step_call3 {F : Nat} (hen : ∀ args w, (callFunc F args).run Tryz.prog w = .ok (.enter F args) w) {ops : Array Oper} {o : Oper} {a : Act} {w : World} {K : Act → World → Prop} {Q : Exit → Act → World → Prop} {E : Prop} (hgd : o.guard = none) (x y z : Nat) (T U V : TypeId) (ho : o.op = .call { callee := .value (.func F), args := #[.tmp x, .tmp y, .tmp z], argTypes := #[T, U, V] }) (u v s : Value) (hx : a.eval (.tmp x) = u) (hy : a.eval (.tmp y) = v) (hz : a.eval (.tmp z) = s)
    (hc : Calls Tryz.prog F #[u, v, s] w fun e w' => ∃ r, e = .returned r ∧ K (a.put o.dst r) w') :
    if Region.wanted o (yielded ops a.tmps) = true then Oper.wp Tryz.prog o a w K Q else E := by
  have hw : Region.wanted o (yielded ops a.tmps) = true := by simp [Region.wanted, hgd]
  rw [if_pos hw]
  have he : (execOp a.eval o).run Tryz.prog w = .ok (.enter F #[u, v, s]) w := by
    have hx2 : a.tmps[x]?.getD undef = u := by simpa [Act.eval] using hx
    have hy2 : a.tmps[y]?.getD undef = v := by simpa [Act.eval] using hy
    have hz2 : a.tmps[z]?.getD undef = s := by simpa [Act.eval] using hz
    unfold execOp
    simp [ho, go_sem, invoke, hen]
    exact ⟨hx2, hy2, hz2⟩
  unfold Oper.wp
  rw [he, Oper.upon_enter]
  refine hc.mono ?_
  rintro e w' ⟨r, rfl, hk⟩
  exact hk
/-- What can fail, read. -/
def RdC (W : World) (A : Option Addr) (n : Nat) (f : Nat → Bool) : Prop := ∃ g o, A = some ⟨g, o, none⟩ ∧ g < W.heap.size ∧ ∀ j, j < n → W.cell? ⟨g, o + j, none⟩ = some (.bool (f j))
/-- Behind a part that was told: its box, and the rest. -/
structure PaB (w W : World) (kk : Nat) (a : Fs) (c : Bool) (m k bd r nv cv : Value) (l5 : List Fs) (l6 : List (Fs × Bool)) (v5 v6 : Value) : Prop where
  s : PaS w W m k bd r nv cv l5 l6 v5 v6
  q : QX W kk a c
  d : ∀ q, v6.ownBlock = some q → q < kk

set_option maxRecDepth 100000 in
set_option maxHeartbeats 64000000 in
theorem fsParts_any {gs : GL} {now : List Em} {fs : List Fs} {L : List Nd} (mb : Nat) (kE bd : Value) (Ar Ap Ac : Option Addr) (cr cp cc : Nat) (hrt : Rt L) (hks : Kds (kdR L) L) (hal0 : ∀ n ∈ L, alE n = 0) (hpos : 0 < L.length) (hlen : L.length ≤ 2048) (hnw : ∀ n ∈ L, NdW n) (hsz : ∀ n ∈ L, n.tx.size ≤ 140737488355328) (hdn : ∀ n ∈ L, n.op = 6 → ∃ i, fdG gs n.tx = some i) (hfl : fs.length = gs.length) (w : World) (hm : NmM w mb gs) (hr : RdF w Ar fs) (hp : RdN w Ap L) (hc : RdC w Ac L.length (cfR gs now L)) :
    Calls Tryz.prog 24 #[.agg #[.map (some mb), kE, bd, .slice Ar gs.length cr], .agg #[.slice Ap L.length cp, .slice Ac L.length cc]] w fun e w' => (∃ v, e = .returned v ∧ w'.ownsRow w.heap.size 36 6 v L.length (fsc ((List.range L.length).map fun j => (EF gs now fs L j).1))) ∧ Below w.heap.size w w' := by
  have hLn : L ≠ [] := by rintro rfl; simp at hpos
  obtain ⟨gp, op, rfl, lp, cl⟩ := hp hLn
  obtain ⟨gc, oc, rfl, lc, hcf⟩ := hc
  obtain ⟨E, hE⟩ : ∃ E : Nat → Fs × Bool, E = EF gs now fs L := ⟨_, rfl⟩
  have HSt := (show Hid (∀ (k : Nat) n, L[k]? = some n → (E k).1 = faN n (seV n) ((((pqS E ((run L k).take (arN n.op)))[0]?).getD q0).1) ((((pqS E ((run L k).take (arN n.op)))[1]?).getD q0).1) ((((pqS E ((run L k).take (arN n.op)))[1]?).getD q0).2) (lkF gs fs)) from fun k n hn => by rw [hE]; exact ef_step hks hn (hal0 n (List.mem_of_getElem? hn)))
  have HE2 := (show Hid (∀ j, (E j).2 = cfR gs now L j) from fun j => by rw [hE]; rfl)
  have HEq := (show Hid (EF gs now fs L = E) from hE.symm)
  rw [HEq.out]
  clear HEq hE
  obtain ⟨w1, hw1⟩ : ∃ w1, w1 = (w.alloc (.cells #[.map (some mb), kE, bd, .slice Ar gs.length cr] 56)).alloc (.cells #[(.slice (some ⟨gp, op, none⟩) L.length cp), (.slice (some ⟨gc, oc, none⟩) L.length cc)] 67) := ⟨_, rfl⟩
  have HE1 := (show Hid ((w.alloc (.cells #[.map (some mb), kE, bd, .slice Ar gs.length cr] 56)).alloc (.cells #[(.slice (some ⟨gp, op, none⟩) L.length cp), (.slice (some ⟨gc, oc, none⟩) L.length cc)] 67) = w1) from hw1.symm)
  have s0 := World.size_alloc w (.cells #[.map (some mb), kE, bd, .slice Ar gs.length cr] 56)
  have s1 : w1.heap.size = w.heap.size + 2 := by rw [hw1, World.size_alloc, s0]
  have hb1 : Below w.heap.size w w1 := by rw [hw1]; exact (below_box w _).trans ((below_box _ _).mono (by omega))
  have hx1 : KyX w1 w.heap.size (.map (some mb)) kE bd (.slice Ar gs.length cr) := by rw [hw1]; exact (KyX.new w _ _ _ _).below (below_box _ _)
  have hy1 : BdX w1 (w.heap.size + 1) (.slice (some ⟨gp, op, none⟩) L.length cp) (.slice (some ⟨gc, oc, none⟩) L.length cc) := by
    have h := BdX.new (w.alloc (.cells #[.map (some mb), kE, bd, .slice Ar gs.length cr] 56)) (.slice (some ⟨gp, op, none⟩) L.length cp) (.slice (some ⟨gc, oc, none⟩) L.length cc)
    rw [s0, ← hw1] at h
    exact h
  obtain ⟨w2, hmk2, ho2, hg2⟩ := make_fs w1 (w.heap.size + 2) L.length (by omega) hlen
  have HS0 := (show Hid (PaS w w2 (.map (some mb)) kE bd (.slice Ar gs.length cr) (.slice (some ⟨gp, op, none⟩) L.length cp) (.slice (some ⟨gc, oc, none⟩) L.length cc) ((List.range 0).map fun j => (E j).1) (pqS E (run L 0)) (.slice (some ⟨w1.heap.size, 0, none⟩) 0 L.length) (.slice none 0 0)) from by
    have hb2 : Below w1.heap.size w1 w2 := (Below.refl _ _).grown hg2 (Nat.le_refl _) (fun j e => by cases e)
    exact ⟨hb1.trans (hb2.mono hb1.size), hx1.below hb2, hy1.below hb2, ho2, World.ownsRow_nil _ _ _ _, fun q hq => by simp [Value.ownBlock]⟩)
  have HN := (show Hid (∀ (W : World) (n : Nd) (A4 : Option Addr) (c4 : Nat) (ps : List (Fs × Bool)), Below w.heap.size w W → n ∈ L → ps.length = arN n.op → RdQ W A4 ps → Calls Tryz.prog 44 #[.agg #[.map (some mb), kE, bd, .slice Ar gs.length cr], ndG n, .slice A4 (arN n.op) c4] W fun e w' => e = .returned (fG (faN n (seV n) (((ps[0]?).getD q0).1) (((ps[1]?).getD q0).1) (((ps[1]?).getD q0).2) (lkF gs fs))) ∧ Below W.heap.size W w') from fun W n A4 c4 ps hW hn hl hp => fsNode_any n gs fs mb kE bd Ar A4 cr c4 ps W (hal0 n hn) (hnw n hn) (hsz n hn) (hdn n hn) hfl hl (hm.later hW) (hr.later hW) hp)
  have HCl := (show Hid (NdL w gp op L ∧ gp < w.heap.size) from ⟨cl, lp⟩)
  have HCf := (show Hid (gc < w.heap.size ∧ ∀ j, j < L.length → w.cell? ⟨gc, oc + j, none⟩ = some (.bool (E j).2)) from ⟨lc, fun j hj => by rw [HE2.out]; exact hcf j hj⟩)
  have HG := (show Hid (∀ k, k < L.length → ∃ n, L[k]? = some n ∧ alE n = 0 ∧ arN n.op ≤ (run L k).length) from fun k hk => by
    have e : L[k]? = some L[k] := List.getElem?_eq_getElem hk
    have h := er_ok e (hrt.each k hk)
    exact ⟨_, e, h.al, h.ar⟩)
  have HLen := (show Hid (L.length ≤ 2048) from hlen)
  have y0 := hy1.c0
  have y0' : w2.cell? ⟨w.heap.size + 1, 0, none⟩ = _ := HS0.out.y.c0
  have z1 : (L.length : Int) ≤ 2048 := by omega
  obtain ⟨i0, hinf, hz0, hz1, hz2⟩ := info_parts Tryz.infoQ
  clear hrt hks hal0 hpos hnw hsz hdn hfl hm hr hp hLn lp cl lc hcf hw1 s0 hb1 hx1 hy1 ho2 hg2 HE2 hlen
  generalize hh : w1.heap.size = h1 at hmk2 HS0
  clear hh s1
  go_enter Tryz.func24, Tryz.ntmps24
  go_wp2_with (rw [HE1.out])
  clear HE1 hmk2 y0 y0'
  go_loopw [5, 6, 18] (fun v5 v6 t wr => ∃ (k : Nat), k ≤ L.length ∧ t = .int .i64 (k : Int) ∧ Hid (PaS w wr (.map (some mb)) kE bd (.slice Ar gs.length cr) (.slice (some ⟨gp, op, none⟩) L.length cp) (.slice (some ⟨gc, oc, none⟩) L.length cc) ((List.range k).map fun j => (E j).1) (pqS E (run L k)) v5 v6)) (fun _ _ t _ => L.length - (intOf t).toNat)
  case atStart => exact ⟨0, Nat.zero_le _, by go_num, HS0⟩
  case round =>
    obtain ⟨k, hk, rfl, HW⟩ := hrel
    clear HS0
    by_cases hlt : k < L.length
    · obtain ⟨n, hn, hal, har⟩ := HG.out k hlt
      have HNn := (show Hid (L[k]? = some n) from hn)
      have HAr : Hid (∀ w, Calls Tryz.prog 43 #[.int .i64 n.op] w fun e w' => e = .returned (.int .i64 ((arN n.op : Nat) : Int)) ∧ w' = w) := fun w => by rw [arN_of hal]; exact arity_any n.op w
      obtain ⟨c0, c1, c2, c3, c4, c5, c6⟩ := (HCl.out.1.same (HW.out.b.block gp HCl.out.2)) k n hn
      have z2 : (0 : Int) ≤ (k : Int) := by omega
      have z3 : (k : Int) < (L.length : Int) := by omega
      obtain ⟨A, cA, hv, hAo⟩ : ∃ A c, u6 = .slice A (run L k).length c ∧ (A = none ∧ (run L k).length = 0 ∧ c = 0 ∨ ∃ g, A = some ⟨g, 0, none⟩ ∧ g < wr.heap.size ∧ (run L k).length ≤ c) := by
        have ho := HW.out.p
        rw [pqS_len] at ho
        rcases ho.2 with ⟨q1, q2⟩ | ⟨g, cap, cur, q1, q2, q3, q4, _⟩
        · exact ⟨none, 0, by rw [q1, q2], .inl ⟨rfl, q2, rfl⟩⟩
        · exact ⟨_, cap, q1, .inr ⟨g, rfl, (Array.getElem?_eq_some_iff.1 q3).1, q4⟩⟩
      subst hv
      obtain ⟨w3, hw3⟩ : ∃ w3, w3 = wr.alloc (ndO n) := ⟨_, rfl⟩
      have HE3 := (show Hid (wr.alloc (.cells #[.int .i64 n.op, .int .i64 n.nn, .string n.tx, .int .u64 n.s0, .int .u64 n.s1, .int .u64 n.s2, .int .u64 n.s3] 70) = w3) from hw3.symm)
      have HN3 := (show Hid (NX w3 wr.heap.size n) from by rw [hw3]; exact ⟨heap_alloc_new wr _⟩)
      have hb3 : Below wr.heap.size wr w3 := by rw [hw3]; exact below_box _ _
      have HW3 := (show Hid (PaS w w3 (.map (some mb)) kE bd (.slice Ar gs.length cr) (.slice (some ⟨gp, op, none⟩) L.length cp) (.slice (some ⟨gc, oc, none⟩) L.length cc) ((List.range k).map fun j => (E j).1) (pqS E (run L k)) u5 (.slice A (run L k).length cA)) from HW.out.later hb3)
      have b0 := HN3.out.nb.c0
      have hml : (run L k).length ≤ 2048 := by have := run_len L k; have := HLen.out; omega
      have HAo := (show Hid _ from hAo)
      obtain ⟨rr, hr⟩ : ∃ r, r + arN n.op = (run L k).length := ⟨(run L k).length - arN n.op, by omega⟩
      clear hn hal har hAo hw3 hb3 HW HG
      obtain ⟨m, hm⟩ : ∃ m, m = (run L k).length := ⟨_, rfl⟩
      have HM := (show Hid (m = (run L k).length) from hm)
      rw [← hm] at hr hml ⊢
      have hsub : (m : Int) - (arN n.op : Int) = (rr : Int) := by omega
      have HAa := (show Hid (arN n.op ≤ 2 ∧ rr + arN n.op = m) from ⟨arN_le _, hr⟩)
      have hmr : m - rr = arN n.op := by omega
      have zr : (rr : Int) ≤ (m : Int) := by omega
      have zr0 : (0 : Int) ≤ (rr : Int) := by omega
      have zc : (m : Int) ≤ (cA : Int) := by
        rcases HAo.out with ⟨_, q2, q3⟩ | ⟨g, _, _, q3⟩
        · omega
        · omega
      obtain ⟨A2, hA2, hA2r⟩ : ∃ A2, (if cA = rr then A else Option.map (fun x => x.add (rr * 7)) A) = A2 ∧ RdQ w3 A2 (pqS E ((run L k).take (arN n.op))) := by
        refine ⟨_, rfl, ?_⟩
        by_cases hx0 : (pqS E ((run L k).take (arN n.op))) = []
        · rw [hx0]
          intro j p hp
          cases hp
        · have ha0 : 0 < ((run L k).take (arN n.op)).length := by
            rw [← pqS_len E]; exact List.length_pos_iff.2 hx0
          rw [List.length_take] at ha0
          rcases HAo.out with ⟨q1, q2, q3⟩ | ⟨g, q1, q2, q3⟩
          · omega
          · have hc : ¬ cA = rr := by omega
            rw [if_neg hc, q1]
            have ho := HW3.out.p
            rw [q1, pqS_len] at ho
            have hra : (pqS E ((run L k).drop (arN n.op))).length = rr := by rw [pqS_len, List.length_drop]; omega
            have h := pq_read ho _ _ (pqS_split E (run L k) (arN n.op))
            rw [hra] at h
            rw [Option.map_some, Addr.add_lit, Nat.zero_add]
            exact h
      have HR2 := (show Hid (RdQ w3 A2 (pqS E ((run L k).take (arN n.op)))) from hA2r)
      clear hA2r hr hm
      go_wp2_with (rw [HE3.out])
      refine (HAr.out _).mono ?_
      rintro e w4 ⟨rfl, rfl⟩
      clear HAr c0 c1 c2 c3 c4 c5 c6 b0 HE3
      obtain ⟨pb, hpb⟩ : ∃ pb, pb = (E k).2 := ⟨_, rfl⟩
      obtain ⟨pf, hpf⟩ : ∃ pf, pf = (E k).1 := ⟨_, rfl⟩
      have HEk := (show Hid ((pf, pb) = E k) from by show (pf, pb) = E k; rw [hpb, hpf])
      have HW4 := (show Hid (PaS w w4 (.map (some mb)) kE bd (.slice Ar gs.length cr) (.slice (some ⟨gp, op, none⟩) L.length cp) (.slice (some ⟨gc, oc, none⟩) L.length cc) ((List.range k).map fun j => (E j).1) (pqS E (run L k)) u5 (.slice A m cA)) from by rw [HM.out]; exact HW3.out)
      have hD : Below w4.heap.size w4 w4.drew := (Below.refl _ _).drew
      obtain ⟨wz, hwz⟩ : ∃ wz, wz = (w4.alloc (.cells #[.int .u64 0, .int .u64 0, .int .u64 0, .int .u64 0, .bool false, .bool false, .bool false] 96)).drew := ⟨_, rfl⟩
      have hZ : Below w4.heap.size w4 wz := by rw [hwz]; exact (below_box w4 _).drew
      have hPz : QX wz w4.heap.size f0 false := by
        have h : QX (w4.alloc (.cells #[.int .u64 0, .int .u64 0, .int .u64 0, .int .u64 0, .bool false, .bool false, .bool false] 96)) w4.heap.size f0 false := by
          have z0 : ∀ i, wd f0.st i = 0 := fun i => wd_zero i
          constructor
          rw [z0, z0, z0, z0]
          exact heap_alloc_new w4 _
        rw [hwz]
        exact h.below ((Below.refl _ _).drew)
      have HC := (show Hid (∀ W, Below w4.heap.size w4 W → Calls Tryz.prog 44 #[.agg #[.map (some mb), kE, bd, .slice Ar gs.length cr], ndG n, .slice A2 (arN n.op) (cA - rr)] W fun e w' => e = .returned (fG pf) ∧ Below W.heap.size W w') from fun W hW => by
        have hl : (pqS E ((run L k).take (arN n.op))).length = arN n.op := by rw [pqS_len, List.length_take, ← HM.out]; have := HAa.out; omega
        have h := HN.out W n A2 (cA - rr) _ (HW4.out.b.trans (hW.mono HW4.out.b.size)) (List.mem_of_getElem? HNn.out) hl (HR2.out.later hW)
        rw [← HSt.out k n HNn.out, ← hpf] at h
        exact h)
      have HMc := (show Hid (∀ W, Below w4.heap.size w4 W → W.cell? ⟨gc, oc + k, none⟩ = some (.bool pb)) from fun W hW => by
        rw [hpb]
        have h := HW4.out.b.trans (hW.mono HW4.out.b.size)
        exact (h.cell (p := ⟨gc, oc + k, none⟩) HCf.out.1).trans (HCf.out.2 k hlt))
      have HYc := (show Hid (∀ W, Below w4.heap.size w4 W → W.cell? ⟨w.heap.size + 1, 1, none⟩ = some (.slice (some ⟨gc, oc, none⟩) L.length cc)) from fun W hW => (HW4.out.later hW).y.c1)
      have HD := (show Hid (Below w4.heap.size w4 w4.drew ∧ Below w4.heap.size w4 wz) from ⟨hD, hZ⟩)
      have d0 := (nx_below HN3.out hD).nb.c0
      have d1 := (nx_below HN3.out hD).nb.c1
      have d2 := (nx_below HN3.out hD).nb.c2
      have d3 := (nx_below HN3.out hD).nb.c3
      have d4 := (nx_below HN3.out hD).nb.c4
      have d5 := (nx_below HN3.out hD).nb.c5
      have d6 := (nx_below HN3.out hD).nb.c6
      have e0 := (nx_below HN3.out hZ).nb.c0
      have e1 := (nx_below HN3.out hZ).nb.c1
      have e2 := (nx_below HN3.out hZ).nb.c2
      have e3 := (nx_below HN3.out hZ).nb.c3
      have e4 := (nx_below HN3.out hZ).nb.c4
      have e5 := (nx_below HN3.out hZ).nb.c5
      have e6 := (nx_below HN3.out hZ).nb.c6
      have g0 : w4.drew.cell? _ = _ := (HW4.out.later hD).x.c0
      have g1 := (HW4.out.later hD).x.c1
      have g2 := (HW4.out.later hD).x.c2
      have g3 := (HW4.out.later hD).x.c3
      have g4 := (HW4.out.later hD).y.c1
      have h0 := (HW4.out.later hZ).x.c0
      have h1' := (HW4.out.later hZ).x.c1
      have h2 := (HW4.out.later hZ).x.c2
      have h3 := (HW4.out.later hZ).x.c3
      have h4 := (HW4.out.later hZ).y.c1
      have m0 := HMc.out _ hD
      have m1 := HMc.out _ hZ
      have HZ1 := (show Hid (∀ w5 : World, Below wz.heap.size wz w5 → w5.cell? ⟨w4.heap.size, 0, none⟩ = some (.int .u64 0) ∧ w5.cell? ⟨w4.heap.size, 1, none⟩ = some (.int .u64 0) ∧ w5.cell? ⟨w4.heap.size, 2, none⟩ = some (.int .u64 0) ∧ w5.cell? ⟨w4.heap.size, 3, none⟩ = some (.int .u64 0) ∧ w5.cell? ⟨w4.heap.size, 4, none⟩ = some (.bool false) ∧ w5.cell? ⟨w4.heap.size, 5, none⟩ = some (.bool false) ∧ w5.cell? ⟨w4.heap.size, 6, none⟩ = some (.bool false) ∧ w5.frozen? ⟨w4.heap.size, 0, none⟩ = false ∧ w5.frozen? ⟨w4.heap.size, 1, none⟩ = false ∧ w5.frozen? ⟨w4.heap.size, 2, none⟩ = false ∧ w5.frozen? ⟨w4.heap.size, 3, none⟩ = false ∧ w5.frozen? ⟨w4.heap.size, 4, none⟩ = false ∧ w5.frozen? ⟨w4.heap.size, 5, none⟩ = false ∧ w5.frozen? ⟨w4.heap.size, 6, none⟩ = false) from fun w5 h5 => by
        have h := hPz.below h5
        have c0 := h.c0
        have c1 := h.c1
        have c2 := h.c2
        have c3 := h.c3
        have z0 : ∀ i, wd f0.st i = 0 := fun i => wd_zero i
        rw [z0] at c0 c1 c2 c3
        exact ⟨c0, c1, c2, c3, h.c4, h.c5, h.c6, h.fz 0, h.fz 1, h.fz 2, h.fz 3, h.fz 4, h.fz 5, h.fz 6⟩)
      have HFA := (show Hid (∀ w5 : World, Below w4.drew.heap.size w4.drew w5 → Hid (PaB w (w5.alloc (.cells #[.int .u64 (wd pf.st 0), .int .u64 (wd pf.st 1), .int .u64 (wd pf.st 2), .int .u64 (wd pf.st 3), .bool pf.em, .bool pf.hf, .bool pb] 96)) w5.heap.size pf pb (.map (some mb)) kE bd (.slice Ar gs.length cr) (.slice (some ⟨gp, op, none⟩) L.length cp) (.slice (some ⟨gc, oc, none⟩) L.length cc) ((List.range k).map fun j => (E j).1) (pqS E (run L k)) u5 (.slice A m cA))) from fun w5 h5 => by
        have h6 := HD.out.1.trans (h5.mono HD.out.1.size)
        exact ⟨(HW4.out.later h6).later (below_box w5 _), ⟨heap_alloc_new w5 _⟩, fun q hq => Nat.lt_of_lt_of_le (HW4.out.p.lt q hq).2 h6.size⟩)
      have HFB := (show ∀ w5 : World, Below wz.heap.size wz w5 → Hid (PaB w (sQ w5 w4.heap.size pf pb) w4.heap.size pf pb (.map (some mb)) kE bd (.slice Ar gs.length cr) (.slice (some ⟨gp, op, none⟩) L.length cp) (.slice (some ⟨gc, oc, none⟩) L.length cc) ((List.range k).map fun j => (E j).1) (pqS E (run L k)) u5 (.slice A m cA)) from fun w5 h5 => by
        have h6 := HD.out.2.trans (h5.mono HD.out.2.size)
        exact ⟨HW4.out.later (sQ_below _ _ _ h6 (Nat.le_refl _)), sQ_qx (hPz.below h5) _ _, fun q hq => (HW4.out.p.lt q hq).2⟩)
      unfold sQ at HFB
      have HFB := (show Hid _ from HFB)
      rw [hwz] at e0 e1 e2 e3 e4 e5 e6 h0 h1' h2 h3 h4 m1
      clear hpb hpf hD HR2 HN3 HW3
      go_wp2_with fail
      go_cut [10, 18] from 18 to 52 (fun u10 u18 W => ∃ kk, u10 = .pointer (some ⟨kk, 0, none⟩) ∧ u18 = .int .i64 (k : Int) ∧ Hid (PaB w W kk pf pb (.map (some mb)) kE bd (.slice Ar gs.length cr) (.slice (some ⟨gp, op, none⟩) L.length cp) (.slice (some ⟨gc, oc, none⟩) L.length cc) ((List.range k).map fun j => (E j).1) (pqS E (run L k)) u5 (.slice A m cA)))
      case first =>
          go_region_law (first
            | (refine step_call3 enters_fsNode rfl _ _ _ _ _ _ (by rfl) (.agg #[.map (some mb), kE, bd, .slice Ar gs.length cr]) (ndG n) (.slice A2 (arN n.op) (cA - rr)) (by rfl) (by rfl) (by rfl) ?_; with_reducible refine (HC.out w4.drew HD.out.1).mono ?_; rintro e w5 ⟨rfl, b5⟩; refine ⟨_, rfl, ?_⟩; have m5 := HMc.out w5 (HD.out.1.trans (b5.mono HD.out.1.size)); have HF := HFA.out w5 b5; have n5 := HYc.out w5 (HD.out.1.trans (b5.mono HD.out.1.size)); have n6 := HYc.out _ ((HD.out.1.trans (b5.mono HD.out.1.size)).trans ((below_box w5 (.cells #[.int .u64 0, .int .u64 0, .int .u64 0, .int .u64 0, .bool false, .bool false, .bool false] 96)).mono (HD.out.1.trans (b5.mono HD.out.1.size)).size)); have m6 := HMc.out _ ((HD.out.1.trans (b5.mono HD.out.1.size)).trans ((below_box w5 (.cells #[.int .u64 0, .int .u64 0, .int .u64 0, .int .u64 0, .bool false, .bool false, .bool false] 96)).mono (HD.out.1.trans (b5.mono HD.out.1.size)).size)))
            | (refine step_call3 enters_fsNode rfl _ _ _ _ _ _ (by rfl) (.agg #[.map (some mb), kE, bd, .slice Ar gs.length cr]) (ndG n) (.slice A2 (arN n.op) (cA - rr)) (by rfl) (by rfl) (by rfl) ?_; rw [← hwz]; with_reducible refine (HC.out wz HD.out.2).mono ?_; rintro e w5 ⟨rfl, b5⟩; refine ⟨_, rfl, ?_⟩; have m5 := HMc.out w5 (HD.out.2.trans (b5.mono HD.out.2.size)); have HF := HFB.out w5 b5; have n5 := HYc.out w5 (HD.out.2.trans (b5.mono HD.out.2.size)); obtain ⟨x0, x1, x2, x3, x4, x5, x6, f0', f1, f2, f3, f4, f5, f6⟩ := HZ1.out w5 b5))
          all_goals (go_wp2_with fail; go_meet; exact ⟨_, rfl, rfl, HF⟩)
      case rest =>
          obtain ⟨kk, rfl, rfl, HF⟩ := hcut
          obtain ⟨w6, hw6⟩ : ∃ W, W = wc := ⟨_, rfl⟩
          rw [← hw6] at HF ⊢
          clear hw6 HC HMc HYc HD HZ1 HFA HFB hwz hZ hPz d0 d1 d2 d3 d4 d5 d6 e0 e1 e2 e3 e4 e5 e6 g0 g1 g2 g3 g4 h0 h1' h2 h3 h4 m0 m1 HW4 hA2
          have zc2 : (rr : Int) ≤ (cA : Int) := by omega
          have HO5 := (show Hid (w6.ownsRow (w.heap.size + 2) 96 7 (.slice A rr cA) rr (pqc (pqS E ((run L k).drop (arN n.op))))) from pq_front (m := m) (by have h := HF.out.s.p; rw [pqS_len, ← HM.out] at h; exact h) (pqS_split E (run L k) (arN n.op)) (by rw [pqS_len, List.length_drop, ← HM.out]; have := HAa.out; omega) (by have := HAa.out; omega) (by
            rcases HAo.out with ⟨q1, q2, q3⟩ | ⟨g, q1, _, _⟩
            · exact .inl ⟨q1, by rw [HM.out]; exact q2, q3⟩
            · exact .inr ⟨g, q1⟩))
          have HOb := (show Hid ((Value.slice A rr cA).ownBlock = (Value.slice A m cA).ownBlock) from by cases A <;> rfl)
          have HNs := (show Hid (w.heap.size + 2 ≤ w6.heap.size) from HF.out.s.y.lt)
          have HPs := (show Hid (∀ (w7 : World) (g3 cap3 : Nat), w7.ownsRow (w.heap.size + 2) 96 7 (.slice (some ⟨g3, 0, none⟩) (rr + 1) cap3) (rr + 1) (pqc (pqS E ((run L k).drop (arN n.op))) ++ pqV (pf, pb)) → ((w6.alloc (.cells #[.int .u64 (wd pf.st 0), .int .u64 (wd pf.st 1), .int .u64 (wd pf.st 2), .int .u64 (wd pf.st 3), .bool pf.em, .bool pf.hf, .bool pb] 96)).drew).grownBy w7 (Value.slice A rr cA).ownBlock → ((Value.slice A rr cA).ownBlock = some g3 ∨ g3 = w6.heap.size + 1) → Hid (PaS w w7 (.map (some mb)) kE bd (.slice Ar gs.length cr) (.slice (some ⟨gp, op, none⟩) L.length cp) (.slice (some ⟨gc, oc, none⟩) L.length cc) ((List.range k).map fun j => (E j).1) (pqS E (run L (k + 1))) u5 (.slice (some ⟨g3, 0, none⟩) (rr + 1) cap3) ∧ QX w7 kk pf pb)) from fun w7 g3 cap3 h1 h2 h3 => by
            have hl : (pqS E (run L (k + 1))).length = rr + 1 := by
              rw [pqS_len, run_succ, List.length_cons, List.length_drop, op_of HNn.out, ← HM.out]
              have := HAa.out
              omega
            have hg : w6.grownBy w7 (Value.slice A rr cA).ownBlock := U.grow_alloc (grown_drew h2)
            rw [HOb.out] at hg h3
            refine ⟨HF.out.s.push6 hg (fun q hq => hq) ?_ (fun g hq => ?_), HF.out.q.same (hg.block kk HF.out.q.lt (fun e => Nat.lt_irrefl _ (HF.out.d kk e.symm)))⟩
            · rw [hl, run_succ, pqS_cons, pt_last, op_of HNn.out, pqc_app, pqc_one, ← HEk.out]
              exact h1
            · have e : g3 = g := by simpa [Value.ownBlock] using hq
              subst e
              rcases h3 with h3 | h3
              · exact .inl h3
              · exact .inr (by omega))
          have hn1 : (pqV (pf, pb)).length = 1 * 7 := rfl
          have hzs : (Value.agg #[.int .u64 0, .int .u64 0, .int .u64 0, .int .u64 0, .bool false, .bool false, .bool false]).cells.size = 7 := by kernel_rfl
          have p0 := HF.out.q.c0
          have p1 := HF.out.q.c1
          have p2 := HF.out.q.c2
          have p3 := HF.out.q.c3
          have p4 := HF.out.q.c4
          have p5 := HF.out.q.c5
          have p6 := HF.out.q.c6
          have HQd := (show Hid (QX w6.drew kk pf pb) from HF.out.q.below ((Below.refl _ _).drew))
          have q0 := HQd.out.c0
          have q1 := HQd.out.c1
          have q2 := HQd.out.c2
          have q3 := HQd.out.c3
          have q4 := HQd.out.c4
          have q5 := HQd.out.c5
          have q6 := HQd.out.c6
          go_wp2_with fail
          go_region_law (refine step_append_lies _ (by rfl) _ _ _ (by rfl) (w.heap.size + 2) 96 i0 _ 7 48 (by kernel_rfl) hinf hz0 hz1 hz2 hzs (by omega) _ _ (pqc (pqS E ((run L k).drop (arN n.op)))) (by rfl) (T.own_drew (HO5.out.alloc _)) ⟨w6.heap.size, 0, none⟩ 1 1 (pqV (pf, pb)) (by rfl) hn1 (World.news_of_block (cs := #[.int .u64 (wd pf.st 0), .int .u64 (wd pf.st 1), .int .u64 (wd pf.st 2), .int .u64 (wd pf.st 3), .bool pf.em, .bool pf.hf, .bool pb]) (t := 96) (fr := (0, 0)) (heap_alloc_new w6 _)) (pqV_one _) (by omega) (by unfold maxLen; omega) (by omega) (by show w.heap.size + 2 ≤ (w6.alloc _).heap.size; rw [World.size_alloc]; exact Nat.le_succ_of_le HNs.out) (w6.heap.size + 1) (by simp) ?_; intro g3 cap3 w7 hown hgrow hat hltg; have HP7 := HPs.out w7 g3 cap3 hown hgrow hat)
          all_goals
            clear hown hgrow hat hltg HPs HO5 HNs HF HQd p0 p1 p2 p3 p4 p5 p6 q0 q1 q2 q3 q4 q5 q6 HOb
            obtain ⟨HS7, HQ7⟩ := HP7.out
            have HS7 := (show Hid _ from HS7)
            have p0 := HQ7.c0
            have p1 := HQ7.c1
            have p2 := HQ7.c2
            have p3 := HQ7.c3
            have p4 := HQ7.c4
            have p5 := HQ7.c5
            have p6 := HQ7.c6
            have HO7 := (show Hid (w7.ownsRow (w.heap.size + 2) 36 6 u5 k (fsc ((List.range k).map fun j => (E j).1)) ∧ w.heap.size + 2 ≤ w7.heap.size ∧ k ≤ 1000000) from by
              have h := HS7.out.o
              rw [List.length_map, List.length_range] at h
              exact ⟨h, by have h2 := HS7.out.y.lt; omega, by have := HLen.out; omega⟩)
            clear HQ7 HP7
            go_wp2_with (at_builtin; refine wpList_appF (a := pf) w7.heap.size rfl rfl _ _ rfl (w.heap.size + 2) k _ _ rfl rfl HO7.out.1 HO7.out.2.2 HO7.out.2.1 ?_)
            intro g4 cap4 w8 hown hgrow hat hltg
            have HP8 := (show Hid (PaS w w8 (.map (some mb)) kE bd (.slice Ar gs.length cr) (.slice (some ⟨gp, op, none⟩) L.length cp) (.slice (some ⟨gc, oc, none⟩) L.length cc) ((List.range (k + 1)).map fun j => (E j).1) (pqS E (run L (k + 1))) (.slice (some ⟨g4, 0, none⟩) (k + 1) cap4) (.slice (some ⟨g3, 0, none⟩) (rr + 1) cap3)) from by
              refine HS7.out.push5 hgrow (fun q hq => hq) ?_ (fun g hq => ?_)
              · rw [List.length_map, List.length_range, List.range_succ, List.map_append, List.map_cons, List.map_nil, ← HEk.out]
                exact hown
              · have e : g4 = g := by simpa [Value.ownBlock] using hq
                subst e
                rcases hat with h3 | h3
                · exact .inl h3
                · exact .inr (by omega))
            clear hown hgrow hat hltg HS7 HO7 p0 p1 p2 p3 p4 p5 p6
            go_wp2_with fail
            go_roundw
            case rel => exact ⟨k + 1, by omega, by go_num, HP8⟩
            case measure => simp [intOf]; omega
    · obtain rfl : k = L.length := by omega
      have HF := (show Hid (wr.ownsRow w.heap.size 36 6 u5 L.length (fsc ((List.range L.length).map fun j => (E j).1)) ∧ Below w.heap.size w wr) from by
        have h := U.own_base HW.out.o (a := w.heap.size) (by omega)
        rw [List.length_map, List.length_range] at h
        exact ⟨h, HW.out.b⟩)
      clear HW HSt HN HCl HCf HG
      go_wp2_with fail
      go_ret
      exact ⟨⟨_, rfl, HF.out.1⟩, HF.out.2⟩
end Go.Proofs.YtbnihflihelimaaGreat.N

namespace Go.Proofs.YtbnihflihelimaaGreat.N
open Go.RowKit Go.Maps
open Go.Proofs.YtbnihflihelimaaGreat.T

open U (below_grown)
/-- A right body: its nodes. -/
structure BdR (gs : GL) (L : List Nd) : Prop where
  rt : Rt L
  ks : Kds (kdR L) L
  al : ∀ n ∈ L, alE n = 0
  pos : 0 < L.length
  len : L.length ≤ 2048
  nw : ∀ n ∈ L, NdW n
  sz : ∀ n ∈ L, n.tx.size ≤ 140737488355328
  dn : ∀ n ∈ L, n.op = 6 → ∃ i, fdG gs n.tx = some i
theorem RdC.later {W W' : World} {A : Option Addr} {n : Nat} {f : Nat → Bool} (h : RdC W A n f) (hb : Below W.heap.size W W') : RdC W' A n f := by
  obtain ⟨g, o, e, lt, c⟩ := h
  exact ⟨g, o, e, Nat.lt_of_lt_of_le lt hb.size, fun j hj => (hb.cell (p := ⟨g, o + j, none⟩) lt).trans (c j hj)⟩
/-- Boxes of whole: what is known, the body, the answer. -/
structure WhS (w wr : World) (m k bd r nv cv : Value) : Prop where
  b : Below w.heap.size w wr
  x : KyX wr w.heap.size m k bd r
  y : BdX wr (w.heap.size + 1) nv cv
  z : FX wr (w.heap.size + 1 + 1) f0
theorem WhS.later {w wr w2 : World} {m k bd r nv cv : Value} (h : WhS w wr m k bd r nv cv) (hb : Below wr.heap.size wr w2) : WhS w w2 m k bd r nv cv := ⟨h.b.trans (hb.mono h.b.size), h.x.below hb, h.y.below hb, h.z.below hb⟩
theorem WhS.new (w : World) (m k bd r nv cv : Value) : WhS w (((w.alloc (.cells #[m, k, bd, r] 56)).alloc (.cells #[nv, cv] 67)).alloc (.cells #[.int .u64 0, .int .u64 0, .int .u64 0, .int .u64 0, .bool false, .bool false] 36)) m k bd r nv cv := by
  have e1 := World.size_alloc w (.cells #[m, k, bd, r] 56)
  have e2 := World.size_alloc (w.alloc (.cells #[m, k, bd, r] 56)) (.cells #[nv, cv] 67)
  have hz := FX.new ((w.alloc (.cells #[m, k, bd, r] 56)).alloc (.cells #[nv, cv] 67)) f0
  have z0 : ∀ i, wd f0.st i = 0 := fun i => wd_zero i
  rw [z0, z0, z0, z0] at hz
  have hn := BdX.new (w.alloc (.cells #[m, k, bd, r] 56)) nv cv
  refine ⟨((below_box w _).trans ((below_box _ _).mono (by omega))).trans ((below_box _ _).mono (by omega)), ((KyX.new w m k bd r).below (below_box _ _)).below (below_box _ _), ?_, ?_⟩
  · rw [e1] at hn
    exact hn.below (below_box _ _)
  · rw [e2, e1] at hz
    exact hz
theorem WhS.fin {w wr : World} {m k bd r nv cv : Value} (h : WhS w wr m k bd r nv cv) (a : Fs) : FX (sF wr (w.heap.size + 1 + 1) a) (w.heap.size + 1 + 1) a ∧ Below w.heap.size w (sF wr (w.heap.size + 1 + 1) a) := ⟨sF_fx h.z _, sF_below _ _ h.b (by omega)⟩
set_option maxRecDepth 100000 in
set_option maxHeartbeats 16000000 in
theorem fsWhole_any {gs : GL} {now : List Em} {fs : List Fs} {L : List Nd} (mb : Nat) (kE bd : Value) (Ar Ap Ac : Option Addr) (cr cp cc : Nat) (hB : BdR gs L) (hfl : fs.length = gs.length) (w : World) (hm : NmM w mb gs) (hr : RdF w Ar fs) (hp : RdN w Ap L) (hc : RdC w Ac L.length (cfR gs now L)) :
    Calls Tryz.prog 36 #[.agg #[.map (some mb), kE, bd, .slice Ar gs.length cr], .agg #[.slice Ap L.length cp, .slice Ac L.length cc]] w fun e w' => e = .returned (fG (faR gs now fs L (L.length - 1))) ∧ Below w.heap.size w w' := by
  obtain ⟨a, ha⟩ : ∃ a, a = faR gs now fs L (L.length - 1) := ⟨_, rfl⟩
  have HA := (show Hid (a = faR gs now fs L (L.length - 1)) from ha)
  rw [← ha]
  clear ha
  have hs := WhS.new w (.map (some mb)) kE bd (.slice Ar gs.length cr) (.slice Ap L.length cp) (.slice Ac L.length cc)
  obtain ⟨w1, hw1⟩ : ∃ w1, w1 = ((w.alloc (.cells #[.map (some mb), kE, bd, .slice Ar gs.length cr] 56)).alloc (.cells #[(.slice Ap L.length cp), (.slice Ac L.length cc)] 67)).alloc (.cells #[.int .u64 0, .int .u64 0, .int .u64 0, .int .u64 0, .bool false, .bool false] 36) := ⟨_, rfl⟩
  rw [← hw1] at hs
  have HE := (show Hid (((w.alloc (.cells #[.map (some mb), kE, bd, .slice Ar gs.length cr] 56)).alloc (.cells #[(.slice Ap L.length cp), (.slice Ac L.length cc)] 67)).alloc (.cells #[.int .u64 0, .int .u64 0, .int .u64 0, .int .u64 0, .bool false, .bool false] 36) = w1) from hw1.symm)
  have HS := (show Hid (WhS w w1 (.map (some mb)) kE bd (.slice Ar gs.length cr) (.slice Ap L.length cp) (.slice Ac L.length cc)) from hs)
  have HP := (show Hid (∀ _ : Unit, Calls Tryz.prog 24 #[.agg #[.map (some mb), kE, bd, .slice Ar gs.length cr], .agg #[.slice Ap L.length cp, .slice Ac L.length cc]] w1 fun e w' => (∃ v, e = .returned v ∧ w'.ownsRow w1.heap.size 36 6 v L.length (fsc ((List.range L.length).map fun j => (EF gs now fs L j).1))) ∧ Below w1.heap.size w1 w') from fun _ => fsParts_any mb kE bd Ar Ap Ac cr cp cc hB.rt hB.ks hB.al hB.pos hB.len hB.nw hB.sz hB.dn hfl w1 (hm.later hs.b) (hr.later hs.b) (hp.below hs.b (Nat.le_refl _)) (hc.later hs.b))
  obtain ⟨j, hj⟩ : ∃ j, j + 1 = L.length := ⟨L.length - 1, by have := hB.pos; omega⟩
  have HJ := (show Hid (j + 1 = L.length) from hj)
  have zj : (L.length : Int) - 1 = (j : Int) := by omega
  have zb : (L.length : Int) ≤ 2048 := by have := hB.len; omega
  have zj0 : (0 : Int) ≤ (j : Int) := by omega
  have zj1 : (j : Int) < (L.length : Int) := by omega
  have x0 := hs.x.c0
  have x1 := hs.x.c1
  have x2 := hs.x.c2
  have x3 := hs.x.c3
  have y0 := hs.y.c0
  have y1 := hs.y.c1
  clear hw1 hs hB hfl hm hr hp hc hj
  go_enter Tryz.func36, Tryz.ntmps36
  go_wp2_with (rw [HE.out])
  refine (HP.out ()).mono ?_
  rintro e w2 ⟨⟨v, rfl, ho⟩, b2⟩
  have hj2 : ((List.range L.length).map fun j => (EF gs now fs L j).1)[j]? = some (faR gs now fs L (L.length - 1)) := by
    have hj := HJ.out
    rw [List.getElem?_map, List.getElem?_range (by omega), show L.length - 1 = j from by omega]
    rfl
  obtain ⟨g, cap, rfl, hgl, _⟩ := ho.form (by have := HJ.out; omega)
  obtain ⟨g2, o2, e2, _, r0, r1, r2, r3, r4, r5⟩ := fs_read ho [] _ rfl j _ hj2
  cases e2
  have HS2 := (show Hid (WhS w w2 (.map (some mb)) kE bd (.slice Ar gs.length cr) (.slice Ap L.length cp) (.slice Ac L.length cc)) from HS.out.later b2)
  have z0 := HS2.out.z.c0
  have z1 := HS2.out.z.c1
  have z2 := HS2.out.z.c2
  have z3 := HS2.out.z.c3
  have z4 := HS2.out.z.c4
  have z5 := HS2.out.z.c5
  have zf := HS2.out.z.fz
  rw [← HA.out] at r0 r1 r2 r3 r4 r5
  have HF := (show Hid _ from HS2.out.fin a)
  unfold sF at HF
  simp only [List.length_nil, Nat.zero_mul, Nat.zero_add] at r0 r1 r2 r3 r4 r5
  clear ho hj2 b2 HP HE HS HA hgl HJ x0 x1 x2 x3 y0 y1
  go_wp2_with fail
  exact ret_f rfl rfl rfl HF.out.1 ⟨rfl, HF.out.2⟩
end Go.Proofs.YtbnihflihelimaaGreat.N
