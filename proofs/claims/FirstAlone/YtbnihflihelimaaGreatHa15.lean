/- DERIVED. Plain mathematics and walks, laid together (15). -/
import Derived.Sort.QuietIn
import Derived.Test.YtbnihflihelimaaGreatHa14
namespace Go.Proofs.YtbnihflihelimaaGreat.N
open Go.RowKit Go.Maps
open Go.Proofs.YtbnihflihelimaaGreat.T

open U (below_grown)
open Go.Shelf
/-- A row of marks, read. -/
theorem own_rdc {W : World} {B n : Nat} {v : Value} {f : Nat → Bool} (hn : 0 < n) (h : W.ownsRow B 4 1 v n ((List.range n).map fun j => Value.bool (f j))) : ∃ A c, v = .slice A n c ∧ RdC W A n f := by
  obtain ⟨g, cap, rfl, hgl, _⟩ := h.form hn
  refine ⟨_, _, rfl, g, 0, rfl, (h.lt g rfl).2, fun j hj => ?_⟩
  have hc := h.cells (g := g) rfl j (.bool (f j)) (by rw [List.getElem?_map, List.getElem?_range hj]; rfl)
  rw [Nat.zero_add]
  rw [Addr.add_lit, Nat.zero_add] at hc
  exact hc

/-- A loop with a measure that is told beside the world. -/
theorem wpIn_loop_ghost {F : Fence} {n : Nat} {P : Program} {Q : Exit → Act → World → Prop} {a : Act} {w : World} {c : Code} {G : Type} (I : G → Act → World → Prop) (μ : G → Nat) (g0 : G) (h0 : I g0 a w) (round : ∀ g a w, I g a w → c.wpIn F n P (Exit.then (fun a' w' => ∃ g', I g' a' w' ∧ μ g' < μ g) Q) a w) : (Code.loop c).wpIn F n P Q a w := by
  have key : ∀ (m : Nat) (g : G) (a : Act) (w : World), μ g < m → I g a w → Code.roundsIn F n P c Q m a w := by
    intro m
    induction m with
    | zero => intro g a w h; omega
    | succ m ih =>
      intro g a w hm hi
      rw [roundsIn_succ]
      refine Code.wpIn_mono (fun e a2 w2 q => ?_) (round g a w hi)
      cases e with
      | normal =>
        obtain ⟨g2, h2, h3⟩ := q
        exact ih g2 a2 w2 (by omega) h2
      | _ => exact q
  exact wpIn_loop_rounds (μ g0 + 1) (key _ g0 a w (Nat.lt_succ_self _) h0)
/-- What is known of a rule is written over another in a row. -/
def nf6 (W : World) (g o : Nat) (a : Fs) : World := (((((W.setCell ⟨g, o, none⟩ (.int .u64 (wd a.st 0))).setCell ⟨g, o + 1, none⟩ (.int .u64 (wd a.st 1))).setCell ⟨g, o + 2, none⟩ (.int .u64 (wd a.st 2))).setCell ⟨g, o + 3, none⟩ (.int .u64 (wd a.st 3))).setCell ⟨g, o + 4, none⟩ (.bool a.em)).setCell ⟨g, o + 5, none⟩ (.bool a.hf)
def lf6 (l : List Value) (o : Nat) (a : Fs) : List Value := (((((l.set o (.int .u64 (wd a.st 0))).set (o + 1) (.int .u64 (wd a.st 1))).set (o + 2) (.int .u64 (wd a.st 2))).set (o + 3) (.int .u64 (wd a.st 3))).set (o + 4) (.bool a.em)).set (o + 5) (.bool a.hf)
theorem lf6_fsc (a : Fs) : ∀ (M : List Fs) (k : Nat), k < M.length → lf6 (fsc M) (k * 6) a = fsc (M.set k a) := by
  intro M
  induction M with
  | nil => intro k h; exact absurd h (Nat.not_lt_zero _)
  | cons x M ih =>
    intro k h
    cases k with
    | zero => rfl
    | succ k =>
      have h2 : k < M.length := by simpa using h
      rw [List.set_cons_succ, show fsc (x :: M.set k a) = fsV x ++ fsc (M.set k a) from rfl, ← ih k h2, show fsc (x :: M) = fsV x ++ fsc M from rfl, show (k + 1) * 6 = k * 6 + 6 from by omega]
      unfold lf6 fsV
      rw [show k * 6 + 6 + 1 = (k * 6 + 1) + 6 from by omega, show k * 6 + 6 + 2 = (k * 6 + 2) + 6 from by omega, show k * 6 + 6 + 3 = (k * 6 + 3) + 6 from by omega, show k * 6 + 6 + 4 = (k * 6 + 4) + 6 from by omega, show k * 6 + 6 + 5 = (k * 6 + 5) + 6 from by omega]
      simp only [List.cons_append, List.nil_append, List.set_cons_succ]
theorem nf6_own {W : World} {B g m cap k : Nat} {M : List Fs} (a : Fs) (h : W.ownsRow B 36 6 (.slice (some ⟨g, 0, none⟩) m cap) m (fsc M)) (hk : k < M.length) : (nf6 W g (k * 6) a).ownsRow B 36 6 (.slice (some ⟨g, 0, none⟩) m cap) m (fsc (M.set k a)) ∧ W.grownBy (nf6 W g (k * 6) a) (some g) := by
  rw [← lf6_fsc a M k hk]
  obtain ⟨a1, b1⟩ := h.stored (k * 6) (.int .u64 (wd a.st 0))
  obtain ⟨a2, b2⟩ := a1.stored (k * 6 + 1) (.int .u64 (wd a.st 1))
  obtain ⟨a3, b3⟩ := a2.stored (k * 6 + 2) (.int .u64 (wd a.st 2))
  obtain ⟨a4, b4⟩ := a3.stored (k * 6 + 3) (.int .u64 (wd a.st 3))
  obtain ⟨a5, b5⟩ := a4.stored (k * 6 + 4) (.bool a.em)
  obtain ⟨a6, b6⟩ := a5.stored (k * 6 + 5) (.bool a.hf)
  exact ⟨a6, ((((b1.trans b2).trans b3).trans b4).trans b5).trans b6⟩
/-- A body that is right, with what is told of its names. -/
theorem bdR_of {gs : GL} (h : RtG gs) {g : ByteArray × List Nd} (hg : g ∈ gs) (hw : ∀ n ∈ g.2, NdW n) (hs : ∀ n ∈ g.2, n.tx.size ≤ 140737488355328) : BdR gs g.2 := by
  obtain ⟨h1, h2, h3, h4⟩ := rtB h hg
  refine ⟨h1, kds_R h1, fun n hn => ?_, h2, h3, hw, hs, h4⟩
  obtain ⟨k, hk⟩ := List.getElem?_of_mem hn
  exact (er_ok hk (h1.each k (List.getElem?_eq_some_iff.1 hk).1)).al
theorem BdK.later {gs : GL} {now : List Em} {w W : World} {k : Nat} {ov : List Bo} (h : BdK gs now w k ov) (hb : Below w.heap.size w W) : BdK gs now W k ov :=
  ⟨h.l, fun j r hj hr => by
    obtain ⟨Ap, cp, v, h1, h2⟩ := h.x j r hj hr
    exact ⟨Ap, cp, v, h1, h2.below hb (Nat.le_refl _)⟩⟩
/-- While what is known grows: all that lies in memory. -/
structure KoW (gs : GL) (now : List Em) (w W : World) (mb : Nat) (Ak : Option Addr) (ck : Nat) (vb vr : Value) (ov : List Bo) (fs : List Fs) (kb hb : Nat) (hg : Bool) : Prop where
  b : Below w.heap.size w W
  r : KyX W (w.heap.size + 1) (.map none) (.slice none 0 0) (.slice none 0 0) (.slice none 0 0)
  k : KyX W kb (.map (some mb)) (.slice Ak gs.length ck) vb vr
  n : KnS gs now w W mb Ak vb vr ov fs
  h : BX1 W hb (.bool hg) 4
/-- All rows lie ahead of the boxes. -/
structure KoL (w : World) (mb kb : Nat) (vb vr : Value) (ov : List Bo) : Prop where
  m : mb < kb
  b : ∀ q, (vb.ownBlock = some q ∨ ∃ x ∈ ov, x.2.1.ownBlock = some q) → q < kb
  r : ∀ q, vr.ownBlock = some q → q < kb
  w : w.heap.size + 1 < kb
theorem KoW.keep {gs : GL} {now : List Em} {w W W' : World} {mb : Nat} {Ak : Option Addr} {ck : Nat} {vb vr : Value} {ov : List Bo} {fs : List Fs} {kb hb : Nat} {hg : Bool} (h : KoW gs now w W mb Ak ck vb vr ov fs kb hb hg) (l : KoL w mb kb vb vr ov) (hkb : kb < hb) (hs : W.heap.size ≤ W'.heap.size) (hj : ∀ j, j ≤ hb → W'.heap[j]? = W.heap[j]?) (hB : Below w.heap.size w W') : KoW gs now w W' mb Ak ck vb vr ov fs kb hb hg := by
  have lm := l.m
  have lw := l.w
  exact ⟨hB, h.r.same (hj _ (by omega)), h.k.same (hj _ (by omega)), ⟨h.n.m.same (hj _ (by omega)), h.n.d.same hs (fun g o e => hj _ (by have := h.n.e3 g o e; omega)), h.n.e1, h.n.e3, h.n.o.same (fun q hq => hj _ (by have := l.b q hq; omega)), own_same h.n.p (fun q hq => hj _ (by have := l.r q hq; omega))⟩, h.h.same (hj _ (Nat.le_refl _))⟩
theorem KoW.own {gs : GL} {now : List Em} {w : World} {mb : Nat} {Ak : Option Addr} {ck : Nat} {vb vr : Value} {ov : List Bo} {fs : List Fs} {kb hb B : Nat} {hg : Bool} {A C : World} {row : Option Nat} (h : KoW gs now w A mb Ak ck vb vr ov fs kb hb hg) (l : KoL w mb kb vb vr ov) (hkb : kb < hb) (hB : hb < B) (g : A.grownBy C row) (hr : ∀ r, row = some r → B ≤ r ∧ ∃ o : Obj, A.heap[r]? = some o ∧ o.isCells = false) : KoW gs now w C mb Ak ck vb vr ov fs kb hb hg :=
  h.keep l hkb g.size (fun j hj => g.block j (by have := h.h.lt; omega) (fun e => by have := (hr j e.symm).1; omega)) (h.b.grown g h.b.size (fun q e => by have := (hr q e).1; have := l.w; omega))
/-- The flag is set. -/
theorem KoW.flag {gs : GL} {now : List Em} {w W : World} {mb : Nat} {Ak : Option Addr} {ck : Nat} {vb vr : Value} {ov : List Bo} {fs : List Fs} {kb hb : Nat} {hg : Bool} (h : KoW gs now w W mb Ak ck vb vr ov fs kb hb hg) (l : KoL w mb kb vb vr ov) (hkb : kb < hb) (g : Bool) : KoW gs now w (W.setCell ⟨hb, 0, none⟩ (.bool g)) mb Ak ck vb vr ov fs kb hb g := by
  have lm := l.m
  have lw := l.w
  have hj : ∀ j, j < hb → (W.setCell ⟨hb, 0, none⟩ (.bool g)).heap[j]? = W.heap[j]? := fun j q => heap_setCell_other _ ⟨hb, 0, none⟩ j _ (show j ≠ hb by omega)
  have hs : (W.setCell ⟨hb, 0, none⟩ (.bool g)).heap.size = W.heap.size := World.size_setCell ..
  exact ⟨h.b.setCell (p := ⟨hb, 0, none⟩) (by show w.heap.size ≤ hb; omega) _, h.r.same (hj _ (by omega)), h.k.same (hj _ (by omega)), ⟨h.n.m.same (hj _ (by omega)), h.n.d.same (by rw [hs]; exact Nat.le_refl _) (fun g o e => hj _ (by have := h.n.e3 g o e; omega)), h.n.e1, h.n.e3, h.n.o.same (fun q hq => hj _ (by have := l.b q hq; omega)), own_same h.n.p (fun q hq => hj _ (by have := l.r q hq; omega))⟩, h.h.set _⟩
/-- What is known of a rule is written. -/
theorem KoW.put {gs : GL} {now : List Em} {w W : World} {mb : Nat} {Ak : Option Addr} {ck g n cap : Nat} {vb : Value} {ov : List Bo} {fs : List Fs} {kb hb : Nat} {hg : Bool} (h : KoW gs now w W mb Ak ck vb (.slice (some ⟨g, 0, none⟩) n cap) ov fs kb hb hg) (l : KoL w mb kb vb (.slice (some ⟨g, 0, none⟩) n cap) ov) (hkb : kb < hb) (hn : n = fs.length) {k : Nat} (hk : k < fs.length) (a : Fs) : KoW gs now w (nf6 W g (k * 6) a) mb Ak ck vb (.slice (some ⟨g, 0, none⟩) n cap) ov (fs.set k a) kb hb hg ∧ W.grownBy (nf6 W g (k * 6) a) (some g) := by
  subst hn
  have lm := l.m
  have lw := l.w
  have lr := l.r g rfl
  have hg2 := (h.n.p.lt g rfl).1
  have he1 := h.n.e1
  obtain ⟨h1, h2⟩ := nf6_own a h.n.p hk
  have hj : ∀ j, j < W.heap.size → j ≠ g → (nf6 W g (k * 6) a).heap[j]? = W.heap[j]? := fun j q1 q2 => h2.block j q1 (fun e => q2 (Option.some.inj e))
  refine ⟨⟨below_grown h.b h2 (fun q e => by cases e; omega), h.r.same (hj _ h.r.lt (by omega)), h.k.same (hj _ h.k.lt (by omega)), ⟨h.n.m.same (hj _ h.n.m.lt (by omega)), h.n.d.same h2.size (fun g2 o e => by have h5 := h.n.e3 g2 o e; have h6 := h.n.m.lt; exact hj _ (by omega) (by omega)), h.n.e1, h.n.e3, h.n.o.apart h.n.p (by decide) (by decide) (fun q q1 q2 => hj q q1 (fun e => q2 (by rw [e]; rfl))), by rw [List.length_set]; exact h1⟩, h.h.same (hj _ h.h.lt (by omega))⟩, h2⟩
/-- Between two rounds of the loop over the rules. -/
structure KoJ (gs : GL) (now : List Em) (w : World) (mb : Nat) (Ak : Option Addr) (ck : Nat) (vb vr : Value) (ov : List Bo) (kb hb : Nat) (fs : List Fs) (ds : List Nat) (n0 : Nat) (pre : List (Fin gs.length)) (W : World) : Prop where
  ex : ∃ fs2 hg2, KoW gs now w W mb Ak ck vb vr ov fs2 kb hb hg2 ∧ FxI gs now fs2 ∧ (hg2 = true → toF fs < toF fs2) ∧ (hg2 = false → fs2 = fs ∧ ∀ i ∈ pre, fs2[i.val]? = some (spF gs now fs2 i.val))
  d : ∀ D ∈ ds, kb < D ∧ D < n0 ∧ W.heap[D]? = some (.deferred (some []))
  s : n0 ≤ W.heap.size
theorem KoJ.own {gs : GL} {now : List Em} {w : World} {mb : Nat} {Ak : Option Addr} {ck : Nat} {vb vr : Value} {ov : List Bo} {kb hb : Nat} {fs : List Fs} {ds : List Nat} {n0 : Nat} (l : KoL w mb kb vb vr ov) (hkb : kb < hb) (hB : hb < n0) : OwnFrom n0 (fun (pre : List (Fin gs.length)) W => KoJ gs now w mb Ak ck vb vr ov kb hb fs ds n0 pre W) := fun pre A C row h g hr => by
  obtain ⟨⟨fs2, hg2, h1, h2, h3, h4⟩, hd, hs⟩ := h
  exact ⟨⟨fs2, hg2, h1.own l hkb hB g hr, h2, h3, h4⟩, fun D hD => by
    obtain ⟨d1, d2, d3⟩ := hd D hD
    exact ⟨d1, d2, (g.block D (by omega) (fun e => by have := (hr D e.symm).1; omega)).trans d3⟩, Nat.le_trans hs g.size⟩
/-- Nothing new is known. -/
theorem KoJ.still {gs : GL} {now : List Em} {w : World} {mb : Nat} {Ak : Option Addr} {ck : Nat} {vb vr : Value} {ov : List Bo} {kb hb : Nat} {fs fs2 : List Fs} {ds : List Nat} {n0 : Nat} {pre : List (Fin gs.length)} {W W' : World} {hg2 : Bool} {x : Fin gs.length} (l : KoL w mb kb vb vr ov) (hkb : kb < hb) (hB : hb < n0) (h1 : KoW gs now w W mb Ak ck vb vr ov fs2 kb hb hg2) (h2 : FxI gs now fs2) (h3 : hg2 = true → toF fs < toF fs2) (h4 : hg2 = false → fs2 = fs ∧ ∀ i ∈ pre, fs2[i.val]? = some (spF gs now fs2 i.val)) (hd : ∀ D ∈ ds, kb < D ∧ D < n0 ∧ W.heap[D]? = some (.deferred (some []))) (hs : n0 ≤ W.heap.size) (hbl : Below W.heap.size W W') (he : fs2[x.val]? = some (spF gs now fs2 x.val)) : KoJ gs now w mb Ak ck vb vr ov kb hb fs ds n0 (pre ++ [x]) W' := by
  refine ⟨⟨fs2, hg2, h1.keep l hkb hbl.size (fun j hj => hbl.block j (by omega)) (h1.b.trans (hbl.mono h1.b.size)), h2, h3, fun q => ⟨(h4 q).1, fun i hi => ?_⟩⟩, fun D hD => ?_, Nat.le_trans hs hbl.size⟩
  · rcases List.mem_append.1 hi with hi | hi
    · exact (h4 q).2 i hi
    · rw [List.mem_singleton.1 hi]; exact he
  · obtain ⟨d1, d2, d3⟩ := hd D hD
    exact ⟨d1, d2, (hbl.block D (by omega)).trans d3⟩
/-- More is known of a rule. -/
theorem KoJ.grow {gs : GL} {now : List Em} {w : World} {mb : Nat} {Ak : Option Addr} {ck g cap : Nat} {vb : Value} {ov : List Bo} {kb hb : Nat} {fs fs2 : List Fs} {ds : List Nat} {n0 : Nat} {pre : List (Fin gs.length)} {W W3 : World} {hg2 : Bool} {x : Fin gs.length} {y : Fs} (l : KoL w mb kb vb (.slice (some ⟨g, 0, none⟩) gs.length cap) ov) (hkb : kb < hb) (hB : hb < n0) (h1 : KoW gs now w W mb Ak ck vb (.slice (some ⟨g, 0, none⟩) gs.length cap) ov fs2 kb hb hg2) (h2 : FxI gs now fs2) (h3 : hg2 = true → toF fs < toF fs2) (h4 : hg2 = false → fs2 = fs ∧ ∀ i ∈ pre, fs2[i.val]? = some (spF gs now fs2 i.val)) (hd : ∀ D ∈ ds, kb < D ∧ D < n0 ∧ W.heap[D]? = some (.deferred (some []))) (hs : n0 ≤ W.heap.size) (hbl : Below W.heap.size W W3) (hy : fs2[x.val]? = some y) (hne : spF gs now fs2 x.val ≠ y) : (∀ (w0 : World), w0.heap.size ≤ g → w0.heap.size ≤ hb → Below w0.heap.size w0 W → Below w0.heap.size w0 ((nf6 W3 g (x.val * 6) (spF gs now fs2 x.val)).setCell ⟨hb, 0, none⟩ (.bool true))) ∧ KoJ gs now w mb Ak ck vb (.slice (some ⟨g, 0, none⟩) gs.length cap) ov kb hb fs ds n0 (pre ++ [x]) ((nf6 W3 g (x.val * 6) (spF gs now fs2 x.val)).setCell ⟨hb, 0, none⟩ (.bool true)) ∧ (∀ j, j < W.heap.size → j ≠ g → j ≠ hb → ((nf6 W3 g (x.val * 6) (spF gs now fs2 x.val)).setCell ⟨hb, 0, none⟩ (.bool true)).heap[j]? = W.heap[j]?) ∧ W.heap.size ≤ ((nf6 W3 g (x.val * 6) (spF gs now fs2 x.val)).setCell ⟨hb, 0, none⟩ (.bool true)).heap.size ∧ (∀ (k : Nat) (o : Obj), W.heap[k]? = some o → o.isCells = false → ((nf6 W3 g (x.val * 6) (spF gs now fs2 x.val)).setCell ⟨hb, 0, none⟩ (.bool true)).heap[k]? = some o) := by
  have hW3 := h1.keep l hkb hbl.size (fun j hj => hbl.block j (by omega)) (h1.b.trans (hbl.mono h1.b.size))
  obtain ⟨k1, k2⟩ := hW3.put l hkb h2.l.symm (k := x.val) (by rw [h2.l]; exact x.isLt) (spF gs now fs2 x.val)
  have k3 := k1.flag l hkb true
  have hgr := h2.grow hy hne
  have hz : ((nf6 W3 g (x.val * 6) (spF gs now fs2 x.val)).setCell ⟨hb, 0, none⟩ (.bool true)).heap.size = (nf6 W3 g (x.val * 6) (spF gs now fs2 x.val)).heap.size := World.size_setCell ..
  have key : ∀ j, j < W.heap.size → j ≠ g → j ≠ hb → ((nf6 W3 g (x.val * 6) (spF gs now fs2 x.val)).setCell ⟨hb, 0, none⟩ (.bool true)).heap[j]? = W.heap[j]? := fun j q1 q2 q3 =>
    ((heap_setCell_other _ ⟨hb, 0, none⟩ j _ q3).trans (k2.block j (Nat.lt_of_lt_of_le q1 hbl.size) (fun e => q2 (Option.some.inj e)))).trans (hbl.block j q1)
  have hcg : ∃ cs t fr, W.heap[g]? = some (.cells cs t fr) := by
    have hp := h1.n.p
    rcases hp.2 with ⟨e, _⟩ | ⟨g2, cap2, cur, e, h5, h6⟩
    · cases e
    · obtain ⟨rfl, _⟩ := Addr.mk.inj (Option.some.inj (by injection e))
      exact ⟨_, _, _, h6.1⟩
  refine ⟨fun w0 q1 q2 q3 => (below_grown (q3.trans (hbl.mono q3.size)) k2 (fun q e => by cases e; exact q1)).setCell (p := ⟨hb, 0, none⟩) q2 _, ⟨⟨_, true, k3, h2.step x.isLt, fun _ => ?_, fun q => by cases q⟩, fun D hD => ?_, by rw [hz]; exact Nat.le_trans hs (Nat.le_trans hbl.size k2.size)⟩, key, by rw [hz]; exact Nat.le_trans hbl.size k2.size, fun k o hk ho => ?_⟩
  · cases hg2 with
    | true => have := h3 rfl; omega
    | false => rw [← (h4 rfl).1]; exact hgr
  · obtain ⟨d1, d2, d3⟩ := hd D hD
    refine ⟨d1, d2, (key D (by omega) (fun e => ?_) (fun e => ?_)).trans d3⟩
    · obtain ⟨cs, t, fr, hc⟩ := hcg
      rw [e, hc] at d3; cases d3
    · have hc := h1.h.heap
      rw [e, hc] at d3; cases d3
  · refine (key k (Array.getElem?_eq_some_iff.1 hk).1 (fun e => ?_) (fun e => ?_)).trans hk
    · obtain ⟨cs, t, fr, hc⟩ := hcg
      rw [e, hc] at hk; cases hk; cases ho
    · have hc := h1.h.heap
      rw [e, hc] at hk; cases hk; cases ho
theorem KnS.keep {gs : GL} {now : List Em} {w W W' : World} {mb : Nat} {Ak : Option Addr} {vb vr : Value} {ov : List Bo} {fs : List Fs} {kb : Nat} (h : KnS gs now w W mb Ak vb vr ov fs) (l : KoL w mb kb vb vr ov) (hs : W.heap.size ≤ W'.heap.size) (hj : ∀ j, w.heap.size + 2 ≤ j → j < kb → W'.heap[j]? = W.heap[j]?) : KnS gs now w W' mb Ak vb vr ov fs := by
  have lm := l.m
  have he := h.e1
  exact ⟨h.m.same (hj _ he lm), h.d.same hs (fun g o e => by have h2 := h.e3 g o e; exact hj _ h2.1 (by omega)), h.e1, h.e3, h.o.same (fun q hq => hj _ (by have := (h.o.lt hq).1; omega) (l.b q hq)), own_same h.p (fun q hq => hj _ (by have := (h.p.lt q hq).1; omega) (l.r q hq))⟩
theorem rdn_ne {W : World} {b : Nat} {A : Option Addr} {L : List Nd} (hL : L ≠ []) (h : RdN W A L) (hx : KyX W b (.map none) (.slice none 0 0) (.slice none 0 0) (.slice none 0 0)) : ∀ g o, A = some ⟨g, o, none⟩ → g ≠ b := fun g o e q => by
  obtain ⟨g2, o2, e2, _, hc⟩ := h hL
  rw [e] at e2
  cases e2
  subst q
  cases L with
  | nil => exact hL rfl
  | cons n L =>
    have h0 := (hc 0 n rfl).c0
    rw [cell_of_row W g _ _ 56 (0, 0) hx.heap] at h0
    have h1 := Array.mem_of_getElem? h0
    simp at h1
/-- Bodies, in a world in which one box was written. -/
theorem BdK.then {gs : GL} {now : List Em} {w W : World} {b k : Nat} {ov : List Bo} (h : BdK gs now w k ov) (hR : RtG gs) (hx : KyX w b (.map none) (.slice none 0 0) (.slice none 0 0) (.slice none 0 0)) (hs : w.heap.size ≤ W.heap.size) (hj : ∀ j, j < w.heap.size → j ≠ b → W.heap[j]? = w.heap[j]?) : BdK gs now W k ov :=
  ⟨h.l, fun j r hj2 hr => by
    obtain ⟨Ap, cp, v, h1, h2⟩ := h.x j r hj2 hr
    have hne : r.2 ≠ [] := by
      have := (rtB hR (List.mem_of_getElem? hr)).2.1
      rintro q
      rw [q] at this
      exact absurd this (Nat.lt_irrefl _)
    refine ⟨Ap, cp, v, h1, fun hl => ?_⟩
    obtain ⟨g, o, e, lt, c⟩ := h2 hl
    exact ⟨g, o, e, Nat.lt_of_lt_of_le lt hs, c.same (hj g lt (rdn_ne hne h2 hx g o e))⟩⟩
/-- What knownOf answers. -/
def KoR (w w' : World) (gs : GL) (e : Ending) : Prop := ((ckG gs).2 ≠ 0 → e = .returned (.tuple #[.agg #[.map none, .slice none 0 0, .slice none 0 0, .slice none 0 0], .int .i64 (ckG gs).2])) ∧ ((ckG gs).2 = 0 → ∃ mb Ak ck now vb vr ov fs, e = .returned (.tuple #[.agg #[.map (some mb), .slice Ak gs.length ck, vb, vr], .int .i64 0]) ∧ KnS gs now w w' mb Ak vb vr ov fs ∧ BdK gs now w' gs.length ov ∧ FxR gs now fs ∧ KnF gs now ∧ now.length = gs.length ∧ OkN gs now)
end Go.Proofs.YtbnihflihelimaaGreat.N

namespace Go.Proofs.YtbnihflihelimaaGreat.N
open Go.RowKit Go.Maps
open Go.Proofs.YtbnihflihelimaaGreat.T
def feB (a b : Fs) : Bool := (wd a.st 0 == wd b.st 0 && (wd a.st 1 == wd b.st 1 && (wd a.st 2 == wd b.st 2 && wd a.st 3 == wd b.st 3))) && (a.em == b.em) && (a.hf == b.hf)
theorem feB_iff (a b : Fs) : feB a b = true ↔ a = b := by
  unfold feB
  rw [← eqW]
  simp only [Bool.and_eq_true, beq_iff_eq]
  constructor
  · rintro ⟨⟨h1, h2⟩, h3⟩
    obtain ⟨a1, a2, a3⟩ := a
    obtain ⟨b1, b2, b3⟩ := b
    simp only at h1 h2 h3
    rw [h1, h2, h3]
  · rintro rfl; exact ⟨⟨rfl, rfl⟩, rfl⟩
theorem eqS (k : Nat) (a b c d a' b' c' d' : Int) (w : World) : (Op.equalIn (k + 2) 34 (.agg #[.int .u64 a, .int .u64 b, .int .u64 c, .int .u64 d]) (.agg #[.int .u64 a', .int .u64 b', .int .u64 c', .int .u64 d'])).run Tryz.prog w = .ok (a == a' && (b == b' && (c == c' && d == d'))) w := by
  have u3 := Tryz.underlying32
  have a3 := Tryz.isAgg32
  have z3 := Tryz.sizeOf32
  rw [show k + 2 = (k + 1) + 1 from rfl, Op.equalIn]
  simp only [Sem.run_bind, run_underlying Tryz.underlying34, Result.andThen_ok]
  simp only [Std.Legacy.Range.forIn_eq_forIn_range', Std.Legacy.Range.size, Nat.sub_zero, Nat.add_sub_cancel, Nat.div_one, List.range'_succ, List.range'_zero, List.forIn_cons, List.forIn_nil]
  go_simp
  by_cases h1 : a = a' <;> by_cases h2 : b = b' <;> by_cases h3 : c = c' <;> by_cases h4 : d = d' <;> simp [h1, h2, h3, h4]
theorem fs_eq (x y : Fs) (w : World) : (Op.equalIn 10000 36 (.agg #[.int .u64 (wd x.st 0), .int .u64 (wd x.st 1), .int .u64 (wd x.st 2), .int .u64 (wd x.st 3), .bool x.em, .bool x.hf]) (.agg #[.int .u64 (wd y.st 0), .int .u64 (wd y.st 1), .int .u64 (wd y.st 2), .int .u64 (wd y.st 3), .bool y.em, .bool y.hf])).run Tryz.prog w = .ok (feB x y) w := by
  have u3 := Tryz.underlying4
  have a3 := Tryz.isAgg4
  have z3 := Tryz.sizeOf4
  have a4 := Tryz.isAgg34
  have z4 := Tryz.sizeOf34
  have hp : Tryz.prog.stoodInHeld 36 = false := by kernel_rfl
  have hE : (Op.equalIn 9999 34 (.agg #[.int .u64 (wd x.st 0), .int .u64 (wd x.st 1), .int .u64 (wd x.st 2), .int .u64 (wd x.st 3)]) (.agg #[.int .u64 (wd y.st 0), .int .u64 (wd y.st 1), .int .u64 (wd y.st 2), .int .u64 (wd y.st 3)])).run Tryz.prog w = _ := eqS 9997 (wd x.st 0) (wd x.st 1) (wd x.st 2) (wd x.st 3) (wd y.st 0) (wd y.st 1) (wd y.st 2) (wd y.st 3) w
  unfold feB
  generalize (wd x.st 0 == wd y.st 0 && (wd x.st 1 == wd y.st 1 && (wd x.st 2 == wd y.st 2 && wd x.st 3 == wd y.st 3))) = s at hE ⊢
  generalize wd x.st 0 = x0 at hE ⊢
  generalize wd x.st 1 = x1 at hE ⊢
  generalize wd x.st 2 = x2 at hE ⊢
  generalize wd x.st 3 = x3 at hE ⊢
  generalize wd y.st 0 = y0 at hE ⊢
  generalize wd y.st 1 = y1 at hE ⊢
  generalize wd y.st 2 = y2 at hE ⊢
  generalize wd y.st 3 = y3 at hE ⊢
  generalize x.em = e1
  generalize y.em = e2
  generalize x.hf = e3
  generalize y.hf = e4
  rw [show (10000 : Nat) = 9999 + 1 from rfl, Op.equalIn]
  simp only [Sem.run_bind, run_underlying Tryz.underlying36, Result.andThen_ok]
  cases s
  · simp [go_sem, hp, hE, a4, z4, u3, a3, z3]
  cases e1 <;> cases e2
  · cases e3 <;> cases e4 <;> simp [go_sem, hp, hE, a4, z4, u3, a3, z3]
  · simp [go_sem, hp, hE, a4, z4, u3, a3, z3]
  · simp [go_sem, hp, hE, a4, z4, u3, a3, z3]
  · cases e3 <;> cases e4 <;> simp [go_sem, hp, hE, a4, z4, u3, a3, z3]
theorem fs_neq (x y : Fs) (w : World) : (binOp .neq 36 (fG x) (fG y)).run Tryz.prog w = .ok (.bool (!feB x y)) w := by
  have h := fs_eq x y w
  simp [go_sem, h]
theorem fs_eql (x y : Fs) (w : World) : (binOp .eql 36 (fG x) (fG y)).run Tryz.prog w = .ok (.bool (feB x y)) w := by
  have h := fs_eq x y w
  simp [go_sem, h]
end Go.Proofs.YtbnihflihelimaaGreat.N

namespace Go.Proofs.YtbnihflihelimaaGreat.N
open Go.RowKit Go.Maps
open Go.Proofs.YtbnihflihelimaaGreat.T

open U (below_grown)
open Go.Shelf
attribute [local go_sem] Oper.semAt_some
set_option maxRecDepth 100000 in
set_option maxHeartbeats 32000000 in
theorem fsKnownOf_in (m : Nat) (hm : 3 ≤ m) (gs : GL) (A : Option Addr) (c : Nat) (w : World) (hp : GI w A gs) (hnw : ∀ g ∈ gs, ∀ n ∈ g.2, NdW n) :
    CallsIn Fence.wide m Tryz.prog 21 #[.agg #[.slice A gs.length c]] w fun e w' => KoR w w' gs e ∧ Below w.heap.size w w' := by
  have h1 : 1 ≤ m := by omega
  obtain ⟨w1, hw1⟩ : ∃ w1, w1 = (w.alloc (.cells #[.slice A gs.length c] 24)).alloc (.cells #[.map none, .slice none 0 0, .slice none 0 0, .slice none 0 0] 56) := ⟨_, rfl⟩
  have HE1 := (show Hid ((w.alloc (.cells #[.slice A gs.length c] 24)).alloc (.cells #[.map none, .slice none 0 0, .slice none 0 0, .slice none 0 0] 56) = w1) from hw1.symm)
  have HS1 := (show Hid (Below w.heap.size w w1 ∧ KyX w1 (w.heap.size + 1) (.map none) (.slice none 0 0) (.slice none 0 0) (.slice none 0 0) ∧ w1.heap.size = w.heap.size + 2) from by
    have s1 := World.size_alloc w (.cells #[.slice A gs.length c] 24)
    refine ⟨by rw [hw1]; exact ((Below.refl _ _).alloc (Nat.le_refl _) _).alloc (by omega) _, ?_, by rw [hw1, World.size_alloc, s1]⟩
    have h := KyX.new (w.alloc (.cells #[.slice A gs.length c] 24)) (.map none) (.slice none 0 0) (.slice none 0 0) (.slice none 0 0)
    rw [s1, ← hw1] at h; exact h)
  have HBe := (show Hid (∀ _ : Unit, Calls Tryz.prog 34 #[.agg #[.slice A gs.length c]] w1 fun e w' => BgR w1 w' gs e ∧ Below w1.heap.size w1 w') from fun _ => fsBegun_any gs A c w1 (hp.later HS1.out.1))
  have HG := (show Hid ((∀ g ∈ gs, g.1.size ≤ 140737488355328 ∧ g.2.length ≤ 140737488355328 ∧ ∀ n ∈ g.2, n.tx.size ≤ 140737488355328) ∧ ∀ g ∈ gs, ∀ n ∈ g.2, NdW n) from ⟨hp.t, hnw⟩)
  have q0 : w1.cell? ⟨w.heap.size, 0, none⟩ = some (.slice A gs.length c) := by
    have h : GX w1 w.heap.size (.slice A gs.length c) := by rw [hw1]; exact (GX.mk (heap_alloc_new w _)).below (below_box _ _)
    exact h.cl
  clear hw1 hp hnw
  refine callsIn_of_wp_marks Tryz.func21 rfl trivial ?_ rfl
  simp only [Tryz.ntmps21, List.size_toArray, List.length_cons, List.length_nil, Nat.reduceAdd, Nat.reduceSub, Array.replicate_succ, Array.replicate_zero, List.push_toArray, List.append_toArray, List.nil_append, List.cons_append]
  gi_wp2_with (rw [HE1.out])
  refine ⟨trivial, (callsIn_wide.2 (HBe.out ())).mono ?_⟩
  rintro e w2 ⟨hr, b2⟩
  have HB2 := (show Hid (Below w1.heap.size w1 w2) from b2)
  by_cases hz : (ckG gs).2 = 0
  · obtain ⟨mb, Ak, ck, now, vb, vr, ov, rfl, hk, hbd, hkn, hnl, hok⟩ := hr.2 hz
    have HR := (show Hid (RtG gs) from ckG_ok.1 hz)
    have HK := (show Hid (KnF gs now ∧ now.length = gs.length ∧ OkN gs now) from ⟨hkn, hnl, hok⟩)
    have HBd := (show Hid (BdK gs now w1 gs.length ov) from hbd)
    have hn1 := HR.out.n1
    have hn2 := HR.out.n2
    have hp := hk.p
    rw [List.length_replicate] at hp
    obtain ⟨gr, cr, rfl, hgr, _⟩ := hp.form (by omega)
    have hob := hk.o.o
    rw [HBd.out.l] at hob
    obtain ⟨gb, cb, rfl, hgb, _⟩ := hob.form (by omega)
    obtain ⟨w3, hw3⟩ : ∃ w3, w3 = w2.alloc (.cells #[.map (some mb), .slice Ak gs.length ck, .slice (some ⟨gb, 0, none⟩) gs.length cb, .slice (some ⟨gr, 0, none⟩) gs.length cr] 56) := ⟨_, rfl⟩
    have HE3 := (show Hid (w2.alloc (.cells #[.map (some mb), .slice Ak gs.length ck, .slice (some ⟨gb, 0, none⟩) gs.length cb, .slice (some ⟨gr, 0, none⟩) gs.length cr] 56) = w3) from hw3.symm)
    obtain ⟨kb, hkb⟩ : ∃ kb, kb = w2.heap.size := ⟨_, rfl⟩
    have HKb := (show Hid (w2.heap.size = kb) from hkb.symm)
    have s3 : w3.heap.size = kb + 1 := by rw [hw3, World.size_alloc, hkb]
    have HS3 := (show Hid (w3.heap.size = kb + 1) from s3)
    have HL := (show Hid (KoL w mb kb (.slice (some ⟨gb, 0, none⟩) gs.length cb) (.slice (some ⟨gr, 0, none⟩) gs.length cr) ov) from by
      have := HS1.out.2.2
      have := b2.size
      exact ⟨by rw [hkb]; exact hk.m.lt, fun q hq => by rw [hkb]; exact (hk.o.lt hq).2, fun q hq => by rw [hkb]; exact (hp.lt q hq).2, by omega⟩)
    have hb3 : Below w2.heap.size w2 w3 := by rw [hw3]; exact below_box _ _
    have HW4 := (show Hid (KoW gs now w (w3.alloc (.cells #[.bool true] 4)) mb Ak ck (.slice (some ⟨gb, 0, none⟩) gs.length cb) (.slice (some ⟨gr, 0, none⟩) gs.length cr) ov (List.replicate gs.length f0) kb (kb + 1) true) from by
      have hb4 : Below w3.heap.size w3 (w3.alloc (.cells #[.bool true] 4)) := below_box _ _
      have hb34 := hb3.trans (hb4.mono hb3.size)
      have hs1 := HS1.out.2.2
      have hbw := HS1.out.1.trans (b2.mono HS1.out.1.size)
      have hkx : KyX w3 kb (.map (some mb)) (.slice Ak gs.length ck) (.slice (some ⟨gb, 0, none⟩) gs.length cb) (.slice (some ⟨gr, 0, none⟩) gs.length cr) := by rw [hw3, hkb]; exact KyX.new w2 _ _ _ _
      have hbx := BX1.new w3 (.bool true) 4
      rw [s3] at hbx
      have he1 := hk.e1
      exact ⟨hbw.trans (hb34.mono hbw.size), (HS1.out.2.1.below b2).below hb34, hkx.below hb4, ⟨hk.m.later hb34, hk.d.later hb34, by omega, fun g o e => by have := hk.e3 g o e; omega, hk.o.later hb34, T.own_below hk.p hb34⟩, hbx⟩)
    have hz' : ((ckG gs).2 != 0) = false := by rw [hz]; rfl
    have HZ := (show Hid ((ckG gs).2 = 0) from hz)
    have HFx := (show Hid (FxI gs now (List.replicate gs.length f0)) from FxI.start gs now)
    have HB1 := (show Hid (Below w.heap.size w w1 ∧ w1.heap.size ≤ kb ∧ w1.heap.size ≤ gr ∧ KyX w1 (w.heap.size + 1) (.map none) (.slice none 0 0) (.slice none 0 0) (.slice none 0 0)) from ⟨HS1.out.1, by rw [hkb]; exact b2.size, by have := (hp.lt gr rfl).1; have := hk.e1; omega, HS1.out.2.1⟩)
    have HBw4 := (show Hid (Below w1.heap.size w1 (w3.alloc (.cells #[.bool true] 4))) from b2.trans ((hb3.trans ((below_box w3 (.cells #[.bool true] 4)).mono hb3.size)).mono b2.size))
    clear hr hk hbd hkn hnl hok hp hob hgb hgr hw3 hb3 s3 hz hz' HBe HS1 HE1 q0 b2 HB2 hkb
    gi_wp2_with (rw [HE3.out, HKb.out])
    have H40 := (show Hid _ from HW4.out)
    rw [HS3.out]
    generalize w3.alloc (.cells #[.bool true] 4) = w4 at *
    refine wpIn_loop_ghost (G := List Fs × Bool × Nat × List Nat) (fun g a wr => ∃ u19 u20 u21 u22 u40, a = { tmps := #[.agg #[.slice A gs.length c], .pointer (some ⟨w.heap.size, 0, none⟩), .pointer (some ⟨w.heap.size + 1, 0, none⟩), .int .i64 0, .pointer (some ⟨kb, 0, none⟩), .int .i64 0, .pointer (some ⟨g.2.2.1, 0, none⟩), undef, undef, undef, .tuple #[.agg #[.map (some mb), .slice Ak gs.length ck, .slice (some ⟨gb, 0, none⟩) gs.length cb, .slice (some ⟨gr, 0, none⟩) gs.length cr], .int .i64 0], .agg #[.slice A gs.length c], .tuple #[.agg #[.map (some mb), .slice Ak gs.length ck, .slice (some ⟨gb, 0, none⟩) gs.length cb, .slice (some ⟨gr, 0, none⟩) gs.length cr], .int .i64 0], .agg #[.map (some mb), .slice Ak gs.length ck, .slice (some ⟨gb, 0, none⟩) gs.length cb, .slice (some ⟨gr, 0, none⟩) gs.length cr], .int .i64 0, .int .i64 0, .bool false, undef, undef, u19, u20, u21, u22, undef, undef, undef, undef, undef, undef, undef, undef, undef, undef, undef, undef, undef, undef, undef, undef, undef, u40, undef], defers := g.2.2.2.map fun D => { target := .collected D, args := #[] } } ∧ Hid (KoW gs now w wr mb Ak ck (.slice (some ⟨gb, 0, none⟩) gs.length cb) (.slice (some ⟨gr, 0, none⟩) gs.length cr) ov g.1 kb g.2.2.1 g.2.1) ∧ Hid (FxI gs now g.1) ∧ Hid (g.2.1 = false → FxR gs now g.1) ∧ kb < g.2.2.1 ∧ Hid (g.2.2.2.Nodup ∧ ∀ D ∈ g.2.2.2, kb < D ∧ wr.heap[D]? = some (.deferred (some []))) ∧ Hid (Below w1.heap.size w1 wr)) (fun g => 2 * (258 * g.1.length - toF g.1) + if g.2.1 then 1 else 0) (List.replicate gs.length f0, true, kb + 1, []) ⟨_, _, _, _, _, rfl, H40, HFx, (show Hid (true = false → FxR gs now (List.replicate gs.length f0)) from fun h => by cases h), Nat.lt_succ_self _, (show Hid (([] : List Nat).Nodup ∧ ∀ D ∈ ([] : List Nat), kb < D ∧ w4.heap[D]? = some (.deferred (some []))) from ⟨List.nodup_nil, fun D hD => by cases hD⟩), HBw4⟩ ?_
    rintro ⟨fs, hg, hb, ds⟩ a wr ⟨u19, u20, u21, u22, u40, rfl, HW, HF, HE, hkb, HD, HBw⟩
    dsimp only at HW HF HE hkb HD HBw ⊢
    clear HBw4 H40 HW4 HFx HS3 HKb HE3
    cases hg with
    | false =>
      have x0 := HW.out.h.c
      have HT := (show Hid (Below w.heap.size w (ky4 wr (w.heap.size + 1) (.map (some mb)) (.slice Ak gs.length ck) (.slice (some ⟨gb, 0, none⟩) gs.length cb) (.slice (some ⟨gr, 0, none⟩) gs.length cr)) ∧ KyX (ky4 wr (w.heap.size + 1) (.map (some mb)) (.slice Ak gs.length ck) (.slice (some ⟨gb, 0, none⟩) gs.length cb) (.slice (some ⟨gr, 0, none⟩) gs.length cr)) (w.heap.size + 1) (.map (some mb)) (.slice Ak gs.length ck) (.slice (some ⟨gb, 0, none⟩) gs.length cb) (.slice (some ⟨gr, 0, none⟩) gs.length cr) ∧ KnS gs now w (ky4 wr (w.heap.size + 1) (.map (some mb)) (.slice Ak gs.length ck) (.slice (some ⟨gb, 0, none⟩) gs.length cb) (.slice (some ⟨gr, 0, none⟩) gs.length cr)) mb Ak (.slice (some ⟨gb, 0, none⟩) gs.length cb) (.slice (some ⟨gr, 0, none⟩) gs.length cr) ov fs ∧ (∀ W' : World, W'.heap.size = wr.heap.size → (∀ j, j ≤ kb → W'.heap[j]? = (ky4 wr (w.heap.size + 1) (.map (some mb)) (.slice Ak gs.length ck) (.slice (some ⟨gb, 0, none⟩) gs.length cb) (.slice (some ⟨gr, 0, none⟩) gs.length cr)).heap[j]?) → BdK gs now W' gs.length ov) ∧ ∀ D ∈ ds, (ky4 wr (w.heap.size + 1) (.map (some mb)) (.slice Ak gs.length ck) (.slice (some ⟨gb, 0, none⟩) gs.length cb) (.slice (some ⟨gr, 0, none⟩) gs.length cr)).heap[D]? = some (.deferred (some []))) from by
        have h := HW.out
        have hlw := HL.out.w
        have key : ∀ j, j ≠ w.heap.size + 1 → (ky4 wr (w.heap.size + 1) (.map (some mb)) (.slice Ak gs.length ck) (.slice (some ⟨gb, 0, none⟩) gs.length cb) (.slice (some ⟨gr, 0, none⟩) gs.length cr)).heap[j]? = wr.heap[j]? := fun j hj => ky4_other _ _ _ _ _ _ hj
        refine ⟨ky4_below _ _ _ _ _ h.b (Nat.le_succ _), h.r.all _ _ _ _, h.n.keep HL.out (by rw [ky4_size]; exact Nat.le_refl _) (fun j q1 q2 => key j (by omega)), fun W' z1 z2 => HBd.out.then HR.out HB1.out.2.2.2 (by rw [z1]; exact HBw.out.size) (fun j q1 q2 => ((z2 j (by have := HB1.out.2.1; omega)).trans (key j q2)).trans (HBw.out.block j q1)), fun D hD => ?_⟩
        obtain ⟨d1, d2⟩ := HD.out.2 D hD
        exact (key D (by omega)).trans d2)
      have HQ := (show Hid (FxR gs now fs ∧ ds.Nodup ∧ ∀ D ∈ ds, kb < D) from ⟨HE.out rfl, HD.out.1, fun D hD => (HD.out.2 D hD).1⟩)
      have HSz := (show Hid (_ = wr.heap.size) from ky4_size wr (w.heap.size + 1) (.map (some mb)) (.slice Ak gs.length ck) (.slice (some ⟨gb, 0, none⟩) gs.length cb) (.slice (some ⟨gr, 0, none⟩) gs.length cr))
      unfold ky4 at HT HSz
      have k0 := HW.out.k.c0
      have k1 := HW.out.k.c1
      have k2 := HW.out.k.c2
      have k3 := HW.out.k.c3
      have r0 := HW.out.r.c0
      have r1 := HW.out.r.c1
      have r2 := HW.out.r.c2
      have r3 := HW.out.r.c3
      have rf := HW.out.r.fz
      clear HW HF HE HD HBd HBw
      gi_wp2
      obtain ⟨t1, t2, t3, t4, t5⟩ := HT.out
      refine leaves_all ds _ HQ.out.2.1 t5 (fun W' e1 e2 e3 => ?_)
      have hlw := HL.out.w
      have hj : ∀ j, j ≤ kb → W'.heap[j]? = _ := fun j hj => e2 j (fun q => by have := HQ.out.2.2 j q; omega)
      have tk := t2.same (hj _ (by omega))
      have c0 := tk.c0
      have c1 := tk.c1
      have c2 := tk.c2
      have c3 := tk.c3
      refine ⟨.tuple #[.agg #[.map (some mb), .slice Ak gs.length ck, .slice (some ⟨gb, 0, none⟩) gs.length cb, .slice (some ⟨gr, 0, none⟩) gs.length cr], .int .i64 0], ?_, ⟨fun q => absurd HZ.out q, fun _ => ⟨mb, Ak, ck, now, _, _, ov, fs, rfl, t3.keep HL.out (by rw [e1]; exact Nat.le_refl _) (fun j _ q => hj j (by omega)), t4 W' (e1.trans HSz.out) hj, HQ.out.1, HK.out⟩⟩, t1.trans (e3 _ (fun D hD => by have := HQ.out.2.2 D hD; omega))⟩
      simp [results, Tryz.results21, go_sem, c0, c1, c2, c3]
    | true =>
      have x0 := HW.out.h.c
      have xf := HW.out.h.fz
      have HWa := (show Hid _ from HW.out.flag HL.out hkb false)
      obtain ⟨wa, hwa⟩ : ∃ wa, wa = wr.setCell ⟨hb, 0, none⟩ (.bool false) := ⟨_, rfl⟩
      have HEa := (show Hid (wr.setCell ⟨hb, 0, none⟩ (.bool false) = wa) from hwa.symm)
      rw [← hwa] at HWa
      have HDa := (show Hid (ds.Nodup ∧ ∀ D ∈ ds, kb < D ∧ wa.heap[D]? = some (.deferred (some []))) from ⟨HD.out.1, fun D hD => ⟨(HD.out.2 D hD).1, by
        rw [hwa]
        have h := (HD.out.2 D hD).2
        refine (heap_setCell_other _ ⟨hb, 0, none⟩ D _ (fun e => ?_)).trans h
        have h2 := HW.out.h.heap
        rw [e] at h
        rw [h] at h2
        cases h2⟩⟩)
      have y2 := HWa.out.k.c2
      have y2' := HW.out.k.c2
      gi_wp2_with (rw [HEa.out])
      refine ⟨trivial, (back_in (m - 1) (some ⟨gb, 0, none⟩) gs.length cb _).mono ?_⟩
      rintro e w' ⟨rfl, rfl⟩
      gi_wp2_with fail
      rw [HEa.out]
      obtain ⟨Bn, hBn⟩ : ∃ Bn, Bn = wr.heap.size := ⟨_, rfl⟩
      have hsa : wa.heap.size = Bn := by rw [hwa, World.size_setCell, hBn]
      obtain ⟨w5, hw5⟩ : ∃ w5, w5 = wa.alloc (.cells #[.slice (some ⟨gb, 0, none⟩) gs.length cb] 54) := ⟨_, rfl⟩
      have s5 : w5.heap.size = Bn + 1 := by rw [hw5, World.size_alloc, hsa]
      have hhb : hb < Bn := by rw [← hsa]; exact HWa.out.h.lt
      have HW5 := (show Hid (KoW gs now w w5 mb Ak ck (.slice (some ⟨gb, 0, none⟩) gs.length cb) (.slice (some ⟨gr, 0, none⟩) gs.length cr) ov fs kb hb false) from by
        rw [hw5]
        exact HWa.out.own HL.out hkb (B := Bn) hhb (World.grownBy_alloc wa _ none) (fun r e => by cases e))
      obtain ⟨f, hf⟩ : ∃ f : Nat → Value × Value, f = fun k => ((ov[k]?).map fun x => (x.1, x.2.1)).getD (undef, undef) := ⟨_, rfl⟩
      have hfk : ∀ (k : Nat) (x : Bo), ov[k]? = some x → f k = (x.1, x.2.1) := fun k x hx => by rw [hf]; show ((ov[k]?).map fun x => (x.1, x.2.1)).getD (undef, undef) = _; rw [hx]; rfl
      have HBk := (show Hid (BkI w5 Bn (some ⟨gb, 0, none⟩) gs.length cb f) from by
        refine ⟨by rw [hw5, ← hsa]; exact BX1.new wa _ _, fun k hk => ?_⟩
        obtain ⟨x, hx⟩ : ∃ x, ov[k]? = some x := ⟨_, List.getElem?_eq_getElem (by rw [HBd.out.l]; exact hk)⟩
        obtain ⟨c0, c1⟩ := HW5.out.n.o.cell hx
        rw [hfk k x hx]
        exact ⟨gb, 0, rfl, (HW5.out.n.o.o.lt gb rfl).2, by rw [Nat.zero_add]; exact c0, by rw [Nat.zero_add]; exact c1⟩)
      have hgb5 := (HW5.out.n.o.o.lt gb rfl).2
      have HJ0 := (show Hid (KoJ gs now w mb Ak ck (.slice (some ⟨gb, 0, none⟩) gs.length cb) (.slice (some ⟨gr, 0, none⟩) gs.length cr) ov kb hb fs ds w5.heap.size [] w5) from ⟨⟨fs, false, HW5.out, HF.out, (fun q => by cases q), fun _ => ⟨rfl, fun i hi => by cases hi⟩⟩, fun D hD => by
        obtain ⟨d1, d2⟩ := HDa.out.2 D hD
        have d3 : D < wa.heap.size := (Array.getElem?_eq_some_iff.1 d2).1
        refine ⟨d1, by omega, ?_⟩
        rw [hw5]
        exact (Below.heap_alloc _ _ _ d3).trans d2, Nat.le_refl _⟩)
      have HFk := (show Hid (∀ x : Fin gs.length, ∃ r Ap cp Av cv, gs[x.val]? = some r ∧ f x.val = (.slice Ap r.2.length cp, .slice Av r.2.length cv) ∧ RdN w1 Ap r.2 ∧ (.slice Ap r.2.length cp, .slice Av r.2.length cv, mkV gs now r.2) ∈ ov) from fun x => by
        obtain ⟨r, hr⟩ : ∃ r, gs[x.val]? = some r := ⟨_, List.getElem?_eq_getElem x.isLt⟩
        obtain ⟨Ap, cp, v, h1, h2⟩ := HBd.out.x x.val r x.isLt hr
        have h3 := HW5.out.n.o.e _ (List.mem_of_getElem? h1)
        dsimp only at h3
        rw [mkV_len] at h3
        obtain ⟨Av, cv, rfl⟩ := own_sl h3
        exact ⟨r, Ap, cp, Av, cv, hr, hfk _ _ h1, h2, List.mem_of_getElem? h1⟩)
      rw [← hw5, ← hBn]
      have HWB := (show Hid (Below w1.heap.size w1 w5) from by
        rw [hw5, hwa]
        have hq := HB1.out.2.1
        exact (HBw.out.setCell (p := ⟨hb, 0, none⟩) (by show w1.heap.size ≤ hb; omega) _).alloc (by have := HBw.out.size; rw [World.size_setCell]; exact this) _)
      clear hw5 hwa hf hfk hsa hBn x0 xf y2 y2' HWa HEa HDa HW
      refine wpIn_rangeFunc_ownH rfl h1 (gf := 53) (lb := #[.pointer (some ⟨Bn, 0, none⟩)]) rfl trivial (enters_of Tryz.func53 (by kernel_rfl) rfl)
        (back_stops (m - 1) (by omega) Bn (some ⟨gb, 0, none⟩) gs.length cb f hn2 w5 HBk.out (fun g o e => by cases e; exact hgb5)) KeepP.trans (KeepP.put (w := w5) (by omega) (fun g o e => by cases e; exact hgb5)) (Below.refl _ _) (fun _ => rfl)
        (fun pre W => KoJ gs now w mb Ak ck (.slice (some ⟨gb, 0, none⟩) gs.length cb) (.slice (some ⟨gr, 0, none⟩) gs.length cr) ov kb hb fs ds w5.heap.size pre W ∧ Below w1.heap.size w1 W)
        (fun _ _ _ => False)
        (OwnFrom.and (KoJ.own HL.out hkb (by omega)) (ownFrom_below (Nat.le_refl _) (by have := HWB.out.size; omega)))
        (fun _ _ _ _ _ hs _ _ => hs)
        ⟨HJ0.out, HWB.out⟩
        (fun x a' W => ∃ b, Bn < b ∧ a' = { tmps := #[.agg #[.slice A gs.length c], .pointer (some ⟨w.heap.size, 0, none⟩), .pointer (some ⟨w.heap.size + 1, 0, none⟩), .int .i64 0, .pointer (some ⟨kb, 0, none⟩), .int .i64 0, .pointer (some ⟨hb, 0, none⟩), .int .i64 (x.val : Int), .pointer (some ⟨b, 0, none⟩), undef, .tuple #[.agg #[.map (some mb), .slice Ak gs.length ck, .slice (some ⟨gb, 0, none⟩) gs.length cb, .slice (some ⟨gr, 0, none⟩) gs.length cr], .int .i64 0], .agg #[.slice A gs.length c], .tuple #[.agg #[.map (some mb), .slice Ak gs.length ck, .slice (some ⟨gb, 0, none⟩) gs.length cb, .slice (some ⟨gr, 0, none⟩) gs.length cr], .int .i64 0], .agg #[.map (some mb), .slice Ak gs.length ck, .slice (some ⟨gb, 0, none⟩) gs.length cb, .slice (some ⟨gr, 0, none⟩) gs.length cr], .int .i64 0, .int .i64 0, .bool false, undef, undef, .bool true, .pointer (some ⟨kb, 2, none⟩), .slice (some ⟨gb, 0, none⟩) gs.length cb, .func (.func 53) #[] #[.pointer (some ⟨Bn, 0, none⟩)], .int .i64 (x.val : Int), .agg #[(f x.val).1, (f x.val).2], undef, undef, undef, undef, undef, undef, undef, undef, undef, undef, undef, undef, undef, undef, undef, u40, undef], defers := [] } ∧ BdX W b (f x.val).1 (f x.val).2)
        ?hAx ?assign ?body ?done ?stop
      case hAx =>
        intro x a' s A1 C1 row hs hg1 hr1
        obtain ⟨b, hb1, he, h3⟩ := hs
        exact ⟨b, hb1, he, h3.same (hg1.block _ h3.lt (fun e => by
          obtain ⟨_, o, ho, hc⟩ := hr1 b e.symm
          rw [h3.heap] at ho
          cases ho
          cases hc))⟩
      case assign =>
        intro l pre x W K hI hK
        have HI := (show Hid _ from hI)
        have HKK := (show Hid _ from hK)
        clear hI hK
        have hW5 := HI.out.1.s
        obtain ⟨r, Ap, cp, Av, cv, hr, hfe, hp, hm⟩ := HFk.out x
        have HFe := (show Hid (f x.val = (.slice Ap r.2.length cp, .slice Av r.2.length cv)) from hfe)
        rw [hfe] at HKK ⊢
        dsimp only at HKK ⊢
        have HA := (show Hid (KeepP Bn (some ⟨gb, 0, none⟩) W (W.alloc (.cells #[.slice Ap r.2.length cp, .slice Av r.2.length cv] 67)) ∧ (KoJ gs now w mb Ak ck (.slice (some ⟨gb, 0, none⟩) gs.length cb) (.slice (some ⟨gr, 0, none⟩) gs.length cr) ov kb hb fs ds w5.heap.size pre (W.alloc (.cells #[.slice Ap r.2.length cp, .slice Av r.2.length cv] 67)) ∧ Below w1.heap.size w1 (W.alloc (.cells #[.slice Ap r.2.length cp, .slice Av r.2.length cv] 67))) ∧ BdX (W.alloc (.cells #[.slice Ap r.2.length cp, .slice Av r.2.length cv] 67)) W.heap.size (.slice Ap r.2.length cp) (.slice Av r.2.length cv) ∧ Bn < W.heap.size) from ⟨KeepP.of_below (below_box _ _) (by omega) (fun g o e => by cases e; omega), ⟨KoJ.own HL.out hkb (by omega) _ _ _ _ HI.out.1 (World.grownBy_alloc W _ none) (fun r e => by cases e), HI.out.2.alloc HI.out.2.size _⟩, BdX.new W _ _, by omega⟩)
        clear hr hfe hp hm
        gi_wp2
        exact HKK.out _ _ ((KeepsOthers.alloc _ _).from _) HA.out.1 HA.out.2.1 ⟨_, HA.out.2.2.2, rfl, HA.out.2.2.1⟩
      case body =>
        rintro l pre x a' W hl hrl ⟨hi, hiB⟩ ⟨b, hbb, rfl, hbx⟩ hlt
        have HI := (show Hid _ from hi)
        have HIB := (show Hid (Below w1.heap.size w1 W) from hiB)
        obtain ⟨r, Ap, cp, Av, cv, hr, hfe, hp, hm⟩ := HFk.out x
        rw [hfe] at hbx ⊢
        dsimp only at hbx ⊢
        obtain ⟨⟨fs2, hg2, hW, hX, h3, h4⟩, hd, hs⟩ := hi
        have HW2 := (show Hid (KoW gs now w W mb Ak ck (.slice (some ⟨gb, 0, none⟩) gs.length cb) (.slice (some ⟨gr, 0, none⟩) gs.length cr) ov fs2 kb hb hg2) from hW)
        have HX2 := (show Hid (FxI gs now fs2 ∧ (hg2 = true → toF fs < toF fs2) ∧ (hg2 = false → fs2 = fs ∧ ∀ i ∈ pre, fs2[i.val]? = some (spF gs now fs2 i.val))) from ⟨hX, h3, h4⟩)
        have HDs := (show Hid ((∀ D ∈ ds, kb < D ∧ D < w5.heap.size ∧ W.heap[D]? = some (.deferred (some []))) ∧ w5.heap.size ≤ W.heap.size) from ⟨hd, hs⟩)
        have HBx := (show Hid (BdX W b (.slice Ap r.2.length cp) (.slice Av r.2.length cv)) from hbx)
        have hgm := List.mem_of_getElem? hr
        obtain ⟨y, hy⟩ : ∃ y, fs2[x.val]? = some y := ⟨_, List.getElem?_eq_getElem (by rw [hX.l]; exact x.isLt)⟩
        have HY := (show Hid (fs2[x.val]? = some y) from hy)
        have hsp := spF_of (now := now) (fs := fs2) hr
        obtain ⟨z, hz⟩ : ∃ z, z = spF gs now fs2 x.val := ⟨_, rfl⟩
        have HZs := (show Hid (z = spF gs now fs2 x.val) from hz)
        have HCall := (show Hid (∀ _ : Unit, Calls Tryz.prog 36 #[.agg #[.map (some mb), .slice Ak gs.length ck, .slice (some ⟨gb, 0, none⟩) gs.length cb, .slice (some ⟨gr, 0, none⟩) gs.length cr], .agg #[.slice Ap r.2.length cp, .slice Av r.2.length cv]] W fun e w' => e = .returned (fG z) ∧ Below W.heap.size W w') from fun _ => by
          rw [hz, hsp]
          have hro := hW.n.p
          rw [hX.l] at hro
          have hrf := fs_read hro [] fs2 rfl
          have hmo := hW.n.o.e _ hm
          dsimp only at hmo
          rw [mkV_len] at hmo
          obtain ⟨A9, c9, e9, hrc⟩ := own_rdc (rtB HR.out hgm).2.1 hmo
          injection e9 with e91 e92 e93
          subst e91
          refine fsWhole_any mb _ _ _ _ _ _ _ _ (bdR_of HR.out hgm (HG.out.2 r hgm) (HG.out.1 r hgm).2.2) hX.l W hW.n.m ?_ (hp.below hiB (Nat.le_refl _)) hrc
          rw [List.length_nil, Nat.zero_mul] at hrf
          exact hrf)
        have k0 := hW.k.c0
        have k1 := hW.k.c1
        have k2 := hW.k.c2
        have k3 := hW.k.c3
        have y0 := hbx.c0
        have y1 := hbx.c1
        clear hiB hr hfe hp hm hW hX h3 h4 hd hs hbx hgm hy hsp hz
        gi_wp2_with fail
        refine ⟨trivial, fun h => (by cases h), (CallsIn.inRound l (callsIn_wide.2 (HCall.out ()))).mono ?_⟩
        rintro e w2 ⟨rfl, b2⟩
        obtain ⟨w3, hw3⟩ : ∃ w3, w3 = w2.alloc (.cells #[.int .u64 (wd z.st 0), .int .u64 (wd z.st 1), .int .u64 (wd z.st 2), .int .u64 (wd z.st 3), .bool z.em, .bool z.hf] 36) := ⟨_, rfl⟩
        have HE3 := (show Hid (w2.alloc (.cells #[.int .u64 (wd z.st 0), .int .u64 (wd z.st 1), .int .u64 (wd z.st 2), .int .u64 (wd z.st 3), .bool z.em, .bool z.hf] 36) = w3) from hw3.symm)
        have HB3 := (show Hid (Below W.heap.size W w3.drew ∧ Below W.heap.size W w3) from by
          have h : Below w2.heap.size w2 w3 := by rw [hw3]; exact below_box _ _
          have h2 := b2.trans (h.mono b2.size)
          exact ⟨h2.trans ((Below.refl _ _).drew), h2⟩)
        have HF3 := (show Hid (FX w3.drew w2.heap.size z) from by
          have h : FX w3 w2.heap.size z := by rw [hw3]; exact FX.new w2 z
          exact h.below ((Below.refl _ _).drew))
        have HK3 := (show Hid (KoW gs now w w3.drew mb Ak ck (.slice (some ⟨gb, 0, none⟩) gs.length cb) (.slice (some ⟨gr, 0, none⟩) gs.length cr) ov fs2 kb hb hg2) from by
          have := HDs.out.2
          exact HW2.out.keep HL.out hkb HB3.out.1.size (fun j hj => HB3.out.1.block j (by omega)) (HW2.out.b.trans (HB3.out.1.mono HW2.out.b.size)))
        clear b2 hw3 k0 k1 k2 k3 y0 y1 HCall
        have k3 := HK3.out.k.c3
        have f0 := HF3.out.c0
        have f1 := HF3.out.c1
        have f2 := HF3.out.c2
        have f3 := HF3.out.c3
        have f4 := HF3.out.c4
        have f5 := HF3.out.c5
        obtain ⟨g9, o9, e9, l9, r0, r1, r2, r3, r4, r5⟩ := fs_read (by have h := HK3.out.n.p; rw [HX2.out.1.l] at h; exact h) [] fs2 rfl x.val y HY.out
        cases e9
        simp only [List.length_nil, Nat.zero_mul, Nat.zero_add] at r0 r1 r2 r3 r4 r5
        have z0 : (0 : Int) ≤ (x.val : Int) := by omega
        have z1 : (x.val : Int) < (gs.length : Int) := by have := x.isLt; omega
        gi_wp2_with (rw [HE3.out])
        have hmx : Tryz.prog.follows .mixedOrders = true := by kernel_rfl
        have hneq := fs_neq z y
        cases hq : feB z y with
        | true =>
          have hq' : (!feB z y) = false := by rw [hq]; rfl
          have HFin := (show Hid (KeepsFrom w5.heap.size W w3.drew ∧ KeepP Bn (some ⟨gb, 0, none⟩) W w3.drew ∧ KoJ gs now w mb Ak ck (.slice (some ⟨gb, 0, none⟩) gs.length cb) (.slice (some ⟨gr, 0, none⟩) gs.length cr) ov kb hb fs ds w5.heap.size (pre ++ [x]) w3.drew ∧ Below w1.heap.size w1 w3.drew) from by
            have hs := HDs.out.2
            have hb3 := HB3.out.1
            refine ⟨⟨hb3.size, fun k o _ hk _ => (hb3.block k (Array.getElem?_eq_some_iff.1 hk).1).trans hk⟩, KeepP.of_below hb3 (by omega) (fun g o e => by cases e; omega), KoJ.still HL.out hkb (by omega) HW2.out HX2.out.1 HX2.out.2.1 HX2.out.2.2 HDs.out.1 hs hb3 ?_, HIB.out.trans (hb3.mono HIB.out.size)⟩
            rw [HY.out, ← HZs.out, (feB_iff z y).1 hq])
          gi_region_with_o (fail)
          all_goals
            clear HW2 HX2 HDs HY HZs HB3 HF3 HK3 HI HIB k3 f0 f1 f2 f3 f4 f5 r0 r1 r2 r3 r4 r5 hneq
            gi_wp2
            exact HFin.out
        | false =>
          have hq' : (!feB z y) = true := by rw [hq]; rfl
          have HFin := (show Hid (KeepsFrom w5.heap.size W ((nf6 w3.drew gr (x.val * 6) z).setCell ⟨hb, 0, none⟩ (.bool true)) ∧ KeepP Bn (some ⟨gb, 0, none⟩) W ((nf6 w3.drew gr (x.val * 6) z).setCell ⟨hb, 0, none⟩ (.bool true)) ∧ KoJ gs now w mb Ak ck (.slice (some ⟨gb, 0, none⟩) gs.length cb) (.slice (some ⟨gr, 0, none⟩) gs.length cr) ov kb hb fs ds w5.heap.size (pre ++ [x]) ((nf6 w3.drew gr (x.val * 6) z).setCell ⟨hb, 0, none⟩ (.bool true)) ∧ Below w1.heap.size w1 ((nf6 w3.drew gr (x.val * 6) z).setCell ⟨hb, 0, none⟩ (.bool true))) from by
            have hs := HDs.out.2
            have hlr := HL.out.r gr rfl
            have hlb := HL.out.b gb (.inl rfl)
            have hgg : gb ≠ gr := fun e => own_apart HW2.out.n.o.o HW2.out.n.p (by decide) (k := gb) rfl (by rw [e]; rfl)
            have hb1 := HB1.out.2
            have hg := KoJ.grow (x := x) (y := y) HL.out hkb (show hb < w5.heap.size by omega) HW2.out HX2.out.1 HX2.out.2.1 HX2.out.2.2 HDs.out.1 hs HB3.out.1 HY.out (fun e => by rw [← HZs.out] at e; rw [(feB_iff z y).2 e] at hq; cases hq)
            rw [← HZs.out] at hg
            obtain ⟨g1, g2, g3, g4, g5⟩ := hg
            exact ⟨⟨g4, fun k o _ hk ho => g5 k o hk ho⟩, ⟨g4, g3 Bn (by omega) (by omega) (by omega), fun g o e => by cases e; exact g3 gb (by omega) hgg (by omega)⟩, g2, g1 w1 (by omega) (by omega) HIB.out⟩)
          unfold nf6 at HFin
          have hgh : ¬ hb = gr := by have := HL.out.r gr rfl; omega
          have hgh2 : ¬ gr = hb := fun e => hgh e.symm
          have hkp := HK3.out.n.p
          rw [HX2.out.1.l] at hkp
          have j0 := hkp.frozenAt (x.val * 6)
          have j1 := hkp.frozenAt (x.val * 6 + 1)
          have j2 := hkp.frozenAt (x.val * 6 + 2)
          have j3 := hkp.frozenAt (x.val * 6 + 3)
          have j4 := hkp.frozenAt (x.val * 6 + 4)
          have j5 := hkp.frozenAt (x.val * 6 + 5)
          have jh := HK3.out.h.fz
          have jc := HK3.out.h.c
          gi_region_with_o (fail)
          all_goals
            clear HW2 HX2 HDs HY HZs HB3 HF3 HK3 HI HIB hneq hkp HE3 hmx
            generalize w3.drew = w4 at *
            generalize w2.heap.size = kf at *
            gi_wp2
            exact HFin.out
      case done =>
        rintro D ys W hD rfl ⟨⟨⟨fs2, hg2, hW, hX, h3, h4⟩, hd, hs⟩, hB⟩ hK
        have bb : Below W.heap.size W (W.alloc (.cells #[.bool hg2] 4)) := below_box W _
        have hWn : KoW gs now w (W.alloc (.cells #[.bool hg2] 4)) mb Ak ck (.slice (some ⟨gb, 0, none⟩) gs.length cb) (.slice (some ⟨gr, 0, none⟩) gs.length cr) ov fs2 kb W.heap.size hg2 := ⟨hW.b.trans (bb.mono hW.b.size), hW.r.below bb, hW.k.below bb, ⟨hW.n.m.later bb, hW.n.d.later bb, hW.n.e1, hW.n.e3, hW.n.o.later bb, T.own_below hW.n.p bb⟩, BX1.new W _ _⟩
        have HWn := (show Hid _ from hWn)
        have HXn := (show Hid (FxI gs now fs2) from hX)
        have HEn := (show Hid (hg2 = false → FxR gs now fs2) from fun q => ⟨hX, fun i hi => (h4 q).2 ⟨i, hi⟩ (bkA_mem _ _ hi)⟩)
        have HDn := (show Hid ((D :: ds).Nodup ∧ ∀ E ∈ (D :: ds), kb < E ∧ (W.alloc (.cells #[.bool hg2] 4)).heap[E]? = some (.deferred (some []))) from ⟨List.nodup_cons.2 ⟨fun q => by have := (hd D q).2.1; omega, HD.out.1⟩, fun E hE => by
          rcases List.mem_cons.1 hE with rfl | hE
          · exact ⟨by omega, (bb.block E (Array.getElem?_eq_some_iff.1 hK).1).trans hK⟩
          · obtain ⟨d1, d2, d3⟩ := hd E hE
            exact ⟨d1, (bb.block E (Array.getElem?_eq_some_iff.1 d3).1).trans d3⟩⟩)
        have HBn := (show Hid (Below w1.heap.size w1 (W.alloc (.cells #[.bool hg2] 4))) from hB.trans (bb.mono hB.size))
        have HMe := (show Hid (2 * (258 * fs2.length - toF fs2) + (if hg2 = true then 1 else 0) < 2 * (258 * fs.length - toF fs) + 1) from by
          show _ < _
          have l1 := HF.out.l
          have l2 := hX.l
          have t2 := toF_top fs2
          cases hg2 with
          | true =>
            have h5 := h3 rfl
            rw [if_pos rfl]
            rw [l2] at t2 ⊢
            rw [l1]
            omega
          | false =>
            rw [(h4 rfl).1]
            simp)
        have hkn : kb < W.heap.size := by have := hW.h.lt; omega
        have x0 := hW.h.c
        clear bb hWn hW hX h3 h4 hd hs hB hK
        gi_wp2
        exact ⟨(fs2, hg2, W.heap.size, D :: ds), ⟨_, _, _, _, _, rfl, HWn, HXn, HEn, hkn, HDn, HBn⟩, HMe.out⟩
      case stop =>
        rintro D c pre W _ _ h _
        exact h.elim

  · have tz : ((ckG gs).2 != 0) = true := by rw [bne, beq_eq_false_iff_ne.2 hz]; rfl
    have HZ := (show Hid ((ckG gs).2 ≠ 0) from hz)
    obtain rfl := hr.1 hz
    have hry := HS1.out.2.1.below HB2.out
    have HT := (show Hid (KyX ((ky4 w2 (w.heap.size + 1) (.map none) (.slice none 0 0) (.slice none 0 0) (.slice none 0 0)).alloc (.cells #[.map none, .slice none 0 0, .slice none 0 0, .slice none 0 0] 56)) (w.heap.size + 1) (.map none) (.slice none 0 0) (.slice none 0 0) (.slice none 0 0) ∧ Below w.heap.size w ((ky4 w2 (w.heap.size + 1) (.map none) (.slice none 0 0) (.slice none 0 0) (.slice none 0 0)).alloc (.cells #[.map none, .slice none 0 0, .slice none 0 0, .slice none 0 0] 56))) from by
      have h1 := hry.all (.map none) (.slice none 0 0) (.slice none 0 0) (.slice none 0 0)
      have h2 := ky4_below (w.heap.size + 1) (.map none) (.slice none 0 0) (.slice none 0 0) (.slice none 0 0) (HS1.out.1.trans (HB2.out.mono HS1.out.1.size)) (Nat.le_succ _)
      exact ⟨h1.below (below_box _ _), h2.alloc h2.size _⟩)
    unfold ky4 at HT
    have r0 := hry.c0
    have r1 := hry.c1
    have r2 := hry.c2
    have r3 := hry.c3
    have rf := hry.fz
    have rl := hry.lt
    clear hr hz b2 HBe HS1 HE1 q0 HB2 hry HG
    generalize hcd : (ckG gs).2 = cd at tz ⊢
    have HCD := (show Hid ((ckG gs).2 = cd) from hcd)
    clear hcd
    gi_wp2
    refine ⟨.tuple #[.agg #[.map none, .slice none 0 0, .slice none 0 0, .slice none 0 0], .int .i64 cd], ?_, ⟨⟨fun _ => by rw [HCD.out], fun q => absurd q HZ.out⟩, HT.out.2⟩⟩
    have tk := HT.out.1
    have c0 := tk.c0
    have c1 := tk.c1
    have c2 := tk.c2
    have c3 := tk.c3
    simp [results, Tryz.results21, go_sem, c0, c1, c2, c3]

theorem fsKnownOf_any (gs : GL) (A : Option Addr) (c : Nat) (w : World) (hp : GI w A gs) (hnw : ∀ g ∈ gs, ∀ n ∈ g.2, NdW n) :
    Calls Tryz.prog 21 #[.agg #[.slice A gs.length c]] w fun e w' => KoR w w' gs e ∧ Below w.heap.size w w' :=
  (callsIn_wide (n := 3)).1 (fsKnownOf_in 3 (by omega) gs A c w hp hnw)
end Go.Proofs.YtbnihflihelimaaGreat.N

namespace Go.Proofs.YtbnihflihelimaaGreat.N
open Go.RowKit Go.Maps
open Go.Proofs.YtbnihflihelimaaGreat.T
theorem nmL_mem {L : List Nd} {s : ByteArray} : ∀ k, k ≤ L.length → (s ∈ nmL L k ↔ ∃ (j : Nat) (n : Nd), j < k ∧ L[j]? = some n ∧ n.op = 6 ∧ n.tx = s) := by
  intro k
  induction k with
  | zero =>
    intro _
    constructor
    · intro h; simp [nmL] at h
    · rintro ⟨j, n, h, _⟩; omega
  | succ k ih =>
    intro hk
    have hn : L[k]? = some L[k] := List.getElem?_eq_getElem (by omega)
    have ih := ih (by omega)
    have key : s ∈ nmL L (k + 1) ↔ s ∈ nmL L k ∨ ((L[k]).op = 6 ∧ (L[k]).tx = s) := by
      rw [nmL_succ hn]
      by_cases q : (L[k]).op = 6 ∧ inB (L[k]).tx (nmL L k) = false
      · rw [if_pos q, List.mem_append, List.mem_singleton]
        constructor
        · rintro (h | h)
          · exact .inl h
          · exact .inr ⟨q.1, h.symm⟩
        · rintro (h | h)
          · exact .inl h
          · exact .inr h.2.symm
      · rw [if_neg q]
        constructor
        · exact .inl
        · rintro (h | ⟨h1, h2⟩)
          · exact h
          · have e : inB (L[k]).tx (nmL L k) = true := by
              cases e : inB (L[k]).tx (nmL L k)
              · exact absurd ⟨h1, e⟩ q
              · rfl
            rw [← h2]
            exact inB_mem.1 e
    rw [key, ih]
    constructor
    · rintro (⟨j, n, h1, h2, h3, h4⟩ | ⟨h1, h2⟩)
      · exact ⟨j, n, by omega, h2, h3, h4⟩
      · exact ⟨k, _, by omega, hn, h1, h2⟩
    · rintro ⟨j, n, h1, h2, h3, h4⟩
      by_cases q : j = k
      · subst q
        rw [hn] at h2
        obtain rfl := Option.some.inj h2
        exact .inr ⟨h3, h4⟩
      · exact .inl ⟨j, n, by omega, h2, h3, h4⟩
end Go.Proofs.YtbnihflihelimaaGreat.N

namespace Go.Proofs.YtbnihflihelimaaGreat.N
open Go.RowKit Go.Maps
open Go.Proofs.YtbnihflihelimaaGreat.T

open U (below_grown)
/-- What is known, read. -/
structure KnG (gs : GL) (now : List Em) (W : World) (mb : Nat) (Ak Ar : Option Addr) (fs : List Fs) : Prop where
  m : NmM W mb gs
  d : RdE W Ak now
  r : RdF W Ar fs
  l : fs.length = gs.length
  n : now.length = gs.length
theorem KnG.later {gs : GL} {now : List Em} {W W' : World} {mb : Nat} {Ak Ar : Option Addr} {fs : List Fs} (h : KnG gs now W mb Ak Ar fs) (hb : Below W.heap.size W W') : KnG gs now W' mb Ak Ar fs := ⟨h.m.later hb, h.d.later hb, h.r.later hb, h.l, h.n⟩
/-- What is told of a pattern beside the rules. -/
def FoR (gs : GL) (now : List Em) (fs : List Fs) (L : List Nd) (x : Fs) (cd : Int) : Prop := ((ck L).2 ≠ 0 → cd = (ck L).2 ∧ x = f0) ∧ ((ck L).2 = 0 → ((∃ n ∈ L, n.op = 6 ∧ fdG gs n.tx = none) → cd = 81 ∧ x = f0) ∧ ((∀ n ∈ L, n.op = 6 → ∃ i, fdG gs n.tx = some i) → cd = 0 ∧ x = faR gs now fs L (L.length - 1)))
structure FoS (w W : World) (m k bd r : Value) : Prop where
  b : Below w.heap.size w W
  x : KyX W w.heap.size m k bd r
  z : FX W (w.heap.size + 1) f0
theorem FoS.later {w W W' : World} {m k bd r : Value} (h : FoS w W m k bd r) (hb : Below W.heap.size W W') : FoS w W' m k bd r := ⟨h.b.trans (hb.mono h.b.size), h.x.below hb, h.z.below hb⟩
theorem FoS.new (w : World) (m k bd r : Value) : FoS w ((w.alloc (.cells #[m, k, bd, r] 56)).alloc (.cells #[.int .u64 0, .int .u64 0, .int .u64 0, .int .u64 0, .bool false, .bool false] 36)) m k bd r := by
  have e1 := World.size_alloc w (.cells #[m, k, bd, r] 56)
  have hz := FX.new (w.alloc (.cells #[m, k, bd, r] 56)) f0
  have z0 : ∀ i, wd f0.st i = 0 := fun i => wd_zero i
  rw [z0, z0, z0, z0, e1] at hz
  exact ⟨(below_box w _).trans ((below_box _ _).mono (by omega)), (KyX.new w m k bd r).below (below_box _ _), hz⟩
theorem FoS.ret {w W : World} {m k bd r : Value} (h : FoS w W m k bd r) (f : Fs) : FX (sF W (w.heap.size + 1) f) (w.heap.size + 1) f ∧ Below w.heap.size w (sF W (w.heap.size + 1) f) := ⟨sF_fx h.z f, sF_below _ _ h.b (Nat.le_succ _)⟩
theorem FoS.ret0 {w W : World} {m k bd r : Value} (h : FoS w W m k bd r) : FX ((((((W.setCell ⟨w.heap.size + 1, 0, none⟩ (.int .u64 0)).setCell ⟨w.heap.size + 1, 1, none⟩ (.int .u64 0)).setCell ⟨w.heap.size + 1, 2, none⟩ (.int .u64 0)).setCell ⟨w.heap.size + 1, 3, none⟩ (.int .u64 0)).setCell ⟨w.heap.size + 1, 4, none⟩ (.bool false)).setCell ⟨w.heap.size + 1, 5, none⟩ (.bool false)) (w.heap.size + 1) f0 ∧ Below w.heap.size w ((((((W.setCell ⟨w.heap.size + 1, 0, none⟩ (.int .u64 0)).setCell ⟨w.heap.size + 1, 1, none⟩ (.int .u64 0)).setCell ⟨w.heap.size + 1, 2, none⟩ (.int .u64 0)).setCell ⟨w.heap.size + 1, 3, none⟩ (.int .u64 0)).setCell ⟨w.heap.size + 1, 4, none⟩ (.bool false)).setCell ⟨w.heap.size + 1, 5, none⟩ (.bool false)) := by
  have h2 := h.ret f0
  have z0 : ∀ i, wd f0.st i = 0 := fun i => wd_zero i
  unfold sF at h2
  rw [z0, z0, z0, z0] at h2
  exact h2
theorem ret_fx2 {s t : Nat} {fn : Func} {R : Ending → World → Prop} {act : Act} {W : World} {b : Nat} {a : Fs} {x : Value} (hF : fn.results = #[.cell s 36, .tmp t]) (hd : act.defers = []) (h6 : act.tmps.getD s undef = .pointer (some ⟨b, 0, none⟩)) (h7 : act.tmps.getD t undef = x) (hT : FX W b a) (hR : R (.returned (.tuple #[fG a, x])) W) : bodyPost Tryz.prog fn R .ret act W := by
  have c0 : W.cell? ⟨b, 0, none⟩ = _ := hT.c0
  have c1 : W.cell? ⟨b, 1, none⟩ = _ := hT.c1
  have c2 : W.cell? ⟨b, 2, none⟩ = _ := hT.c2
  have c3 : W.cell? ⟨b, 3, none⟩ = _ := hT.c3
  have c4 : W.cell? ⟨b, 4, none⟩ = _ := hT.c4
  have c5 : W.cell? ⟨b, 5, none⟩ = _ := hT.c5
  refine bodyPost_ret (v := .tuple #[fG a, x]) ?_ hd hR
  simp only [Array.getD_eq_getD_getElem?] at h6 h7
  simp [results, hF, go_sem, h6, h7, c0, c1, c2, c3, c4, c5]
theorem enters_fsWhole (args : Array Value) (w : World) : (callFunc 36 args).run Tryz.prog w = .ok (.enter 36 args) w := enters_of Tryz.func36 (by kernel_rfl) rfl args w
set_option maxRecDepth 100000 in
set_option maxHeartbeats 32000000 in
theorem fsOfM_any (gs : GL) (now : List Em) (fs : List Fs) (mb : Nat) (vb : Value) (Ak Ar : Option Addr) (cE cr : Nat) (L : List Nd) (Ap : Option Addr) (cp : Nat) (hL : L.length ≤ 140737488355328) (hT : ∀ n ∈ L, n.tx.size ≤ 140737488355328) (hw : ∀ n ∈ L, NdW n) (w : World) (hk : KnG gs now w mb Ak Ar fs) (hr : RdN w Ap L) :
    Calls Tryz.prog 27 #[.agg #[.map (some mb), .slice Ak gs.length cE, vb, .slice Ar gs.length cr], .slice Ap L.length cp] w fun e w' => (∃ x cd, e = .returned (.tuple #[fG x, .int .i64 cd]) ∧ FoR gs now fs L x cd) ∧ Below w.heap.size w w' := by
  obtain ⟨w1, hw1⟩ : ∃ w1, w1 = (w.alloc (.cells #[.map (some mb), .slice Ak gs.length cE, vb, .slice Ar gs.length cr] 56)).alloc (.cells #[.int .u64 0, .int .u64 0, .int .u64 0, .int .u64 0, .bool false, .bool false] 36) := ⟨_, rfl⟩
  have HE1 := (show Hid ((w.alloc (.cells #[.map (some mb), .slice Ak gs.length cE, vb, .slice Ar gs.length cr] 56)).alloc (.cells #[.int .u64 0, .int .u64 0, .int .u64 0, .int .u64 0, .bool false, .bool false] 36) = w1) from hw1.symm)
  have HS1 := (show Hid (FoS w w1 (.map (some mb)) (.slice Ak gs.length cE) vb (.slice Ar gs.length cr)) from by rw [hw1]; exact FoS.new w _ _ _ _)
  have HTt := (show Hid (L.length ≤ 140737488355328 ∧ (∀ n ∈ L, n.tx.size ≤ 140737488355328) ∧ RdN w Ap L ∧ KnG gs now w mb Ak Ar fs ∧ ∀ n ∈ L, NdW n) from ⟨hL, hT, hr, hk, hw⟩)
  have HNm := hid_of (names_any L Ap cp HTt.out.1 HTt.out.2.1 w1 (HTt.out.2.2.1.below HS1.out.b (Nat.le_refl _)))
  clear hw1 hL hT hr hk hw
  go_enter Tryz.func27, Tryz.ntmps27
  go_wp2_with (rw [HE1.out])
  refine Calls.mono HNm.out ?_
  rintro e w4 ⟨⟨v4, rfl, ho4⟩, b4⟩
  have HS4 := (show Hid (FoS w w4 (.map (some mb)) (.slice Ak gs.length cE) vb (.slice Ar gs.length cr)) from HS1.out.later b4)
  clear HNm HE1 b4 HS1
  by_cases hc : (ck L).2 = 0
  · have hnm : nmE L = nmL L L.length := by unfold nmE; rw [if_pos hc]
    have hrt := rt_of hc
    have hlen := hrt.len
    have HNl := (show Hid ((nmE L).length ≤ 2048) from by rw [hnm]; have := nmL_len L L.length; show _ ≤ _; omega)
    have HMem := (show Hid (∀ s, s ∈ nmE L ↔ ∃ n ∈ L, n.op = 6 ∧ n.tx = s) from fun s => by
      rw [hnm, nmL_mem _ (Nat.le_refl _)]
      constructor
      · rintro ⟨j, n, _, h2, h3, h4⟩; exact ⟨n, List.mem_of_getElem? h2, h3, h4⟩
      · rintro ⟨n, h2, h3, h4⟩
        obtain ⟨j, hj⟩ := List.getElem?_of_mem h2
        exact ⟨j, n, (List.getElem?_eq_some_iff.1 hj).1, hj, h3, h4⟩)
    obtain ⟨A4, c4, rfl⟩ := U.own_slice ho4
    have HO4 := hid_of ho4
    have HRt := (show Hid (Rt L ∧ (ck L).2 = 0) from ⟨hrt, hc⟩)
    have tc : ((ck L).2 != 0) = false := by rw [hc]; rfl
    clear hnm hrt hc ho4
    generalize hcd : (ck L).2 = ce at tc ⊢
    clear hcd
    obtain ⟨ns, hns⟩ : ∃ ns, ns = nmE L := ⟨_, rfl⟩
    rw [← hns] at HNl HMem HO4 ⊢
    clear hns
    have hnl := HNl.out
    go_wp2_with fail
    go_loopw [23] (fun t wr => ∃ k : Nat, k ≤ ns.length ∧ t = .int .i64 (k : Int) ∧ w4 = wr ∧ Hid (∀ (j : Nat) s, j < k → ns[j]? = some s → ∃ i, fdG gs s = some i)) (fun t _ => ns.length - (intOf t).toNat)
    case atStart => exact ⟨0, Nat.zero_le _, by go_num, rfl, fun j s hj => absurd hj (Nat.not_lt_zero _)⟩
    case round =>
      obtain ⟨k, hk, rfl, rfl, HI⟩ := hrel
      by_cases hlt : k < ns.length
      · obtain ⟨s, hs⟩ : ∃ s, ns[k]? = some s := ⟨_, List.getElem?_eq_getElem hlt⟩
        obtain ⟨g4, c5, e4, _, _, x4, _⟩ := U.own_get HO4.out (j := k) (x := .string s) (by unfold stc; rw [List.getElem?_map, hs]; rfl)
        injection e4 with e5 _ _
        subst e5
        obtain ⟨n0, hn0, h60, ht0⟩ := (HMem.out s).1 (List.mem_of_getElem? hs)
        have hsz : s.size ≤ 140737488355328 := by rw [← ht0]; exact HTt.out.2.1 n0 hn0
        obtain ⟨cc, hrun, _⟩ := (HTt.out.2.2.2.1.m.later HS4.out.b).look s hsz
        have kk0 := HS4.out.x.c0
        have y0 : (0 : Int) ≤ (k : Int) := by omega
        have y1 : (k : Int) < (ns.length : Int) := by omega
        cases hf : fdG gs s with
        | none =>
          rw [hf] at hrun
          have HA := (show Hid (FoR gs now fs L f0 81) from ⟨fun q => absurd HRt.out.2 q, fun _ => ⟨fun _ => ⟨rfl, rfl⟩, fun q => by
            obtain ⟨i, hi⟩ := q n0 hn0 h60
            rw [ht0, hf] at hi
            cases hi⟩⟩)
          have z0 := HS4.out.z.c0
          have z1 := HS4.out.z.c1
          have z2 := HS4.out.z.c2
          have z3 := HS4.out.z.c3
          have z4 := HS4.out.z.c4
          have z5 := HS4.out.z.c5
          have zf := HS4.out.z.fz
          have HZ := hid_of HS4.out.ret0
          simp only [Option.isSome] at hrun
          clear hf hs hn0 h60 ht0 hsz HS4 HO4 HMem HTt HI HRt HNl
          go_wp2_with fail
          refine ret_fx2 (s := 4) (t := 5) (b := w.heap.size + 1) (x := .int .i64 81) (by rfl) (by rfl) (by rfl) (by rfl) HZ.out.1 ?_
          exact ⟨⟨f0, 81, rfl, HA.out⟩, HZ.out.2⟩
        | some i =>
          rw [hf] at hrun
          have HI2 := (show Hid (∀ (j : Nat) s, j < k + 1 → ns[j]? = some s → ∃ i, fdG gs s = some i) from fun j s2 hj hj2 => by
            by_cases q : j = k
            · subst q
              rw [hs] at hj2
              obtain rfl := Option.some.inj hj2
              exact ⟨i, hf⟩
            · exact HI.out j s2 (by omega) hj2)
          simp only [Option.isSome] at hrun
          clear hf hs hn0 h60 ht0 hsz HI
          go_wp2_with fail
          go_roundw
          case rel => exact ⟨k + 1, by omega, by go_num, by first | rfl | trivial, HI2⟩
          case measure => simp [intOf]; omega
      · obtain rfl : k = ns.length := by omega
        have hall : ∀ n ∈ L, n.op = 6 → ∃ i, fdG gs n.tx = some i := fun n hn h6 => by
          obtain ⟨j, hj⟩ := List.getElem?_of_mem ((HMem.out n.tx).2 ⟨n, hn, h6, rfl⟩)
          exact HI.out j _ (List.getElem?_eq_some_iff.1 hj).1 hj
        obtain ⟨x, hx⟩ : ∃ x, x = faR gs now fs L (L.length - 1) := ⟨_, rfl⟩
        have HA := (show Hid (FoR gs now fs L x 0) from ⟨fun q => absurd HRt.out.2 q, fun _ => ⟨fun ⟨n, hn, h6, hf⟩ => absurd (hall n hn h6) (by rw [hf]; rintro ⟨i, hi⟩; cases hi), fun _ => ⟨rfl, hx⟩⟩⟩)
        have hpos : 0 < L.length := by
          apply Nat.pos_of_ne_zero
          intro e
          have h1 := HRt.out.1.one
          rw [e] at h1
          exact absurd h1 (by simp [run])
        have HS5 := (show Hid (FoS w w4.drew (.map (some mb)) (.slice Ak gs.length cE) vb (.slice Ar gs.length cr)) from HS4.out.later (Below.refl _ _).drew)
        have HB := (show Hid (∀ _ : Unit, Calls Tryz.prog 48 #[.agg #[.map (some mb), .slice Ak gs.length cE, vb, .slice Ar gs.length cr], .slice Ap L.length cp] w4.drew fun e w' => (∃ Av cv, e = .returned (.agg #[.slice Ap L.length cp, .slice Av L.length cv]) ∧ FoS w w' (.map (some mb)) (.slice Ak gs.length cE) vb (.slice Ar gs.length cr) ∧ Calls Tryz.prog 36 #[.agg #[.map (some mb), .slice Ak gs.length cE, vb, .slice Ar gs.length cr], .agg #[.slice Ap L.length cp, .slice Av L.length cv]] w' fun e w2 => e = .returned (fG x) ∧ FoS w w2 (.map (some mb)) (.slice Ak gs.length cE) vb (.slice Ar gs.length cr))) from fun _ => by
          have hl := HRt.out.1.len
          have hBd : BdR gs L := ⟨HRt.out.1, kds_R HRt.out.1, fun n hn => by
            obtain ⟨k, hk⟩ := List.getElem?_of_mem hn
            exact (er_ok hk (HRt.out.1.each k (List.getElem?_eq_some_iff.1 hk).1)).al, hpos, by omega, HTt.out.2.2.2.2, HTt.out.2.1, hall⟩
          have hk5 := HTt.out.2.2.2.1.later HS5.out.b
          refine (fsBodyOf_any mb _ _ Ak Ap cE cp HRt.out.1 hpos (by omega) HTt.out.2.1 hall w4.drew hk5.m hk5.d hk5.n (HTt.out.2.2.1.below HS5.out.b (Nat.le_refl _))).mono ?_
          rintro e w' ⟨⟨v, rfl, ho⟩, b⟩
          have hS := HS5.out.later b
          obtain ⟨Av, cv, rfl, hrc⟩ := own_rdc hpos ho
          refine ⟨Av, cv, rfl, hS, ?_⟩
          have hk6 := HTt.out.2.2.2.1.later hS.b
          refine (fsWhole_any mb _ _ Ar Ap Av cr cp cv hBd hk6.l w' hk6.m hk6.r (HTt.out.2.2.1.below hS.b (Nat.le_refl _)) hrc).mono ?_
          rintro e w2 ⟨rfl, b2⟩
          exact ⟨by rw [hx], hS.later b2⟩)
        have k0 := HS5.out.x.c0
        have k1 := HS5.out.x.c1
        have k2 := HS5.out.x.c2
        have k3 := HS5.out.x.c3
        clear hall hx hpos HMem HTt HI HRt HO4 HNl
        go_wp2_with fail
        go_region_law (first
          | (refine step_call2 enters_fsBodyOf rfl _ _ _ _ (by rfl) (.agg #[.map (some mb), .slice Ak gs.length cE, vb, .slice Ar gs.length cr]) (.slice Ap L.length cp) (by rfl) (by rfl) ?_; with_reducible refine (HB.out ()).mono ?_; rintro e wA ⟨Av, cv, rfl, hA, hC⟩; refine ⟨_, rfl, ?_⟩; have a0 := hA.x.c0; have a1 := hA.x.c1; have a2 := hA.x.c2; have a3 := hA.x.c3)
          | (refine step_call2 enters_fsWhole rfl _ _ _ _ (by rfl) (.agg #[.map (some mb), .slice Ak gs.length cE, vb, .slice Ar gs.length cr]) (.agg #[.slice Ap L.length cp, .slice Av L.length cv]) (by rfl) (by rfl) ?_; with_reducible refine hC.mono ?_; rintro e w5 ⟨rfl, hD⟩; refine ⟨_, rfl, ?_⟩; have z0 := hD.z.c0; have z1 := hD.z.c1; have z2 := hD.z.c2; have z3 := hD.z.c3; have z4 := hD.z.c4; have z5 := hD.z.c5; have zf := hD.z.fz; have HZ := hid_of (hD.ret x); unfold sF at HZ))
        all_goals
          clear HB HS5 HS4 hA hC hD a0 a1 a2 a3 k0 k1 k2 k3
          go_wp2_with fail
          refine ret_fx2 (s := 4) (t := 5) (b := w.heap.size + 1) (x := .int .i64 0) (by rfl) (by rfl) (by rfl) (by rfl) HZ.out.1 ?_
          exact ⟨⟨_, 0, rfl, HA.out⟩, HZ.out.2⟩
  · have tc : ((ck L).2 != 0) = true := by rw [bne, beq_eq_false_iff_ne.2 hc]; rfl
    have HA := (show Hid (FoR gs now fs L f0 (ck L).2) from ⟨fun _ => ⟨rfl, rfl⟩, fun q => absurd q hc⟩)
    have z0 := HS4.out.z.c0
    have z1 := HS4.out.z.c1
    have z2 := HS4.out.z.c2
    have z3 := HS4.out.z.c3
    have z4 := HS4.out.z.c4
    have z5 := HS4.out.z.c5
    have zf := HS4.out.z.fz
    have HZ := hid_of HS4.out.ret0
    clear hc ho4 HS4 HTt
    generalize hcd : (ck L).2 = ce at tc HA ⊢
    clear hcd
    go_wp2_with fail
    refine ret_fx2 (s := 4) (t := 5) (b := w.heap.size + 1) (x := .int .i64 ce) (by rfl) (by rfl) (by rfl) (by rfl) HZ.out.1 ?_
    exact ⟨⟨f0, ce, rfl, HA.out⟩, HZ.out.2⟩
end Go.Proofs.YtbnihflihelimaaGreat.N
