/- DERIVED. Plain mathematics and walks, laid together (8). -/
import Derived.Deep.RegionLaw
import Derived.Deep.AppendLies
import Derived.Laws.OwnMore
import Derived.Shelf.Sort.AssemblyIn
import Derived.Sort.EveryDepth
import Derived.Test.YtppggnmlbcdegabGreatProg
import Derived.Test.YtppggnmlbcdegabGreatRo07
namespace Go.Proofs.YtppggnmlbcdegabGreat.N
open Go.RowKit
open Go.Proofs.YtppggnmlbcdegabGreat.T (below_box)
theorem ret_gx {fn : Func} {R : Ending → World → Prop} {act : Act} {W : World} {k : Nat} {a : Value} (hF : fn.results = #[.cell 2 24]) (hd : act.defers = []) (h2 : act.tmps.getD 2 undef = .pointer (some ⟨k, 0, none⟩)) (hT : GX W k a) (hR : R (.returned (.agg #[a])) W) : bodyPost Tryz.prog fn R .ret act W := by
  have c0 := hT.cl
  refine bodyPost_ret (v := .agg #[a]) ?_ hd hR
  simp only [Array.getD_eq_getD_getElem?] at h2
  simp [results, hF, go_sem, h2, c0]
/-- A call with one argument as a step of a region that draws its order. -/
theorem step_call1 {F : Nat} (hen : ∀ args w, (callFunc F args).run Tryz.prog w = .ok (.enter F args) w) {ops : Array Oper} {o : Oper} {a : Act} {w : World} {K : Act → World → Prop} {Q : Exit → Act → World → Prop} {E : Prop} (hgd : o.guard = none) (x : Operand) (T : TypeId) (ho : o.op = .call { callee := .value (.func F), args := #[x], argTypes := #[T] }) (v : Value) (hx : a.eval x = v)
    (hc : Calls Tryz.prog F #[v] w fun e w' => ∃ r, e = .returned r ∧ K (a.put o.dst r) w') :
    if Region.wanted o (yielded ops a.tmps) = true then Oper.wp Tryz.prog o a w K Q else E := by
  have hw : Region.wanted o (yielded ops a.tmps) = true := by simp [Region.wanted, hgd]
  rw [if_pos hw]
  have he : (execOp a.eval o).run Tryz.prog w = .ok (.enter F #[v]) w := by
    unfold execOp
    simp [ho, go_sem, invoke, hen]
    rw [← hx]
    cases x <;> simp [Act.eval]
  unfold Oper.wp
  rw [he, Oper.upon_enter]
  refine hc.mono ?_
  rintro e w' ⟨r, rfl, hk⟩
  exact hk


/-- A rule that was lent: it, its pattern's block and room. -/
abbrev Le : Type := (ByteArray × List Nd) × Nat × Nat
def lgV (x : Le) : List Value := [.string x.1.1, .slice (some ⟨x.2.1, 0, none⟩) x.1.2.length x.2.2]
def lgc (l : List Le) : List Value := l.flatMap lgV
theorem lgc_app (a b : List Le) : lgc (a ++ b) = lgc a ++ lgc b := List.flatMap_append
theorem lgc_one (x : Le) : lgc [x] = lgV x := by unfold lgc; rw [List.flatMap_cons, List.flatMap_nil, List.append_nil]
theorem lgc_get (l : List Le) : ∀ (k j : Nat) (x : Le) (u : Value) (ys : List Value), l[k]? = some x → (lgV x)[j]? = some u → (lgc l ++ ys)[k * 2 + j]? = some u := by
  induction l with
  | nil => intro k j x u ys h; cases h
  | cons a l ih =>
    intro k j x u ys h hu
    have e : lgc (a :: l) ++ ys = lgV a ++ (lgc l ++ ys) := by unfold lgc; rw [List.flatMap_cons, List.append_assoc]
    rw [e]
    have hj : j < 2 := (List.getElem?_eq_some_iff.1 hu).1
    cases k with
    | zero =>
      cases h
      rw [Nat.zero_mul, Nat.zero_add, List.getElem?_append_left (by show j < 2; exact hj)]
      exact hu
    | succ k =>
      have h2 : l[k]? = some x := by simpa using h
      have e2 : (lgV a).length = 2 := rfl
      rw [List.getElem?_append_right (by rw [e2]; omega), e2, show (k + 1) * 2 + j - 2 = k * 2 + j from by omega]
      exact ih k j x u ys h2 hu
/-- While a grammar is lent. -/
structure LgI (w wr : World) (a : Value) (v : Value) (ov : List Le) : Prop where
  o : wr.ownsRow w.heap.size 44 2 v ov.length (lgc ov)
  e : ∀ x ∈ ov, T.LentR wr w.heap.size x.2.1 x.2.2 x.1.2
  b : Below w.heap.size w wr
  x : GX wr w.heap.size a
  y : GX wr (w.heap.size + 1) (.slice none 0 0)
theorem LgI.later {w wr W' : World} {a v : Value} {ov : List Le} (h : LgI w wr a v ov) (hb : Below wr.heap.size wr W') : LgI w W' a v ov :=
  ⟨T.own_below h.o hb, fun x hx => (h.e x hx).below hb, h.b.trans (hb.mono h.b.size), h.x.below hb, h.y.below hb⟩
theorem LgI.push {w wr wA w5 : World} {a v u : Value} {ov : List Le} {nm : ByteArray} {L : List Nd} {g cap : Nat} (h : LgI w wr a v ov) (hA : Below wr.heap.size wr wA) (hl : T.LentR wA w.heap.size g cap L) (hg : (wA.alloc (.cells #[.string nm, .slice (some ⟨g, 0, none⟩) L.length cap] 44)).grownBy w5 v.ownBlock) (ho : w5.ownsRow w.heap.size 44 2 u (ov.length + 1) (lgc ov ++ [.string nm, .slice (some ⟨g, 0, none⟩) L.length cap])) : LgI w w5 a u (ov ++ [((nm, L), g, cap)]) := by
  have h2 : LgI w (wA.alloc (.cells #[.string nm, .slice (some ⟨g, 0, none⟩) L.length cap] 44)) a v ov := (h.later hA).later (below_box wA _)
  have hl2 : T.LentR (wA.alloc (.cells #[.string nm, .slice (some ⟨g, 0, none⟩) L.length cap] 44)) w.heap.size g cap L := hl.below (below_box wA _)
  have key : ∀ (y : Le), T.LentR (wA.alloc (.cells #[.string nm, .slice (some ⟨g, 0, none⟩) L.length cap] 44)) w.heap.size y.2.1 y.2.2 y.1.2 → T.LentR w5 w.heap.size y.2.1 y.2.2 y.1.2 := fun y hy =>
    own_same (v := .slice (some ⟨y.2.1, 0, none⟩) (y.1.2.length + 1) y.2.2) hy fun k hk => hg.block k (World.ownsRow.lt hy k hk).2 (fun q => own_apart h2.o hy (by decide) q.symm hk)
  refine ⟨?_, fun y hy => ?_, h2.b.grown hg h2.b.size (fun k e => (h2.o.lt k e).1), h2.x.same (hg.block _ h2.x.lt (fun e => h2.x.ne h2.o (by decide) e.symm rfl)), h2.y.same (hg.block _ h2.y.lt (fun e => h2.y.ne h2.o (by decide) e.symm rfl))⟩
  · rw [List.length_append, lgc_app, lgc_one]
    exact ho
  · rcases List.mem_append.1 hy with q | q
    · exact key y (h2.e y q)
    · rw [List.mem_singleton.1 q]
      exact key ((nm, L), g, cap) hl2
/-- A grammar that was lent, and is as it was. -/
structure LgB (w w' : World) (g cap : Nat) (ov : List Le) : Prop where
  o : w'.ownsRow w.heap.size 44 2 (.slice (some ⟨g, 0, none⟩) (ov.length + 1) cap) (ov.length + 1) (lgc ov ++ [.string ⟨#[115, 112, 97, 114, 101, 32, 114, 111, 111, 109]⟩, .slice none 0 0])
  e : ∀ x ∈ ov, T.LentR w' w.heap.size x.2.1 x.2.2 x.1.2
  b : Below w.heap.size w w'
theorem LgB.later {w wr W' : World} {g cap : Nat} {ov : List Le} (h : LgB w wr g cap ov) (hb : Below wr.heap.size wr W') : LgB w W' g cap ov :=
  ⟨T.own_below h.o hb, fun x hx => (h.e x hx).below hb, h.b.trans (hb.mono h.b.size)⟩
theorem LgB.cell {w wr : World} {g cap : Nat} {ov : List Le} (h : LgB w wr g cap ov) {k : Nat} {x : Le} (hk : ov[k]? = some x) : wr.cell? ⟨g, k * 2, none⟩ = some (.string x.1.1) ∧ wr.cell? ⟨g, k * 2 + 1, none⟩ = some (.slice (some ⟨x.2.1, 0, none⟩) x.1.2.length x.2.2) := by
  have hc := h.o.cells (g := g) rfl
  have q0 := hc (k * 2 + 0) _ (lgc_get ov k 0 x _ _ hk rfl)
  have q1 := hc (k * 2 + 1) _ (lgc_get ov k 1 x _ _ hk rfl)
  rw [Addr.add_lit, Nat.zero_add] at q0 q1
  exact ⟨q0, q1⟩
theorem LgB.last {w wr : World} {g cap : Nat} {ov : List Le} (h : LgB w wr g cap ov) : wr.cell? ⟨g, ov.length * 2, none⟩ = some (.string ⟨#[115, 112, 97, 114, 101, 32, 114, 111, 111, 109]⟩) := by
  have hc := h.o.cells (g := g) rfl
  have hlen : (lgc ov).length = ov.length * 2 := by
    have := h.o.1
    rw [List.length_append] at this
    simp only [List.length_cons, List.length_nil] at this
    omega
  have q0 := hc (ov.length * 2) (.string ⟨#[115, 112, 97, 114, 101, 32, 114, 111, 111, 109]⟩) (by rw [List.getElem?_append_right (by omega), hlen, Nat.sub_self]; rfl)
  rw [Addr.add_lit, Nat.zero_add] at q0
  exact q0
theorem LgB.gr {w wr : World} {g cap : Nat} {ov : List Le} {gs : List (ByteArray × List Nd)} (h : LgB w wr g cap ov) (hm : ov.map (·.1) = gs) : GrD wr (some ⟨g, 0, none⟩) gs := fun k r hr => by
  rw [← hm, List.getElem?_map] at hr
  cases hx : ov[k]? with
  | none => rw [hx] at hr; cases hr
  | some x =>
    rw [hx] at hr
    obtain rfl : x.1 = r := by simpa using hr
    obtain ⟨q0, q1⟩ := h.cell hx
    exact ⟨g, 0, some ⟨x.2.1, 0, none⟩, x.2.2, rfl, (h.o.lt g rfl).2, by rw [Nat.zero_add]; exact q0, by rw [Nat.zero_add]; exact q1, (h.e x (List.mem_of_getElem? hx)).rd⟩
theorem enters8 (args : Array Value) (w : World) : (callFunc 16 args).run Tryz.prog w = .ok (.enter 16 args) w := enters_of Tryz.func16 (by kernel_rfl) rfl args w
set_option maxRecDepth 100000 in
set_option maxHeartbeats 8000000 in
theorem lendG_any (gs : List (ByteArray × List Nd)) (A : Option Addr) (c : Nat) (w : World) (hg : GrIn w A c gs) :
    Calls Tryz.prog 4 #[.agg #[.slice A gs.length c]] w fun e w' => ∃ g cap ov, e = .returned (.agg #[.slice (some ⟨g, 0, none⟩) gs.length cap]) ∧ ov.map (·.1) = gs ∧ LgB w w' g cap ov := by
  obtain ⟨i0, hinf, hz0, hz1, hz2⟩ := info_parts Tryz.info41
  have hl := hg.len
  have HG := (show Hid (∀ k, k < gs.length → ∃ g, gs[k]? = some g ∧ g.2.length * 64 ≤ 140737488351232 ∧ ∃ b o A2 c2, A = some ⟨b, o, none⟩ ∧ b < w.heap.size ∧ w.cell? ⟨b, o + k * 2, none⟩ = some (.string g.1) ∧ w.cell? ⟨b, o + k * 2 + 1, none⟩ = some (.slice A2 g.2.length c2) ∧ T.InP w A2 c2 g.2) from fun k hk => by
    have e : gs[k]? = some gs[k] := List.getElem?_eq_getElem hk
    obtain ⟨b, o, _, _, h1, h2, h3, _, _⟩ := hg.d k _ e
    obtain ⟨A3, c3, h6, h7⟩ := hg.each k _ e
    exact ⟨_, e, h6.2.2.2.1, b, o, A3, c3, h1, h2, h3, h7 b o h1, h6.1, h6.2.1⟩)
  have HA := (show Hid (LgI w ((w.alloc (.cells #[.slice A gs.length c] 24)).alloc (.cells #[.slice none 0 0] 24)) (.slice A gs.length c) (.slice none 0 0) []) from
    ⟨World.ownsRow_nil _ _ _ _, (fun x hx => by cases hx), ((Below.refl _ _).alloc (Nat.le_refl _) _).alloc (by rw [World.size_alloc]; omega) _, (GX.mk (heap_alloc_new w _)).below (below_box _ _), ⟨by have h := heap_alloc_new (w.alloc (.cells #[.slice A gs.length c] 24)) (.cells #[.slice none 0 0] 24); rw [World.size_alloc] at h; exact h⟩⟩)
  clear hg
  go_enter Tryz.func4, Tryz.ntmps4
  go_wp2_with fail
  generalize (w.alloc (.cells #[.slice A gs.length c] 24)).alloc (.cells #[.slice none 0 0] 24) = w1 at *
  go_loopw [3, 4] (fun v t wr => ∃ (k : Nat) (ov : List Le) (Av : Option Addr) (cv : Nat), k ≤ gs.length ∧ t = .int .i64 k ∧ v = .slice Av k cv ∧ Hid (ov.length = k ∧ ov.map (·.1) = gs.take k) ∧ Hid (LgI w wr (.slice A gs.length c) (.slice Av k cv) ov)) (fun _ t _ => gs.length - (intOf t).toNat)
  case atStart => exact ⟨0, [], none, 0, Nat.zero_le _, rfl, rfl, ⟨rfl, rfl⟩, HA⟩
  case round =>
    obtain ⟨k, ov, Av, cv, hk, rfl, rfl, HM, HW⟩ := hrel
    clear HA
    have x0 := HW.out.x.cl
    by_cases hlt : k < gs.length
    · obtain ⟨g, hgk, hgl, b, o, A2, c2, rfl, lb, e0, e1, hin⟩ := HG.out k hlt
      have z0 : (0 : Int) ≤ (k : Int) := by omega
      have z1 : (k : Int) < (gs.length : Int) := by omega
      have hD : Below wr.heap.size wr wr.drew := (Below.refl _ _).drew
      have HLd := (show Hid (LgI w wr.drew (.slice (some ⟨b, o, none⟩) gs.length c) (.slice Av k cv) ov) from HW.out.later hD)
      have d0 := (HLd.out.b.cell (p := ⟨b, o + k * 2, none⟩) lb).trans e0
      have d1 := (HLd.out.b.cell (p := ⟨b, o + k * 2 + 1, none⟩) lb).trans e1
      have dx := HLd.out.x.cl
      have hsz : w.heap.size ≤ wr.heap.size := HW.out.b.size
      have HCall := (show Hid (∀ _ : Unit, Calls Tryz.prog 16 #[.slice A2 g.2.length c2] wr.drew fun e w' => (∃ g9 cap, e = .returned (.slice (some ⟨g9, 0, none⟩) g.2.length cap) ∧ T.LentR w' w.heap.size g9 cap g.2) ∧ Below wr.drew.heap.size wr.drew w') from fun _ => by
        refine (T.lend_any A2 c2 g.2 wr.drew hgl ⟨hin.1.below HLd.out.b (Nat.le_refl _), hin.2⟩).mono ?_
        rintro e w' ⟨⟨g9, cap, rfl, r9⟩, b9⟩
        exact ⟨⟨g9, cap, rfl, T.own_base r9 (by show w.heap.size ≤ wr.heap.size; exact hsz)⟩, b9⟩)
      have HAft := (show Hid (∀ wA, Below wr.drew.heap.size wr.drew wA → wA.cell? ⟨w.heap.size, 0, none⟩ = some (.slice (some ⟨b, o, none⟩) gs.length c) ∧ wA.cell? ⟨b, o + k * 2, none⟩ = some (.string g.1)) from fun wA hA => by
        have h3 := HLd.out.later hA
        exact ⟨h3.x.cl, (h3.b.cell (p := ⟨b, o + k * 2, none⟩) lb).trans e0⟩)
      have HTk := (show Hid (gs.take (k + 1) = gs.take k ++ [g]) from by rw [List.take_add_one, hgk]; rfl)
      have hov := HM.out.1
      have HO := (show Hid (wr.drew.ownsRow w.heap.size 44 2 (.slice Av k cv) k (lgc ov)) from by have h := HLd.out.o; rw [hov] at h; exact h)
      clear hgk hin e0 e1 HG hlt hov
      obtain ⟨nm, L⟩ := g
      simp only at d0 d1 HCall HAft HTk hgl
      go_wp2_with fail
      go_region_law (first
        | (refine step_call1 enters8 rfl _ _ (by rfl) (.slice A2 L.length c2) (by rfl) ?_; with_reducible refine (HCall.out ()).mono ?_; rintro e wA ⟨⟨g, cap, rfl, rA⟩, bA⟩; refine ⟨_, rfl, ?_⟩; obtain ⟨ax, a0⟩ := HAft.out wA bA)
        | (refine step_append_lies _ (by rfl) _ _ _ (by rfl) w.heap.size 44 i0 (.agg #[.string ⟨#[]⟩, .slice none 0 0]) 2 40 Tryz.underlying22 hinf hz0 hz1 hz2 rfl (by omega) _ _ (lgc ov) (by rfl) ((T.own_below HO.out bA).alloc _) ⟨wA.heap.size, 0, none⟩ 1 1 [.string nm, .slice (some ⟨g, 0, none⟩) L.length cap] (by rfl) (by rfl) (World.news_of_block (cs := #[.string nm, .slice (some ⟨g, 0, none⟩) L.length cap]) (t := 44) (fr := (0, 0)) (heap_alloc_new wA _)) (by intro u hu; simp only [List.mem_cons, List.not_mem_nil, or_false] at hu; rcases hu with rfl | rfl <;> rfl) (by omega) (by unfold maxLen; omega) (by omega) (by have q1 := bA.size; have q2 : wr.drew.heap.size = wr.heap.size := rfl; rw [World.size_alloc]; omega) (wA.heap.size + 1) (by simp) ?_; intro g3 cap3 w5 hown hgrow hat hltg))
      all_goals
        have HN := (show Hid (LgI w w5 (.slice (some ⟨b, o, none⟩) gs.length c) (.slice (some ⟨g3, 0, none⟩) (k + 1) cap3) (ov ++ [((nm, L), g, cap)])) from by
          have q2 : wr.drew.heap.size = wr.heap.size := rfl
          have hA : Below wr.heap.size wr wA := hD.trans (by rw [← q2]; exact bA)
          exact HW.out.push hA rA hgrow (by rw [HM.out.1]; exact hown))
        clear hown hgrow hat hltg rA bA ax a0 HCall HAft HO HLd HW hD
        go_wp2_with fail
        go_roundw
        case rel => exact ⟨k + 1, _, _, _, by omega, by go_num, rfl, ⟨by rw [List.length_append, HM.out.1]; rfl, by rw [List.map_append, HM.out.2, HTk.out]; rfl⟩, HN⟩
        case measure => simp [intOf]; omega
    · obtain rfl : k = gs.length := by omega
      have hov := HM.out.1
      have hO := HW.out.o
      rw [hov] at hO
      have hsz : w.heap.size ≤ wr.heap.size := HW.out.b.size
      have HMm := (show Hid (ov.map (·.1) = gs) from by have := HM.out.2; rw [List.take_length] at this; exact this)
      have HWl := (show Hid (LgI w (wr.alloc (.cells #[.string ⟨#[115, 112, 97, 114, 101, 32, 114, 111, 111, 109]⟩, .slice none 0 0] 44)) (.slice A gs.length c) (.slice Av gs.length cv) ov) from HW.out.later (below_box _ _))
      have HL := (show Hid (ov.length = gs.length) from hov)
      clear HG hlt hov HM HW
      go_wp2_with (at_builtin; refine wpList_append_lies _ rfl _ _ 22 rfl w.heap.size 44 i0 (.agg #[.string ⟨#[]⟩, .slice none 0 0]) 2 40 Tryz.underlying22 hinf hz0 hz1 hz2 rfl (by decide) _ _ _ rfl (hO.alloc _) ⟨wr.heap.size, 0, none⟩ 1 1 [.string ⟨#[115, 112, 97, 114, 101, 32, 114, 111, 111, 109]⟩, .slice none 0 0] rfl rfl ?c1 ?c2 (by decide) ?c3 ?c4 ?c5 (wr.heap.size + 1) (by simp) ?_)
      case c1 => exact World.news_of_block (cs := #[.string ⟨#[115, 112, 97, 114, 101, 32, 114, 111, 111, 109]⟩, .slice none 0 0]) (t := 44) (fr := (0, 0)) (heap_alloc_new wr _)
      case c2 => intro u hu; simp only [List.mem_cons, List.not_mem_nil, or_false] at hu; rcases hu with rfl | rfl <;> rfl
      case c3 => unfold maxLen; omega
      case c4 => omega
      case c5 => rw [World.size_alloc]; omega
      intro g3 cap3 w5 hown hgrow hat hltg
      have hcap : gs.length + 1 ≤ cap3 := by
        rcases hown.2 with ⟨q, _⟩ | ⟨g2, c2, cur, q, _, _, h3, _⟩
        · cases q
        · cases q; exact h3
      have HF := (show Hid (GX w5 (w.heap.size + 1) (.slice none 0 0) ∧ LgB w w5 g3 cap3 ov) from by
        have h2 := HWl.out
        have key : ∀ (y : Le), T.LentR (wr.alloc (.cells #[.string ⟨#[115, 112, 97, 114, 101, 32, 114, 111, 111, 109]⟩, .slice none 0 0] 44)) w.heap.size y.2.1 y.2.2 y.1.2 → T.LentR w5 w.heap.size y.2.1 y.2.2 y.1.2 := fun y hy =>
          own_same (v := .slice (some ⟨y.2.1, 0, none⟩) (y.1.2.length + 1) y.2.2) hy fun k hk => hgrow.block k (World.ownsRow.lt hy k hk).2 (fun q => own_apart h2.o hy (by decide) q.symm hk)
        refine ⟨h2.y.same (hgrow.block _ h2.y.lt (fun e => h2.y.ne h2.o (by decide) e.symm rfl)), ?_, fun y hy => key y (h2.e y hy), h2.b.grown hgrow h2.b.size (fun k e => (h2.o.lt k e).1)⟩
        rw [HL.out]
        exact hown)
      have hf := HF.out.1.fz
      have hcl := HF.out.1.cl
      have z0 : (0 : Int) ≤ (gs.length : Int) := by omega
      have z1 : (gs.length : Int) ≤ (cap3 : Int) := by omega
      clear hown hgrow hat hltg hO HWl x0
      go_wp2_with fail
      refine ret_gx rfl rfl rfl (HF.out.1.set _) ?_
      have hb := HF.out.2
      have hk : (w5.setCell ⟨w.heap.size + 1, 0, none⟩ (.slice (some ⟨g3, 0, none⟩) gs.length cap3)).heap.size = w5.heap.size := by simp [World.setCell]
      have key : ∀ (j : Nat), j ≠ w.heap.size + 1 → (w5.setCell ⟨w.heap.size + 1, 0, none⟩ (.slice (some ⟨g3, 0, none⟩) gs.length cap3)).heap[j]? = w5.heap[j]? := fun j hj => Below.heap_setCell _ _ _ _ hj
      refine ⟨g3, cap3, ov, rfl, HMm.out, own_same hb.o fun j hj => key j (HF.out.1.ne hb.o (by decide) hj), fun y hy => ?_, hb.b.setCell (p := ⟨w.heap.size + 1, 0, none⟩) (by show w.heap.size ≤ w.heap.size + 1; omega) _⟩
      exact own_same (v := .slice (some ⟨y.2.1, 0, none⟩) (y.1.2.length + 1) y.2.2) (hb.e y hy) fun j hj => key j (HF.out.1.ne (hb.e y hy) (by decide) hj)
end Go.Proofs.YtppggnmlbcdegabGreat.N

namespace Go.Proofs.YtppggnmlbcdegabGreat.U
open Go.RowKit
theorem grow_alloc {W W' : World} {o : Obj} {row : Option Nat} (h : (W.alloc o).grownBy W' row) : W.grownBy W' row :=
  ⟨h.os, h.tape, h.output, Nat.le_trans (by rw [World.size_alloc]; omega) h.size, fun k hk hne => (h.block k (by rw [World.size_alloc]; omega) hne).trans (((Below.refl W.heap.size W).alloc (Nat.le_refl _) o).block k hk)⟩
theorem info_split {P : Program} {e : TypeId} {z : Value} {s b : Nat} (h : (P.info? e).map (fun i => (i.zero, i.size, i.bytes)) = some (some z, s, b)) : ∃ i, P.info? e = some i ∧ i.zero = some z ∧ i.size = s ∧ i.bytes = b := by
  cases hi : P.info? e with
  | none => rw [hi] at h; cases h
  | some i =>
    rw [hi] at h
    have h2 := Option.some.inj h
    exact ⟨i, rfl, congrArg Prod.fst h2, congrArg (fun x => x.2.1) h2, congrArg (fun x => x.2.2) h2⟩
/-- One more behind a row that the call owns. -/
theorem wpList_app1 {P : Program} {ops : Array Oper} {rest : List Oper} {o : Oper} {a : Act} {Q : Exit → Act → World → Prop} {W : World} {u : Value} {e : TypeId} (hgd : o.guard = none) (s x : Operand) (t : TypeId)
    (ho : o.op = .call { callee := .builtin .append, args := #[s, x], argTypes := #[t, t] }) (z : Value) (bytes : Nat) (ht : P.underlying t = some (.slice e)) (hi : (P.info? e).map (fun i => (i.zero, i.size, i.bytes)) = some (some z, 1, bytes)) (hzs : z.cells.size = 1)
    (base n : Nat) (v : Value) (xs : List Value) (hs : a.eval s = v) (hx : a.eval x = .slice (some ⟨W.heap.size, 0, none⟩) 1 1) (hown : W.ownsRow base e 1 v n xs) (h1 : u.oneCell' = true) (hn : n ≤ 1000000) (hb : bytes ≤ 64) (hbase : base ≤ W.heap.size)
    (h : ∀ g cap w', w'.ownsRow base e 1 (.slice (some ⟨g, 0, none⟩) (n + 1) cap) (n + 1) (xs ++ [u]) → W.grownBy w' v.ownBlock → (v.ownBlock = some g ∨ g = W.heap.size + 1) → g < w'.heap.size → wpList P ops Q rest (a.put o.dst (.slice (some ⟨g, 0, none⟩) (n + 1) cap)) w') :
    wpList P ops Q (o :: rest) a (W.alloc (.cells #[u] e)) := by
  obtain ⟨i, hinf, hz, hz1, hz2⟩ := info_split hi
  refine wpList_append_lies (W.alloc (.cells #[u] e)) hgd s x t ho base e i z 1 bytes ht hinf hz hz1 hz2 hzs (by decide) v n xs hs (hown.alloc _) ⟨W.heap.size, 0, none⟩ 1 1 [u] hx rfl ?_ (fun y hy => by rw [List.mem_singleton.1 hy]; exact h1) (by decide) ?_ ?_ ?_ (W.heap.size + 1) (by rw [World.size_alloc]) ?_
  · intro j y hy
    exact World.news_of_block (heap_alloc_new W (.cells #[u] e)) j y hy
  · unfold maxLen; omega
  · have : (n + 1) * bytes ≤ 1000001 * 64 := Nat.mul_le_mul (by omega) hb
    omega
  · rw [World.size_alloc]; omega
  · intro g cap w' h2 h3 h4 h5
    exact h g cap w' h2 (grow_alloc h3) h4 h5
theorem wpList_app1H {P : Program} {ops : Array Oper} {rest : List Oper} {o : Oper} {a : Act} {Q : Exit → Act → World → Prop} {W : World} {u : Value} {e : TypeId} (H : Nat) (hH : W.heap.size = H) (hgd : o.guard = none) (s x : Operand) (t : TypeId)
    (ho : o.op = .call { callee := .builtin .append, args := #[s, x], argTypes := #[t, t] }) (z : Value) (bytes : Nat) (ht : P.underlying t = some (.slice e)) (hi : (P.info? e).map (fun i => (i.zero, i.size, i.bytes)) = some (some z, 1, bytes)) (hzs : z.cells.size = 1)
    (base n : Nat) (v : Value) (xs : List Value) (hs : a.eval s = v) (hx : a.eval x = .slice (some ⟨H, 0, none⟩) 1 1) (hown : W.ownsRow base e 1 v n xs) (h1 : u.oneCell' = true) (hn : n ≤ 1000000) (hb : bytes ≤ 64) (hbase : base ≤ W.heap.size)
    (h : ∀ g cap w', w'.ownsRow base e 1 (.slice (some ⟨g, 0, none⟩) (n + 1) cap) (n + 1) (xs ++ [u]) → W.grownBy w' v.ownBlock → (v.ownBlock = some g ∨ g = H + 1) → g < w'.heap.size → wpList P ops Q rest (a.put o.dst (.slice (some ⟨g, 0, none⟩) (n + 1) cap)) w') :
    wpList P ops Q (o :: rest) a (W.alloc (.cells #[u] e)) := by
  subst hH
  exact wpList_app1 hgd s x t ho z bytes ht hi hzs base n v xs hs hx hown h1 hn hb hbase h
/-- Numbers as values. -/
def nI (x : Nat) : Value := .int .i64 (x : Int)
theorem own_get {W : World} {B e n : Nat} {v : Value} {xs : List Value} (h : W.ownsRow B e 1 v n xs) {j : Nat} {x : Value} (hj : xs[j]? = some x) : ∃ g cap, v = .slice (some ⟨g, 0, none⟩) n cap ∧ B ≤ g ∧ g < W.heap.size ∧ W.cell? ⟨g, j, none⟩ = some x ∧ W.frozen? ⟨g, j, none⟩ = false := by
  have hl := h.1
  have hj2 := (List.getElem?_eq_some_iff.1 hj).1
  obtain ⟨g, cap, rfl, hb, hg⟩ := h.form (by omega)
  exact ⟨g, cap, rfl, hb, hg, (h.cellAt j (by omega)).trans hj, h.frozenAt j⟩
theorem own_slice {W : World} {B e n : Nat} {v : Value} {xs : List Value} (h : W.ownsRow B e 1 v n xs) : ∃ A cap, v = .slice A n cap := by
  rcases h.2 with ⟨rfl, rfl⟩ | ⟨g, cap, cur, rfl, _⟩
  · exact ⟨_, _, rfl⟩
  · exact ⟨_, _, rfl⟩
/-- What is written lies behind a block: what stands ahead of it is as it was. -/
theorem below_grown {w W W' : World} {row : Option Nat} (h : Below w.heap.size w W) (hg : W.grownBy W' row) (hr : ∀ k, row = some k → w.heap.size ≤ k) : Below w.heap.size w W' := h.grown hg h.size (fun j hj => hr j hj)
end Go.Proofs.YtppggnmlbcdegabGreat.U

namespace Go.Proofs.YtppggnmlbcdegabGreat.N
open Go.RowKit Go.Maps
open Go.Proofs.YtppggnmlbcdegabGreat.T
/-- A rule that lies in memory of its own: it, and its pattern's list. -/
abbrev Rg : Type := (ByteArray × List Nd) × Value
def rgV (x : Rg) : List Value := [.string x.1.1, x.2]
def rgc (l : List Rg) : List Value := l.flatMap rgV
theorem rgc_app (a b : List Rg) : rgc (a ++ b) = rgc a ++ rgc b := List.flatMap_append
theorem rgc_one (x : Rg) : rgc [x] = rgV x := by unfold rgc; rw [List.flatMap_cons, List.flatMap_nil, List.append_nil]
theorem rgc_get (l : List Rg) : ∀ (k j : Nat) (x : Rg) (u : Value), l[k]? = some x → (rgV x)[j]? = some u → (rgc l)[k * 2 + j]? = some u := by
  induction l with
  | nil => intro k j x u h; cases h
  | cons a l ih =>
    intro k j x u h hu
    have e : rgc (a :: l) = rgV a ++ rgc l := by unfold rgc; rw [List.flatMap_cons]
    rw [e]
    have hj : j < 2 := (List.getElem?_eq_some_iff.1 hu).1
    cases k with
    | zero =>
      cases h
      rw [Nat.zero_mul, Nat.zero_add, List.getElem?_append_left (by show j < 2; exact hj)]
      exact hu
    | succ k =>
      have h2 : l[k]? = some x := by simpa using h
      have e2 : (rgV a).length = 2 := rfl
      rw [List.getElem?_append_right (by rw [e2]; omega), e2, show (k + 1) * 2 + j - 2 = k * 2 + j from by omega]
      exact ih k j x u h2 hu
/-- A grammar that lies in memory of its own, rule by rule. -/
structure OG (W : World) (B : Nat) (v : Value) (ov : List Rg) : Prop where
  o : W.ownsRow B 44 2 v ov.length (rgc ov)
  e : ∀ x ∈ ov, W.ownsRow B 53 7 x.2 x.1.2.length (ndc x.1.2)
  ap : ov.Pairwise fun x y => ∀ k, x.2.ownBlock = some k → y.2.ownBlock ≠ some k
theorem OG.nil (W : World) (B : Nat) : OG W B (.slice none 0 0) [] := ⟨World.ownsRow_nil _ _ _ _, (fun x hx => by cases hx), List.Pairwise.nil⟩
theorem OG.later {W W' : World} {B : Nat} {v : Value} {ov : List Rg} (h : OG W B v ov) (hb : Below W.heap.size W W') : OG W' B v ov :=
  ⟨T.own_below h.o hb, fun x hx => T.own_below (h.e x hx) hb, h.ap⟩
theorem OG.same {W W' : World} {B : Nat} {v : Value} {ov : List Rg} (h : OG W B v ov) (hk : ∀ k, (v.ownBlock = some k ∨ ∃ x ∈ ov, x.2.ownBlock = some k) → W'.heap[k]? = W.heap[k]?) : OG W' B v ov :=
  ⟨own_same h.o fun k q => hk k (.inl q), fun x hx => own_same (h.e x hx) fun k q => hk k (.inr ⟨x, hx, q⟩), h.ap⟩
theorem OG.ne {W : World} {B i : Nat} {v a : Value} {ov : List Rg} (h : OG W B v ov) (hx : GX W i a) {k : Nat} (hk : v.ownBlock = some k ∨ ∃ x ∈ ov, x.2.ownBlock = some k) : k ≠ i := by
  rcases hk with q | ⟨x, hx2, q⟩
  · exact hx.ne h.o (by decide) q
  · exact hx.ne (h.e x hx2) (by decide) q
theorem OG.push {W wA w5 : World} {B : Nat} {v u v2 : Value} {ov : List Rg} {nm : ByteArray} {L : List Nd} (h : OG W B v ov) (hB : B ≤ W.heap.size) (hA : Below W.heap.size W wA) (hl : wA.ownsRow W.heap.size 53 7 v2 L.length (ndc L)) (hg : (wA.alloc (.cells #[.string nm, v2] 44)).grownBy w5 v.ownBlock) (ho : w5.ownsRow B 44 2 u (ov.length + 1) (rgc ov ++ [.string nm, v2])) : OG w5 B u (ov ++ [((nm, L), v2)]) := by
  have h2 : OG (wA.alloc (.cells #[.string nm, v2] 44)) B v ov := (h.later hA).later (below_box wA _)
  have hl2 : (wA.alloc (.cells #[.string nm, v2] 44)).ownsRow W.heap.size 53 7 v2 L.length (ndc L) := T.own_below hl (below_box wA _)
  have key : ∀ (b : Nat) (y : Value) (n : Nat) (zs : List Value), (wA.alloc (.cells #[.string nm, v2] 44)).ownsRow b 53 7 y n zs → w5.ownsRow b 53 7 y n zs := fun b y n zs hy =>
    own_same hy fun k hk => hg.block k (World.ownsRow.lt hy k hk).2 (fun q => own_apart h2.o hy (by decide) q.symm hk)
  refine ⟨?_, fun y hy => ?_, ?_⟩
  · rw [List.length_append, rgc_app, rgc_one]
    exact ho
  · rcases List.mem_append.1 hy with q | q
    · exact key _ _ _ _ (h2.e y q)
    · rw [List.mem_singleton.1 q]
      exact T.own_base (key _ _ _ _ hl2) hB
  · refine List.pairwise_append.2 ⟨h.ap, List.pairwise_singleton _ _, fun x hx y hy k hk q => ?_⟩
    rw [List.mem_singleton.1 hy] at q
    have q1 := ((h.e x hx).lt k hk).2
    have q2 := (hl.lt k q).1
    omega
theorem OG.cell {W : World} {B g cap n : Nat} {ov : List Rg} (h : OG W B (.slice (some ⟨g, 0, none⟩) n cap) ov) {k : Nat} {x : Rg} (hk : ov[k]? = some x) : W.cell? ⟨g, k * 2, none⟩ = some (.string x.1.1) ∧ W.cell? ⟨g, k * 2 + 1, none⟩ = some x.2 := by
  have hc := h.o.cells (g := g) rfl
  have q0 := hc (k * 2 + 0) _ (rgc_get ov k 0 x _ hk rfl)
  have q1 := hc (k * 2 + 1) _ (rgc_get ov k 1 x _ hk rfl)
  rw [Addr.add_lit, Nat.zero_add] at q0 q1
  exact ⟨q0, q1⟩
theorem own_sl {W : World} {B e s n : Nat} {v : Value} {xs : List Value} (h : W.ownsRow B e s v n xs) : ∃ A cap, v = .slice A n cap := by
  rcases h.2 with ⟨rfl, rfl⟩ | ⟨g, cap, cur, rfl, _⟩
  · exact ⟨_, _, rfl⟩
  · exact ⟨_, _, rfl⟩
theorem own_rd {W : World} {B : Nat} {v : Value} {L : List Nd} (h : W.ownsRow B 53 7 v L.length (ndc L)) : ∃ A c, v = .slice A L.length c ∧ RdN W A L := by
  obtain ⟨A, c, rfl⟩ := own_sl h
  refine ⟨A, c, rfl, fun q => ?_⟩
  obtain ⟨g, cap, e, _⟩ := h.form (by cases L with | nil => exact absurd rfl q | cons a l => exact Nat.succ_pos _)
  obtain ⟨rfl, rfl⟩ : A = some ⟨g, 0, none⟩ ∧ c = cap := by injection e with e1 e2 e3; exact ⟨e1, e3⟩
  exact ⟨g, 0, rfl, (h.lt g rfl).2, own_ndl (xs := []) (by rw [List.append_nil]; exact h)⟩
theorem OG.rd {W : World} {B : Nat} {v : Value} {ov : List Rg} {gs : GL} (h : OG W B v ov) (hm : ov.map (·.1) = gs) : GrR W v gs := by
  have hl : ov.length = gs.length := by rw [← hm, List.length_map]
  have ho := h.o
  obtain ⟨A, c, rfl⟩ := own_sl ho
  refine ⟨A, c, by rw [hl], fun k r hr => ?_⟩
  have hk : k < gs.length := (List.getElem?_eq_some_iff.1 hr).1
  obtain ⟨g, cap, e, _⟩ := ho.form (by omega)
  obtain ⟨rfl, rfl⟩ : A = some ⟨g, 0, none⟩ ∧ c = cap := by injection e with e1 e2 e3; exact ⟨e1, e3⟩
  rw [← hm, List.getElem?_map] at hr
  cases hx : ov[k]? with
  | none => rw [hx] at hr; cases hr
  | some x =>
    rw [hx] at hr
    obtain rfl : x.1 = r := by simpa using hr
    obtain ⟨q0, q1⟩ := h.cell hx
    obtain ⟨A2, c2, e2, r2⟩ := own_rd (h.e x (List.mem_of_getElem? hx))
    exact ⟨g, 0, A2, c2, rfl, (h.o.lt g rfl).2, by rw [Nat.zero_add]; exact q0, by rw [Nat.zero_add, q1, e2], r2⟩
end Go.Proofs.YtppggnmlbcdegabGreat.N

namespace Go.Proofs.YtppggnmlbcdegabGreat.N
open Go.RowKit Go.Maps
open Go.Proofs.YtppggnmlbcdegabGreat.T
/-- What the program makes of a rule when a name changes: by the name alone. -/
def rnR (a b : ByteArray) (g : ByteArray × List Nd) : ByteArray × List Nd := (rnB a b g.1, g.2.map (reN a b))
/-- Where all names differ, it is the rule of that number alone whose name changes. -/
theorem rnR_reG {gs : GL} {r : Nat} {a b : ByteArray} {g0 : ByteArray × List Nd} (hd : Dn gs) (hr : gs[r]? = some g0) (ha : g0.1 = a) : gs.map (rnR a b) = reG gs r a b := by
  refine List.ext_getElem? fun k => ?_
  rw [reG_get, List.getElem?_map]
  cases hk : gs[k]? with
  | none => rfl
  | some g =>
    simp only [Option.map_some]
    unfold rnR rnB
    have e : g.1 = a ↔ k = r := ⟨fun q => hd.d k r g g0 hk hr (by rw [q, ha]), fun q => by rw [q, hr] at hk; cases hk; exact ha⟩
    by_cases q : k = r
    · rw [if_pos q, if_pos (e.2 q)]
    · rw [if_neg q, if_neg (fun z => q (e.1 z))]
/-- What Rename answers. -/
def rnE (gs : GL) (r : Int) (s : ByteArray) : Int := if lkR gs r ≠ 0 then lkR gs r else if nmB s = false then 6 else if fdN gs s ≥ 0 ∧ fdN gs s ≠ r then 80 else 0
def rnG (gs : GL) (r : Int) (s : ByteArray) : GL := if rnE gs r s = 0 then reG gs r.toNat ((gs[r.toNat]?).getD (⟨#[]⟩, [])).1 s else []
theorem rnE_bad {gs : GL} {r : Int} {s : ByteArray} (h : lkR gs r ≠ 0) : rnE gs r s = lkR gs r ∧ rnG gs r s = [] := by
  have h1 : rnE gs r s = lkR gs r := by unfold rnE; rw [if_pos h]
  exact ⟨h1, by unfold rnG; rw [h1, if_neg h]⟩
theorem rnE_name {gs : GL} {r : Int} {s : ByteArray} (h : lkR gs r = 0) (hn : nmB s = false) : rnE gs r s = 6 ∧ rnG gs r s = [] := by
  have h1 : rnE gs r s = 6 := by unfold rnE; rw [if_neg (fun q => q h), if_pos hn]
  exact ⟨h1, by unfold rnG; rw [h1]; rfl⟩
theorem rnE_twice {gs : GL} {r : Int} {s : ByteArray} (h : lkR gs r = 0) (hn : nmB s = true) (h0 : fdN gs s ≥ 0) (hr : fdN gs s ≠ r) : rnE gs r s = 80 ∧ rnG gs r s = [] := by
  have h1 : rnE gs r s = 80 := by unfold rnE; rw [if_neg (fun q => q h), if_neg (by rw [hn]; exact Bool.noConfusion), if_pos ⟨h0, hr⟩]
  exact ⟨h1, by unfold rnG; rw [h1]; rfl⟩
end Go.Proofs.YtppggnmlbcdegabGreat.N

namespace Go.Proofs.YtppggnmlbcdegabGreat.N
open Go.RowKit Go.Maps
open Go.Proofs.YtppggnmlbcdegabGreat.T
theorem flat_set {α : Type} (f : α → List Value) (m i : Nat) (hm : ∀ x, (f x).length = m) (hi : i < m) (y : α) (u : Value) : ∀ (l : List α) (k : Nat) (x : α), l[k]? = some x → f y = (f x).set i u → (l.set k y).flatMap f = (l.flatMap f).set (k * m + i) u := by
  intro l
  induction l with
  | nil => intro k x h _; cases h
  | cons a l ih =>
    intro k x h hy
    cases k with
    | zero =>
      cases h
      rw [List.set_cons_zero, List.flatMap_cons, List.flatMap_cons, Nat.zero_mul, Nat.zero_add, List.set_append_left _ _ (by rw [hm]; exact hi), hy]
    | succ k =>
      have h2 : l[k]? = some x := by simpa using h
      have e : (k + 1) * m + i = m + (k * m + i) := by rw [Nat.add_mul]; omega
      rw [List.set_cons_succ, List.flatMap_cons, List.flatMap_cons, ih k x h2 hy, e, List.set_append_right _ _ (by rw [hm]; omega), hm, Nat.add_sub_cancel_left]
theorem rgc_name {ov : List Rg} {k : Nat} {x : Rg} (s : ByteArray) (h : ov[k]? = some x) : rgc (ov.set k ((s, x.1.2), x.2)) = (rgc ov).set (k * 2) (.string s) := by
  have := flat_set rgV 2 0 (fun _ => rfl) (by omega) ((s, x.1.2), x.2) (.string s) ov k x h rfl
  exact this
theorem rgc_same {ov : List Rg} {k : Nat} {x : Rg} (L : List Nd) (h : ov[k]? = some x) : rgc (ov.set k ((x.1.1, L), x.2)) = rgc ov := by
  have := flat_set rgV 2 0 (fun _ => rfl) (by omega) ((x.1.1, L), x.2) (.string x.1.1) ov k x h rfl
  have e := rgc_get ov k 0 x _ h rfl
  unfold rgc at e ⊢
  rw [this]
  refine List.ext_getElem? fun j => ?_
  rw [List.getElem?_set]
  split
  · rename_i q
    subst q
    rw [if_pos (List.getElem?_eq_some_iff.1 e).1, e]
  · rfl
theorem ndc_text {L : List Nd} {j : Nat} {n : Nd} (s : ByteArray) (h : L[j]? = some n) : ndc (L.set j { n with tx := s }) = (ndc L).set (j * 7 + 2) (.string s) :=
  flat_set ndV 7 2 (fun _ => rfl) (by omega) { n with tx := s } (.string s) L j n h rfl
theorem pair_set {ov : List Rg} {k : Nat} {x y : Rg} (h : ov.Pairwise fun x y => ∀ k, x.2.ownBlock = some k → y.2.ownBlock ≠ some k) (hx : ov[k]? = some x) (hy : y.2 = x.2) : (ov.set k y).Pairwise fun x y => ∀ k, x.2.ownBlock = some k → y.2.ownBlock ≠ some k := by
  have e : (ov.set k y).map (·.2) = ov.map (·.2) := by
    refine List.ext_getElem? fun j => ?_
    rw [List.getElem?_map, List.getElem?_map, List.getElem?_set]
    split
    · rename_i q
      subst q
      rw [if_pos (List.getElem?_eq_some_iff.1 hx).1, hx, Option.map_some, Option.map_some, hy]
    · rfl
  have h2 : (ov.map (·.2)).Pairwise fun (u v : Value) => ∀ k, u.ownBlock = some k → v.ownBlock ≠ some k := List.pairwise_map.2 h
  rw [← e] at h2
  exact List.pairwise_map.1 h2
theorem mem_set {ov : List Rg} {k : Nat} {y z : Rg} (h : z ∈ ov.set k y) : z = y ∨ ∃ j, j ≠ k ∧ ov[j]? = some z := by
  obtain ⟨j, hj⟩ := List.mem_iff_getElem?.1 h
  rw [List.getElem?_set] at hj
  split at hj
  · split at hj
    · cases hj; exact .inl rfl
    · cases hj
  · rename_i q
    exact .inr ⟨j, fun e => q e.symm, hj⟩
/-- A rule's name is written. -/
theorem OG.name {W : World} {B g n cap : Nat} {ov : List Rg} {k : Nat} {x : Rg} (h : OG W B (.slice (some ⟨g, 0, none⟩) n cap) ov) (hn : n = ov.length) (hx : ov[k]? = some x) (s : ByteArray) : OG (W.setCell ⟨g, k * 2, none⟩ (.string s)) B (.slice (some ⟨g, 0, none⟩) n cap) (ov.set k ((s, x.1.2), x.2)) := by
  subst hn
  have hot : ∀ q, q ≠ g → (W.setCell ⟨g, k * 2, none⟩ (.string s)).heap[q]? = W.heap[q]? := fun q hq => Below.heap_setCell _ _ _ _ hq
  have he : ∀ z ∈ ov, (W.setCell ⟨g, k * 2, none⟩ (.string s)).ownsRow B 53 7 z.2 z.1.2.length (ndc z.1.2) := fun z hz => own_same (h.e z hz) fun q hq => hot q fun e => own_apart (h.e z hz) h.o (by decide) hq (by rw [e]; rfl)
  refine ⟨?_, fun z hz => ?_, pair_set h.ap hx rfl⟩
  · rw [List.length_set, rgc_name s hx]
    exact (h.o.stored (k * 2) (.string s)).1
  · rcases mem_set hz with rfl | ⟨j, _, hj⟩
    · exact he x (List.mem_of_getElem? hx)
    · exact he z (List.mem_of_getElem? hj)
/-- A node's text is written. -/
theorem OG.text {W : World} {B : Nat} {v : Value} {ov : List Rg} {k j g2 l2 c2 : Nat} {x : Rg} {nd : Nd} (h : OG W B v ov) (hx : ov[k]? = some x) (h2 : x.2 = .slice (some ⟨g2, 0, none⟩) l2 c2) (hl : l2 = x.1.2.length) (hj : x.1.2[j]? = some nd) (s : ByteArray) : OG (W.setCell ⟨g2, j * 7 + 2, none⟩ (.string s)) B v (ov.set k ((x.1.1, x.1.2.set j { nd with tx := s }), x.2)) := by
  subst hl
  have hot : ∀ q, q ≠ g2 → (W.setCell ⟨g2, j * 7 + 2, none⟩ (.string s)).heap[q]? = W.heap[q]? := fun q hq => Below.heap_setCell _ _ _ _ hq
  have hxo := h.e x (List.mem_of_getElem? hx)
  have hxb : x.2.ownBlock = some g2 := by rw [h2]; rfl
  refine ⟨?_, fun z hz => ?_, pair_set h.ap hx rfl⟩
  · rw [List.length_set, rgc_same _ hx]
    exact own_same h.o fun q hq => hot q fun e => own_apart h.o hxo (by decide) hq (by rw [e]; exact hxb)
  · rcases mem_set hz with rfl | ⟨i, hi, hz2⟩
    · show (W.setCell ⟨g2, j * 7 + 2, none⟩ (.string s)).ownsRow B 53 7 x.2 (x.1.2.set j { nd with tx := s }).length (ndc (x.1.2.set j { nd with tx := s }))
      rw [List.length_set, ndc_text s hj, h2]
      rw [h2] at hxo
      exact (hxo.stored (j * 7 + 2) (.string s)).1
    · have hzo := h.e z (List.mem_of_getElem? hz2)
      refine own_same hzo fun q hq => hot q fun e => ?_
      subst e
      obtain ⟨a1, a2⟩ := List.getElem?_eq_some_iff.1 hx
      obtain ⟨b1, b2⟩ := List.getElem?_eq_some_iff.1 hz2
      rcases Nat.lt_or_gt_of_ne hi with q1 | q1
      · have := List.pairwise_iff_getElem.1 h.ap i k b1 a1 q1
        rw [a2, b2] at this
        exact this q hq hxb
      · have := List.pairwise_iff_getElem.1 h.ap k i a1 b1 q1
        rw [a2, b2] at this
        exact this q hxb hq
end Go.Proofs.YtppggnmlbcdegabGreat.N

namespace Go.Proofs.YtppggnmlbcdegabGreat.N
open Go.RowKit Go.Maps
open Go.Proofs.YtppggnmlbcdegabGreat.T
theorem ret_gx2 {fn : Func} {R : Ending → World → Prop} {act : Act} {W : World} {k : Nat} {a x : Value} (hF : fn.results = #[.cell 6 24, .tmp 7]) (hd : act.defers = []) (h6 : act.tmps.getD 6 undef = .pointer (some ⟨k, 0, none⟩)) (h7 : act.tmps.getD 7 undef = x) (hT : GX W k a) (hR : R (.returned (.tuple #[.agg #[a], x])) W) : bodyPost Tryz.prog fn R .ret act W := by
  have c0 := hT.cl
  refine bodyPost_ret (v := .tuple #[.agg #[a], x]) ?_ hd hR
  simp only [Array.getD_eq_getD_getElem?] at h6 h7
  simp [results, hF, go_sem, h6, h7, c0]
/-- While a name is changed: the grammar's box and the answer's. -/
structure RnS (w wr : World) (a : Value) : Prop where
  b : Below w.heap.size w wr
  x : GX wr w.heap.size a
  y : GX wr (w.heap.size + 1) (.slice none 0 0)
theorem RnS.later {w wr W' : World} {a : Value} (h : RnS w wr a) (hb : Below wr.heap.size wr W') : RnS w W' a := ⟨h.b.trans (hb.mono h.b.size), h.x.below hb, h.y.below hb⟩
theorem RnS.mk2 (w : World) (a : Value) : RnS w ((w.alloc (.cells #[a] 24)).alloc (.cells #[.slice none 0 0] 24)) a :=
  ⟨((Below.refl _ _).alloc (Nat.le_refl _) _).alloc (by rw [World.size_alloc]; omega) _, (GX.mk (heap_alloc_new w _)).below (below_box _ _), ⟨by have h := heap_alloc_new (w.alloc (.cells #[a] 24)) (.cells #[.slice none 0 0] 24); rw [World.size_alloc] at h; exact h⟩⟩
/-- What Rename hands back: a grammar of its own and a code. -/
def RnA (w w' : World) (e : Ending) (gs : GL) (r : Int) (s : ByteArray) : Prop := ∃ v ov, e = .returned (.tuple #[.agg #[v], .int .i64 (rnE gs r s)]) ∧ ov.map (·.1) = rnG gs r s ∧ OG w' w.heap.size v ov
theorem RnA.none {w w' : World} {gs : GL} {r : Int} {s : ByteArray} {c : Int} (h : rnE gs r s = c ∧ rnG gs r s = []) : RnA w w' (.returned (.tuple #[.agg #[.slice none 0 0], .int .i64 c])) gs r s := ⟨_, [], by rw [h.1], by rw [h.2]; rfl, OG.nil _ _⟩
end Go.Proofs.YtppggnmlbcdegabGreat.N

namespace Go.Proofs.YtppggnmlbcdegabGreat.N
open Go.RowKit Go.Maps
open Go.Proofs.YtppggnmlbcdegabGreat.T
/-- Seven cells of a row that the call owns are written anew. -/
theorem stored7 {W : World} {B g n cap : Nat} {xs : List Value} (h : W.ownsRow B 53 7 (.slice (some ⟨g, 0, none⟩) n cap) n xs) (o : Nat) (a0 a1 a2 a3 a4 a5 a6 : Value) :
    ∃ ys, (((((((W.setCell ⟨g, o, none⟩ a0).setCell ⟨g, o + 1, none⟩ a1).setCell ⟨g, o + 2, none⟩ a2).setCell ⟨g, o + 3, none⟩ a3).setCell ⟨g, o + 4, none⟩ a4).setCell ⟨g, o + 5, none⟩ a5).setCell ⟨g, o + 6, none⟩ a6).ownsRow B 53 7 (.slice (some ⟨g, 0, none⟩) n cap) n ys ∧
      W.grownBy (((((((W.setCell ⟨g, o, none⟩ a0).setCell ⟨g, o + 1, none⟩ a1).setCell ⟨g, o + 2, none⟩ a2).setCell ⟨g, o + 3, none⟩ a3).setCell ⟨g, o + 4, none⟩ a4).setCell ⟨g, o + 5, none⟩ a5).setCell ⟨g, o + 6, none⟩ a6) (some g) := by
  obtain ⟨s0, g0⟩ := h.stored o a0
  obtain ⟨s1, g1⟩ := s0.stored (o + 1) a1
  obtain ⟨s2, g2⟩ := s1.stored (o + 2) a2
  obtain ⟨s3, g3⟩ := s2.stored (o + 3) a3
  obtain ⟨s4, g4⟩ := s3.stored (o + 4) a4
  obtain ⟨s5, g5⟩ := s4.stored (o + 5) a5
  obtain ⟨s6, g6⟩ := s5.stored (o + 6) a6
  exact ⟨_, s6, ((((((g0.trans g1).trans g2).trans g3).trans g4).trans g5).trans g6)⟩
set_option maxRecDepth 100000 in
set_option maxHeartbeats 16000000 in
/-- SpoilPattern: only the row itself is written. -/
theorem spoilP_any (mk : Int) (v : Value) (n B : Nat) (xs : List Value) (w : World) (h : w.ownsRow B 53 7 v n xs) (hB : B ≤ w.heap.size) (hn : n ≤ 20000000) :
    Calls Tryz.prog 26 #[v, .int .i64 mk] w fun e w' => e = .returned (.tuple #[]) ∧ w.grownBy w' v.ownBlock := by
  obtain ⟨i0, hinf, hz0, hz1, hz2⟩ := info_parts Tryz.info43
  obtain ⟨A, c, rfl⟩ := own_sl h
  have HA := (show Hid (∃ ys, w.ownsRow B 53 7 (.slice A n c) n ys) from ⟨xs, h⟩)
  have HX := (show Hid (0 < n → ∃ g, A = some ⟨g, 0, none⟩) from fun h0 => by
    obtain ⟨g, cap, e, _⟩ := h.form h0
    cases e
    exact ⟨g, rfl⟩)
  clear h
  go_enter Tryz.func26, Tryz.ntmps26
  go_wp2_with fail
  go_loopw [4] (fun t wr => ∃ k : Nat, k ≤ n ∧ t = .int .i64 k ∧ Hid (∃ ys, wr.ownsRow B 53 7 (.slice A n c) n ys) ∧ Hid (w.grownBy wr (Value.slice A n c).ownBlock)) (fun t _ => n - (intOf t).toNat)
  case atStart => exact ⟨0, by omega, by go_num, HA, World.grownBy.refl _ _⟩
  case round =>
    obtain ⟨k, hk, rfl, HO, HW⟩ := hrel
    clear HA
    by_cases hlt : k < n
    · obtain ⟨g, rfl⟩ := HX.out (by omega)
      obtain ⟨ys, ho⟩ := HO.out
      have hyl : ys.length = n * 7 := ho.1
      have key : ∀ i, i < 7 → ∃ y, wr.cell? ⟨g, k * 7 + i, none⟩ = some y := fun i hi => by
        have hcl := ho.cells (g := g) rfl (k * 7 + i) _ (List.getElem?_eq_getElem (by omega))
        rw [Addr.add_lit, Nat.zero_add] at hcl
        exact ⟨_, hcl⟩
      obtain ⟨y0, c0⟩ := key 0 (by omega)
      obtain ⟨y1, c1⟩ := key 1 (by omega)
      obtain ⟨y2, c2⟩ := key 2 (by omega)
      obtain ⟨y3, c3⟩ := key 3 (by omega)
      obtain ⟨y4, c4⟩ := key 4 (by omega)
      obtain ⟨y5, c5⟩ := key 5 (by omega)
      obtain ⟨y6, c6⟩ := key 6 (by omega)
      rw [Nat.add_zero] at c0
      have f0 := ho.frozenAt (k * 7)
      have f1 := ho.frozenAt (k * 7 + 1)
      have f2 := ho.frozenAt (k * 7 + 2)
      have f3 := ho.frozenAt (k * 7 + 3)
      have f4 := ho.frozenAt (k * 7 + 4)
      have f5 := ho.frozenAt (k * 7 + 5)
      have f6 := ho.frozenAt (k * 7 + 6)
      obtain ⟨zs, st1, st2⟩ := stored7 ho (k * 7) (.int .i64 mk) (.int .i64 0) (.string ⟨#[]⟩) (.int .u64 0) (.int .u64 0) (.int .u64 0) (.int .u64 0)
      have HO2 := (show Hid (∃ ys, _) from ⟨_, st1⟩)
      have HW2 := (show Hid _ from HW.out.trans st2)
      have z0 : (0 : Int) ≤ (k : Int) := by omega
      have z1 : (k : Int) < (n : Int) := by omega
      clear HO HW st1 st2 ho hyl HX key
      go_wp2
      go_roundw
      case rel => exact ⟨k + 1, by omega, by go_num, HO2, HW2⟩
      case measure => simp [intOf]; omega
    · obtain rfl : k = n := by omega
      obtain ⟨ys, hO1⟩ := HO.out
      have hsz := HW.out.size
      clear HX
      go_wp2_with (at_builtin; refine wpList_append_lies _ rfl _ _ 42 rfl B 53 i0 _ 7 64 Tryz.underlying42 hinf hz0 hz1 hz2 rfl (by decide) _ _ _ rfl (hO1.alloc _) ⟨wr.heap.size, 0, none⟩ 1 1 (ndV (zN mk)) rfl rfl ?c1 ?c2 (by decide) ?c3 ?c4 ?c5 (wr.heap.size + 1) (by simp) ?_)
      case c1 => exact World.news_of_block (cs := #[.int .i64 mk, .int .i64 0, .string ⟨#[]⟩, .int .u64 0, .int .u64 0, .int .u64 0, .int .u64 0]) (t := 53) (fr := (0, 0)) (heap_alloc_new wr _)
      case c2 => intro u hu; exact nd_one _ u hu
      case c3 => unfold maxLen; omega
      case c4 => omega
      case c5 => rw [World.size_alloc]; omega
      intro g3 cap w3 hown hgrow hat hlt3
      have HG := (show Hid _ from HW.out.trans ((World.grownBy_alloc wr (.cells #[.int .i64 mk, .int .i64 0, .string ⟨#[]⟩, .int .u64 0, .int .u64 0, .int .u64 0, .int .u64 0] 53) _).trans hgrow))
      clear hown hgrow hat hlt3 hO1 HO HW
      go_wp2
      go_end0
      exact ⟨rfl, HG.out⟩
end Go.Proofs.YtppggnmlbcdegabGreat.N

namespace Go.Proofs.YtppggnmlbcdegabGreat.N
open Go.RowKit Go.Maps
open Go.Proofs.YtppggnmlbcdegabGreat.T
/-- While a grammar is spoilt: from the rule k on it is as it was. -/
structure SpG (W wr : World) (i : Nat) (u : Value) (ov : List Rg) (k : Nat) : Prop where
  b : Below W.heap.size W wr
  x : GX wr i u
  o : ∃ ys, wr.ownsRow W.heap.size 44 2 u ov.length ys ∧ ∀ (j : Nat) x, k ≤ j → ov[j]? = some x → ys[j * 2 + 1]? = some x.2
  e : ∀ (j : Nat) x, k ≤ j → ov[j]? = some x → wr.ownsRow W.heap.size 53 7 x.2 x.1.2.length (ndc x.1.2)
theorem ap_at {ov : List Rg} (h : ov.Pairwise fun x y => ∀ k, x.2.ownBlock = some k → y.2.ownBlock ≠ some k) {i j : Nat} {x y : Rg} (hi : ov[i]? = some x) (hj : ov[j]? = some y) (hij : i < j) : ∀ k, x.2.ownBlock = some k → y.2.ownBlock ≠ some k := by
  obtain ⟨a1, rfl⟩ := List.getElem?_eq_some_iff.1 hi
  obtain ⟨a2, rfl⟩ := List.getElem?_eq_some_iff.1 hj
  exact List.pairwise_iff_getElem.1 h i j a1 a2 hij
/-- The body of the rule k has been spoilt. -/
theorem SpG.body {W wr w' : World} {i : Nat} {u : Value} {ov : List Rg} {k : Nat} (h : SpG W wr i u ov k) (hp : ov.Pairwise fun x y => ∀ k, x.2.ownBlock = some k → y.2.ownBlock ≠ some k) {x : Rg} (hx : ov[k]? = some x) (hg : wr.grownBy w' x.2.ownBlock) : SpG W w' i u ov (k + 1) := by
  have hxo := h.e k x (Nat.le_refl _) hx
  obtain ⟨ys, ho, hy⟩ := h.o
  refine ⟨h.b.grown hg h.b.size (fun q e => (hxo.lt q e).1), h.x.same (hg.block i h.x.lt (fun e => h.x.ne hxo (by decide) e.symm rfl)), ⟨ys, own_same ho fun q hq => hg.block q (ho.lt q hq).2 (fun e => own_apart ho hxo (by decide) hq e.symm), fun j y hj hy2 => hy j y (by omega) hy2⟩, fun j y hj hy2 => ?_⟩
  have hyo := h.e j y (by omega) hy2
  exact own_same hyo fun q hq => hg.block q (hyo.lt q hq).2 (fun e => ap_at hp hx hy2 (by omega) q e.symm hq)
/-- The rule's own two cells are written. -/
theorem SpG.rule {W wr : World} {i g n c : Nat} {ov : List Rg} {k : Nat} (h : SpG W wr i (.slice (some ⟨g, 0, none⟩) n c) ov (k + 1)) (hn : n = ov.length) (a0 a1 : Value) : SpG W ((wr.setCell ⟨g, k * 2, none⟩ a0).setCell ⟨g, k * 2 + 1, none⟩ a1) i (.slice (some ⟨g, 0, none⟩) n c) ov (k + 1) := by
  subst hn
  obtain ⟨ys, ho, hy⟩ := h.o
  have hlt := ho.lt g rfl
  have hot : ∀ q, q ≠ g → ((wr.setCell ⟨g, k * 2, none⟩ a0).setCell ⟨g, k * 2 + 1, none⟩ a1).heap[q]? = wr.heap[q]? := fun q hq => (Below.heap_setCell _ _ _ _ hq).trans (Below.heap_setCell _ _ _ _ hq)
  refine ⟨(h.b.setCell (p := ⟨g, k * 2, none⟩) hlt.1 _).setCell (p := ⟨g, k * 2 + 1, none⟩) hlt.1 _, h.x.same (hot i fun e => h.x.ne ho (by decide) (j := g) rfl e.symm), ⟨(ys.set (k * 2) a0).set (k * 2 + 1) a1, (((ho.stored (k * 2) a0).1).stored (k * 2 + 1) a1).1, fun j y hj hy2 => ?_⟩, fun j y hj hy2 => ?_⟩
  · rw [List.getElem?_set_ne (by omega), List.getElem?_set_ne (by omega)]
    exact hy j y hj hy2
  · have hyo := h.e j y hj hy2
    exact own_same hyo fun q hq => hot q fun e => own_apart hyo ho (by decide) hq (by rw [e]; rfl)
set_option maxRecDepth 100000 in
set_option maxHeartbeats 16000000 in
/-- SpoilGrammar: only what lies above W is written. -/
theorem spoilG_any (mk : Int) {W w : World} {u : Value} {ov : List Rg} (hb : Below W.heap.size W w) (ho : w.ownsRow W.heap.size 44 2 u ov.length (rgc ov)) (hbd : OG w W.heap.size u ov) (hl : ∀ x ∈ ov, x.1.2.length ≤ 2048) (hn : ov.length ≤ 200) :
    Calls Tryz.prog 9 #[.agg #[u], .int .i64 mk] w fun e w' => e = .returned (.tuple #[]) ∧ Below W.heap.size W w' := by
  have HA := (show Hid (SpG W (w.alloc (.cells #[u] 24)) w.heap.size u ov 0) from ⟨hb.alloc hb.size _, ⟨heap_alloc_new w _⟩, ⟨rgc ov, ho.alloc _, fun j x _ hj => rgc_get ov j 1 x x.2 hj rfl⟩, fun j x _ hj => (hbd.e x (List.mem_of_getElem? hj)).alloc _⟩)
  have HAp := (show Hid (ov.Pairwise fun x y => ∀ k, x.2.ownBlock = some k → y.2.ownBlock ≠ some k) from hbd.ap)
  have HG := (show Hid (∀ k, k < ov.length → ∃ x, ov[k]? = some x ∧ x.1.2.length ≤ 2048) from fun k hk => ⟨_, List.getElem?_eq_getElem hk, hl _ (List.getElem_mem hk)⟩)
  have HX := (show Hid (∀ A c, u = .slice A ov.length c → 0 < ov.length → ∃ g, A = some ⟨g, 0, none⟩) from fun A c e h0 => by
    obtain ⟨g, cap, e2, _⟩ := ho.form h0
    rw [e] at e2
    cases e2
    exact ⟨g, rfl⟩)
  have HS : Hid (∀ (wr : World) v n (L : List Nd), wr.ownsRow W.heap.size 53 7 v n (ndc L) → W.heap.size ≤ wr.heap.size → n ≤ 2048 → Calls Tryz.prog 26 #[v, .int .i64 mk] wr fun e w' => e = .returned (.tuple #[]) ∧ wr.grownBy w' v.ownBlock) := fun wr v n L h1 h2 h3 => spoilP_any mk v n W.heap.size _ wr h1 h2 (by omega)
  obtain ⟨A, c, rfl⟩ := own_sl ho
  have HX2 := (show Hid (0 < ov.length → ∃ g, A = some ⟨g, 0, none⟩) from HX.out A c rfl)
  clear hb ho hbd hl HX
  have q1 := HA.out.x.cl
  go_enter Tryz.func9, Tryz.ntmps9
  go_wp2_with fail
  generalize w.alloc (.cells #[.slice A ov.length c] 24) = w1 at *
  generalize w.heap.size = bx at *
  go_wp2_with fail
  clear q1
  go_loopw [4] (fun t wr => ∃ k : Nat, k ≤ ov.length ∧ t = .int .i64 k ∧ Hid (SpG W wr bx (.slice A ov.length c) ov k)) (fun t _ => ov.length - (intOf t).toNat)
  case atStart => exact ⟨0, by omega, by go_num, HA⟩
  case round =>
    obtain ⟨k, hk, rfl, HW⟩ := hrel
    clear HA
    have q1 := HW.out.x.cl
    by_cases hlt : k < ov.length
    · obtain ⟨x, hx, hxl⟩ := HG.out k hlt
      obtain ⟨g, rfl⟩ := HX2.out (by omega)
      have HC : Hid (∀ _ : Unit, Calls Tryz.prog 26 #[x.2, .int .i64 mk] wr fun e w' => e = .returned (.tuple #[]) ∧ wr.grownBy w' x.2.ownBlock) := fun _ => HS.out wr _ _ _ (HW.out.e k x (Nat.le_refl _) hx) HW.out.b.size hxl
      have y1 : wr.cell? ⟨g, k * 2 + 1, none⟩ = some x.2 := by
        obtain ⟨ys, ho, hy⟩ := HW.out.o
        rw [ho.cellAt (k * 2 + 1) (by omega)]
        exact hy k x (Nat.le_refl _) hx
      have HB2 : Hid (∀ w', wr.grownBy w' x.2.ownBlock → SpG W w' bx (.slice (some ⟨g, 0, none⟩) ov.length c) ov (k + 1)) := fun w' hg => HW.out.body HAp.out hx hg
      have z0 : (0 : Int) ≤ (k : Int) := by omega
      have z1 : (k : Int) < (ov.length : Int) := by omega
      clear HG HX2 HS hx hxl HW
      generalize x.2 = xv at *
      go_wp2_with fail
      refine (HC.out ()).mono ?_
      rintro e w2 ⟨rfl, hg⟩
      have HW2 := (show Hid _ from HB2.out w2 hg)
      clear HC HB2 hg q1 y1
      have q2 := HW2.out.x.cl
      have f0 : w2.frozen? ⟨g, k * 2, none⟩ = false := by obtain ⟨ys, ho, _⟩ := HW2.out.o; exact ho.frozenAt _
      have f1 : w2.frozen? ⟨g, k * 2 + 1, none⟩ = false := by obtain ⟨ys, ho, _⟩ := HW2.out.o; exact ho.frozenAt _
      have y0 : ∃ y, w2.cell? ⟨g, k * 2, none⟩ = some y := by
        obtain ⟨ys, ho, _⟩ := HW2.out.o
        have hyl : ys.length = ov.length * 2 := ho.1
        exact ⟨_, (ho.cellAt (k * 2) (by omega)).trans (List.getElem?_eq_getElem (by omega))⟩
      have y1 : ∃ y, w2.cell? ⟨g, k * 2 + 1, none⟩ = some y := by
        obtain ⟨ys, ho, _⟩ := HW2.out.o
        have hyl : ys.length = ov.length * 2 := ho.1
        exact ⟨_, (ho.cellAt (k * 2 + 1) (by omega)).trans (List.getElem?_eq_getElem (by omega))⟩
      obtain ⟨y0, c0⟩ := y0
      obtain ⟨y1, c1⟩ := y1
      have HW3 := (show Hid _ from HW2.out.rule rfl (.string ⟨#[115, 112, 111, 105, 108, 116]⟩) (.slice none 0 0))
      clear HW2
      go_wp2_with fail
      go_roundw
      case rel => exact ⟨k + 1, by omega, by go_num, HW3⟩
      case measure => simp [intOf]; omega
    · obtain rfl : k = ov.length := by omega
      clear HG HX2 HS
      go_wp2_with fail
      go_end0
      exact ⟨rfl, HW.out.b⟩
end Go.Proofs.YtppggnmlbcdegabGreat.N

namespace Go.Proofs.YtppggnmlbcdegabGreat.T
open Go.RowKit
theorem field_tx (n : Nd) (W : World) : (Instr.field 53 (ndG n) 2).run Tryz.prog W = .ok (.string n.tx) W := by
  simp [go_sem, asAgg, Instr.field, Tryz.isAgg9, Tryz.sizeOf9]
/-- A list of texts in a box. -/
structure TB (W : World) (b : Nat) (v : Value) : Prop where
  heap : W.heap[b]? = some (.cells #[v] 107 (0, 0))
theorem TB.lt {W : World} {b : Nat} {v : Value} (x : TB W b v) : b < W.heap.size := (Array.getElem?_eq_some_iff.1 x.heap).1
theorem TB.c0 {W : World} {b : Nat} {v : Value} (x : TB W b v) : W.cell? ⟨b, 0, none⟩ = some v := by rw [cell_of_row W b 0 _ 107 (0, 0) x.heap]; rfl
theorem TB.fz {W : World} {b : Nat} {v : Value} (x : TB W b v) : W.frozen? ⟨b, 0, none⟩ = false := frozen_of_row W b 0 _ 107 x.heap
theorem TB.same {W W' : World} {b : Nat} {v : Value} (x : TB W b v) (hb : W'.heap[b]? = W.heap[b]?) : TB W' b v := ⟨hb.trans x.heap⟩
theorem TB.set {W : World} {b : Nat} {v : Value} (x : TB W b v) (u : Value) : TB (W.setCell ⟨b, 0, none⟩ u) b u := ⟨by rw [heap_setCell_same W b 0 _ 107 _ x.heap]; rfl⟩

set_option maxRecDepth 100000 in
set_option maxHeartbeats 8000000 in
theorem names1_new (L : List Nd) (p : Pt) (va v : Value) (n : Nd) (l : List ByteArray) (g o cp bp bn B : Nat) (hl : l.length ≤ 2048) (w : World) (hn : L[p.2.1]? = some n) (_hne : bp ≠ bn) (hp : w.cell? ⟨bp, 0, none⟩ = some (.slice (some ⟨g, o, none⟩) L.length cp)) (hc : TB w bn v) (ho : w.ownsRow B 9 1 v l.length (stc l)) (hB : bn < B) (hBw : B ≤ w.heap.size) (hr : NdL w g o L) (_hg : g ≠ bn) (h6 : n.op = 6) (hi : inB n.tx l = false) :
    Calls Tryz.prog 76 #[ptG p, va, .pointer (some ⟨bp, 0, none⟩), .pointer (some ⟨bn, 0, none⟩)] w fun e w' => (∃ u, e = .returned u) ∧ ∃ v', TB w' bn v' ∧ w'.ownsRow B 9 1 v' (l.length + 1) (stc (l ++ [n.tx])) ∧ (∀ b, v'.ownBlock = some b → v.ownBlock = some b ∨ w.heap.size ≤ b) ∧ Kp (fun b => b = bn ∨ v.ownBlock = some b) w w' := by
  have hj : p.2.1 < L.length := by
    by_cases q : p.2.1 < L.length
    · exact q
    · rw [List.getElem?_eq_none (by omega)] at hn; cases hn
  obtain ⟨i0, hinf, hz0, hz1, hz2⟩ := info_parts Tryz.info9
  obtain ⟨e0, e1, e2, e3, e4, e5, e6⟩ := hr p.2.1 n hn
  have hlp := World.block_lt_of_cell? w _ hp
  have hlg := (hr p.2.1 n hn).lt
  have hlc := hc.lt
  simp only at hlp
  have c0 := hc.c0
  have f0 := hc.fz
  have z0 : (0 : Int) ≤ (p.2.1 : Int) := by omega
  have z1 : (p.2.1 : Int) < (L.length : Int) := by omega
  have t6 : (n.op == 6) = true := beq_iff_eq.2 h6
  have HCo : Hid (∀ n w, Calls Tryz.prog 78 #[ndG n] w fun e w' => e = .returned (ndG n) ∧ Below w.heap.size w w') := fun n w => copied_any n w
  have HCn : Hid (∀ W, Below w.heap.size w W → Calls Tryz.prog 77 #[v, .string n.tx] W fun e w' => e = .returned (.bool false) ∧ w' = W) := fun W hW => by
    have h := contains_any v n.tx l (by omega) W (own_rdt (own_below ho hW) rfl)
    rw [hi] at h
    exact h
  obtain ⟨W2, hW2⟩ : ∃ W2, W2 = (w.alloc (.cells #[.int .i64 p.1, .int .i64 p.2.1, .int .i64 p.2.2] 95)).alloc (.cells #[.int .i64 n.op, .int .i64 n.nn, .string n.tx, .int .u64 n.s0, .int .u64 n.s1, .int .u64 n.s2, .int .u64 n.s3] 53) := ⟨_, rfl⟩
  have hB2 : Below w.heap.size w W2 := by rw [hW2]; exact (below_box w _).alloc (below_box w _).size _
  have HB2 := (show Hid (Below w.heap.size w W2) from hB2)
  have hx2 : NB W2 (w.heap.size + 1) 0 n := by
    rw [hW2]
    have h := nb_new (w.alloc (.cells #[.int .i64 p.1, .int .i64 p.2.1, .int .i64 p.2.2] 95)) n
    rw [World.size_alloc] at h
    exact h
  have hs2 : W2.heap.size = w.heap.size + 2 := by rw [hW2]; simp
  have HO := (show Hid (W2.ownsRow B 9 1 v l.length (stc l)) from own_below ho hB2)
  have HT := (show Hid (TB W2 bn v) from hc.same (hB2.block bn hlc))
  have HX := (show Hid (NB W2 (w.heap.size + 1) 0 n) from hx2)
  have HCn2 := (show Hid (∀ _ : Unit, Calls Tryz.prog 77 #[v, .string n.tx] W2 fun e w' => e = .returned (.bool false) ∧ w' = W2) from fun _ => HCn.out W2 hB2)
  have HTw := (show Hid (TB w bn v) from hc)
  have HRw := (show Hid (∀ j, v.ownBlock = some j → j < w.heap.size) from fun j hj => (ho.lt j hj).2)
  clear hr hn hc ho h6 hi hx2 hB2 HCn
  subst hW2
  go_enter Tryz.func76, Tryz.ntmps76
  go_wp2_with fail
  refine (HCn2.out ()).mono ?_
  rintro e w3 ⟨rfl, rfl⟩
  clear HCn2 e0 e1 e2 e3 e4 e5 e6 c0 f0 hp t6
  generalize hW2 : (w.alloc (.cells #[.int .i64 p.1, .int .i64 p.2.1, .int .i64 p.2.2] 95)).alloc (.cells #[.int .i64 n.op, .int .i64 n.nn, .string n.tx, .int .u64 n.s0, .int .u64 n.s1, .int .u64 n.s2, .int .u64 n.s3] 53) = W2 at *
  clear hW2
  have k0 := HT.out.c0
  have f0 := HT.out.fz
  obtain ⟨d0, d1, d2, d3, d4, d5, d6⟩ := HX.out
  simp only [Nat.zero_add] at d0 d1 d2 d3 d4 d5 d6
  have hbn : bn < w.heap.size := hlc
  have hfl := field_tx n
  have HAp := (show Hid (∀ W : World, Below W2.drew.heap.size W2.drew W → ∃ g3 cap w5, (Builtin.append_ #[107, 107] 107 #[v, .slice (some ⟨W.heap.size, 0, none⟩) 1 1]).run Tryz.prog (W.alloc (.cells #[.string n.tx] 9)) = .ok (.slice (some ⟨g3, 0, none⟩) (l.length + 1) cap) w5 ∧ (w5.ownsRow B 9 1 (.slice (some ⟨g3, 0, none⟩) (l.length + 1) cap) (l.length + 1) (stc l ++ [.string n.tx]) ∧ (W.alloc (.cells #[.string n.tx] 9)).grownBy w5 v.ownBlock ∧ (v.ownBlock = some g3 ∨ g3 = W.heap.size + 1) ∧ g3 < w5.heap.size)) from fun W hW =>
    run_append_lies (P := Tryz.prog) (W.alloc (.cells #[.string n.tx] 9)) 107 107 B 9 i0 (.string ⟨#[]⟩) 1 16 Tryz.underlying107 hinf hz0 hz1 hz2 rfl (by decide) v l.length (stc l) ((own_below (own_drew HO.out) hW).alloc _) ⟨W.heap.size, 0, none⟩ 1 1 [.string n.tx] rfl (cell_one_new _ _ _) (by simp [Value.oneCell']) (by decide) (by unfold maxLen; omega) (by omega) (by have q1 := hW.size; have q2 : W2.drew.heap.size = W2.heap.size := rfl; rw [World.size_alloc]; omega) (W.heap.size + 1) (by simp))
  have HRow := (show Hid (∀ j, v.ownBlock = some j → B ≤ j ∧ j < W2.heap.size ∧ j < w.heap.size) from fun j hj => ⟨(HO.out.lt j hj).1, (HO.out.lt j hj).2, HRw.out j hj⟩)
  have HS := (show Hid (∀ W : World, (W.heap[bn]? = W2.heap[bn]?) → (W.heap[w.heap.size + 1]? = W2.heap[w.heap.size + 1]?) → W.cell? ⟨bn, 0, none⟩ = some v ∧ W.frozen? ⟨bn, 0, none⟩ = false ∧ W.cell? ⟨w.heap.size + 1, 0, none⟩ = some (.int .i64 n.op) ∧ W.cell? ⟨w.heap.size + 1, 1, none⟩ = some (.int .i64 n.nn) ∧ W.cell? ⟨w.heap.size + 1, 2, none⟩ = some (.string n.tx) ∧ W.cell? ⟨w.heap.size + 1, 3, none⟩ = some (.int .u64 n.s0) ∧ W.cell? ⟨w.heap.size + 1, 4, none⟩ = some (.int .u64 n.s1) ∧ W.cell? ⟨w.heap.size + 1, 5, none⟩ = some (.int .u64 n.s2) ∧ W.cell? ⟨w.heap.size + 1, 6, none⟩ = some (.int .u64 n.s3)) from fun W q1 q2 => by
    have h1 := HT.out.same q1
    have h2 := HX.out.same q2
    obtain ⟨d0, d1, d2, d3, d4, d5, d6⟩ := h2
    simp only [Nat.zero_add] at d0 d1 d2 d3 d4 d5 d6
    exact ⟨h1.c0, h1.fz, d0, d1, d2, d3, d4, d5, d6⟩)
  have HS2 := (show Hid (∀ W W5 : World, Below W2.drew.heap.size W2.drew W → (W.alloc (.cells #[.string n.tx] 9)).grownBy W5 v.ownBlock → W5.cell? ⟨bn, 0, none⟩ = some v ∧ W5.frozen? ⟨bn, 0, none⟩ = false ∧ W5.cell? ⟨w.heap.size + 1, 0, none⟩ = some (.int .i64 n.op) ∧ W5.cell? ⟨w.heap.size + 1, 1, none⟩ = some (.int .i64 n.nn) ∧ W5.cell? ⟨w.heap.size + 1, 2, none⟩ = some (.string n.tx) ∧ W5.cell? ⟨w.heap.size + 1, 3, none⟩ = some (.int .u64 n.s0) ∧ W5.cell? ⟨w.heap.size + 1, 4, none⟩ = some (.int .u64 n.s1) ∧ W5.cell? ⟨w.heap.size + 1, 5, none⟩ = some (.int .u64 n.s2) ∧ W5.cell? ⟨w.heap.size + 1, 6, none⟩ = some (.int .u64 n.s3)) from fun W W5 hW hg => by
    have q : ∀ b, b = bn ∨ b = w.heap.size + 1 → W5.heap[b]? = W2.heap[b]? := fun b hb => by
      have hb2 : b < W2.heap.size := by omega
      have hbW : b < W.heap.size := Nat.lt_of_lt_of_le hb2 hW.size
      rw [hg.block b (by rw [World.size_alloc]; omega) (fun e => by have := HRow.out b e.symm; omega), (below_box W _).block b hbW]
      exact hW.block b hb2
    exact HS.out W5 (q bn (.inl rfl)) (q _ (.inr rfl)))
  have HS1 := (show Hid (∀ W : World, Below W2.drew.heap.size W2.drew W → W.cell? ⟨bn, 0, none⟩ = some v ∧ W.frozen? ⟨bn, 0, none⟩ = false ∧ W.cell? ⟨w.heap.size + 1, 0, none⟩ = some (.int .i64 n.op) ∧ W.cell? ⟨w.heap.size + 1, 1, none⟩ = some (.int .i64 n.nn) ∧ W.cell? ⟨w.heap.size + 1, 2, none⟩ = some (.string n.tx) ∧ W.cell? ⟨w.heap.size + 1, 3, none⟩ = some (.int .u64 n.s0) ∧ W.cell? ⟨w.heap.size + 1, 4, none⟩ = some (.int .u64 n.s1) ∧ W.cell? ⟨w.heap.size + 1, 5, none⟩ = some (.int .u64 n.s2) ∧ W.cell? ⟨w.heap.size + 1, 6, none⟩ = some (.int .u64 n.s3)) from fun W hW => HS.out W (hW.block bn (by show bn < W2.heap.size; omega)) (hW.block (w.heap.size + 1) (by show w.heap.size + 1 < W2.heap.size; omega)))
  have HS4 := (show Hid (∀ W W5 : World, Below W2.drew.heap.size W2.drew W → (W.alloc (.cells #[.string n.tx] 9)).grownBy W5 v.ownBlock → ∀ b, b < w.heap.size → v.ownBlock ≠ some b → W5.heap[b]? = w.heap[b]?) from fun W W5 hW hg b hb hnb => by
    have hb2 : b < W2.heap.size := by omega
    have hbW : b < W.heap.size := Nat.lt_of_lt_of_le hb2 hW.size
    rw [hg.block b (by rw [World.size_alloc]; omega) (fun e => hnb e.symm), (below_box W _).block b hbW]
    exact (hW.block b hb2).trans (HB2.out.block b hb))
  have HS3 := (show Hid (∀ W : World, Below W2.drew.heap.size W2.drew W → (W.alloc (.cells #[.string n.tx] 9)).cell? ⟨bn, 0, none⟩ = some v) from fun W hW => by
    have h1 : TB W bn v := HT.out.same (hW.block bn (by show bn < W2.heap.size; omega))
    exact (h1.same ((below_box W _).block bn h1.lt)).c0)
  go_wp2_with fail
  go_region_law ((first
      | (refine step_call47 rfl _ (by rfl) _ (by rfl) ?_; refine (HCo.out n _).mono ?_; rintro e wA ⟨rfl, bA⟩; refine ⟨_, rfl, ?_⟩; obtain ⟨kA, fA, a0, a1, a2, a3, a4, a5, a6⟩ := HS1.out _ bA; have kB := HS3.out _ bA)
      | (refine step_append_lies _ (by rfl) _ _ _ (by rfl) B 9 i0 _ 1 16 Tryz.underlying107 hinf hz0 hz1 hz2 rfl (by omega) _ _ (stc l) (by rfl) ((own_below (own_drew HO.out) bA).alloc _) ⟨wA.heap.size, 0, none⟩ 1 1 [.string n.tx] (by rfl) (by rfl) (cell_one_new _ _ _) (by simp [Value.oneCell']) (by omega) (by unfold maxLen; omega) (by omega) (by have q1 := bA.size; have q2 : W2.drew.heap.size = W2.heap.size := rfl; rw [World.size_alloc]; omega) (wA.heap.size + 1) (by simp) ?_; intro g3 cap w5 hown1 hgrow hat hltg; obtain ⟨k5, f5, r0, r1, r2, r3, r4, r5, r6⟩ := HS2.out _ _ bA hgrow)))
  all_goals
    have h4 := HS4.out _ _ bA hgrow
    have hbnv : v.ownBlock ≠ some bn := fun e => by have := (HRow.out bn e).1; omega
    have hT5 : TB w5 bn v := HTw.out.same (h4 bn hlc hbnv)
    have hfin : (∃ v', TB (w5.setCell ⟨bn, 0, none⟩ (.slice (some ⟨g3, 0, none⟩) (l.length + 1) cap)) bn v' ∧ (w5.setCell ⟨bn, 0, none⟩ (.slice (some ⟨g3, 0, none⟩) (l.length + 1) cap)).ownsRow B 9 1 v' (l.length + 1) (stc (l ++ [n.tx])) ∧ (∀ b, v'.ownBlock = some b → v.ownBlock = some b ∨ w.heap.size ≤ b) ∧ Kp (fun b => b = bn ∨ v.ownBlock = some b) w (w5.setCell ⟨bn, 0, none⟩ (.slice (some ⟨g3, 0, none⟩) (l.length + 1) cap))) := by
      have q1 := bA.size
      have q2 : W2.drew.heap.size = W2.heap.size := rfl
      have q3 := HB2.out.size
      refine ⟨_, hT5.set _, ?_, fun b e => ?_, ⟨?_, ?_, ?_, ?_, fun b hb hnb => ?_⟩⟩
      · have h5 := ownsRow_setCell_below hown1 (a := ⟨bn, 0, none⟩) hB (.slice (some ⟨g3, 0, none⟩) (l.length + 1) cap)
        unfold stc
        rw [List.map_append]
        exact h5
      · have e2 : g3 = b := Option.some.inj e
        subst e2
        rcases hat with q | q
        · exact .inl q
        · exact .inr (by omega)
      · exact hgrow.os.trans (bA.os.trans HB2.out.os)
      · exact hgrow.tape.trans (bA.tape.trans HB2.out.tape)
      · exact hgrow.output.trans (bA.output.trans HB2.out.output)
      · have := hgrow.size; rw [World.size_alloc] at this; rw [World.size_setCell]; omega
      · rw [heap_setCell_other _ _ _ _ (fun e => hnb (.inl e))]
        exact h4 b hb (fun e => hnb (.inr e))
    go_end0
    exact ⟨⟨_, rfl⟩, hfin⟩
end Go.Proofs.YtppggnmlbcdegabGreat.T

namespace Go.Proofs.YtppggnmlbcdegabGreat.T
open Go.RowKit
theorem enters49 (args : Array Value) (w : World) : (callFunc 76 args).run Tryz.prog w = .ok (.enter 76 args) w := enters_of Tryz.func76 (by kernel_rfl) rfl args w
set_option maxRecDepth 100000 in
set_option maxHeartbeats 8000000 in
theorem names1_old (L : List Nd) (p : Pt) (va v : Value) (n : Nd) (l : List ByteArray) (g o cp bp bn B : Nat) (hl : l.length ≤ 2048) (w : World) (hn : L[p.2.1]? = some n) (hp : w.cell? ⟨bp, 0, none⟩ = some (.slice (some ⟨g, o, none⟩) L.length cp)) (hc : TB w bn v) (ho : w.ownsRow B 9 1 v l.length (stc l)) (hr : NdL w g o L) (h6 : ¬ (n.op = 6 ∧ inB n.tx l = false)) :
    Calls Tryz.prog 76 #[ptG p, va, .pointer (some ⟨bp, 0, none⟩), .pointer (some ⟨bn, 0, none⟩)] w fun e w' => (∃ u, e = .returned u) ∧ Below w.heap.size w w' := by
  have hj : p.2.1 < L.length := by
    by_cases q : p.2.1 < L.length
    · exact q
    · rw [List.getElem?_eq_none (by omega)] at hn; cases hn
  obtain ⟨e0, e1, e2, e3, e4, e5, e6⟩ := hr p.2.1 n hn
  have hlp := World.block_lt_of_cell? w _ hp
  have hlg := (hr p.2.1 n hn).lt
  have hlc := hc.lt
  simp only at hlp
  have c0 := hc.c0
  have z0 : (0 : Int) ≤ (p.2.1 : Int) := by omega
  have z1 : (p.2.1 : Int) < (L.length : Int) := by omega
  obtain ⟨W2, hW2⟩ : ∃ W2, W2 = (w.alloc (.cells #[.int .i64 p.1, .int .i64 p.2.1, .int .i64 p.2.2] 95)).alloc (.cells #[.int .i64 n.op, .int .i64 n.nn, .string n.tx, .int .u64 n.s0, .int .u64 n.s1, .int .u64 n.s2, .int .u64 n.s3] 53) := ⟨_, rfl⟩
  have hB2 : Below w.heap.size w W2 := by rw [hW2]; exact (below_box w _).alloc (below_box w _).size _
  have HB2 := (show Hid (Below w.heap.size w W2) from hB2)
  by_cases q6 : n.op = 6
  · have t6 : (n.op == 6) = true := beq_iff_eq.2 q6
    have hi : inB n.tx l = true := by
      cases q : inB n.tx l with
      | true => rfl
      | false => exact absurd ⟨q6, q⟩ h6
    have HCn : Hid (∀ _ : Unit, Calls Tryz.prog 77 #[v, .string n.tx] W2 fun e w' => e = .returned (.bool true) ∧ w' = W2) := fun _ => by
      have h := contains_any v n.tx l (by omega) W2 (own_rdt (own_below ho hB2) rfl)
      rw [hi] at h
      exact h
    clear hr hn hc ho h6 q6 hi hB2
    subst hW2
    go_enter Tryz.func76, Tryz.ntmps76
    go_wp2_with fail
    refine (HCn.out ()).mono ?_
    rintro e w3 ⟨rfl, rfl⟩
    clear HCn e0 e1 e2 e3 e4 e5 e6 c0 hp t6
    go_wp2_with fail
    go_end0
    exact ⟨⟨_, rfl⟩, HB2.out⟩
  · have t6 : (n.op == 6) = false := beq_eq_false_iff_ne.2 q6
    clear hr hn hc ho h6 q6 hB2
    subst hW2
    go_enter Tryz.func76, Tryz.ntmps76
    go_wp2_with fail
    go_end0
    exact ⟨⟨_, rfl⟩, HB2.out⟩

structure JM (L : List Nd) (Ap : Option Addr) (cp bp bn Bc B k : Nat) (X : Nat → Prop) (w : World) : Prop where
  far : Bc ≤ bp ∧ Bc ≤ bn ∧ bp < B ∧ bn < B ∧ bp ≠ bn ∧ Bc ≤ B
  s : ∃ v, TB w bn v ∧ (∀ b, X b ↔ b = bn ∨ v.ownBlock = some b) ∧ w.ownsRow B 9 1 v (nmL L k).length (stc (nmL L k))
  p : w.cell? ⟨bp, 0, none⟩ = some (.slice Ap L.length cp)
  r : L ≠ [] → ∃ g o, Ap = some ⟨g, o, none⟩ ∧ g < Bc ∧ g < w.heap.size ∧ NdL w g o L
theorem JM.kept {L : List Nd} {Ap : Option Addr} {cp bp bn Bc B k : Nat} {X : Nat → Prop} {w w' : World} (h : JM L Ap cp bp bn Bc B k X w) (hz : w.heap.size ≤ w'.heap.size) (hb : ∀ b, (b < B ∨ X b) → w'.heap[b]? = w.heap[b]?) : JM L Ap cp bp bn Bc B k X w' := by
  obtain ⟨f1, f2, f3, f4, f5, f6⟩ := h.far
  obtain ⟨v, hs, hx, ho⟩ := h.s
  refine ⟨h.far, ⟨v, hs.same (hb bn (.inl f4)), hx, ho.1, ?_⟩, (World.cell?_of_block (a := ⟨bp, 0, none⟩) (hb bp (.inl f3))).trans h.p, fun hne => ?_⟩
  · rcases ho.2 with q | ⟨g, cap, cur, rfl, r1, r2, rest⟩
    · exact .inl q
    · exact .inr ⟨g, cap, cur, rfl, r1, (hb g (.inr ((hx g).2 (.inr rfl)))).trans r2, rest⟩
  · obtain ⟨g, o, e, q1, q2, q3⟩ := h.r hne
    exact ⟨g, o, e, q1, by omega, q3.same (hb g (.inl (by omega)))⟩
theorem see49 (L : List Nd) (Ap : Option Addr) (cp bp bn Bc B : Nat) (hL : L.length ≤ 2048) : See L 76 #[.pointer (some ⟨bp, 0, none⟩), .pointer (some ⟨bn, 0, none⟩)] Bc B (JM L Ap cp bp bn Bc B) := by
  refine ⟨fun k X w w' h hz hb => h.kept hz hb, fun k X w h b hb => ?_, fun k X w A c h hB hk he hr hA => ?_⟩
  · obtain ⟨v, hs, hx, ho⟩ := h.s
    rcases (hx b).1 hb with rfl | q
    · exact ⟨h.far.2.1, hs.lt⟩
    · have := ho.lt b q; have := h.far.2.2.2.2.2; omega
  · obtain ⟨f1, f2, f3, f4, f5, f6⟩ := h.far
    obtain ⟨v, hs, hx, ho⟩ := h.s
    obtain ⟨g, o, rfl, q1, q2, q3⟩ := h.r (by rintro rfl; simp at hk)
    have hn : L[k]? = some L[k] := List.getElem?_eq_getElem hk
    have hpl : (pt L k).2.1 = k := mk_last _ _ _ _
    have hln := nmL_len L k
    have hrow : ∀ b, v.ownBlock = some b → B ≤ b := fun b q => (ho.lt b q).1
    have hpk : ∀ {W : World}, (∀ b, b < w.heap.size → b < B → b ≠ bn → W.heap[b]? = w.heap[b]?) → W.cell? ⟨bp, 0, none⟩ = some (.slice (some ⟨g, o, none⟩) L.length cp) ∧ NdL W g o L := fun hW =>
      ⟨(World.cell?_of_block (a := ⟨bp, 0, none⟩) (hW bp (World.block_lt_of_cell? w _ h.p) f3 f5)).trans h.p, q3.same (hW g q2 (by omega) (by omega))⟩
    by_cases h6 : L[k].op = 6 ∧ inB L[k].tx (nmL L k) = false
    · have hc := names1_new L (pt L k) (.slice A (arN (opAt L k)) c) v L[k] (nmL L k) g o cp bp bn B (by omega) w (by rw [hpl]; exact hn) f5 h.p hs ho f4 hB q3 (by omega) h6.1 h6.2
      refine hc.mono fun e w' ⟨hu, v', h1, h2, h3, h4⟩ => ⟨hu, fun b => b = bn ∨ v'.ownBlock = some b, ⟨h.far, ⟨v', h1, fun b => Iff.rfl, by rw [nmL_succ hn, if_pos h6, List.length_append]; exact h2⟩, (hpk (fun b b1 b2 b3 => h4.block b b1 (by rintro (q | q); exact b3 q; have := hrow b q; omega))).1, fun _ => ⟨g, o, rfl, q1, Nat.lt_of_lt_of_le q2 h4.size, (hpk (fun b b1 b2 b3 => h4.block b b1 (by rintro (q | q); exact b3 q; have := hrow b q; omega))).2⟩⟩, ⟨h4.os, h4.tape, h4.output, h4.size, fun b hb hnx => h4.block b hb (fun q => hnx ((hx b).2 q))⟩, fun b q => ?_⟩
      rcases q with q | q
      · exact .inl ((hx b).2 (.inl q))
      · rcases h3 b q with r | r
        · exact .inl ((hx b).2 (.inr r))
        · exact .inr r
    · have hc := names1_old L (pt L k) (.slice A (arN (opAt L k)) c) v L[k] (nmL L k) g o cp bp bn B (by omega) w (by rw [hpl]; exact hn) h.p hs ho q3 h6
      refine hc.mono fun e w' ⟨hu, hb⟩ => ⟨hu, X, ⟨h.far, ⟨v, hs.same (hb.block bn hs.lt), hx, by rw [nmL_succ hn, if_neg h6]; exact own_below ho hb⟩, (hpk (fun b b1 _ _ => hb.block b b1)).1, fun _ => ⟨g, o, rfl, q1, Nat.lt_of_lt_of_le q2 hb.size, (hpk (fun b b1 _ _ => hb.block b b1)).2⟩⟩, ⟨hb.os, hb.tape, hb.output, hb.size, fun b hlt _ => hb.block b hlt⟩, fun b q => .inl q⟩
end Go.Proofs.YtppggnmlbcdegabGreat.T

namespace Go.Proofs.YtppggnmlbcdegabGreat.T
open Go.RowKit
set_option maxRecDepth 100000 in
set_option maxHeartbeats 1000000 in
theorem through_long (L : List Nd) (Ap : Option Addr) (cp : Nat) (sv : Value) (hlong : 2048 < L.length) (w : World) :
    Calls Tryz.prog 60 #[.slice Ap L.length cp, sv] w fun e w' => e = .returned (.tuple #[.int .i64 (ck L).1, .int .i64 (ck L).2]) ∧ w' = w := by
  have HE := (show Hid (ck L = (0, 2)) from ck_long hlong)
  have z : (2048 : Int) < (L.length : Int) := by omega
  go_enter Tryz.func60, Tryz.ntmps60
  go_wp2_with fail
  go_ret2
  exact ⟨by rw [HE.out]; rfl, rfl⟩

set_option maxRecDepth 100000 in
set_option maxHeartbeats 4000000 in
theorem names_any (L : List Nd) (Ap : Option Addr) (cp : Nat) (hL : L.length ≤ 140737488355328) (hT : ∀ n ∈ L, n.tx.size ≤ 140737488355328) (w : World) (hp : RdN w Ap L) :
    Calls Tryz.prog 69 #[.slice Ap L.length cp] w fun e w' => NmV w w' L e ∧ Below w.heap.size w w' := by
  obtain ⟨W2, hW2⟩ : ∃ W2, W2 = (w.alloc (.cells #[.slice Ap L.length cp] 42)).alloc (.cells #[.slice none 0 0] 107) := ⟨_, rfl⟩
  have hB1 := below_box w (.cells #[.slice Ap L.length cp] 42)
  have hB2 : Below w.heap.size w W2 := by rw [hW2]; exact hB1.alloc hB1.size _
  have hs2 : W2.heap.size = w.heap.size + 2 := by rw [hW2]; simp
  have e0 : W2.heap[w.heap.size]? = some (.cells #[.slice Ap L.length cp] 42 (0, 0)) := by
    rw [hW2, (below_box _ _).block _ (by simp)]
    exact heap_alloc_new w _
  have e1 : W2.heap[w.heap.size + 1]? = some (.cells #[.slice none 0 0] 107 (0, 0)) := by
    rw [hW2]
    have h := heap_alloc_new (w.alloc (.cells #[.slice Ap L.length cp] 42)) (.cells #[.slice none 0 0] 107)
    rw [World.size_alloc] at h
    exact h
  have k0 : W2.cell? ⟨w.heap.size, 0, none⟩ = some (.slice Ap L.length cp) := by rw [cell_of_row W2 _ 0 _ 42 (0, 0) e0]; rfl
  have HT : Hid (∀ _ : Unit, Calls Tryz.prog 60 #[.slice Ap L.length cp, .func (.func 76) #[] #[.pointer (some ⟨w.heap.size, 0, none⟩), .pointer (some ⟨w.heap.size + 1, 0, none⟩)]] W2 fun e w' => e = .returned (.tuple #[.int .i64 (ck L).1, .int .i64 (ck L).2]) ∧ Below w.heap.size W2 w' ∧ ((ck L).2 = 0 → ∃ v, TB w' (w.heap.size + 1) v ∧ w'.ownsRow w.heap.size 9 1 v (nmL L L.length).length (stc (nmL L L.length)))) := fun _ => by
    by_cases hlen : 2048 < L.length
    · exact (through_long L Ap cp _ hlen W2).mono fun e w' ⟨h1, h2⟩ => ⟨h1, by rw [h2]; exact Below.refl _ _, fun q => by rw [ck_long hlen] at q; cases q⟩
    · refine (through_any L 76 _ _ Ap cp w.heap.size hL hT W2 (by omega) (hp.below hB2 (Nat.le_refl _)) (fun hne a ha => by
        obtain ⟨g, o, e, lt, _⟩ := hp hne
        rw [e] at ha
        cases ha
        exact lt) enters49 (see49 L Ap cp w.heap.size (w.heap.size + 1) w.heap.size W2.heap.size (by omega)) (fun b => b = w.heap.size + 1) ⟨by omega, ⟨_, ⟨e1⟩, fun b => by simp [Value.ownBlock], World.ownsRow_nil _ _ _ _⟩, k0, fun hne => ?_⟩).mono fun e w' ⟨h1, h2, k, X, hj, hk⟩ => ⟨h1, h2, fun q => by
          obtain ⟨v, h3, _, h4⟩ := hj.s
          rw [hk q] at h4
          exact ⟨v, h3, own_base h4 (by omega)⟩⟩
      obtain ⟨g, o, e, lt, cl⟩ := hp hne
      exact ⟨g, o, e, lt, by omega, cl.same (hB2.block g lt)⟩
  have HB2 := (show Hid (Below w.heap.size w W2) from hB2)
  clear hB1 hB2 e0 e1 hp hT hs2
  have HE : Hid (nmE L = if (ck L).2 = 0 then nmL L L.length else []) := rfl
  subst hW2
  go_enter Tryz.func69, Tryz.ntmps69
  go_wp2_with fail
  refine (HT.out ()).mono ?_
  rintro e w3 ⟨rfl, b3, hn⟩
  have HB3 := (show Hid (Below w.heap.size w w3) from HB2.out.trans b3)
  clear HT b3 HB2 k0
  by_cases hc : (ck L).2 = 0
  · obtain ⟨v, h3, h4⟩ := hn hc
    have c0 := h3.c0
    have HI := (show Hid (nmE L = nmL L L.length ∧ (ck L).2 = 0) from ⟨by rw [HE.out, if_pos hc], hc⟩)
    have HO := (show Hid (w3.ownsRow w.heap.size 9 1 v (nmL L L.length).length (stc (nmL L L.length))) from h4)
    have t1 : ((ck L).2 != 0) = false := by rw [hc]; rfl
    clear hn hc HE h3 h4
    go_wp2_with fail
    go_ret2
    exact ⟨⟨v, by rw [HI.out.2]; rfl, by rw [HI.out.1]; exact HO.out⟩, HB3.out⟩
  · have HI := (show Hid (nmE L = []) from by show nmE L = _; rw [HE.out, if_neg hc])
    have t1 : ((ck L).2 != 0) = true := by rw [bne, beq_eq_false_iff_ne.2 hc]; rfl
    clear hn hc HE
    go_wp2_with fail
    go_ret2
    exact ⟨⟨_, rfl, by rw [HI.out]; exact World.ownsRow_nil _ _ _ _⟩, HB3.out⟩
end Go.Proofs.YtppggnmlbcdegabGreat.T

namespace Go.Proofs
open Go.Shelf
def Tryz.lays189_ren : Go.Shelf.Ren := ⟨fun | 189 => 70 | 125 => 80 | 257 => 79 | 128 => 94 | 129 => 95 | 294 => 85 | 295 => 86 | 296 => 87 | 297 => 88 | 298 => 89 | 299 => 90 | 216 => 91 | 300 => 92 | 301 => 93 | 328 => 98 | 329 => 99 | 330 => 100 | 331 => 101 | 332 => 102 | 215 => 103 | 343 => 104 | n => n, fun | 28 => 36 | 3 => 3 | 46 => 116 | 0 => 0 | 51 => 127 | 53 => 49 | 4 => 4 | 183 => 120 | 182 => 119 | 131 => 57 | 5 => 5 | 9 => 9 | 218 => 130 | 222 => 134 | 228 => 137 | 229 => 138 | n => n, fun | n => n⟩
theorem Tryz.lays189 : Go.Proofs.Lays.n189 Tryz.prog Tryz.lays189_ren := {
  mixed := by kernel_rfl
  f125 := Tryz.func80.trans (congrArg some (by kernel_rfl))
  f128 := Tryz.func94.trans (congrArg some (by kernel_rfl))
  f129 := Tryz.func95.trans (congrArg some (by kernel_rfl))
  f189 := Tryz.func70.trans (congrArg some (by kernel_rfl))
  f215 := Tryz.func103.trans (congrArg some (by kernel_rfl))
  f216 := Tryz.func91.trans (congrArg some (by kernel_rfl))
  f257 := Tryz.func79.trans (congrArg some (by kernel_rfl))
  f294 := Tryz.func85.trans (congrArg some (by kernel_rfl))
  f295 := Tryz.func86.trans (congrArg some (by kernel_rfl))
  f296 := Tryz.func87.trans (congrArg some (by kernel_rfl))
  f297 := Tryz.func88.trans (congrArg some (by kernel_rfl))
  f298 := Tryz.func89.trans (congrArg some (by kernel_rfl))
  f299 := Tryz.func90.trans (congrArg some (by kernel_rfl))
  f300 := Tryz.func92.trans (congrArg some (by kernel_rfl))
  f301 := Tryz.func93.trans (congrArg some (by kernel_rfl))
  f328 := Tryz.func98.trans (congrArg some (by kernel_rfl))
  f329 := Tryz.func99.trans (congrArg some (by kernel_rfl))
  f330 := Tryz.func100.trans (congrArg some (by kernel_rfl))
  f331 := Tryz.func101.trans (congrArg some (by kernel_rfl))
  f332 := Tryz.func102.trans (congrArg some (by kernel_rfl))
  f343 := Tryz.func104.trans (congrArg some (by kernel_rfl))
  t0 := Tryz.underlying0
  a0 := Tryz.isAgg0
  z0 := Tryz.sizeOf0
  v0 := Tryz.zeroValue0
  t3 := Tryz.underlying3
  a3 := Tryz.isAgg3
  z3 := Tryz.sizeOf3
  v3 := Tryz.zeroValue3
  t4 := Tryz.underlying4
  a4 := Tryz.isAgg4
  z4 := Tryz.sizeOf4
  v4 := Tryz.zeroValue4
  t5 := Tryz.underlying5
  a5 := Tryz.isAgg5
  z5 := Tryz.sizeOf5
  v5 := Tryz.zeroValue5
  t9 := Tryz.underlying9
  a9 := Tryz.isAgg9
  z9 := Tryz.sizeOf9
  v9 := Tryz.zeroValue9
  t28 := Tryz.underlying36
  a28 := Tryz.isAgg36
  z28 := Tryz.sizeOf36
  v28 := Tryz.zeroValue36
  t46 := Tryz.underlying116
  a46 := Tryz.isAgg116
  z46 := Tryz.sizeOf116
  v46 := Tryz.zeroValue116
  t51 := Tryz.underlying127
  a51 := Tryz.isAgg127
  z51 := Tryz.sizeOf127
  v51 := Tryz.zeroValue127
  t53 := Tryz.underlying49
  a53 := Tryz.isAgg49
  z53 := Tryz.sizeOf49
  v53 := Tryz.zeroValue49
  t131 := Tryz.underlying57
  a131 := Tryz.isAgg57
  z131 := Tryz.sizeOf57
  v131 := Tryz.zeroValue57
  t182 := Tryz.underlying119
  a182 := Tryz.isAgg119
  z182 := Tryz.sizeOf119
  v182 := Tryz.zeroValue119
  t183 := Tryz.underlying120
  a183 := Tryz.isAgg120
  z183 := Tryz.sizeOf120
  v183 := Tryz.zeroValue120
  t218 := Tryz.underlying130
  a218 := Tryz.isAgg130
  z218 := Tryz.sizeOf130
  v218 := Tryz.zeroValue130
  t222 := Tryz.underlying134
  a222 := Tryz.isAgg134
  z222 := Tryz.sizeOf134
  v222 := Tryz.zeroValue134
  t228 := Tryz.underlying137
  a228 := Tryz.isAgg137
  z228 := Tryz.sizeOf137
  v228 := Tryz.zeroValue137
  t229 := Tryz.underlying138
  a229 := Tryz.isAgg138
  z229 := Tryz.sizeOf138
  v229 := Tryz.zeroValue138 }
end Go.Proofs
