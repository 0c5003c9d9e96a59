/- EmptyRules (9.1, 9.2): of any grammar and any number, what the program tells of the rules and of the parts of a rule is what the document tells, twice and in memory of its own, and the grammar stays as it is; for grammars within the reach of the form. -/
import Derived.Deep.RegionLaw
import Derived.Test.YtokfgoepnfjafaaGreatEi15
namespace Go.Proofs.YtokfgoepnfjafaaGreat.N
open Go.RowKit
open Go.Proofs.YtokfgoepnfjafaaGreat.T (below_box)
theorem ret_gx {fn : Func} {R : Ending → World → Prop} {act : Act} {W : World} {k : Nat} {a : Value} (hF : fn.results = #[.cell 2 24]) (hd : act.defers = []) (h2 : act.tmps.getD 2 undef = .pointer (some ⟨k, 0, none⟩)) (hT : GX W k a) (hR : R (.returned (.agg #[a])) W) : bodyPost Tryz.prog fn R .ret act W := by
  have c0 := hT.cl
  refine bodyPost_ret (v := .agg #[a]) ?_ hd hR
  simp only [Array.getD_eq_getD_getElem?] at h2
  simp [results, hF, go_sem, h2, c0]
/-- A call with one argument as a step of a region that draws its order. -/
theorem step_call1 {F : Nat} (hen : ∀ args w, (callFunc F args).run Tryz.prog w = .ok (.enter F args) w) {ops : Array Oper} {o : Oper} {a : Act} {w : World} {K : Act → World → Prop} {Q : Exit → Act → World → Prop} {E : Prop} (hgd : o.guard = none) (x : Operand) (T : TypeId) (ho : o.op = .call { callee := .value (.func F), args := #[x], argTypes := #[T] }) (v : Value) (hx : a.eval x = v)
    (hc : Calls Tryz.prog F #[v] w fun e w' => ∃ r, e = .returned r ∧ K (a.put o.dst r) w') :
    if Region.wanted o (yielded ops a.tmps) = true then Oper.wp Tryz.prog o a w K Q else E := by
  have hw : Region.wanted o (yielded ops a.tmps) = true := by simp [Region.wanted, hgd]
  rw [if_pos hw]
  have he : (execOp a.eval o).run Tryz.prog w = .ok (.enter F #[v]) w := by
    unfold execOp
    simp [ho, go_sem, invoke, hen]
    rw [← hx]
    cases x <;> simp [Act.eval]
  unfold Oper.wp
  rw [he, Oper.upon_enter]
  refine hc.mono ?_
  rintro e w' ⟨r, rfl, hk⟩
  exact hk


/-- A rule that was lent: it, its pattern's block and room. -/
abbrev Le : Type := (ByteArray × List Nd) × Nat × Nat
def lgV (x : Le) : List Value := [.string x.1.1, .slice (some ⟨x.2.1, 0, none⟩) x.1.2.length x.2.2]
def lgc (l : List Le) : List Value := l.flatMap lgV
theorem lgc_app (a b : List Le) : lgc (a ++ b) = lgc a ++ lgc b := List.flatMap_append
theorem lgc_one (x : Le) : lgc [x] = lgV x := by unfold lgc; rw [List.flatMap_cons, List.flatMap_nil, List.append_nil]
theorem lgc_get (l : List Le) : ∀ (k j : Nat) (x : Le) (u : Value) (ys : List Value), l[k]? = some x → (lgV x)[j]? = some u → (lgc l ++ ys)[k * 2 + j]? = some u := by
  induction l with
  | nil => intro k j x u ys h; cases h
  | cons a l ih =>
    intro k j x u ys h hu
    have e : lgc (a :: l) ++ ys = lgV a ++ (lgc l ++ ys) := by unfold lgc; rw [List.flatMap_cons, List.append_assoc]
    rw [e]
    have hj : j < 2 := (List.getElem?_eq_some_iff.1 hu).1
    cases k with
    | zero =>
      cases h
      rw [Nat.zero_mul, Nat.zero_add, List.getElem?_append_left (by show j < 2; exact hj)]
      exact hu
    | succ k =>
      have h2 : l[k]? = some x := by simpa using h
      have e2 : (lgV a).length = 2 := rfl
      rw [List.getElem?_append_right (by rw [e2]; omega), e2, show (k + 1) * 2 + j - 2 = k * 2 + j from by omega]
      exact ih k j x u ys h2 hu
/-- While a grammar is lent. -/
structure LgI (w wr : World) (a : Value) (v : Value) (ov : List Le) : Prop where
  o : wr.ownsRow w.heap.size 45 2 v ov.length (lgc ov)
  e : ∀ x ∈ ov, T.LentR wr w.heap.size x.2.1 x.2.2 x.1.2
  b : Below w.heap.size w wr
  x : GX wr w.heap.size a
  y : GX wr (w.heap.size + 1) (.slice none 0 0)
theorem LgI.later {w wr W' : World} {a v : Value} {ov : List Le} (h : LgI w wr a v ov) (hb : Below wr.heap.size wr W') : LgI w W' a v ov :=
  ⟨T.own_below h.o hb, fun x hx => (h.e x hx).below hb, h.b.trans (hb.mono h.b.size), h.x.below hb, h.y.below hb⟩
theorem LgI.push {w wr wA w5 : World} {a v u : Value} {ov : List Le} {nm : ByteArray} {L : List Nd} {g cap : Nat} (h : LgI w wr a v ov) (hA : Below wr.heap.size wr wA) (hl : T.LentR wA w.heap.size g cap L) (hg : (wA.alloc (.cells #[.string nm, .slice (some ⟨g, 0, none⟩) L.length cap] 45)).grownBy w5 v.ownBlock) (ho : w5.ownsRow w.heap.size 45 2 u (ov.length + 1) (lgc ov ++ [.string nm, .slice (some ⟨g, 0, none⟩) L.length cap])) : LgI w w5 a u (ov ++ [((nm, L), g, cap)]) := by
  have h2 : LgI w (wA.alloc (.cells #[.string nm, .slice (some ⟨g, 0, none⟩) L.length cap] 45)) a v ov := (h.later hA).later (below_box wA _)
  have hl2 : T.LentR (wA.alloc (.cells #[.string nm, .slice (some ⟨g, 0, none⟩) L.length cap] 45)) w.heap.size g cap L := hl.below (below_box wA _)
  have key : ∀ (y : Le), T.LentR (wA.alloc (.cells #[.string nm, .slice (some ⟨g, 0, none⟩) L.length cap] 45)) w.heap.size y.2.1 y.2.2 y.1.2 → T.LentR w5 w.heap.size y.2.1 y.2.2 y.1.2 := fun y hy =>
    own_same (v := .slice (some ⟨y.2.1, 0, none⟩) (y.1.2.length + 1) y.2.2) hy fun k hk => hg.block k (World.ownsRow.lt hy k hk).2 (fun q => own_apart h2.o hy (by decide) q.symm hk)
  refine ⟨?_, fun y hy => ?_, h2.b.grown hg h2.b.size (fun k e => (h2.o.lt k e).1), h2.x.same (hg.block _ h2.x.lt (fun e => h2.x.ne h2.o (by decide) e.symm rfl)), h2.y.same (hg.block _ h2.y.lt (fun e => h2.y.ne h2.o (by decide) e.symm rfl))⟩
  · rw [List.length_append, lgc_app, lgc_one]
    exact ho
  · rcases List.mem_append.1 hy with q | q
    · exact key y (h2.e y q)
    · rw [List.mem_singleton.1 q]
      exact key ((nm, L), g, cap) hl2
/-- A grammar that was lent, and is as it was. -/
structure LgB (w w' : World) (g cap : Nat) (ov : List Le) : Prop where
  o : w'.ownsRow w.heap.size 45 2 (.slice (some ⟨g, 0, none⟩) (ov.length + 1) cap) (ov.length + 1) (lgc ov ++ [.string ⟨#[115, 112, 97, 114, 101, 32, 114, 111, 111, 109]⟩, .slice none 0 0])
  e : ∀ x ∈ ov, T.LentR w' w.heap.size x.2.1 x.2.2 x.1.2
  b : Below w.heap.size w w'
theorem LgB.later {w wr W' : World} {g cap : Nat} {ov : List Le} (h : LgB w wr g cap ov) (hb : Below wr.heap.size wr W') : LgB w W' g cap ov :=
  ⟨T.own_below h.o hb, fun x hx => (h.e x hx).below hb, h.b.trans (hb.mono h.b.size)⟩
theorem LgB.cell {w wr : World} {g cap : Nat} {ov : List Le} (h : LgB w wr g cap ov) {k : Nat} {x : Le} (hk : ov[k]? = some x) : wr.cell? ⟨g, k * 2, none⟩ = some (.string x.1.1) ∧ wr.cell? ⟨g, k * 2 + 1, none⟩ = some (.slice (some ⟨x.2.1, 0, none⟩) x.1.2.length x.2.2) := by
  have hc := h.o.cells (g := g) rfl
  have q0 := hc (k * 2 + 0) _ (lgc_get ov k 0 x _ _ hk rfl)
  have q1 := hc (k * 2 + 1) _ (lgc_get ov k 1 x _ _ hk rfl)
  rw [Addr.add_lit, Nat.zero_add] at q0 q1
  exact ⟨q0, q1⟩
theorem LgB.last {w wr : World} {g cap : Nat} {ov : List Le} (h : LgB w wr g cap ov) : wr.cell? ⟨g, ov.length * 2, none⟩ = some (.string ⟨#[115, 112, 97, 114, 101, 32, 114, 111, 111, 109]⟩) := by
  have hc := h.o.cells (g := g) rfl
  have hlen : (lgc ov).length = ov.length * 2 := by
    have := h.o.1
    rw [List.length_append] at this
    simp only [List.length_cons, List.length_nil] at this
    omega
  have q0 := hc (ov.length * 2) (.string ⟨#[115, 112, 97, 114, 101, 32, 114, 111, 111, 109]⟩) (by rw [List.getElem?_append_right (by omega), hlen, Nat.sub_self]; rfl)
  rw [Addr.add_lit, Nat.zero_add] at q0
  exact q0
theorem LgB.gr {w wr : World} {g cap : Nat} {ov : List Le} {gs : List (ByteArray × List Nd)} (h : LgB w wr g cap ov) (hm : ov.map (·.1) = gs) : GrD wr (some ⟨g, 0, none⟩) gs := fun k r hr => by
  rw [← hm, List.getElem?_map] at hr
  cases hx : ov[k]? with
  | none => rw [hx] at hr; cases hr
  | some x =>
    rw [hx] at hr
    obtain rfl : x.1 = r := by simpa using hr
    obtain ⟨q0, q1⟩ := h.cell hx
    exact ⟨g, 0, some ⟨x.2.1, 0, none⟩, x.2.2, rfl, (h.o.lt g rfl).2, by rw [Nat.zero_add]; exact q0, by rw [Nat.zero_add]; exact q1, (h.e x (List.mem_of_getElem? hx)).rd⟩
theorem enters8 (args : Array Value) (w : World) : (callFunc 13 args).run Tryz.prog w = .ok (.enter 13 args) w := enters_of Tryz.func13 (by kernel_rfl) rfl args w
set_option maxRecDepth 100000 in
set_option maxHeartbeats 8000000 in
theorem lendG_any (gs : List (ByteArray × List Nd)) (A : Option Addr) (c : Nat) (w : World) (hg : GrIn w A c gs) :
    Calls Tryz.prog 5 #[.agg #[.slice A gs.length c]] w fun e w' => ∃ g cap ov, e = .returned (.agg #[.slice (some ⟨g, 0, none⟩) gs.length cap]) ∧ ov.map (·.1) = gs ∧ LgB w w' g cap ov := by
  obtain ⟨i0, hinf, hz0, hz1, hz2⟩ := info_parts Tryz.info41
  have hl := hg.len
  have HG := (show Hid (∀ k, k < gs.length → ∃ g, gs[k]? = some g ∧ g.2.length * 64 ≤ 140737488351232 ∧ ∃ b o A2 c2, A = some ⟨b, o, none⟩ ∧ b < w.heap.size ∧ w.cell? ⟨b, o + k * 2, none⟩ = some (.string g.1) ∧ w.cell? ⟨b, o + k * 2 + 1, none⟩ = some (.slice A2 g.2.length c2) ∧ T.InP w A2 c2 g.2) from fun k hk => by
    have e : gs[k]? = some gs[k] := List.getElem?_eq_getElem hk
    obtain ⟨b, o, _, _, h1, h2, h3, _, _⟩ := hg.d k _ e
    obtain ⟨A3, c3, h6, h7⟩ := hg.each k _ e
    exact ⟨_, e, h6.2.2.2.1, b, o, A3, c3, h1, h2, h3, h7 b o h1, h6.1, h6.2.1⟩)
  have HA := (show Hid (LgI w ((w.alloc (.cells #[.slice A gs.length c] 24)).alloc (.cells #[.slice none 0 0] 24)) (.slice A gs.length c) (.slice none 0 0) []) from
    ⟨World.ownsRow_nil _ _ _ _, (fun x hx => by cases hx), ((Below.refl _ _).alloc (Nat.le_refl _) _).alloc (by rw [World.size_alloc]; omega) _, (GX.mk (heap_alloc_new w _)).below (below_box _ _), ⟨by have h := heap_alloc_new (w.alloc (.cells #[.slice A gs.length c] 24)) (.cells #[.slice none 0 0] 24); rw [World.size_alloc] at h; exact h⟩⟩)
  clear hg
  go_enter Tryz.func5, Tryz.ntmps5
  go_wp2_with fail
  generalize (w.alloc (.cells #[.slice A gs.length c] 24)).alloc (.cells #[.slice none 0 0] 24) = w1 at *
  go_loopw [3, 4] (fun v t wr => ∃ (k : Nat) (ov : List Le) (Av : Option Addr) (cv : Nat), k ≤ gs.length ∧ t = .int .i64 k ∧ v = .slice Av k cv ∧ Hid (ov.length = k ∧ ov.map (·.1) = gs.take k) ∧ Hid (LgI w wr (.slice A gs.length c) (.slice Av k cv) ov)) (fun _ t _ => gs.length - (intOf t).toNat)
  case atStart => exact ⟨0, [], none, 0, Nat.zero_le _, rfl, rfl, ⟨rfl, rfl⟩, HA⟩
  case round =>
    obtain ⟨k, ov, Av, cv, hk, rfl, rfl, HM, HW⟩ := hrel
    clear HA
    have x0 := HW.out.x.cl
    by_cases hlt : k < gs.length
    · obtain ⟨g, hgk, hgl, b, o, A2, c2, rfl, lb, e0, e1, hin⟩ := HG.out k hlt
      have z0 : (0 : Int) ≤ (k : Int) := by omega
      have z1 : (k : Int) < (gs.length : Int) := by omega
      have hD : Below wr.heap.size wr wr.drew := (Below.refl _ _).drew
      have HLd := (show Hid (LgI w wr.drew (.slice (some ⟨b, o, none⟩) gs.length c) (.slice Av k cv) ov) from HW.out.later hD)
      have d0 := (HLd.out.b.cell (p := ⟨b, o + k * 2, none⟩) lb).trans e0
      have d1 := (HLd.out.b.cell (p := ⟨b, o + k * 2 + 1, none⟩) lb).trans e1
      have dx := HLd.out.x.cl
      have hsz : w.heap.size ≤ wr.heap.size := HW.out.b.size
      have HCall := (show Hid (∀ _ : Unit, Calls Tryz.prog 13 #[.slice A2 g.2.length c2] wr.drew fun e w' => (∃ g9 cap, e = .returned (.slice (some ⟨g9, 0, none⟩) g.2.length cap) ∧ T.LentR w' w.heap.size g9 cap g.2) ∧ Below wr.drew.heap.size wr.drew w') from fun _ => by
        refine (T.lend_any A2 c2 g.2 wr.drew hgl ⟨hin.1.below HLd.out.b (Nat.le_refl _), hin.2⟩).mono ?_
        rintro e w' ⟨⟨g9, cap, rfl, r9⟩, b9⟩
        exact ⟨⟨g9, cap, rfl, T.own_base r9 (by show w.heap.size ≤ wr.heap.size; exact hsz)⟩, b9⟩)
      have HAft := (show Hid (∀ wA, Below wr.drew.heap.size wr.drew wA → wA.cell? ⟨w.heap.size, 0, none⟩ = some (.slice (some ⟨b, o, none⟩) gs.length c) ∧ wA.cell? ⟨b, o + k * 2, none⟩ = some (.string g.1)) from fun wA hA => by
        have h3 := HLd.out.later hA
        exact ⟨h3.x.cl, (h3.b.cell (p := ⟨b, o + k * 2, none⟩) lb).trans e0⟩)
      have HTk := (show Hid (gs.take (k + 1) = gs.take k ++ [g]) from by rw [List.take_add_one, hgk]; rfl)
      have hov := HM.out.1
      have HO := (show Hid (wr.drew.ownsRow w.heap.size 45 2 (.slice Av k cv) k (lgc ov)) from by have h := HLd.out.o; rw [hov] at h; exact h)
      clear hgk hin e0 e1 HG hlt hov
      obtain ⟨nm, L⟩ := g
      simp only at d0 d1 HCall HAft HTk hgl
      go_wp2_with fail
      go_region_law (first
        | (refine step_call1 enters8 rfl _ _ (by rfl) (.slice A2 L.length c2) (by rfl) ?_; with_reducible refine (HCall.out ()).mono ?_; rintro e wA ⟨⟨g, cap, rfl, rA⟩, bA⟩; refine ⟨_, rfl, ?_⟩; obtain ⟨ax, a0⟩ := HAft.out wA bA)
        | (refine step_append_lies _ (by rfl) _ _ _ (by rfl) w.heap.size 45 i0 (.agg #[.string ⟨#[]⟩, .slice none 0 0]) 2 40 Tryz.underlying22 hinf hz0 hz1 hz2 rfl (by omega) _ _ (lgc ov) (by rfl) ((T.own_below HO.out bA).alloc _) ⟨wA.heap.size, 0, none⟩ 1 1 [.string nm, .slice (some ⟨g, 0, none⟩) L.length cap] (by rfl) (by rfl) (World.news_of_block (cs := #[.string nm, .slice (some ⟨g, 0, none⟩) L.length cap]) (t := 45) (fr := (0, 0)) (heap_alloc_new wA _)) (by intro u hu; simp only [List.mem_cons, List.not_mem_nil, or_false] at hu; rcases hu with rfl | rfl <;> rfl) (by omega) (by unfold maxLen; omega) (by omega) (by have q1 := bA.size; have q2 : wr.drew.heap.size = wr.heap.size := rfl; rw [World.size_alloc]; omega) (wA.heap.size + 1) (by simp) ?_; intro g3 cap3 w5 hown hgrow hat hltg))
      all_goals
        have HN := (show Hid (LgI w w5 (.slice (some ⟨b, o, none⟩) gs.length c) (.slice (some ⟨g3, 0, none⟩) (k + 1) cap3) (ov ++ [((nm, L), g, cap)])) from by
          have q2 : wr.drew.heap.size = wr.heap.size := rfl
          have hA : Below wr.heap.size wr wA := hD.trans (by rw [← q2]; exact bA)
          exact HW.out.push hA rA hgrow (by rw [HM.out.1]; exact hown))
        clear hown hgrow hat hltg rA bA ax a0 HCall HAft HO HLd HW hD
        go_wp2_with fail
        go_roundw
        case rel => exact ⟨k + 1, _, _, _, by omega, by go_num, rfl, ⟨by rw [List.length_append, HM.out.1]; rfl, by rw [List.map_append, HM.out.2, HTk.out]; rfl⟩, HN⟩
        case measure => simp [intOf]; omega
    · obtain rfl : k = gs.length := by omega
      have hov := HM.out.1
      have hO := HW.out.o
      rw [hov] at hO
      have hsz : w.heap.size ≤ wr.heap.size := HW.out.b.size
      have HMm := (show Hid (ov.map (·.1) = gs) from by have := HM.out.2; rw [List.take_length] at this; exact this)
      have HWl := (show Hid (LgI w (wr.alloc (.cells #[.string ⟨#[115, 112, 97, 114, 101, 32, 114, 111, 111, 109]⟩, .slice none 0 0] 45)) (.slice A gs.length c) (.slice Av gs.length cv) ov) from HW.out.later (below_box _ _))
      have HL := (show Hid (ov.length = gs.length) from hov)
      clear HG hlt hov HM HW
      go_wp2_with (at_builtin; refine wpList_append_lies _ rfl _ _ 22 rfl w.heap.size 45 i0 (.agg #[.string ⟨#[]⟩, .slice none 0 0]) 2 40 Tryz.underlying22 hinf hz0 hz1 hz2 rfl (by decide) _ _ _ rfl (hO.alloc _) ⟨wr.heap.size, 0, none⟩ 1 1 [.string ⟨#[115, 112, 97, 114, 101, 32, 114, 111, 111, 109]⟩, .slice none 0 0] rfl rfl ?c1 ?c2 (by decide) ?c3 ?c4 ?c5 (wr.heap.size + 1) (by simp) ?_)
      case c1 => exact World.news_of_block (cs := #[.string ⟨#[115, 112, 97, 114, 101, 32, 114, 111, 111, 109]⟩, .slice none 0 0]) (t := 45) (fr := (0, 0)) (heap_alloc_new wr _)
      case c2 => intro u hu; simp only [List.mem_cons, List.not_mem_nil, or_false] at hu; rcases hu with rfl | rfl <;> rfl
      case c3 => unfold maxLen; omega
      case c4 => omega
      case c5 => rw [World.size_alloc]; omega
      intro g3 cap3 w5 hown hgrow hat hltg
      have hcap : gs.length + 1 ≤ cap3 := by
        rcases hown.2 with ⟨q, _⟩ | ⟨g2, c2, cur, q, _, _, h3, _⟩
        · cases q
        · cases q; exact h3
      have HF := (show Hid (GX w5 (w.heap.size + 1) (.slice none 0 0) ∧ LgB w w5 g3 cap3 ov) from by
        have h2 := HWl.out
        have key : ∀ (y : Le), T.LentR (wr.alloc (.cells #[.string ⟨#[115, 112, 97, 114, 101, 32, 114, 111, 111, 109]⟩, .slice none 0 0] 45)) w.heap.size y.2.1 y.2.2 y.1.2 → T.LentR w5 w.heap.size y.2.1 y.2.2 y.1.2 := fun y hy =>
          own_same (v := .slice (some ⟨y.2.1, 0, none⟩) (y.1.2.length + 1) y.2.2) hy fun k hk => hgrow.block k (World.ownsRow.lt hy k hk).2 (fun q => own_apart h2.o hy (by decide) q.symm hk)
        refine ⟨h2.y.same (hgrow.block _ h2.y.lt (fun e => h2.y.ne h2.o (by decide) e.symm rfl)), ?_, fun y hy => key y (h2.e y hy), h2.b.grown hgrow h2.b.size (fun k e => (h2.o.lt k e).1)⟩
        rw [HL.out]
        exact hown)
      have hf := HF.out.1.fz
      have hcl := HF.out.1.cl
      have z0 : (0 : Int) ≤ (gs.length : Int) := by omega
      have z1 : (gs.length : Int) ≤ (cap3 : Int) := by omega
      clear hown hgrow hat hltg hO HWl x0
      go_wp2_with fail
      refine ret_gx rfl rfl rfl (HF.out.1.set _) ?_
      have hb := HF.out.2
      have hk : (w5.setCell ⟨w.heap.size + 1, 0, none⟩ (.slice (some ⟨g3, 0, none⟩) gs.length cap3)).heap.size = w5.heap.size := by simp [World.setCell]
      have key : ∀ (j : Nat), j ≠ w.heap.size + 1 → (w5.setCell ⟨w.heap.size + 1, 0, none⟩ (.slice (some ⟨g3, 0, none⟩) gs.length cap3)).heap[j]? = w5.heap[j]? := fun j hj => Below.heap_setCell _ _ _ _ hj
      refine ⟨g3, cap3, ov, rfl, HMm.out, own_same hb.o fun j hj => key j (HF.out.1.ne hb.o (by decide) hj), fun y hy => ?_, hb.b.setCell (p := ⟨w.heap.size + 1, 0, none⟩) (by show w.heap.size ≤ w.heap.size + 1; omega) _⟩
      exact own_same (v := .slice (some ⟨y.2.1, 0, none⟩) (y.1.2.length + 1) y.2.2) (hb.e y hy) fun j hj => key j (HF.out.1.ne (hb.e y hy) (by decide) hj)
end Go.Proofs.YtokfgoepnfjafaaGreat.N

namespace Go.Proofs.YtokfgoepnfjafaaGreat.N
open Go.RowKit
open Go.Proofs.YtokfgoepnfjafaaGreat.T (below_box)
set_option maxRecDepth 100000 in
set_option maxHeartbeats 4000000 in
theorem keptq (A : Option Addr) (c g cap B : Nat) (L : List Nd) (hl : L.length * 64 ≤ 140737488351232) (w : World) (h : T.RdN w A L) (ho : T.LentR w B g cap L) :
    Calls Tryz.prog 16 #[.slice (some ⟨g, 0, none⟩) L.length cap, .slice A L.length c] w fun e w' => e = .returned (.bool true) ∧ ∃ m, w' = w.drewN m := by
  have HS : Hid (∀ _ : Unit, Calls Tryz.prog 26 #[.slice (some ⟨g, 0, none⟩) L.length cap, .slice A L.length c] w fun e w' => e = .returned (.bool true) ∧ ∃ m, w' = w.drewN m) := fun _ => sameq (some ⟨g, 0, none⟩) A cap c L (by omega) w ho.rd h
  have hcap := T.own_cap ho
  have HO := (show Hid (∀ w', Below w.heap.size w w' → T.NB w' g (L.length * 7) (T.zN (-77))) from fun w' hb => (ho.below hb).last)
  clear ho h
  have z0 : (0 : Int) ≤ (L.length : Int) := by omega
  have z1 : (L.length : Int) + 1 ≤ (cap : Int) := by omega
  have z2 : (L.length : Int) < (L.length : Int) + 1 := by omega
  have hq := T.node_eql (T.zN (-77)) (T.zN (-77))
  rw [T.ndE_refl] at hq
  generalize L.length = n at *
  go_enter Tryz.func16, Tryz.ntmps16
  go_wp2_with fail
  refine (HS.out ()).mono ?_
  rintro e w1 ⟨rfl, hb⟩
  obtain ⟨c0, c1, c2, c3, c4, c5, c6⟩ := HO.out w1 (by obtain ⟨m, rfl⟩ := hb; exact T.below_drewN (Below.refl _ _) _)
  have HB := (show Hid _ from hb)
  clear hb HS HO
  unfold T.zN at c0 c1 c2 c3 c4 c5 c6 hq
  dsimp only at c0 c1 c2 c3 c4 c5 c6
  go_wp2_with fail
  go_ret
  exact ⟨rfl, HB.out⟩
/-- While a grammar that was lent is held against what it was. -/
structure AtK (w0 w wr : World) (u1 u2 : Value) (A : Option Addr) (gs : List (ByteArray × List Nd)) (g cap : Nat) (ov : List Le) : Prop where
  b : Below w.heap.size w wr
  x1 : GX wr w.heap.size u1
  x2 : GX wr (w.heap.size + 1) u2
  l : LgB w0 wr g cap ov
  d : GrD wr A gs
theorem AtK.later {w0 w wr W' : World} {u1 u2 : Value} {A : Option Addr} {gs : List (ByteArray × List Nd)} {g cap : Nat} {ov : List Le} (h : AtK w0 w wr u1 u2 A gs g cap ov) (hb : Below wr.heap.size wr W') : AtK w0 w W' u1 u2 A gs g cap ov :=
  ⟨h.b.trans (hb.mono h.b.size), h.x1.below hb, h.x2.below hb, h.l.later hb, h.d.later hb⟩
set_option maxRecDepth 100000 in
set_option maxHeartbeats 8000000 in
theorem keptG_any {gs : List (ByteArray × List Nd)} {ov : List Le} (hm : ov.map (·.1) = gs) (hl : ∀ g ∈ gs, g.2.length * 64 ≤ 140737488351232) (hn : gs.length * 40 ≤ 140737488351232) {w0 w : World} {A : Option Addr} {c g cap : Nat} (h1 : LgB w0 w g cap ov) (h2 : GrD w A gs) :
    Calls Tryz.prog 11 #[.agg #[.slice (some ⟨g, 0, none⟩) gs.length cap], .agg #[.slice A gs.length c]] w fun e w' => e = .returned (.bool true) ∧ Below w.heap.size w w' := by
  have hov : ov.length = gs.length := by rw [← hm, List.length_map]
  have HA := (show Hid (AtK w0 w ((w.alloc (.cells #[.slice (some ⟨g, 0, none⟩) gs.length cap] 24)).alloc (.cells #[.slice A gs.length c] 24)) (.slice (some ⟨g, 0, none⟩) gs.length cap) (.slice A gs.length c) A gs g cap ov) from
    ⟨((Below.refl _ _).alloc (Nat.le_refl _) _).alloc (by rw [World.size_alloc]; omega) _, (GX.mk (heap_alloc_new w _)).below (below_box _ _), ⟨by have h := heap_alloc_new (w.alloc (.cells #[.slice (some ⟨g, 0, none⟩) gs.length cap] 24)) (.cells #[.slice A gs.length c] 24); rw [World.size_alloc] at h; exact h⟩, (h1.later (below_box _ _)).later (below_box _ _), (h2.later (below_box _ _)).later (below_box _ _)⟩)
  have hcap : gs.length + 1 ≤ cap := by rw [← hov]; exact T.own_cap h1.o
  have HG := (show Hid (∀ k, k < gs.length → ∃ x, ov[k]? = some x ∧ gs[k]? = some x.1 ∧ x ∈ ov ∧ x.1.2.length * 64 ≤ 140737488351232) from fun k hk => by
    obtain ⟨x, e⟩ : ∃ x, ov[k]? = some x := ⟨_, List.getElem?_eq_getElem (by omega)⟩
    have e2 : gs[k]? = some x.1 := by rw [← hm, List.getElem?_map, e]; rfl
    exact ⟨x, e, e2, List.mem_of_getElem? e, hl _ (List.mem_of_getElem? e2)⟩)
  have q1 := HA.out.x1.cl
  have q2 := HA.out.x2.cl
  have q3 := HA.out.l.last
  rw [hov] at q3
  have z0 : (0 : Int) ≤ (gs.length : Int) := by omega
  have z1 : (gs.length : Int) + 1 ≤ (cap : Int) := by omega
  have z2 : (gs.length : Int) < (gs.length : Int) + 1 := by omega
  clear hl hm h1 h2 hov hcap
  generalize gs.length = n at *
  go_enter Tryz.func11, Tryz.ntmps11
  go_wp2_with fail
  generalize (w.alloc (.cells #[.slice (some ⟨g, 0, none⟩) n cap] 24)).alloc (.cells #[.slice A n c] 24) = w1 at *
  go_wp2_with fail
  clear q1 q2 q3
  go_loopw [6] (fun t wr => ∃ k : Nat, k ≤ n ∧ t = .int .i64 k ∧ Hid (AtK w0 w wr (.slice (some ⟨g, 0, none⟩) n cap) (.slice A n c) A gs g cap ov)) (fun t _ => n - (intOf t).toNat)
  case atStart => exact ⟨0, by omega, by go_num, HA⟩
  case round =>
    obtain ⟨k, hk, rfl, HW⟩ := hrel
    clear HA
    have q1 := HW.out.x1.cl
    have q2 := HW.out.x2.cl
    by_cases hlt : k < n
    · obtain ⟨x, hx, hgx, hxm, hxl⟩ := HG.out k hlt
      obtain ⟨y0, y1⟩ := HW.out.l.cell hx
      obtain ⟨b2, o2, B2, d2, hA2, l2, x0, x1, r2⟩ := HW.out.d k _ hgx
      subst hA2
      have HS : Hid (∀ n, Calls Tryz.prog 16 #[.slice (some ⟨x.2.1, 0, none⟩) x.1.2.length x.2.2, .slice B2 x.1.2.length d2] (wr.drewN n) fun e w' => e = .returned (.bool true) ∧ ∃ m, w' = (wr.drewN n).drewN m) := fun n => keptq B2 d2 x.2.1 x.2.2 w0.heap.size x.1.2 hxl _ (r2.below (T.below_drewN (Below.refl _ _) _) (Nat.le_refl _)) ((HW.out.l.e x hxm).below (T.below_drewN (Below.refl _ _) _))
      have u0 : (0 : Int) ≤ (k : Int) := by omega
      have u1 : (k : Int) < (n : Int) := by omega
      clear HG r2 hx hgx hxm hxl z0 z1 z2
      generalize x.1.2.length = gl at *
      generalize x.1.1 = nm at *
      generalize x.2.1 = xb at *
      generalize x.2.2 = xc at *
      go_wp2_with fail
      go_quiet ((go_at_call 16; exact Calls.quiet_of (HS.out _)))
      have HW2 := (show Hid (AtK w0 w (wr.drewN nq) (.slice (some ⟨g, 0, none⟩) n cap) (.slice (some ⟨b2, o2, none⟩) n c) (some ⟨b2, o2, none⟩) gs g cap ov) from HW.out.later (T.below_drewN (Below.refl _ _) _))
      generalize wr.drewN nq = w2 at *
      clear HW q1 q2 y0 y1 x0 x1
      go_wp2_with fail
      go_roundw
      case rel => exact ⟨k + 1, by omega, by go_num, HW2⟩
      case measure => simp [intOf]; omega
    · obtain rfl : k = n := by omega
      clear HG
      go_wp2_with fail
      go_ret
      exact ⟨rfl, HW.out.b⟩
end Go.Proofs.YtokfgoepnfjafaaGreat.N

namespace Go.Proofs.YtokfgoepnfjafaaGreat.N
open Go.RowKit Go.Maps
open Go.Proofs.YtokfgoepnfjafaaGreat.T
open U (below_grown)
/-- While a grammar is lent: its box, the lent one's, and what was lent. -/
structure LyS (w0 wr : World) (wb k : Nat) (u1 u2 : Value) (g cap : Nat) (ov : List Le) : Prop where
  l : LgB w0 wr g cap ov
  x1 : GX wr wb u1
  x2 : GX wr k u2
theorem LyS.later {w0 wr W' : World} {wb k : Nat} {u1 u2 : Value} {g cap : Nat} {ov : List Le} (h : LyS w0 wr wb k u1 u2 g cap ov) (hb : Below wr.heap.size wr W') : LyS w0 W' wb k u1 u2 g cap ov := ⟨h.l.later hb, h.x1.below hb, h.x2.below hb⟩
theorem ru_same {gs : GL} {a b : List Em} (h1 : RuR gs a) (h2 : RuD gs b) : a = b := by
  by_cases hz : (ckG gs).2 = 0
  · exact kn_same (ckG_ok.1 hz) (h1.1 hz).1 (h2.1 hz).1
  · rw [h1.2 hz, h2.2 hz]
theorem pa_same {gs : GL} {r : Int} {a b : List Em} {c d : Int} (h1 : PaR gs r a c) (h2 : PaD gs r b d) : a = b ∧ c = d := by
  by_cases hz : (ckG gs).2 = 0
  · obtain ⟨p1, p2⟩ := h1.2 hz
    obtain ⟨q1, q2⟩ := h2.2 hz
    by_cases hr : r < 0 ∨ (gs.length : Int) ≤ r
    · obtain ⟨e1, e2⟩ := p1 hr
      obtain ⟨f1, f2⟩ := q1 hr
      exact ⟨e2.trans f2.symm, e1.trans f1.symm⟩
    · have hk : r.toNat < gs.length := by omega
      have hg : gs[r.toNat]? = some gs[r.toNat] := List.getElem?_eq_getElem hk
      obtain ⟨e1, n1, k1, rfl⟩ := p2 r.toNat _ (by omega) hg
      obtain ⟨f1, n2, k2, rfl⟩ := q2 r.toNat _ (by omega) hg
      have := kn_same (ckG_ok.1 hz) k1 k2
      subst this
      exact ⟨rfl, e1.trans f1.symm⟩
  · obtain ⟨e1, e2⟩ := h1.1 hz
    obtain ⟨f1, f2⟩ := h2.1 hz
    exact ⟨e2.trans f2.symm, e1.trans f1.symm⟩
theorem ru_len {gs : GL} {a : List Em} {N : Nat} (hl : gs.length ≤ N) (h : RuR gs a) : a.length ≤ N := by
  by_cases hz : (ckG gs).2 = 0
  · rw [(h.1 hz).2.1]; exact hl
  · rw [h.2 hz]; exact Nat.zero_le _
theorem pa_len {gs : GL} {r : Int} {a : List Em} {c : Int} {N : Nat} (hl : ∀ g ∈ gs, g.2.length ≤ N) (h : PaR gs r a c) : a.length ≤ N := by
  by_cases hz : (ckG gs).2 = 0
  · obtain ⟨p1, p2⟩ := h.2 hz
    by_cases hr : r < 0 ∨ (gs.length : Int) ≤ r
    · rw [(p1 hr).2]; exact Nat.zero_le _
    · have hk : r.toNat < gs.length := by omega
      have hg : gs[r.toNat]? = some gs[r.toNat] := List.getElem?_eq_getElem hk
      obtain ⟨_, n1, _, rfl⟩ := p2 r.toNat _ (by omega) hg
      rw [List.length_map, List.length_range]
      exact hl _ (List.mem_of_getElem? hg)
  · rw [(h.1 hz).2]; exact Nat.zero_le _
theorem LyS.box {w0 w2 wr : World} {wb k : Nat} {u1 u2 : Value} {g cap : Nat} {ov : List Le} (h : LyS w0 w2 wb k u1 u2 g cap ov) (hb : Below w2.heap.size w2 wr) : wr.cell? ⟨wb, 0, none⟩ = some u1 ∧ wr.cell? ⟨k, 0, none⟩ = some u2 := ⟨(h.later hb).x1.cl, (h.later hb).x2.cl⟩
/-- While the first answer is spoilt. -/
structure LrS (w2 wr : World) (n : Nat) (v1 v2 v3 : Value) (now : List Em) (B2 B3 : Nat) (l1 : List Em) : Prop where
  b : Below w2.heap.size w2 wr
  o1 : wr.ownsRow w2.heap.size 33 4 v1 n (emc l1)
  e1 : l1.length = n
  o2 : wr.ownsRow B2 33 4 v2 n (emc now)
  o3 : wr.ownsRow B3 33 4 v3 n (emc now)
  n2 : ∀ q, v1.ownBlock = some q → q < B2 ∧ q < B3
theorem LrS.st {w2 wr : World} {n g1 c1 : Nat} {v2 v3 : Value} {now l1 : List Em} {B2 B3 : Nat} (h : LrS w2 wr n (.slice (some ⟨g1, 0, none⟩) n c1) v2 v3 now B2 B3 l1) {r : Nat} (hr : r < n) (e : Em) : LrS w2 ((((wr.setCell ⟨g1, r * 4, none⟩ (.bool e.nu)).setCell ⟨g1, r * 4 + 1, none⟩ (.bool e.cf)).setCell ⟨g1, r * 4 + 2, none⟩ (.int .i64 e.le)).setCell ⟨g1, r * 4 + 3, none⟩ (.int .i64 e.mo)) n (.slice (some ⟨g1, 0, none⟩) n c1) v2 v3 now B2 B3 (l1.set r e) := by
  obtain ⟨s1, s2⟩ := own_st4 h.o1 (r := r) (by rw [h.e1]; exact hr) e
  have hn := h.n2 g1 rfl
  exact ⟨below_grown h.b s2 (fun k q => by cases q; exact (h.o1.lt g1 rfl).1), s1, by rw [List.length_set]; exact h.e1, U.own_kept h.o2 s2 (fun k q p => by cases q; have := (h.o2.lt _ p).1; omega), U.own_kept h.o3 s2 (fun k q p => by cases q; have := (h.o3.lt _ p).1; omega), h.n2⟩
set_option maxRecDepth 100000 in
set_option maxHeartbeats 32000000 in
theorem rules_law (gs : GL) (A : Option Addr) (c : Nat) (r : Int) (w : World) (hg : GrIn w A c gs) : Calls Tryz.prog 3 #[.agg #[.slice A gs.length c], .int .i64 r] w fun e w' => e = .returned (.bool true) ∧ Below w.heap.size w w' := by
  have hl := hg.len
  obtain ⟨w0, hw0⟩ : ∃ w0, w0 = w.alloc (.cells #[.slice A gs.length c] 24) := ⟨_, rfl⟩
  have hb0 : Below w.heap.size w w0 := by rw [hw0]; exact below_box w _
  have HX0 := (show Hid (GX w0 w.heap.size (.slice A gs.length c)) from by rw [hw0]; exact GX.mk (heap_alloc_new w _))
  have HE0 := (show Hid (w.alloc (.cells #[.slice A gs.length c] 24) = w0) from hw0.symm)
  have hg0 : GrIn w0 A c gs := hg.later hb0
  have HLe : Hid (∀ _ : Unit, Calls Tryz.prog 5 #[.agg #[.slice A gs.length c]] w0 fun e w' => ∃ g cap ov, e = .returned (.agg #[.slice (some ⟨g, 0, none⟩) gs.length cap]) ∧ ov.map (·.1) = gs ∧ LgB w0 w' g cap ov) := fun _ => lendG_any gs A c w0 hg0
  have HK : Hid (∀ (w' : World) (g cap : Nat) (ov : List Le), ov.map (·.1) = gs → LgB w0 w' g cap ov → GrD w' A gs → Calls Tryz.prog 11 #[.agg #[.slice (some ⟨g, 0, none⟩) gs.length cap], .agg #[.slice A gs.length c]] w' fun e w'' => e = .returned (.bool true) ∧ Below w'.heap.size w' w'') := fun w' g cap ov h0 h1 h2 => keptG_any h0 (fun r hr => by
    obtain ⟨k, hk⟩ := List.getElem?_of_mem hr
    obtain ⟨_, _, h6, _⟩ := hg.each k r hk
    exact h6.2.2.2.1) hl h1 h2
  have HWk := (show Hid (∀ W, Calls Tryz.prog 12 #[] W fun e w' => e = .returned (.bool true) ∧ Below W.heap.size W w') from works_any)
  have HP := (show Hid (GI w0 A gs) from hg0.gi)
  have HB0 := (show Hid (Below w.heap.size w w0) from hb0)
  have x0 := HX0.out.cl
  have HA : Hid (∀ (w' : World) (Ap : Option Addr) (cp : Nat), GI w' Ap gs → Calls Tryz.prog 6 #[.agg #[.slice Ap gs.length cp]] w' fun e w'' => (∃ A1 c1 now, e = .returned (.tuple #[.slice A1 now.length c1, .int .i64 (ckG gs).2]) ∧ RuR gs now ∧ w''.ownsRow w'.heap.size 33 4 (.slice A1 now.length c1) now.length (emc now)) ∧ Below w'.heap.size w' w'') := fun w' Ap cp h => by
    refine (rulesP_any gs Ap cp w' h).mono ?_
    rintro e w'' ⟨⟨v, now, rfl, hr, ho⟩, b⟩
    obtain ⟨A1, c1, rfl⟩ := own_fm ho
    exact ⟨⟨A1, c1, now, rfl, hr, ho⟩, b⟩
  have HD : Hid (∀ (w' : World) (Ap : Option Addr) (cp : Nat), GI w' Ap gs → Calls Tryz.prog 7 #[.agg #[.slice Ap gs.length cp]] w' fun e w'' => (∃ A1 c1 now, e = .returned (.tuple #[.slice A1 now.length c1, .int .i64 (ckG gs).2]) ∧ RuD gs now ∧ w''.ownsRow w'.heap.size 33 4 (.slice A1 now.length c1) now.length (emc now)) ∧ Below w'.heap.size w' w'') := fun w' Ap cp h => by
    refine (rulesD_any gs Ap cp w' h).mono ?_
    rintro e w'' ⟨⟨v, now, rfl, hr, ho⟩, b⟩
    obtain ⟨A1, c1, rfl⟩ := own_fm ho
    exact ⟨⟨A1, c1, now, rfl, hr, ho⟩, b⟩
  have HPa : Hid (∀ (w' : World) (Ap : Option Addr) (cp : Nat), GI w' Ap gs → Calls Tryz.prog 8 #[.agg #[.slice Ap gs.length cp], .int .i64 r] w' fun e w'' => (∃ A1 c1 l cd, e = .returned (.tuple #[.slice A1 l.length c1, .int .i64 cd]) ∧ PaR gs r l cd ∧ w''.ownsRow w'.heap.size 33 4 (.slice A1 l.length c1) l.length (emc l)) ∧ Below w'.heap.size w' w'') := fun w' Ap cp h => by
    refine (partsP_any gs Ap cp r w' h).mono ?_
    rintro e w'' ⟨⟨v, l, cd, rfl, hr, ho⟩, b⟩
    obtain ⟨A1, c1, rfl⟩ := own_fm ho
    exact ⟨⟨A1, c1, l, cd, rfl, hr, ho⟩, b⟩
  have HPd : Hid (∀ (w' : World) (Ap : Option Addr) (cp : Nat), GI w' Ap gs → Calls Tryz.prog 9 #[.agg #[.slice Ap gs.length cp], .int .i64 r] w' fun e w'' => (∃ A1 c1 l cd, e = .returned (.tuple #[.slice A1 l.length c1, .int .i64 cd]) ∧ PaD gs r l cd ∧ w''.ownsRow w'.heap.size 33 4 (.slice A1 l.length c1) l.length (emc l)) ∧ Below w'.heap.size w' w'') := fun w' Ap cp h => by
    refine (partsDoc_any gs Ap cp r w' h).mono ?_
    rintro e w'' ⟨⟨v, l, cd, rfl, hr, ho⟩, b⟩
    obtain ⟨A1, c1, rfl⟩ := own_fm ho
    exact ⟨⟨A1, c1, l, cd, rfl, hr, ho⟩, b⟩
  clear hg hl hg0 hw0 hb0
  go_enter Tryz.func3, Tryz.ntmps3
  go_wp2_with (rw [HE0.out])
  refine (HLe.out ()).mono ?_
  rintro e w1 ⟨g, cap, ov, rfl, hm, ho⟩
  have HM := (show Hid (ov.map (·.1) = gs) from hm)
  obtain ⟨w2, hw2⟩ : ∃ w2, w2 = w1.alloc (.cells #[.slice (some ⟨g, 0, none⟩) gs.length cap] 24) := ⟨_, rfl⟩
  have HE2 := (show Hid (w1.alloc (.cells #[.slice (some ⟨g, 0, none⟩) gs.length cap] 24) = w2) from hw2.symm)
  have HS2 := (show Hid (LyS w0 w2 w.heap.size w1.heap.size (.slice A gs.length c) (.slice (some ⟨g, 0, none⟩) gs.length cap) g cap ov) from by
    have hb : Below w1.heap.size w1 w2 := by rw [hw2]; exact below_box w1 _
    have hX1 : GX w1 w.heap.size (.slice A gs.length c) := HX0.out.same (ho.b.block _ HX0.out.lt)
    exact ⟨ho.later hb, hX1.below hb, by rw [hw2]; exact GX.mk (heap_alloc_new w1 _)⟩)
  have y1 := HS2.out.x1.cl
  have y2 := HS2.out.x2.cl
  have HIn := (show Hid (∀ W, LyS w0 W w.heap.size w1.heap.size (.slice A gs.length c) (.slice (some ⟨g, 0, none⟩) gs.length cap) g cap ov → GI W (some ⟨g, 0, none⟩) gs ∧ GI W A gs) from fun W h => ⟨⟨h.l.gr HM.out, HP.out.l, HP.out.t⟩, HP.out.later h.l.b⟩)
  clear ho hm HLe hw2 x0 HX0
  go_wp2_with (rw [HE2.out])
  generalize w1.heap.size = k1 at *
  refine (HA.out w2 _ _ (HIn.out _ HS2.out).1).mono ?_
  rintro e w3 ⟨⟨A1, c1, now1, rfl, hr1, ho1⟩, b3⟩
  have HB3 := (show Hid (Below w2.heap.size w2 w3) from b3)
  have H1 := (show Hid (RuR gs now1 ∧ w3.ownsRow w2.heap.size 33 4 (.slice A1 now1.length c1) now1.length (emc now1)) from ⟨hr1, ho1⟩)
  have p1 := (HS2.out.box HB3.out).1
  have p2 := (HS2.out.box HB3.out).2
  clear hr1 ho1 b3 HE2 y1 y2
  go_wp2_with fail
  refine (HA.out w3 _ _ (HIn.out _ (HS2.out.later HB3.out)).1).mono ?_
  rintro e w4 ⟨⟨A2, c2, now2, rfl, hr2, ho2⟩, b4⟩
  have HB4 := (show Hid (Below w2.heap.size w2 w4 ∧ Below w3.heap.size w3 w4) from ⟨HB3.out.trans (b4.mono HB3.out.size), b4⟩)
  have H2 := (show Hid (RuR gs now2 ∧ w4.ownsRow w3.heap.size 33 4 (.slice A2 now2.length c2) now2.length (emc now2)) from ⟨hr2, ho2⟩)
  clear hr2 ho2 b4 p1 p2 HA
  have p1 := (HS2.out.box HB4.out.1).1
  have p2 := (HS2.out.box HB4.out.1).2
  go_wp2_with fail
  refine (HD.out w4 _ _ (HIn.out _ (HS2.out.later HB4.out.1)).2).mono ?_
  rintro e w5 ⟨⟨A3, c3, now3, rfl, hr3, ho3⟩, b5⟩
  obtain rfl : now1 = now3 := ru_same H1.out.1 hr3
  obtain rfl : now2 = now1 := ru_same H2.out.1 hr3
  have HB5 := (show Hid (Below w2.heap.size w2 w5 ∧ w4.heap.size ≤ w5.heap.size) from ⟨HB4.out.1.trans (b5.mono HB4.out.1.size), b5.size⟩)
  have HS5 := (show Hid (LrS w2 w5 now2.length (.slice A1 now2.length c1) (.slice A2 now2.length c2) (.slice A3 now2.length c3) now2 w3.heap.size w4.heap.size now2) from
    ⟨HB5.out.1, U.own_below (U.own_below H1.out.2 HB4.out.2) b5, rfl, U.own_below H2.out.2 b5, ho3, fun q hq => by have := (H1.out.2.lt q hq).2; have := HB4.out.2.size; omega⟩)
  have HLa := (show Hid (now2.length ≤ 140737488355328) from ru_len HP.out.l H1.out.1)
  clear hr3 ho3 b5 p1 p2 HD H1 H2
  have p1 := (HS2.out.box HB5.out.1).1
  have p2 := (HS2.out.box HB5.out.1).2
  go_wp2_with fail
  refine (HPa.out w5 _ _ (HIn.out _ (HS2.out.later HB5.out.1)).1).mono ?_
  rintro e w6 ⟨⟨A4, c4, l4, cd4, rfl, hr4, ho4⟩, b6⟩
  have HB6 := (show Hid (Below w2.heap.size w2 w6) from HB5.out.1.trans (b6.mono HB5.out.1.size))
  have H4 := (show Hid (PaR gs r l4 cd4 ∧ w6.ownsRow w5.heap.size 33 4 (.slice A4 l4.length c4) l4.length (emc l4)) from ⟨hr4, ho4⟩)
  have HBb := (show Hid (Below w5.heap.size w5 w6) from b6)
  clear hr4 ho4 b6 p1 p2 HPa
  have p1 := (HS2.out.box HB6.out).1
  have p2 := (HS2.out.box HB6.out).2
  go_wp2_with fail
  refine (HPd.out w6 _ _ (HIn.out _ (HS2.out.later HB6.out)).2).mono ?_
  rintro e w7 ⟨⟨A5, c5, l5, cd5, rfl, hr5, ho5⟩, b7⟩
  obtain ⟨rfl, rfl⟩ := pa_same H4.out.1 hr5
  have hb57 : Below w5.heap.size w5 w7 := HBb.out.trans (b7.mono HBb.out.size)
  have HS7 := (show Hid (LrS w2 w7 now2.length (.slice A1 now2.length c1) (.slice A2 now2.length c2) (.slice A3 now2.length c3) now2 w3.heap.size w4.heap.size now2) from
    ⟨HB6.out.trans (b7.mono HB6.out.size), U.own_below HS5.out.o1 hb57, rfl, U.own_below HS5.out.o2 hb57, U.own_below HS5.out.o3 hb57, HS5.out.n2⟩)
  have HR4 := (show Hid (RdE w7 A4 l4 ∧ RdE w7 A5 l4) from ⟨own_rd (U.own_below H4.out.2 b7) rfl, own_rd ho5 rfl⟩)
  have HLn := (show Hid (l4.length ≤ 140737488355328 ∧ now2.length ≤ 140737488355328) from ⟨pa_len (fun g hg => (HP.out.t g hg).2.1) H4.out.1, HLa.out⟩)
  have HSm := (show Hid (∀ (W : World) (l : List Em) (A1 A2 : Option Addr) (c1 c2 : Nat), l.length ≤ 140737488355328 → RdE W A1 l → RdE W A2 l → Calls Tryz.prog 10 #[.slice A1 l.length c1, .slice A2 l.length c2] W fun e w' => e = .returned (.bool true) ∧ Below W.heap.size W w') from fun W l A1 A2 c1 c2 hl h1 h2 => (sameE_any l A1 A2 c1 c2 hl W h1 h2).mono (fun e w' q => ⟨q.1, by obtain ⟨m, rfl⟩ := q.2; exact below_dn _⟩))
  clear hr5 ho5 b7 p1 p2 HPd H4 HBb HB6 HB5 HB4 HB3 HS5 hb57
  generalize (ckG gs).2 = cd at *
  go_wp2_with fail
  refine (HSm.out w7 now2 A1 A3 c1 c3 HLn.out.2 (own_rd HS7.out.o1 rfl) (own_rd HS7.out.o3 rfl)).mono ?_
  rintro e w8 ⟨rfl, b8⟩
  have HS8 := (show Hid (LrS w2 w8 now2.length (.slice A1 now2.length c1) (.slice A2 now2.length c2) (.slice A3 now2.length c3) now2 w3.heap.size w4.heap.size now2) from
    ⟨HS7.out.b.trans (b8.mono HS7.out.b.size), U.own_below HS7.out.o1 b8, rfl, U.own_below HS7.out.o2 b8, U.own_below HS7.out.o3 b8, HS7.out.n2⟩)
  have HR8 := (show Hid (RdE w8 A4 l4 ∧ RdE w8 A5 l4) from ⟨HR4.out.1.later b8, HR4.out.2.later b8⟩)
  clear b8 HS7 HR4
  go_wp2_with fail
  refine (HSm.out w8 l4 A4 A5 c4 c5 HLn.out.1 HR8.out.1 HR8.out.2).mono ?_
  rintro e w9 ⟨rfl, b9⟩
  have HS9 := (show Hid (LrS w2 w9 now2.length (.slice A1 now2.length c1) (.slice A2 now2.length c2) (.slice A3 now2.length c3) now2 w3.heap.size w4.heap.size now2) from
    ⟨HS8.out.b.trans (b9.mono HS8.out.b.size), U.own_below HS8.out.o1 b9, rfl, U.own_below HS8.out.o2 b9, U.own_below HS8.out.o3 b9, HS8.out.n2⟩)
  clear b9 HS8 HR8
  go_wp2_with fail
  generalize w3.heap.size = B2 at *
  generalize w4.heap.size = B3 at *
  obtain ⟨n, hn⟩ : ∃ n, n = now2.length := ⟨_, rfl⟩
  have HNl := (show Hid (n = now2.length) from hn)
  rw [← hn] at HS9 HLn ⊢
  have hnl := HLn.out.2
  clear hn
  go_loopw [16] (fun t wr => ∃ (k : Nat) (l1 : List Em), k ≤ n ∧ t = .int .i64 (k : Int) ∧ Hid (LrS w2 wr n (.slice A1 n c1) (.slice A2 n c2) (.slice A3 n c3) now2 B2 B3 l1)) (fun t _ => n - (intOf t).toNat)
  case atStart => exact ⟨0, now2, by omega, by go_num, HS9⟩
  case round =>
    obtain ⟨k, l1, hk, rfl, HW⟩ := hrel
    clear HS9
    by_cases hlt : k < n
    · obtain ⟨g1, cc1, e1, _, _⟩ := HW.out.o1.form (by omega)
      obtain ⟨rfl, rfl⟩ : A1 = some ⟨g1, 0, none⟩ ∧ c1 = cc1 := by injection e1 with ea1 ea0 ea2; exact ⟨ea1, ea2⟩
      obtain ⟨⟨xn, xc, xl, xm⟩, hx⟩ : ∃ x, l1[k]? = some x := ⟨_, List.getElem?_eq_getElem (by rw [HW.out.e1]; exact hlt)⟩
      obtain ⟨a0, a1, a2, a3⟩ := own_eb (xs := []) (by rw [List.append_nil]; exact HW.out.o1) k _ hx
      have f0 := HW.out.o1.frozenAt (k * 4)
      have f1 := HW.out.o1.frozenAt (k * 4 + 1)
      have f2 := HW.out.o1.frozenAt (k * 4 + 2)
      have f3 := HW.out.o1.frozenAt (k * 4 + 3)
      have HW2 := (show Hid (LrS w2 ((((wr.setCell ⟨g1, k * 4, none⟩ (.bool false)).setCell ⟨g1, k * 4 + 1, none⟩ (.bool false)).setCell ⟨g1, k * 4 + 2, none⟩ (.int .i64 (-7))).setCell ⟨g1, k * 4 + 3, none⟩ (.int .i64 0)) n (.slice (some ⟨g1, 0, none⟩) n c1) (.slice A2 n c2) (.slice A3 n c3) now2 B2 B3 (l1.set k ⟨false, false, -7, 0⟩)) from HW.out.st hlt ⟨false, false, -7, 0⟩)
      have z0 : (0 : Int) ≤ (k : Int) := by omega
      have z1 : (k : Int) < (n : Int) := by omega
      clear e1 hx HW
      go_wp2_with fail
      go_roundw
      case rel => exact ⟨k + 1, l1.set k ⟨false, false, -7, 0⟩, by omega, by go_num, HW2⟩
      case measure => simp [intOf]; omega
    · obtain rfl : k = n := by omega
      have HC2 := (show Hid (∀ _ : Unit, Calls Tryz.prog 10 #[.slice A2 k c2, .slice A3 k c3] wr fun e w' => e = .returned (.bool true) ∧ Below wr.heap.size wr w') from fun _ => by
        have h := HSm.out wr now2 A2 A3 c2 c3 (by rw [← HNl.out]; exact hnl) (own_rd HW.out.o2 HNl.out.symm) (own_rd HW.out.o3 HNl.out.symm)
        rw [← HNl.out] at h
        exact h)
      have HBw := (show Hid (Below w2.heap.size w2 wr) from HW.out.b)
      clear HW HSm HNl HLn
      go_wp2_with fail
      refine (HC2.out ()).mono ?_
      rintro e w10 ⟨rfl, b10⟩
      have HB10 := (show Hid (Below w2.heap.size w2 w10) from HBw.out.trans (b10.mono HBw.out.size))
      have p1 := (HS2.out.box HB10.out).1
      have p2 := (HS2.out.box HB10.out).2
      clear b10 HBw HC2
      go_wp2_with fail
      refine (HK.out w10 g cap ov HM.out (HS2.out.later HB10.out).l (HP.out.d.later (HS2.out.later HB10.out).l.b)).mono ?_
      rintro e w11 ⟨rfl, b11⟩
      have HB11 := (show Hid (Below w2.heap.size w2 w11) from HB10.out.trans (b11.mono HB10.out.size))
      clear b11 HB10 p1 p2 HK
      go_wp2_with fail
      refine (HWk.out w11).mono ?_
      rintro e w12 ⟨rfl, b12⟩
      have HB12 := (show Hid (Below w2.heap.size w2 w12) from HB11.out.trans (b12.mono HB11.out.size))
      clear b12 HB11 HWk
      go_wp2_with fail
      go_ret
      exact ⟨rfl, HB0.out.trans (((HS2.out.l.b).trans (HB12.out.mono HS2.out.l.b.size)).mono HB0.out.size)⟩
end Go.Proofs.YtokfgoepnfjafaaGreat.N

namespace Go.Proofs.YtokfgoepnfjafaaGreat
open Go.ChangeShapes Go.WideShapes Go.ChangeAt Go.RowKit
open Go.ChangeMaps (open_string shut_string)
set_option maxRecDepth 100000 in
theorem emptyRules_lifted (os : Os) (started : os.Started) (H : Type) (enc : TypeId × Value → H) :
    ReturnsInHanded {} Tryz.checked os 3 .any (Rows.emptyRulesSpec.pre6 enc Tryz.prog Tryz.f3 Rows.emptyRulesRow.domain false) (Rows.emptyRulesSpec.post enc Tryz.prog Tryz.f3 false true false false) := by
  refine returnsInHanded_of_change_sized (C := Tryz.checked) T.own started (by kernel_rfl) Tryz.func3
    (ChangeSpec.witness6 (enc := enc) (C := Tryz.checked) false ⟨#[], #[.agg #[.slice none 0 0], .int .i64 0], []⟩ 8 (by kernel_rfl) (by kernel_rfl) (by kernel_rfl) (by kernel_rfl)) ?_
  intro W base args ds gs before hval0 hW hcnd hsz _
  have hval : ∀ (j : Nat) t v, Tryz.f3.params[j]? = some t → args[j]? = some v → Value.okWide Tryz.prog W .any base t v := hval0
  have hW' := hW
  obtain ⟨p, q, hA0, hV, rfl, hfz, hnd⟩ := hW
  have hA : DataW.TrodAll enc Tryz.prog W 0 (fun _ => true) true Tryz.f3.params.toList args.toList ds p := hA0
  rw [Tryz.params3] at hA hval
  have hsz : (DataW.weightsEach Tryz.prog (#[24, 3].toList ++ Rows.emptyRulesSpec.plain.varTypes Tryz.prog) (ds ++ gs)).all (· ≤ reachBytes) = true := hsz
  obtain ⟨v0, v1, d0, d1, p0, p1, rfl, rfl, rfl, h0, h1⟩ := trodAll_two hA
  obtain ⟨rfl, rfl⟩ := trodVars_none hV
  have lt0 : ∀ x ∈ p0, x.block < W.heap.size := by obtain ⟨m, hm⟩ := h0; exact DataW.trod_lt m _ _ _ hm
  obtain ⟨A0, c0, L0, rfl, r0⟩ := N.open_gram h0 (hval 0 24 v0 rfl rfl) (T.sized_at hsz (j := 0) rfl rfl)
  obtain ⟨n1, rfl, rfl, rfl, wm1⟩ := open_int Tryz.underlying3 (hval 1 3 v1 rfl rfl) h1
  clear hA0 hval0
  refine (N.rules_law L0 A0 c0 n1 W r0).mono fun e W' ⟨he, bel⟩ => ?_
  subst he
  exact ⟨_, rfl, _, _, _, [], _, [], hW', trodAll_mk1 (shut_bool Tryz.underlying4 _), (trodAll_cons_mk (Below.trod T.laidOut (by kernel_rfl) (of_decide_eq_true (by kernel_rfl)) h0 bel lt0) (trodAll_cons_mk (shut_int Tryz.underlying3 wm1) trodAll_mk0)), rfl, bel.frame _, fun h => by cases h⟩

theorem emptyRules_holds : Rows.EmptyRulesSaid :=
  OpenClaim.holds_of_wide 3 Tryz.f3 rfl rfl rfl rfl rfl rfl rfl ⟨rfl, rfl, rfl, rfl, rfl⟩ rfl rfl rfl rfl rfl (by kernel_rfl) Tryz.func3 (by kernel_rfl)
    (of_decide_eq_true (by kernel_rfl)) (by unfold Func.isWrapper; first | (rw [if_pos (by decide +kernel)]; kernel_rfl) | (rw [if_neg (by decide +kernel)]; exact ⟨rfl, rfl⟩))
    (fun os started H enc _ => emptyRules_lifted os started H enc)
end Go.Proofs.YtokfgoepnfjafaaGreat
