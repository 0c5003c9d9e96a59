/- DERIVED. Plain mathematics and walks, laid together (13). -/
import Derived.Test.YtokfgoepnfjafaaGreatEj12
namespace Go.Proofs.YtokfgoepnfjafaaGreat.N
open Go.RowKit Go.Maps
open Go.Proofs.YtokfgoepnfjafaaGreat.T
/-- One more behind a row of what is known. -/
theorem wpList_appE {ops : Array Oper} {rest : List Oper} {o : Oper} {a : Act} {Q : Exit → Act → World → Prop} {W : World} {en ec : Bool} {el em : Int} (H : Nat) (hH : W.heap.size = H) (hgd : o.guard = none) (s x : Operand)
    (ho : o.op = .call { callee := .builtin .append, args := #[s, x], argTypes := #[26, 26] })
    (base n : Nat) (v : Value) (l : List Em) (hs : a.eval s = v) (hx : a.eval x = .slice (some ⟨H, 0, none⟩) 1 1) (hown : W.ownsRow base 33 4 v n (emc l)) (hn : n ≤ 1000000) (hbase : base ≤ W.heap.size)
    (h : ∀ g cap w', w'.ownsRow base 33 4 (.slice (some ⟨g, 0, none⟩) (n + 1) cap) (n + 1) (emc (l ++ [⟨en, ec, el, em⟩])) → W.grownBy w' v.ownBlock → (v.ownBlock = some g ∨ g = H + 1) → g < w'.heap.size → wpList Tryz.prog ops Q rest (a.put o.dst (.slice (some ⟨g, 0, none⟩) (n + 1) cap)) w') :
    wpList Tryz.prog ops Q (o :: rest) a (W.alloc (.cells #[.bool en, .bool ec, .int .i64 el, .int .i64 em] 33)) := by
  subst hH
  obtain ⟨i0, hinf, hz0, hz1, hz2⟩ := info_parts Tryz.infoE
  refine wpList_append_lies (W.alloc (.cells #[.bool en, .bool ec, .int .i64 el, .int .i64 em] 33)) hgd s x 26 ho base 33 i0 _ 4 24 Tryz.underlying26 hinf hz0 hz1 hz2 rfl (by decide) v n (emc l) hs (hown.alloc _) ⟨W.heap.size, 0, none⟩ 1 1 (emV ⟨en, ec, el, em⟩) hx rfl (World.news_of_block (cs := #[.bool en, .bool ec, .int .i64 el, .int .i64 em]) (t := 33) (fr := (0, 0)) (heap_alloc_new W _)) (em_one _) (by decide) (by unfold maxLen; omega) (by omega) (by rw [World.size_alloc]; omega) (W.heap.size + 1) (by rw [World.size_alloc]) ?_
  intro g cap w' h2 h3 h4 h5
  refine h g cap w' ?_ (U.grow_alloc h3) h4 h5
  rw [emc_app, emc_one]
  exact h2
/-- Bits, as they lie. -/
def RdB (W : World) (g : Nat) (ag : List Bool) : Prop := ∀ (j : Nat) b, ag[j]? = some b → W.cell? ⟨g, j, none⟩ = some (.bool b)
theorem RdB.later {W W' : World} {g : Nat} {ag : List Bool} (h : RdB W g ag) (hb : Below W.heap.size W W') : RdB W' g ag := fun j b hj => by
  have hc := h j b hj
  exact (hb.cell (p := ⟨g, j, none⟩) (World.block_lt_of_cell? W _ hc)).trans hc
def bdA (ag : List Bool) (i : Nat) : Bool := !((ag[i]?).getD false)
theorem ptR_of {gs : GL} (hR : RtG gs) {A : Option Addr} {w : World} (hp : GI w A gs) {now : List Em} (hok : OkN gs now) {g : ByteArray × List Nd} (hm : g ∈ gs) : PtR gs now g.2 :=
  ⟨rt_of (hR.ck g hm), (hp.t g hm).2.2, fun n hn h6 => hR.dn.c g hm n hn h6, hok⟩
structure RoS (w wr : World) (m s u : Value) (l : List Em) (v : Value) : Prop where
  b : Below w.heap.size w wr
  k : KX wr w.heap.size m s
  g : GX wr (w.heap.size + 1) u
  o : wr.ownsRow (w.heap.size + 2) 33 4 v l.length (emc l)
theorem RoS.start (w : World) (m s u : Value) : RoS w ((w.alloc (.cells #[m, s] 48)).alloc (.cells #[u] 24)) m s u [] (.slice none 0 0) := by
  have s1 := World.size_alloc w (.cells #[m, s] 48)
  refine ⟨((Below.refl _ _).alloc (Nat.le_refl _) _).alloc (by omega) _, (KX.new w m s).below (below_box _ _), ?_, World.ownsRow_nil _ _ _ _⟩
  have h : GX ((w.alloc (.cells #[m, s] 48)).alloc (.cells #[u] 24)) (w.alloc (.cells #[m, s] 48)).heap.size u := ⟨heap_alloc_new _ _⟩
  rw [s1] at h; exact h
theorem RoS.later {w wr w2 : World} {m s u v : Value} {l : List Em} (h : RoS w wr m s u l v) (hb : Below wr.heap.size wr w2) : RoS w w2 m s u l v := ⟨h.b.trans (hb.mono h.b.size), h.k.below hb, h.g.below hb, T.own_below h.o hb⟩
theorem RoS.push {w wr w2 : World} {m s u v v' : Value} {l : List Em} {e : Em} (h : RoS w wr m s u l v) (ho : w2.ownsRow (w.heap.size + 2) 33 4 v' (l.length + 1) (emc (l ++ [e]))) (hg : wr.grownBy w2 v.ownBlock) : RoS w w2 m s u (l ++ [e]) v' := by
  have hlow : ∀ q, v.ownBlock = some q → w.heap.size + 2 ≤ q := fun q hq => (h.o.lt q hq).1
  refine ⟨h.b.grown hg h.b.size (fun q e => by have := hlow q e; omega), h.k.same (hg.block _ h.k.lt (fun e => by have := hlow _ e.symm; omega)), h.g.same (hg.block _ h.g.lt (fun e => by have := hlow _ e.symm; omega)), ?_⟩
  rw [List.length_append]
  exact ho
set_option maxRecDepth 100000 in
set_option maxHeartbeats 16000000 in
/-- All rules anew. -/
theorem round_any {gs : GL} (hR : RtG gs) {now : List Em} (hok : OkN gs now) {ag : List Bool} (hag : ag.length = gs.length) (B gA : Nat) (Ar A : Option Addr) (cr c ca : Nat) (w : World) (hk : KnI w gs B Ar now) (hp : GI w A gs) (hb : RdB w gA ag) :
    Calls Tryz.prog 29 #[.agg #[.map (some B), .slice Ar now.length cr], .agg #[.slice A gs.length c], .slice (some ⟨gA, 0, none⟩) gs.length ca] w fun e w' => (∃ v, e = .returned v ∧ w'.ownsRow (w.heap.size + 2) 33 4 v gs.length (emc (rdE gs kdR (bdA ag) now))) ∧ Below w.heap.size w w' := by
  have hn200 := hR.n2
  have hne : now ≠ [] := by rintro rfl; have := hk.n; have := hR.n1; simp at *; omega
  obtain ⟨nx, hnx⟩ : ∃ nx, nx = rdE gs kdR (bdA ag) now := ⟨_, rfl⟩
  have HX := (show Hid (nx.length = gs.length) from by show nx.length = _; rw [hnx]; exact rdE_len)
  have HGt := (show Hid (∀ (k : Nat), k < gs.length → ∃ g b, gs[k]? = some g ∧ ag[k]? = some b ∧ PtR gs now g.2 ∧ nx[k]? = some (if b then ⟨(EE (lkE gs now) g.2 (g.2.length - 1)).nu, (EE (lkE gs now) g.2 (g.2.length - 1)).cf, (EE (lkE gs now) g.2 (g.2.length - 1)).le, -1⟩ else EE (lkE gs now) g.2 (g.2.length - 1))) from fun k hk => by
    have hg : gs[k]? = some gs[k] := List.getElem?_eq_getElem hk
    have ha : ag[k]? = some ag[k] := List.getElem?_eq_getElem (by omega)
    have hm := List.mem_of_getElem? hg
    refine ⟨_, _, hg, ha, ptR_of hR hp hok hm, ?_⟩
    rw [hnx, rdE_get hg, EE_la (body_pos hR hm)]
    have e : bdA ag k = !ag[k] := by unfold bdA; rw [ha]; rfl
    rw [e]
    cases ag[k] <;> rfl)
  have HP := (show Hid (GrD w A gs) from hp.d)
  have HK := (show Hid (KnI w gs B Ar now) from hk)
  have HB := (show Hid (RdB w gA ag) from hb)
  have HNe := (show Hid (now ≠ []) from hne)
  have HS := (show Hid (RoS w ((w.alloc (.cells #[.map (some B), .slice Ar now.length cr] 48)).alloc (.cells #[.slice A gs.length c] 24)) (.map (some B)) (.slice Ar now.length cr) (.slice A gs.length c) [] (.slice none 0 0)) from RoS.start w _ _ _)
  obtain ⟨w1, hw1⟩ : ∃ w1, w1 = (w.alloc (.cells #[.map (some B), .slice Ar now.length cr] 48)).alloc (.cells #[.slice A gs.length c] 24) := ⟨_, rfl⟩
  have HE1 := (show Hid ((w.alloc (.cells #[.map (some B), .slice Ar now.length cr] 48)).alloc (.cells #[.slice A gs.length c] 24) = w1) from hw1.symm)
  rw [← hw1] at HS
  rw [← hnx]
  have q1 := HS.out.g.cl
  clear hw1 hk hp hb hne hnx hok hR hag
  go_enter Tryz.func29, Tryz.ntmps29
  go_wp2_with (rw [HE1.out])
  clear HE1 q1
  go_loopw [7, 14] (fun v t wr => ∃ (k : Nat) (A3 : Option Addr) (c3 : Nat), k ≤ gs.length ∧ t = .int .i64 (k : Int) ∧ v = .slice A3 k c3 ∧ Hid (RoS w wr (.map (some B)) (.slice Ar now.length cr) (.slice A gs.length c) (nx.take k) (.slice A3 k c3))) (fun _ t _ => gs.length - (intOf t).toNat)
  case atStart => exact ⟨0, none, 0, Nat.zero_le _, by go_num, rfl, HS⟩
  case round =>
    obtain ⟨k, A3, c3, hk, rfl, rfl, HW⟩ := hrel
    clear HS
    by_cases hlt : k < gs.length
    · obtain ⟨g, ba, hg, ha, hpt, hxk⟩ := HGt.out k hlt
      obtain ⟨b, o, A2, c2, rfl, lb, x0, x1, r2⟩ := HP.out k g hg
      have x0' := (HW.out.b.cell (p := ⟨b, o + k * 2, none⟩) lb).trans x0
      have x1' := (HW.out.b.cell (p := ⟨b, o + k * 2 + 1, none⟩) lb).trans x1
      clear x0 x1
      have z0 : (0 : Int) ≤ (k : Int) := by omega
      have z1 : (k : Int) < (gs.length : Int) := by omega
      obtain ⟨w2, hw2⟩ : ∃ w2, w2 = wr.alloc (.cells #[.string g.1, .slice A2 g.2.length c2] 45) := ⟨_, rfl⟩
      have HE2 := (show Hid (wr.alloc (.cells #[.string g.1, .slice A2 g.2.length c2] 45) = w2) from hw2.symm)
      have hb2 : Below wr.heap.size wr w2 := by rw [hw2]; exact below_box _ _
      have HR2 := (show Hid (RB w2 wr.heap.size g.1 (.slice A2 g.2.length c2)) from by rw [hw2]; exact ⟨heap_alloc_new wr _⟩)
      have HW2 := (show Hid (RoS w w2 (.map (some B)) (.slice Ar now.length cr) (.slice (some ⟨b, o, none⟩) gs.length c) (nx.take k) (.slice A3 k c3)) from HW.out.later hb2)
      obtain ⟨⟨en, ec, el, em⟩, hE⟩ : ∃ e, e = EE (lkE gs now) g.2 (g.2.length - 1) := ⟨_, rfl⟩
      rw [← hE] at hxk
      have HC := (show Hid (Calls Tryz.prog 23 #[.agg #[.map (some B), .slice Ar now.length cr], .slice A2 g.2.length c2] w2 fun e w' => e = .returned (.agg #[.bool en, .bool ec, .int .i64 el, .int .i64 em]) ∧ Below w2.heap.size w2 w') from by
        have t := of_any hpt B Ar A2 cr c2 w2 (HK.out.later HW2.out.b) HNe.out (r2.below HW2.out.b (Nat.le_refl _))
        rw [← hE] at t
        exact t)
      have k0 := HW2.out.k.c0
      have k1 := HW2.out.k.c1
      have y1 := HR2.out.c1
      have HXk := (show Hid (nx[k]? = some (if ba then ⟨en, ec, el, -1⟩ else ⟨en, ec, el, em⟩)) from hxk)
      have HAg := (show Hid (ag[k]? = some ba) from ha)
      clear hw2 hb2 hg ha hpt hxk r2 hE HW HGt HP
      go_wp2_with (rw [HE2.out])
      refine HC.out.mono ?_
      rintro e w3 ⟨rfl, b3⟩
      have HW3 := (show Hid (RoS w w3 (.map (some B)) (.slice Ar now.length cr) (.slice (some ⟨b, o, none⟩) gs.length c) (nx.take k) (.slice A3 k c3)) from HW2.out.later b3)
      clear HC HE2 k0 k1 y1 HR2 HW2 b3 x0' x1'
      obtain ⟨kk, hkk⟩ : ∃ kk, kk = w3.heap.size := ⟨_, rfl⟩
      obtain ⟨w4, hw4⟩ : ∃ w4, w4 = w3.alloc (.cells #[.bool en, .bool ec, .int .i64 el, .int .i64 em] 33) := ⟨_, rfl⟩
      have HE4 := (show Hid (w3.alloc (.cells #[.bool en, .bool ec, .int .i64 el, .int .i64 em] 33) = w4) from hw4.symm)
      have HKk := (show Hid (w3.heap.size = kk) from hkk.symm)
      have HX4 := (show Hid (EX w4 kk ⟨en, ec, el, em⟩) from by rw [hw4, hkk]; exact EX.new w3 ⟨en, ec, el, em⟩)
      have HW4 := (show Hid (RoS w w4 (.map (some B)) (.slice Ar now.length cr) (.slice (some ⟨b, o, none⟩) gs.length c) (nx.take k) (.slice A3 k c3)) from HW3.out.later (by rw [hw4]; exact below_box _ _))
      have HKw := (show Hid (w.heap.size + 2 ≤ kk ∧ ∀ q, (Value.slice A3 k c3).ownBlock = some q → q < kk) from ⟨by rw [hkk]; have := HW3.out.g.lt; omega, fun q hq => by rw [hkk]; exact (HW3.out.o.lt q hq).2⟩)
      have a0 : w4.cell? ⟨gA, k, none⟩ = some (.bool ba) := HB.out.later HW4.out.b k ba HAg.out
      have v0 : w4.cell? ⟨kk, 0, none⟩ = some (.bool en) := HX4.out.eb.c0
      have v1 : w4.cell? ⟨kk, 1, none⟩ = some (.bool ec) := HX4.out.eb.c1
      have v2 : w4.cell? ⟨kk, 2, none⟩ = some (.int .i64 el) := HX4.out.eb.c2
      have v3 : w4.cell? ⟨kk, 3, none⟩ = some (.int .i64 em) := HX4.out.eb.c3
      have f3 := HX4.out.fz 3
      have HTk := (show Hid (∀ e, nx[k]? = some e → nx.take (k + 1) = nx.take k ++ [e] ∧ (nx.take k).length = k) from fun e he => ⟨by rw [List.take_add_one, he]; rfl, by rw [List.length_take, HX.out]; omega⟩)
      clear hw4 hkk HW3
      cases ba with
      | false =>
        obtain ⟨T1, T2⟩ := HTk.out _ HXk.out
        have HO := (show Hid (w4.ownsRow (w.heap.size + 2) 33 4 (.slice A3 k c3) k (emc (nx.take k))) from by have h := HW4.out.o; rw [T2] at h; exact h)
        have HSz := (show Hid (w.heap.size + 2 ≤ w4.heap.size) from Nat.le_trans HKw.out.1 (Nat.le_of_lt HX4.out.lt))
        have HPu := (show Hid (∀ (w6 : World) (g3 cap3 : Nat), w6.ownsRow (w.heap.size + 2) 33 4 (.slice (some ⟨g3, 0, none⟩) (k + 1) cap3) (k + 1) (emc (nx.take k ++ [⟨en, ec, el, em⟩])) → w4.grownBy w6 (Value.slice A3 k c3).ownBlock → RoS w w6 (.map (some B)) (.slice Ar now.length cr) (.slice (some ⟨b, o, none⟩) gs.length c) (nx.take (k + 1)) (.slice (some ⟨g3, 0, none⟩) (k + 1) cap3)) from fun w6 g3 cap3 h1 h2 => by
          have h := HW4.out.push (e := ⟨en, ec, el, em⟩) (v' := .slice (some ⟨g3, 0, none⟩) (k + 1) cap3) (w2 := w6) (by rw [T2]; exact h1) h2
          have T1' : nx.take (k + 1) = nx.take k ++ [⟨en, ec, el, em⟩] := T1
          rw [T1']
          exact h)
        clear T1 T2 HTk HXk HW4 HX4 HAg
        go_wp2_with (first | rw [HE4.out, HKk.out] | (at_builtin; refine wpList_appE w4.heap.size rfl rfl _ _ rfl (w.heap.size + 2) k _ (nx.take k) rfl rfl HO.out (by omega) HSz.out ?_; intro g6 cap6 w6 ho6 hg6 hat6 hl6; have HW6 := (show Hid _ from HPu.out w6 g6 cap6 ho6 hg6); clear ho6 hg6 hat6 hl6 HPu HO HSz v0 v1 v2 v3 f3 a0))
        go_roundw
        case rel => exact ⟨k + 1, some ⟨g6, 0, none⟩, cap6, by omega, by go_num, rfl, HW6⟩
        case measure => simp [intOf]; omega
      | true =>
        obtain ⟨T1, T2⟩ := HTk.out _ HXk.out
        obtain ⟨w5, hw5⟩ : ∃ w5, w5 = w4.setCell ⟨kk, 3, none⟩ (.int .i64 (-1)) := ⟨_, rfl⟩
        have HE5 := (show Hid (w4.setCell ⟨kk, 3, none⟩ (.int .i64 (-1)) = w5) from hw5.symm)
        have HX5 := (show Hid (EX w5 kk ⟨en, ec, el, -1⟩) from by rw [hw5]; exact HX4.out.set3 (-1))
        have HW5 := (show Hid (RoS w w5 (.map (some B)) (.slice Ar now.length cr) (.slice (some ⟨b, o, none⟩) gs.length c) (nx.take k) (.slice A3 k c3)) from by
          have h := HW4.out
          have hk := HKw.out.1
          have key : ∀ j, j ≠ kk → w5.heap[j]? = w4.heap[j]? := fun j hj => by rw [hw5]; exact heap_setCell_other _ _ _ _ hj
          exact ⟨by rw [hw5]; exact h.b.setCell (p := ⟨kk, 3, none⟩) (by show w.heap.size ≤ kk; omega) _, h.k.same (key _ (by omega)), h.g.same (key _ (by omega)), own_same h.o fun q hq => key q (by have := HKw.out.2 q hq; omega)⟩)
        have u0 : w5.cell? ⟨kk, 0, none⟩ = some (.bool en) := HX5.out.eb.c0
        have u1 : w5.cell? ⟨kk, 1, none⟩ = some (.bool ec) := HX5.out.eb.c1
        have u2 : w5.cell? ⟨kk, 2, none⟩ = some (.int .i64 el) := HX5.out.eb.c2
        have u3 : w5.cell? ⟨kk, 3, none⟩ = some (.int .i64 (-1)) := HX5.out.eb.c3
        have HO := (show Hid (w5.ownsRow (w.heap.size + 2) 33 4 (.slice A3 k c3) k (emc (nx.take k))) from by have h := HW5.out.o; rw [T2] at h; exact h)
        have HSz := (show Hid (w.heap.size + 2 ≤ w5.heap.size) from Nat.le_trans HKw.out.1 (Nat.le_of_lt HX5.out.lt))
        have HPu := (show Hid (∀ (w6 : World) (g3 cap3 : Nat), w6.ownsRow (w.heap.size + 2) 33 4 (.slice (some ⟨g3, 0, none⟩) (k + 1) cap3) (k + 1) (emc (nx.take k ++ [⟨en, ec, el, -1⟩])) → w5.grownBy w6 (Value.slice A3 k c3).ownBlock → RoS w w6 (.map (some B)) (.slice Ar now.length cr) (.slice (some ⟨b, o, none⟩) gs.length c) (nx.take (k + 1)) (.slice (some ⟨g3, 0, none⟩) (k + 1) cap3)) from fun w6 g3 cap3 h1 h2 => by
          have h := HW5.out.push (e := ⟨en, ec, el, -1⟩) (v' := .slice (some ⟨g3, 0, none⟩) (k + 1) cap3) (w2 := w6) (by rw [T2]; exact h1) h2
          have T1' : nx.take (k + 1) = nx.take k ++ [⟨en, ec, el, -1⟩] := T1
          rw [T1']
          exact h)
        clear T1 T2 HTk HXk HW4 HX4 HAg hw5 HX5 HW5
        go_wp2_with (first | rw [HE4.out, HKk.out] | rw [HE5.out] | (at_builtin; refine wpList_appE w5.heap.size rfl rfl _ _ rfl (w.heap.size + 2) k _ (nx.take k) rfl rfl HO.out (by omega) HSz.out ?_; intro g6 cap6 w6 ho6 hg6 hat6 hl6; have HW6 := (show Hid _ from HPu.out w6 g6 cap6 ho6 hg6); clear ho6 hg6 hat6 hl6 HPu HO HSz v0 v1 v2 v3 f3 a0 u0 u1 u2 u3))
        go_roundw
        case rel => exact ⟨k + 1, some ⟨g6, 0, none⟩, cap6, by omega, by go_num, rfl, HW6⟩
        case measure => simp [intOf]; omega
    · obtain rfl : k = gs.length := by omega
      have HO := (show Hid (wr.ownsRow (w.heap.size + 2) 33 4 (.slice A3 gs.length c3) gs.length (emc nx)) from by
        have h := HW.out.o
        rw [← HX.out, List.take_length, HX.out] at h
        exact h)
      have HBz := (show Hid (Below w.heap.size w wr) from HW.out.b)
      clear HW HGt HP HK HB
      go_wp2_with fail
      go_ret
      exact ⟨⟨_, rfl, HO.out⟩, HBz.out⟩
end Go.Proofs.YtokfgoepnfjafaaGreat.N

namespace Go.Proofs.YtokfgoepnfjafaaGreat.N
open Go.RowKit Go.Maps
open Go.Proofs.YtokfgoepnfjafaaGreat.T
structure BgS (w wr : World) (u : Value) (mb kb : Nat) (gt : GL) (v : Value) (l : List Em) : Prop where
  b : Below w.heap.size w wr
  g : GX wr w.heap.size u
  r : KX wr (w.heap.size + 1) (.map none) (.slice none 0 0)
  k : KX wr kb (.map (some mb)) v
  m : NmM wr mb gt
  e1 : mb = w.heap.size + 2
  e2 : kb = w.heap.size + 3
  o : wr.ownsRow (w.heap.size + 4) 33 4 v l.length (emc l)
theorem BgS.later {w wr w2 : World} {u v : Value} {mb kb : Nat} {gt : GL} {l : List Em} (h : BgS w wr u mb kb gt v l) (hb : Below wr.heap.size wr w2) : BgS w w2 u mb kb gt v l := ⟨h.b.trans (hb.mono h.b.size), h.g.below hb, h.r.below hb, h.k.below hb, h.m.later hb, h.e1, h.e2, T.own_below h.o hb⟩
theorem BgS.put {w wX w1 : World} {u v : Value} {mb kb k : Nat} {gt : GL} {g : ByteArray × List Nd} {l : List Em} {D : DataW Unit} (h : BgS w wX u mb kb gt v l) (hg : wX.grownBy w1 (some mb)) (ho : w1.ownsMap Tryz.prog 9 (plainElem Tryz.prog 3) mb (k + 1) (D.put (.string g.1.data.toList) (.lit (.int .i64 k)))) (hD : NmD D gt) (hf : fdG gt g.1 = none) (hk : gt.length = k) : BgS w w1 u mb kb (gt ++ [g]) v l := by
  have hm : Maps.IsMap D := by
    obtain ⟨es, clock, _, _, _, e⟩ := ho
    cases D with
    | map es => exact ⟨es, rfl⟩
    | _ => cases e
  have e1 := h.e1
  have e2 := h.e2
  have key : ∀ j, j < wX.heap.size → j ≠ mb → w1.heap[j]? = wX.heap[j]? := fun j hj hn => hg.block j hj (fun e => by injection e with e; exact hn e)
  refine ⟨h.b.grown hg h.b.size (fun j hj => by cases hj; omega), h.g.same (key _ h.g.lt (by omega)), h.r.same (key _ h.r.lt (by omega)), h.k.same (key _ h.k.lt (by omega)), ⟨⟨D.put (.string g.1.data.toList) (.lit (.int .i64 k)), ?_, ?_⟩⟩, e1, e2, own_same h.o fun q hq => key q (h.o.lt q hq).2 (by have := (h.o.lt q hq).1; omega)⟩
  · rw [List.length_append, List.length_singleton, hk]; exact ho
  · have := NmD.put hm hD g hf
    rw [hk] at this
    exact this
theorem BgS.other {w w3 w4 : World} {u v : Value} {mb kb : Nat} {gt : GL} {l : List Em} (h : BgS w w4 u mb kb gt v l) (h3 : BgS w w3 u mb kb gt v l) (j : Nat) (x : Value) : BgS w (w4.setCell ⟨w3.heap.size, j, none⟩ x) u mb kb gt v l := by
  have key : ∀ i, i ≠ w3.heap.size → (w4.setCell ⟨w3.heap.size, j, none⟩ x).heap[i]? = w4.heap[i]? := fun i hi => heap_setCell_other _ _ _ _ hi
  have l1 := h3.g.lt
  have l2 := h3.r.lt
  have l3 := h3.k.lt
  have l4 := h3.m.lt
  exact ⟨h.b.setCell (p := ⟨w3.heap.size, j, none⟩) (by show w.heap.size ≤ w3.heap.size; omega) _, h.g.same (key _ (by omega)), h.r.same (key _ (by omega)), h.k.same (key _ (by omega)), h.m.same (key _ (by omega)), h.e1, h.e2, own_same h.o fun q hq => key q (by have := (h3.o.lt q hq).2; omega)⟩
theorem BgS.grown {w wr w6 : World} {u v : Value} {mb kb : Nat} {gt : GL} {l : List Em} (h : BgS w wr u mb kb gt v l) (hg : wr.grownBy w6 v.ownBlock) : KX w6 kb (.map (some mb)) v :=
  h.k.same (hg.block _ h.k.lt (fun e => by have := (h.o.lt _ e.symm).1; have := h.e2; omega))
theorem BgS.push {w wr w6 : World} {u v v' : Value} {mb kb : Nat} {gt : GL} {l : List Em} {e : Em} (h : BgS w wr u mb kb gt v l) (ho : w6.ownsRow (w.heap.size + 4) 33 4 v' (l.length + 1) (emc (l ++ [e]))) (hg : wr.grownBy w6 v.ownBlock) : BgS w (w6.setCell ⟨kb, 1, none⟩ v') u mb kb gt v' (l ++ [e]) := by
  have hlow : ∀ q, v.ownBlock = some q → w.heap.size + 4 ≤ q := fun q hq => (h.o.lt q hq).1
  have e1 := h.e1
  have e2 := h.e2
  have key : ∀ j, j < wr.heap.size → j ≠ kb → j < w.heap.size + 4 → (w6.setCell ⟨kb, 1, none⟩ v').heap[j]? = wr.heap[j]? := fun j hj hn hl => (heap_setCell_other _ _ _ _ hn).trans (hg.block j hj (fun e => by have := hlow _ e.symm; omega))
  refine ⟨(h.b.grown hg h.b.size (fun q e => by have := hlow q e; omega)).setCell (p := ⟨kb, 1, none⟩) (by show w.heap.size ≤ kb; omega) _, h.g.same (key _ h.g.lt (by omega) (by omega)), h.r.same (key _ h.r.lt (by omega) (by omega)), (h.grown hg).set1 v', h.m.same (key _ h.m.lt (by omega) (by omega)), e1, e2, ?_⟩
  rw [List.length_append]
  exact ownsRow_setCell_below ho (a := ⟨kb, 1, none⟩) (by show kb < w.heap.size + 4; omega) v'
theorem ret_kx {s : Nat} {fn : Func} {R : Ending → World → Prop} {act : Act} {W : World} {k : Nat} {m v : Value} (hF : fn.results = #[.cell s 48]) (hd : act.defers = []) (h6 : act.tmps.getD s undef = .pointer (some ⟨k, 0, none⟩)) (hT : KX W k m v) (hR : R (.returned (.agg #[m, v])) W) : bodyPost Tryz.prog fn R .ret act W := by
  have c0 : W.cell? ⟨k, 0, none⟩ = _ := hT.c0
  have c1 : W.cell? ⟨k, 1, none⟩ = _ := hT.c1
  refine bodyPost_ret (v := .agg #[m, v]) ?_ hd hR
  simp only [Array.getD_eq_getD_getElem?] at h6
  simp [results, hF, go_sem, h6, c0, c1]
theorem ret_kx2 {s t : Nat} {fn : Func} {R : Ending → World → Prop} {act : Act} {W : World} {k : Nat} {m v x : Value} (hF : fn.results = #[.cell s 48, .tmp t]) (hd : act.defers = []) (h6 : act.tmps.getD s undef = .pointer (some ⟨k, 0, none⟩)) (h7 : act.tmps.getD t undef = x) (hT : KX W k m v) (hR : R (.returned (.tuple #[.agg #[m, v], x])) W) : bodyPost Tryz.prog fn R .ret act W := by
  have c0 : W.cell? ⟨k, 0, none⟩ = _ := hT.c0
  have c1 : W.cell? ⟨k, 1, none⟩ = _ := hT.c1
  refine bodyPost_ret (v := .tuple #[.agg #[m, v], x]) ?_ hd hR
  simp only [Array.getD_eq_getD_getElem?] at h6 h7
  simp [results, hF, go_sem, h6, h7, c0, c1]
theorem BgS.start (w : World) (u : Value) (w1 w2 : World) (h1 : w1 = (w.alloc (.cells #[u] 24)).alloc (.cells #[.map none, .slice none 0 0] 48)) (h2 : w2 = (w1.alloc (.map #[] 0)).alloc (.cells #[.map (some w1.heap.size), .slice none 0 0] 48)) : BgS w w2 u w1.heap.size (w1.heap.size + 1) [] (.slice none 0 0) [] := by
  have s1 := World.size_alloc w (.cells #[u] 24)
  have s2 : w1.heap.size = w.heap.size + 2 := by rw [h1, World.size_alloc, s1]
  have s3 := World.size_alloc w1 (.map #[] 0)
  have b1 : Below w.heap.size w w1 := by rw [h1]; exact ((Below.refl _ _).alloc (Nat.le_refl _) _).alloc (by omega) _
  have b2 : Below w1.heap.size w1 w2 := by rw [h2]; exact ((Below.refl _ _).alloc (Nat.le_refl _) _).alloc (by omega) _
  have g1 : GX w1 w.heap.size u := by rw [h1]; exact (GX.mk (heap_alloc_new w _)).below (below_box _ _)
  have k1 : KX w1 (w.heap.size + 1) (.map none) (.slice none 0 0) := by
    have h := KX.new (w.alloc (.cells #[u] 24)) (.map none) (.slice none 0 0)
    rw [s1, ← h1] at h; exact h
  refine ⟨b1.trans (b2.mono b1.size), g1.below b2, k1.below b2, ?_, ?_, s2, by omega, World.ownsRow_nil _ _ _ _⟩
  · have h := KX.new (w1.alloc (.map #[] 0)) (.map (some w1.heap.size)) (.slice none 0 0)
    rw [s3, ← h2] at h; exact h
  · rw [h2]; exact (NmM.nil w1).later (below_box _ _)
set_option maxRecDepth 100000 in
set_option maxHeartbeats 16000000 in
/-- What is known ahead of all rounds. -/
theorem begun_any {gs : GL} (hR : RtG gs) {ag : List Bool} (hag : ag.length = gs.length) (gA : Nat) (A : Option Addr) (c ca : Nat) (w : World) (hp : GI w A gs) (hb : RdB w gA ag) :
    Calls Tryz.prog 28 #[.agg #[.slice A gs.length c], .slice (some ⟨gA, 0, none⟩) gs.length ca] w fun e w' => (∃ mb v, e = .returned (.agg #[.map (some mb), v]) ∧ w.heap.size ≤ mb ∧ NmM w' mb gs ∧ w'.ownsRow w.heap.size 33 4 v gs.length (emc (pgS gs (bdA ag)))) ∧ Below w.heap.size w w' := by
  have hn200 := hR.n2
  obtain ⟨px, hpx⟩ : ∃ px, px = pgS gs (bdA ag) := ⟨_, rfl⟩
  have HX := (show Hid (px.length = gs.length) from by show px.length = _; rw [hpx]; exact pgS_len _ _)
  have HGt := (show Hid (∀ (k : Nat), k < gs.length → ∃ g b, gs[k]? = some g ∧ ag[k]? = some b ∧ g.1.size ≤ 140737488355328 ∧ fdG (gs.take k) g.1 = none ∧ px[k]? = some (if b then eB else eP)) from fun k hk => by
    have hg : gs[k]? = some gs[k] := List.getElem?_eq_getElem hk
    have ha : ag[k]? = some ag[k] := List.getElem?_eq_getElem (by omega)
    have hm := List.mem_of_getElem? hg
    refine ⟨_, _, hg, ha, (hp.t _ hm).1, ?_, ?_⟩
    · cases q : fdG (gs.take k) (gs[k]).1 with
      | none => rfl
      | some i =>
        obtain ⟨h, h1, h2, _⟩ := fdG_some q
        rw [List.getElem?_take] at h1
        by_cases hik : i < k
        · rw [if_pos hik] at h1
          have := hR.dn.d i k h _ h1 hg h2
          omega
        · rw [if_neg hik] at h1; cases h1
    · rw [hpx]
      unfold pgS
      rw [List.getElem?_map, List.getElem?_range hk]
      have e : bdA ag k = !ag[k] := by unfold bdA; rw [ha]; rfl
      show some (if bdA ag k = true then eP else eB) = _
      rw [e]
      cases ag[k] <;> rfl)
  have HP := (show Hid (GrD w A gs) from hp.d)
  have HB := (show Hid (RdB w gA ag) from hb)
  obtain ⟨w1, hw1⟩ : ∃ w1, w1 = (w.alloc (.cells #[.slice A gs.length c] 24)).alloc (.cells #[.map none, .slice none 0 0] 48) := ⟨_, rfl⟩
  have HE1 := (show Hid ((w.alloc (.cells #[.slice A gs.length c] 24)).alloc (.cells #[.map none, .slice none 0 0] 48) = w1) from hw1.symm)
  obtain ⟨mb, hmb⟩ : ∃ mb, mb = w1.heap.size := ⟨_, rfl⟩
  have HMb := (show Hid (w1.heap.size = mb) from hmb.symm)
  obtain ⟨w2, hw2⟩ : ∃ w2, w2 = (w1.alloc (.map #[] 0)).alloc (.cells #[.map (some w1.heap.size), .slice none 0 0] 48) := ⟨_, rfl⟩
  have HE2 := (show Hid ((w1.alloc (.map #[] 0)).alloc (.cells #[.map (some w1.heap.size), .slice none 0 0] 48) = w2) from hw2.symm)
  have HS := (show Hid (BgS w w2 (.slice A gs.length c) mb (mb + 1) [] (.slice none 0 0) []) from by rw [hmb]; exact BgS.start w _ w1 w2 hw1 hw2)
  have q1 := HS.out.g.cl
  have hmm := @run_makeMap Tryz.prog
  rw [← hpx]
  clear hw1 hw2 hp hb hR hag hpx hmb
  go_enter Tryz.func28, Tryz.ntmps28
  go_wp2_with (first | rw [HE1.out] | rw [HE2.out, HMb.out])
  clear HE1 HE2 q1 hmm
  go_loopw [14] (fun t wr => ∃ (k : Nat) (A3 : Option Addr) (c3 : Nat), k ≤ gs.length ∧ t = .int .i64 (k : Int) ∧ Hid (BgS w wr (.slice A gs.length c) mb (mb + 1) (gs.take k) (.slice A3 k c3) (px.take k))) (fun t _ => gs.length - (intOf t).toNat)
  case atStart => exact ⟨0, none, 0, Nat.zero_le _, by go_num, HS⟩
  case round =>
    obtain ⟨k, A3, c3, hk, rfl, HW⟩ := hrel
    clear HS
    by_cases hlt : k < gs.length
    · obtain ⟨g, ba, hg, ha, hsz, hfd, hxk⟩ := HGt.out k hlt
      obtain ⟨b, o, A2, c2, rfl, lb, x0, x1, r2⟩ := HP.out k g hg
      have x0' := (HW.out.b.cell (p := ⟨b, o + k * 2, none⟩) lb).trans x0
      have x1' := (HW.out.b.cell (p := ⟨b, o + k * 2 + 1, none⟩) lb).trans x1
      clear x0 x1 r2
      have z0 : (0 : Int) ≤ (k : Int) := by omega
      have z1 : (k : Int) < (gs.length : Int) := by omega
      obtain ⟨w2, hw2⟩ : ∃ w2, w2 = wr.alloc (.cells #[.string g.1, .slice A2 g.2.length c2] 45) := ⟨_, rfl⟩
      have HE2 := (show Hid (wr.alloc (.cells #[.string g.1, .slice A2 g.2.length c2] 45) = w2) from hw2.symm)
      have hb2 : Below wr.heap.size wr w2 := by rw [hw2]; exact below_box _ _
      have HR2 := (show Hid (RB w2 wr.heap.size g.1 (.slice A2 g.2.length c2)) from by rw [hw2]; exact ⟨heap_alloc_new wr _⟩)
      have HW2 := (show Hid (BgS w w2 (.slice (some ⟨b, o, none⟩) gs.length c) mb (mb + 1) (gs.take k) (.slice A3 k c3) (px.take k)) from HW.out.later hb2)
      have k0 := HW2.out.k.c0
      have k1 := HW2.out.k.c1
      have y0 := HR2.out.c0
      obtain ⟨D, hown, hD⟩ := HW2.out.m.ex
      have hlk : (gs.take k).length = k := by rw [List.length_take]; omega
      rw [hlk] at hown
      have HOm := (show Hid (w2.ownsMap Tryz.prog 9 (plainElem Tryz.prog 3) mb k D) from hown)
      have HPut := (show Hid (∀ w3, w2.grownBy w3 (some mb) → w3.ownsMap Tryz.prog 9 (plainElem Tryz.prog 3) mb (k + 1) (D.put (.string g.1.data.toList) (.lit (.int .i64 k))) → BgS w w3 (.slice (some ⟨b, o, none⟩) gs.length c) mb (mb + 1) (gs.take (k + 1)) (.slice A3 k c3) (px.take k)) from fun w3 h1 h2 => by
        rw [show gs.take (k + 1) = gs.take k ++ [g] from by rw [List.take_add_one, hg]; rfl]
        exact HW2.out.put h1 h2 hD hfd hlk)
      have hkey := key_of hsz
      have HXk := (show Hid (px[k]? = some (if ba then eB else eP)) from hxk)
      have HAg := (show Hid (ag[k]? = some ba) from ha)
      have HLp := (show Hid ((px.take k).length = k) from by show _ = _; rw [List.length_take, HX.out]; omega)
      clear hw2 hb2 hg ha hxk hD hown hfd hlk HW HW2 HGt HP HR2 hsz
      cases ba with
      | false =>
        have HXe := (show Hid (px.take (k + 1) = px.take k ++ [⟨false, false, -1, 0⟩] ∧ (px.take k).length = k) from ⟨by rw [List.take_add_one, HXk.out]; rfl, HLp.out⟩)
        have HPu := (show Hid (∀ (W w6 : World) (g6 cap6 : Nat), BgS w W (.slice (some ⟨b, o, none⟩) gs.length c) mb (mb + 1) (gs.take (k + 1)) (.slice A3 k c3) (px.take k) → w6.ownsRow (w.heap.size + 4) 33 4 (.slice (some ⟨g6, 0, none⟩) (k + 1) cap6) (k + 1) (emc (px.take k ++ [⟨false, false, -1, 0⟩])) → W.grownBy w6 (Value.slice A3 k c3).ownBlock → KX w6 (mb + 1) (.map (some mb)) (.slice A3 k c3) ∧ BgS w (w6.setCell ⟨mb + 1, 1, none⟩ (.slice (some ⟨g6, 0, none⟩) (k + 1) cap6)) (.slice (some ⟨b, o, none⟩) gs.length c) mb (mb + 1) (gs.take (k + 1)) (.slice (some ⟨g6, 0, none⟩) (k + 1) cap6) (px.take (k + 1))) from fun W w6 g6 cap6 h1 h2 h3 => by
          refine ⟨h1.grown h3, ?_⟩
          have h := h1.push (e := ⟨false, false, -1, 0⟩) (v' := .slice (some ⟨g6, 0, none⟩) (k + 1) cap6) (w6 := w6) (by rw [HXe.out.2]; exact h2) h3
          rw [HXe.out.1]
          exact h)
        have HOw := (show Hid (∀ W, BgS w W (.slice (some ⟨b, o, none⟩) gs.length c) mb (mb + 1) (gs.take (k + 1)) (.slice A3 k c3) (px.take k) → W.ownsRow (w.heap.size + 4) 33 4 (.slice A3 k c3) k (emc (px.take k)) ∧ w.heap.size + 4 ≤ W.heap.size) from fun W h => ⟨by have h2 := h.o; rw [HXe.out.2] at h2; exact h2, by have h2 := h.k.lt; have e1 := h.e1; omega⟩)
        clear HXe HLp HXk
        go_wp2_with (first
          | rw [HE2.out]
          | rw [HE4.out]
          | (at_mapUpdate
             refine wpList_mapUpdate_own _ rfl _ _ _ 46 rfl 9 3 keyed Tryz.underlying46 _ mb k D rfl HOm.out (by unfold maxLen; omega) _ _ (.string g.1.data.toList) rfl rfl hkey _ [] (plainElem_int Tryz.underlying3 (WalkArith.wf_i64 (by omega))) ?_
             intro w3 hown3 hgrow3
             have HS3 := (show Hid (BgS w w3 (.slice (some ⟨b, o, none⟩) gs.length c) mb (mb + 1) (gs.take (k + 1)) (.slice A3 k c3) (px.take k)) from HPut.out w3 hgrow3 hown3)
             clear hown3 hgrow3 HPut HOm hkey k0 k1 y0 HE2
             obtain ⟨w4, hw4⟩ : ∃ w4, w4 = w3.alloc (.cells #[.bool false, .bool false, .int .i64 (-1), .int .i64 0] 33) := ⟨_, rfl⟩
             have HE4 := (show Hid (w3.alloc (.cells #[.bool false, .bool false, .int .i64 (-1), .int .i64 0] 33) = w4) from hw4.symm)
             have HX4 := (show Hid (EX w4 w3.heap.size ⟨false, false, -1, 0⟩) from by rw [hw4]; exact EX.new w3 ⟨false, false, -1, 0⟩)
             have HS4 := (show Hid (BgS w w4 (.slice (some ⟨b, o, none⟩) gs.length c) mb (mb + 1) (gs.take (k + 1)) (.slice A3 k c3) (px.take k)) from HS3.out.later (by rw [hw4]; exact below_box _ _))
             have a0 : w4.cell? ⟨gA, k, none⟩ = some (.bool false) := HB.out.later HS4.out.b k _ HAg.out
             have v0 : w4.cell? ⟨w3.heap.size, 0, none⟩ = some (.bool false) := HX4.out.eb.c0
             have v1 : w4.cell? ⟨w3.heap.size, 1, none⟩ = some (.bool false) := HX4.out.eb.c1
             have v2 : w4.cell? ⟨w3.heap.size, 2, none⟩ = some (.int .i64 (-1)) := HX4.out.eb.c2
             have v3 : w4.cell? ⟨w3.heap.size, 3, none⟩ = some (.int .i64 0) := HX4.out.eb.c3
             have f3 := HX4.out.fz 3
             have n1 := HS4.out.k.c1
             clear hw4
             )
          | (at_builtin
             refine wpList_appE w4.heap.size rfl rfl _ _ rfl (w.heap.size + 4) k _ (px.take k) rfl rfl (HOw.out _ HS4.out).1 (by omega) (HOw.out _ HS4.out).2 ?_
             intro g6 cap6 w6 ho6 hg6 hat6 hl6
             have HF6 := (show Hid _ from HPu.out w4 w6 g6 cap6 HS4.out ho6 hg6)
             have m1 := HF6.out.1.c1
             have mf := HF6.out.1.fz 1
             clear ho6 hg6 hat6 hl6 HPu HOw v0 v1 v2 v3 f3 a0 n1))
        go_roundw
        case rel => exact ⟨k + 1, some ⟨g6, 0, none⟩, cap6, by omega, by go_num, HF6.out.2⟩
        case measure => simp [intOf]; omega
      | true =>
        have HXe := (show Hid (px.take (k + 1) = px.take k ++ [⟨false, false, -1, -1⟩] ∧ (px.take k).length = k) from ⟨by rw [List.take_add_one, HXk.out]; rfl, HLp.out⟩)
        have HPu := (show Hid (∀ (W w6 : World) (g6 cap6 : Nat), BgS w W (.slice (some ⟨b, o, none⟩) gs.length c) mb (mb + 1) (gs.take (k + 1)) (.slice A3 k c3) (px.take k) → w6.ownsRow (w.heap.size + 4) 33 4 (.slice (some ⟨g6, 0, none⟩) (k + 1) cap6) (k + 1) (emc (px.take k ++ [⟨false, false, -1, -1⟩])) → W.grownBy w6 (Value.slice A3 k c3).ownBlock → KX w6 (mb + 1) (.map (some mb)) (.slice A3 k c3) ∧ BgS w (w6.setCell ⟨mb + 1, 1, none⟩ (.slice (some ⟨g6, 0, none⟩) (k + 1) cap6)) (.slice (some ⟨b, o, none⟩) gs.length c) mb (mb + 1) (gs.take (k + 1)) (.slice (some ⟨g6, 0, none⟩) (k + 1) cap6) (px.take (k + 1))) from fun W w6 g6 cap6 h1 h2 h3 => by
          refine ⟨h1.grown h3, ?_⟩
          have h := h1.push (e := ⟨false, false, -1, -1⟩) (v' := .slice (some ⟨g6, 0, none⟩) (k + 1) cap6) (w6 := w6) (by rw [HXe.out.2]; exact h2) h3
          rw [HXe.out.1]
          exact h)
        have HOw := (show Hid (∀ W, BgS w W (.slice (some ⟨b, o, none⟩) gs.length c) mb (mb + 1) (gs.take (k + 1)) (.slice A3 k c3) (px.take k) → W.ownsRow (w.heap.size + 4) 33 4 (.slice A3 k c3) k (emc (px.take k)) ∧ w.heap.size + 4 ≤ W.heap.size) from fun W h => ⟨by have h2 := h.o; rw [HXe.out.2] at h2; exact h2, by have h2 := h.k.lt; have e1 := h.e1; omega⟩)
        clear HXe HLp HXk
        go_wp2_with (first
          | rw [HE2.out]
          | rw [HE4.out]
          | rw [HE5.out]
          | (at_mapUpdate
             refine wpList_mapUpdate_own _ rfl _ _ _ 46 rfl 9 3 keyed Tryz.underlying46 _ mb k D rfl HOm.out (by unfold maxLen; omega) _ _ (.string g.1.data.toList) rfl rfl hkey _ [] (plainElem_int Tryz.underlying3 (WalkArith.wf_i64 (by omega))) ?_
             intro w3 hown3 hgrow3
             have HS3 := (show Hid (BgS w w3 (.slice (some ⟨b, o, none⟩) gs.length c) mb (mb + 1) (gs.take (k + 1)) (.slice A3 k c3) (px.take k)) from HPut.out w3 hgrow3 hown3)
             clear hown3 hgrow3 HPut HOm hkey k0 k1 y0 HE2
             obtain ⟨w4, hw4⟩ : ∃ w4, w4 = w3.alloc (.cells #[.bool false, .bool false, .int .i64 (-1), .int .i64 0] 33) := ⟨_, rfl⟩
             have HE4 := (show Hid (w3.alloc (.cells #[.bool false, .bool false, .int .i64 (-1), .int .i64 0] 33) = w4) from hw4.symm)
             have HX4 := (show Hid (EX w4 w3.heap.size ⟨false, false, -1, 0⟩) from by rw [hw4]; exact EX.new w3 ⟨false, false, -1, 0⟩)
             have HS4 := (show Hid (BgS w w4 (.slice (some ⟨b, o, none⟩) gs.length c) mb (mb + 1) (gs.take (k + 1)) (.slice A3 k c3) (px.take k)) from HS3.out.later (by rw [hw4]; exact below_box _ _))
             have a0 : w4.cell? ⟨gA, k, none⟩ = some (.bool true) := HB.out.later HS4.out.b k _ HAg.out
             have v0 : w4.cell? ⟨w3.heap.size, 0, none⟩ = some (.bool false) := HX4.out.eb.c0
             have v1 : w4.cell? ⟨w3.heap.size, 1, none⟩ = some (.bool false) := HX4.out.eb.c1
             have v2 : w4.cell? ⟨w3.heap.size, 2, none⟩ = some (.int .i64 (-1)) := HX4.out.eb.c2
             have v3 : w4.cell? ⟨w3.heap.size, 3, none⟩ = some (.int .i64 0) := HX4.out.eb.c3
             have f3 := HX4.out.fz 3
             have n1 := HS4.out.k.c1
             clear hw4
             obtain ⟨w5, hw5⟩ : ∃ w5, w5 = w4.setCell ⟨w3.heap.size, 3, none⟩ (.int .i64 (-1)) := ⟨_, rfl⟩
             have HE5 := (show Hid (w4.setCell ⟨w3.heap.size, 3, none⟩ (.int .i64 (-1)) = w5) from hw5.symm)
             have HX5 := (show Hid (EX w5 w3.heap.size ⟨false, false, -1, -1⟩) from by rw [hw5]; exact HX4.out.set3 (-1))
             have HS5 := (show Hid (BgS w w5 (.slice (some ⟨b, o, none⟩) gs.length c) mb (mb + 1) (gs.take (k + 1)) (.slice A3 k c3) (px.take k)) from by rw [hw5]; exact HS4.out.other HS3.out _ _)
             have u0 : w5.cell? ⟨w3.heap.size, 0, none⟩ = some (.bool false) := HX5.out.eb.c0
             have u1 : w5.cell? ⟨w3.heap.size, 1, none⟩ = some (.bool false) := HX5.out.eb.c1
             have u2 : w5.cell? ⟨w3.heap.size, 2, none⟩ = some (.int .i64 (-1)) := HX5.out.eb.c2
             have u3 : w5.cell? ⟨w3.heap.size, 3, none⟩ = some (.int .i64 (-1)) := HX5.out.eb.c3
             have n5 := HS5.out.k.c1
             clear hw5
             )
          | (at_builtin
             refine wpList_appE w5.heap.size rfl rfl _ _ rfl (w.heap.size + 4) k _ (px.take k) rfl rfl (HOw.out _ HS5.out).1 (by omega) (HOw.out _ HS5.out).2 ?_
             intro g6 cap6 w6 ho6 hg6 hat6 hl6
             have HF6 := (show Hid _ from HPu.out w5 w6 g6 cap6 HS5.out ho6 hg6)
             have m1 := HF6.out.1.c1
             have mf := HF6.out.1.fz 1
             clear ho6 hg6 hat6 hl6 HPu HOw v0 v1 v2 v3 f3 a0 n1))
        go_roundw
        case rel => exact ⟨k + 1, some ⟨g6, 0, none⟩, cap6, by omega, by go_num, HF6.out.2⟩
        case measure => simp [intOf]; omega
    · obtain rfl : k = gs.length := by omega
      have HF := (show Hid (BgS w wr (.slice A gs.length c) mb (mb + 1) gs (.slice A3 gs.length c3) px) from by
        have h := HW.out
        rw [List.take_length, ← HX.out, List.take_length, HX.out] at h
        exact h)
      have k0 := HF.out.k.c0
      have k1 := HF.out.k.c1
      have r0 := HF.out.r.c0
      have r1 := HF.out.r.c1
      have f0 := HF.out.r.fz 0
      have f1 := HF.out.r.fz 1
      have HZ := (show Hid (∀ W, W = (wr.setCell ⟨w.heap.size + 1, 0, none⟩ (.map (some mb))).setCell ⟨w.heap.size + 1, 1, none⟩ (.slice A3 gs.length c3) → KX W (w.heap.size + 1) (.map (some mb)) (.slice A3 gs.length c3) ∧ w.heap.size ≤ mb ∧ NmM W mb gs ∧ W.ownsRow w.heap.size 33 4 (.slice A3 gs.length c3) gs.length (emc px) ∧ Below w.heap.size w W) from fun W hW => by
        have h := HF.out
        have e1 := h.e1
        have key : ∀ j, j ≠ w.heap.size + 1 → W.heap[j]? = wr.heap[j]? := fun j hj => by rw [hW]; exact (heap_setCell_other _ _ _ _ hj).trans (heap_setCell_other _ _ _ _ hj)
        refine ⟨by rw [hW]; exact (h.r.set0 _).set1 _, by omega, h.m.same (key _ (by omega)), ?_, by rw [hW]; exact (h.b.setCell (p := ⟨w.heap.size + 1, 0, none⟩) (by show w.heap.size ≤ w.heap.size + 1; omega) _).setCell (p := ⟨w.heap.size + 1, 1, none⟩) (by show w.heap.size ≤ w.heap.size + 1; omega) _⟩
        have ho := own_same (W' := W) h.o fun q hq => key q (by have := (h.o.lt q hq).1; omega)
        rw [HX.out] at ho
        exact T.own_base ho (by omega))
      clear HW HGt HP HB HF
      go_wp2_with fail
      have HQ := (show Hid _ from HZ.out _ rfl)
      refine ret_kx (s := 4) (k := w.heap.size + 1) (by rfl) (by rfl) (by rfl) HQ.out.1 ?_
      exact ⟨⟨mb, _, rfl, HQ.out.2.1, HQ.out.2.2.1, HQ.out.2.2.2.1⟩, HQ.out.2.2.2.2⟩
end Go.Proofs.YtokfgoepnfjafaaGreat.N

namespace Go.Proofs.YtokfgoepnfjafaaGreat.N
open Go.RowKit Go.Maps
open Go.Proofs.YtokfgoepnfjafaaGreat.T

open U (own_get)
/-- What is known in the end. -/
def KnF (gs : GL) (now : List Em) : Prop := ∃ (R : Mx) (bd : Nat → Bool) (m : Nat), IsR gs.length (cG gs) R ∧ (∀ i, bd i = !(R i i)) ∧ now = pgE gs kdR bd m ∧ pgE gs kdR bd (m + 1) = pgE gs kdR bd m
theorem gk_R {gs : GL} (hR : RtG gs) : GK gs kdR := ⟨hR, fun g hg => kds_R (rt_of (hR.ck g hg))⟩
theorem bd_R {gs : GL} {l : List Bool} (hz : (ckG gs).2 = 0) (h : AgR gs l) : ∃ R, IsR gs.length (cG gs) R ∧ ∀ i, bdA l i = !(R i i) := by
  classical
  obtain ⟨h1, h2⟩ := h.1 hz
  refine ⟨fun i j => decide (i < gs.length ∧ Rc gs.length (cG gs) i j), ?_, fun i => ?_⟩
  · exact ⟨fun i j => cG_lt, fun i j hi hj => ⟨fun q => (of_decide_eq_true q).2, fun q => decide_eq_true ⟨hi, q⟩⟩⟩
  · unfold bdA
    have h3 := h2 i
    show _ = !decide (i < gs.length ∧ Rc gs.length (cG gs) i i)
    by_cases q : i < gs.length ∧ Rc gs.length (cG gs) i i
    · rw [h3.2 q, decide_eq_true q]; rfl
    · rw [decide_eq_false q]
      cases e : l[i]? with
      | none => rfl
      | some b =>
        cases b with
        | false => rfl
        | true => exact absurd (h3.1 e) q
structure KoS (w wr : World) (u : Value) (kb mb gA : Nat) (gs : GL) (ag : List Bool) (Ar : Option Addr) (cr : Nat) (now : List Em) : Prop where
  b : Below w.heap.size w wr
  g : GX wr w.heap.size u
  r : KX wr (w.heap.size + 1) (.map none) (.slice none 0 0)
  k : KX wr kb (.map (some mb)) (.slice Ar gs.length cr)
  m : NmM wr mb gs
  a : RdB wr gA ag
  l : now.length = gs.length
  o : wr.ownsRow (w.heap.size + 2) 33 4 (.slice Ar gs.length cr) gs.length (emc now)
  e1 : w.heap.size + 2 ≤ mb
  e2 : mb < kb
  e3 : gA < kb
theorem KoS.later {w wr w2 : World} {u : Value} {kb mb gA : Nat} {gs : GL} {ag : List Bool} {Ar : Option Addr} {cr : Nat} {now : List Em} (h : KoS w wr u kb mb gA gs ag Ar cr now) (hb : Below wr.heap.size wr w2) : KoS w w2 u kb mb gA gs ag Ar cr now :=
  ⟨h.b.trans (hb.mono h.b.size), h.g.below hb, h.r.below hb, h.k.below hb, h.m.later hb, h.a.later hb, h.l, T.own_below h.o hb, h.e1, h.e2, h.e3⟩
theorem own_rd {W : World} {B n cr : Nat} {Ar : Option Addr} {l : List Em} (h : W.ownsRow B 33 4 (.slice Ar n cr) n (emc l)) (hl : l.length = n) : RdE W Ar l := by
  subst hl
  obtain ⟨A, c, e, h2⟩ := own_re h
  injection e with e1 _ _
  rw [e1]; exact h2
theorem own_fm {W : World} {B n : Nat} {v : Value} {xs : List Value} (h : W.ownsRow B 33 4 v n xs) : ∃ A c, v = .slice A n c := by
  rcases h.2 with ⟨rfl, rfl⟩ | ⟨g, cap, cur, rfl, _⟩
  · exact ⟨_, _, rfl⟩
  · exact ⟨_, _, rfl⟩
theorem KoS.kn {w wr : World} {u : Value} {kb mb gA : Nat} {gs : GL} {ag : List Bool} {Ar : Option Addr} {cr : Nat} {now : List Em} (h : KoS w wr u kb mb gA gs ag Ar cr now) : KnI wr gs mb Ar now := ⟨h.m, own_rd h.o h.l, h.l⟩
/-- The next ones take the place. -/
theorem KoS.next {w wr w2 : World} {u : Value} {kb mb gA : Nat} {gs : GL} {ag : List Bool} {Ar An : Option Addr} {cr cn : Nat} {now nx : List Em} (h : KoS w wr u kb mb gA gs ag Ar cr now) (hb : Below wr.heap.size wr w2) (ho : w2.ownsRow (wr.heap.size + 2) 33 4 (.slice An gs.length cn) gs.length (emc nx)) (hl : nx.length = gs.length) : KoS w (w2.setCell ⟨kb, 1, none⟩ (.slice An gs.length cn)) u kb mb gA gs ag An cn nx := by
  have h2 := h.later hb
  have e1 := h.e1
  have e2 := h.e2
  have e3 := h.e3
  have hkb := h.k.lt
  have hsz := h.b.size
  have key : ∀ j, j ≠ kb → (w2.setCell ⟨kb, 1, none⟩ (.slice An gs.length cn)).heap[j]? = w2.heap[j]? := fun j hj => heap_setCell_other _ _ _ _ hj
  refine ⟨h2.b.setCell (p := ⟨kb, 1, none⟩) (by show w.heap.size ≤ kb; omega) _, h2.g.same (key _ (by omega)), h2.r.same (key _ (by omega)), h2.k.set1 _, h2.m.same (key _ (by omega)), fun j b hj => ?_, hl, T.own_base (own_same ho fun q hq => key q (by have := (ho.lt q hq).1; omega)) (by omega), e1, e2, e3⟩
  rw [World.cell?_of_block (a := ⟨gA, j, none⟩) (key gA (by omega))]
  exact h2.a j b hj
/-- What is told. -/
theorem KoS.told {w wr : World} {u : Value} {kb mb gA : Nat} {gs : GL} {ag : List Bool} {Ar : Option Addr} {cr : Nat} {now : List Em} (h : KoS w wr u kb mb gA gs ag Ar cr now) (W : World) (hW : W = (wr.setCell ⟨w.heap.size + 1, 0, none⟩ (.map (some mb))).setCell ⟨w.heap.size + 1, 1, none⟩ (.slice Ar gs.length cr)) : KX W (w.heap.size + 1) (.map (some mb)) (.slice Ar gs.length cr) ∧ w.heap.size ≤ mb ∧ NmM W mb gs ∧ W.ownsRow w.heap.size 33 4 (.slice Ar gs.length cr) gs.length (emc now) ∧ Below w.heap.size w W := by
  have e1 := h.e1
  have key : ∀ j, j ≠ w.heap.size + 1 → W.heap[j]? = wr.heap[j]? := fun j hj => by rw [hW]; exact (heap_setCell_other _ _ _ _ hj).trans (heap_setCell_other _ _ _ _ hj)
  refine ⟨by rw [hW]; exact (h.r.set0 _).set1 _, by omega, h.m.same (key _ (by omega)), T.own_base (own_same h.o fun q hq => key q (by have := (h.o.lt q hq).1; omega)) (by omega), ?_⟩
  rw [hW]
  exact (h.b.setCell (p := ⟨w.heap.size + 1, 0, none⟩) (by show w.heap.size ≤ w.heap.size + 1; omega) _).setCell (p := ⟨w.heap.size + 1, 1, none⟩) (by show w.heap.size ≤ w.heap.size + 1; omega) _
theorem below_dn {w : World} (m : Nat) : Below w.heap.size w (w.drewN m) := below_drewN (Below.refl _ _) _
set_option maxRecDepth 100000 in
set_option maxHeartbeats 16000000 in
/-- What is known of all rules. -/
theorem knownOf_any (gs : GL) (A : Option Addr) (c : Nat) (w : World) (hp : GI w A gs) :
    Calls Tryz.prog 17 #[.agg #[.slice A gs.length c]] w fun e w' => (∃ m v, e = .returned (.tuple #[.agg #[m, v], .int .i64 (ckG gs).2]) ∧ ((ckG gs).2 ≠ 0 → m = .map none ∧ v = .slice none 0 0) ∧ ((ckG gs).2 = 0 → ∃ mb Ar cr now, m = .map (some mb) ∧ v = .slice Ar gs.length cr ∧ w.heap.size ≤ mb ∧ NmM w' mb gs ∧ KnF gs now ∧ now.length = gs.length ∧ OkN gs now ∧ w'.ownsRow w.heap.size 33 4 (.slice Ar gs.length cr) gs.length (emc now))) ∧ Below w.heap.size w w' := by
  obtain ⟨w1, hw1⟩ : ∃ w1, w1 = (w.alloc (.cells #[.slice A gs.length c] 24)).alloc (.cells #[.map none, .slice none 0 0] 48) := ⟨_, rfl⟩
  have HE1 := (show Hid ((w.alloc (.cells #[.slice A gs.length c] 24)).alloc (.cells #[.map none, .slice none 0 0] 48) = w1) from hw1.symm)
  have HS1 := (show Hid (Below w.heap.size w w1 ∧ GX w1 w.heap.size (.slice A gs.length c) ∧ KX w1 (w.heap.size + 1) (.map none) (.slice none 0 0) ∧ w1.heap.size = w.heap.size + 2) from by
    have s1 := World.size_alloc w (.cells #[.slice A gs.length c] 24)
    refine ⟨by rw [hw1]; exact ((Below.refl _ _).alloc (Nat.le_refl _) _).alloc (by omega) _, by rw [hw1]; exact (GX.mk (heap_alloc_new w _)).below (below_box _ _), ?_, by rw [hw1, World.size_alloc, s1]⟩
    have h := KX.new (w.alloc (.cells #[.slice A gs.length c] 24)) (.map none) (.slice none 0 0)
    rw [s1, ← hw1] at h; exact h)
  have HN := (show Hid (Calls Tryz.prog 27 #[.agg #[.slice A gs.length c]] w1 fun e w' => (∃ v l, e = .returned (.tuple #[v, .int .i64 (ckG gs).2]) ∧ AgR gs l ∧ w'.ownsRow w1.heap.size 4 1 v l.length (l.map Value.bool)) ∧ Below w1.heap.size w1 w') from againP_any gs A c w1 (hp.later HS1.out.1))
  have HP := (show Hid (GI w A gs) from hp)
  have q1 := HS1.out.2.1.cl
  clear hw1 hp
  go_enter Tryz.func17, Tryz.ntmps17
  go_wp2_with (rw [HE1.out])
  refine HN.out.mono ?_
  rintro e w2 ⟨⟨v, l, rfl, hag, hov⟩, b2⟩
  have HS2 := (show Hid (Below w.heap.size w w2 ∧ GX w2 w.heap.size (.slice A gs.length c) ∧ KX w2 (w.heap.size + 1) (.map none) (.slice none 0 0) ∧ w.heap.size + 2 ≤ w2.heap.size) from ⟨HS1.out.1.trans (b2.mono HS1.out.1.size), HS1.out.2.1.below b2, HS1.out.2.2.1.below b2, by have := b2.size; have := HS1.out.2.2.2; omega⟩)
  have q2 := HS2.out.2.1.cl
  clear HN HE1 q1 b2
  by_cases hz : (ckG gs).2 = 0
  · have hR := ckG_ok.1 hz
    have hn1 := hR.n1
    have hn200 := hR.n2
    obtain ⟨hl, hag2⟩ := hag.1 hz
    obtain ⟨R, hIs, hbd⟩ := bd_R hz hag
    obtain ⟨gA, ca, rfl, gl1, gl2, gx1, gx2⟩ := own_get hov (j := 0) (x := .bool l[0]) (by rw [List.getElem?_map, List.getElem?_eq_getElem (by omega)]; rfl)
    have hrb : RdB w2 gA l := fun j b hj => by
      obtain ⟨g', c', e, _, _, x, _⟩ := own_get hov (j := j) (x := .bool b) (by rw [List.getElem?_map, hj]; rfl)
      injection e with e1 _ _
      obtain ⟨rfl, _⟩ := Addr.mk.inj (Option.some.inj e1)
      exact x
    clear gx1 gx2
    rw [hl]
    have HBg := (show Hid (Calls Tryz.prog 28 #[.agg #[.slice A gs.length c], .slice (some ⟨gA, 0, none⟩) gs.length ca] w2 fun e w' => (∃ mb v, e = .returned (.agg #[.map (some mb), v]) ∧ w2.heap.size ≤ mb ∧ NmM w' mb gs ∧ w'.ownsRow w2.heap.size 33 4 v gs.length (emc (pgS gs (bdA l)))) ∧ Below w2.heap.size w2 w') from begun_any hR hl gA A c ca w2 (HP.out.later HS2.out.1) hrb)
    have HRB := (show Hid (RdB w2 gA l ∧ gA < w2.heap.size) from ⟨hrb, gl2⟩)
    have HR := (show Hid (RtG gs ∧ l.length = gs.length ∧ IsR gs.length (cG gs) R ∧ (∀ i, bdA l i = !(R i i)) ∧ (ckG gs).2 = 0) from ⟨hR, hl, hIs, hbd, hz⟩)
    have tz : ((ckG gs).2 != 0) = false := by rw [hz]; rfl
    clear hag hag2 hIs hbd hrb hov gl1 gl2 hR hl hz
    generalize hcd : (ckG gs).2 = cd at *
    have HCD := (show Hid ((ckG gs).2 = cd) from hcd)
    clear hcd
    go_wp2_with fail
    refine HBg.out.mono ?_
    rintro e w3 ⟨⟨mb, v2, rfl, hmb, hm3, ho3⟩, b3⟩
    obtain ⟨A3, c3, rfl⟩ := own_fm ho3
    obtain ⟨kb, hkb⟩ : ∃ kb, kb = w3.heap.size := ⟨_, rfl⟩
    have HKb := (show Hid (w3.heap.size = kb) from hkb.symm)
    obtain ⟨w4, hw4⟩ : ∃ w4, w4 = w3.alloc (.cells #[.map (some mb), .slice A3 gs.length c3] 48) := ⟨_, rfl⟩
    have HE4 := (show Hid (w3.alloc (.cells #[.map (some mb), .slice A3 gs.length c3] 48) = w4) from hw4.symm)
    have HS := (show Hid (KoS w w4 (.slice A gs.length c) kb mb gA gs l A3 c3 (pgE gs kdR (bdA l) 0)) from by
      have hb4 : Below w3.heap.size w3 w4 := by rw [hw4]; exact below_box _ _
      have hb24 : Below w2.heap.size w2 w4 := b3.trans (hb4.mono b3.size)
      have s2 := HS2.out.2.2.2
      have hk4 : KX w4 kb (.map (some mb)) (.slice A3 gs.length c3) := by rw [hw4, hkb]; exact KX.new w3 _ _
      refine ⟨HS2.out.1.trans (hb24.mono HS2.out.1.size), HS2.out.2.1.below hb24, HS2.out.2.2.1.below hb24, hk4, hm3.later hb4, HRB.out.1.later hb24, pgS_len _ _, T.own_base (T.own_below ho3 hb4) s2, by omega, by rw [hkb]; exact hm3.lt, by rw [hkb]; exact Nat.lt_of_lt_of_le HRB.out.2 b3.size⟩)
    clear hw4 hkb hmb hm3 ho3 b3 HBg HRB HS2 HS1 q2
    go_wp2_with (rw [HE4.out, HKb.out])
    clear HE4 HKb
    go_loopg [7] (pgM gs kdR (bdA l) 0) (fun gk u wr => ∃ (m : Nat) (Ar : Option Addr) (cr : Nat), Hid (pgM gs kdR (bdA l) m = gk) ∧ Hid (KoS w wr (.slice A gs.length c) kb mb gA gs l Ar cr (pgE gs kdR (bdA l) m)))
    case atStart => exact ⟨0, A3, c3, rfl, HS⟩
    case round =>
      obtain ⟨m, Ar, cr, HM, HW⟩ := hrel
      clear HS
      have HRd := (show Hid (Calls Tryz.prog 29 #[.agg #[.map (some mb), .slice Ar gs.length cr], .agg #[.slice A gs.length c], .slice (some ⟨gA, 0, none⟩) gs.length ca] wr fun e w' => (∃ v, e = .returned v ∧ w'.ownsRow (wr.heap.size + 2) 33 4 v gs.length (emc (pgE gs kdR (bdA l) (m + 1)))) ∧ Below wr.heap.size wr w') from by
        have t := round_any HR.out.1 (pgE_ok (gk_R HR.out.1) (bdA l) m) HR.out.2.1 mb gA Ar A cr c ca wr HW.out.kn (HP.out.later HW.out.b) HW.out.a
        rw [HW.out.l] at t
        exact t)
      have k0 := HW.out.k.c0
      have k1 := HW.out.k.c1
      have q0 := HW.out.g.cl
      go_wp2_with fail
      refine HRd.out.mono ?_
      rintro e w5 ⟨⟨v5, rfl, ho5⟩, b5⟩
      obtain ⟨An, cn, rfl⟩ := own_fm ho5
      have HW5 := (show Hid (KoS w w5 (.slice A gs.length c) kb mb gA gs l Ar cr (pgE gs kdR (bdA l) m)) from HW.out.later b5)
      have HL5 := (show Hid ((pgE gs kdR (bdA l) (m + 1)).length = gs.length) from rdE_len)
      have HO5 := (show Hid (w5.ownsRow (wr.heap.size + 2) 33 4 (.slice An gs.length cn) gs.length (emc (pgE gs kdR (bdA l) (m + 1)))) from ho5)
      have HB5 := (show Hid (Below wr.heap.size wr w5) from b5)
      have HQ := (show Hid (Calls Tryz.prog 30 #[.slice An gs.length cn, .slice Ar gs.length cr] w5 fun e w' => (∃ b, e = .returned (.bool b) ∧ (b = true ↔ pgE gs kdR (bdA l) (m + 1) = pgE gs kdR (bdA l) m)) ∧ ∃ j, w' = w5.drewN j) from by
        have t := equalE_any (pgE gs kdR (bdA l) (m + 1)) (pgE gs kdR (bdA l) m) An Ar cn cr (by rw [HL5.out]; omega) (by rw [HL5.out]; exact HW5.out.l) w5 (own_rd ho5 HL5.out) (own_rd HW5.out.o HW5.out.l)
        rw [HL5.out, HW5.out.l] at t
        exact t)
      have k5 := HW5.out.k.c1
      clear HRd ho5 b5 k0 k1 q0
      go_wp2_with fail
      refine HQ.out.mono ?_
      rintro e w6 ⟨⟨bb, rfl, hbb⟩, j6, hw6⟩
      have b6 : Below w5.heap.size w5 w6 := by rw [hw6]; exact below_dn _
      have HW6 := (show Hid (KoS w w6 (.slice A gs.length c) kb mb gA gs l Ar cr (pgE gs kdR (bdA l) m)) from HW5.out.later b6)
      have HNx := (show Hid (KoS w (w6.setCell ⟨kb, 1, none⟩ (.slice An gs.length cn)) (.slice A gs.length c) kb mb gA gs l An cn (pgE gs kdR (bdA l) (m + 1))) from HW.out.next (HB5.out.trans (b6.mono HB5.out.size)) (T.own_below HO5.out b6) HL5.out)
      clear hw6 b6 HQ k5 HO5 HB5 HW5
      cases bb with
      | true =>
        have HFx := (show Hid (KnF gs (pgE gs kdR (bdA l) m)) from ⟨R, bdA l, m, HR.out.2.2.1, HR.out.2.2.2.1, rfl, hbb.1 rfl⟩)
        have HLn := (show Hid ((pgE gs kdR (bdA l) m).length = gs.length) from HW6.out.l)
        have HOk := (show Hid (OkN gs (pgE gs kdR (bdA l) m)) from pgE_ok (gk_R HR.out.1) (bdA l) m)
        have HT := (show Hid _ from HW6.out.told)
        have k0 := HW6.out.k.c0
        have k1 := HW6.out.k.c1
        have r0 := HW6.out.r.c0
        have r1 := HW6.out.r.c1
        have f0 := HW6.out.r.fz 0
        have f1 := HW6.out.r.fz 1
        clear hbb HW6 HNx HW HM HL5
        go_wp2_with fail
        have HZ := (show Hid _ from HT.out _ rfl)
        refine ret_kx2 (s := 2) (t := 3) (k := w.heap.size + 1) (x := .int .i64 0) (by rfl) (by rfl) (by rfl) (by rfl) HZ.out.1 ?_
        refine ⟨⟨_, _, by rw [HCD.out, HR.out.2.2.2.2], fun q => absurd (HCD.out.trans HR.out.2.2.2.2) q, fun _ => ⟨mb, Ar, cr, _, rfl, rfl, HZ.out.2.1, HZ.out.2.2.1, HFx.out, HLn.out, HOk.out, HZ.out.2.2.2.1⟩⟩, HZ.out.2.2.2.2⟩
      | false =>
        have HLs := (show Hid (pgM gs kdR (bdA l) (m + 1) < pgM gs kdR (bdA l) m) from pgM_less (gk_R HR.out.1) HR.out.2.2.1 HR.out.2.2.2.1 (fun e => by have := hbb.2 e; cases this))
        have f1 := HW6.out.k.fz 1
        have k1 := HW6.out.k.c1
        clear hbb HW6 HW HL5
        go_wp2_with fail
        go_roundg (pgM gs kdR (bdA l) (m + 1))
        case measure => have := HM.out; have := HLs.out; omega
        case rel => exact ⟨m + 1, An, cn, rfl, HNx⟩
  · have tz : ((ckG gs).2 != 0) = true := by rw [bne, beq_eq_false_iff_ne.2 hz]; rfl
    have HZ := (show Hid ((ckG gs).2 ≠ 0) from hz)
    have r0 := HS2.out.2.2.1.c0
    have r1 := HS2.out.2.2.1.c1
    have f0 := HS2.out.2.2.1.fz 0
    have f1 := HS2.out.2.2.1.fz 1
    have HT := (show Hid (∀ W, W = (w2.setCell ⟨w.heap.size + 1, 0, none⟩ (.map none)).setCell ⟨w.heap.size + 1, 1, none⟩ (.slice none 0 0) → KX W (w.heap.size + 1) (.map none) (.slice none 0 0) ∧ Below w.heap.size w W) from fun W hW => by
      rw [hW]
      exact ⟨(HS2.out.2.2.1.set0 _).set1 _, (HS2.out.1.setCell (p := ⟨w.heap.size + 1, 0, none⟩) (by show w.heap.size ≤ w.heap.size + 1; omega) _).setCell (p := ⟨w.heap.size + 1, 1, none⟩) (by show w.heap.size ≤ w.heap.size + 1; omega) _⟩)
    clear hag hov hz HS1 HS2 HP q2
    generalize hcd : (ckG gs).2 = cd at *
    have HCD := (show Hid ((ckG gs).2 = cd) from hcd)
    clear hcd
    go_wp2_with fail
    have HQ := (show Hid _ from HT.out _ rfl)
    refine ret_kx2 (s := 2) (t := 3) (k := w.heap.size + 1) (x := .int .i64 cd) (by rfl) (by rfl) (by rfl) (by rfl) HQ.out.1 ?_
    exact ⟨⟨_, _, by rw [HCD.out], fun _ => ⟨rfl, rfl⟩, fun q => absurd (HCD.out.symm.trans q) HZ.out⟩, HQ.out.2⟩
end Go.Proofs.YtokfgoepnfjafaaGreat.N

namespace Go.Proofs.YtokfgoepnfjafaaGreat.N
open Go.RowKit Go.Maps
open Go.Proofs.YtokfgoepnfjafaaGreat.T
/-- What Rules answers. -/
def RuR (gs : GL) (now : List Em) : Prop := ((ckG gs).2 = 0 → KnF gs now ∧ now.length = gs.length ∧ OkN gs now) ∧ ((ckG gs).2 ≠ 0 → now = [])
set_option maxRecDepth 100000 in
set_option maxHeartbeats 8000000 in
theorem rulesP_any (gs : GL) (A : Option Addr) (c : Nat) (w : World) (hp : GI w A gs) :
    Calls Tryz.prog 6 #[.agg #[.slice A gs.length c]] w fun e w' => (∃ v now, e = .returned (.tuple #[v, .int .i64 (ckG gs).2]) ∧ RuR gs now ∧ w'.ownsRow w.heap.size 33 4 v now.length (emc now)) ∧ Below w.heap.size w w' := by
  obtain ⟨w1, hw1⟩ : ∃ w1, w1 = w.alloc (.cells #[.slice A gs.length c] 24) := ⟨_, rfl⟩
  have HE1 := (show Hid (w.alloc (.cells #[.slice A gs.length c] 24) = w1) from hw1.symm)
  have HB1 := (show Hid (Below w.heap.size w w1) from by rw [hw1]; exact below_box _ _)
  have HG1 := (show Hid (GX w1 w.heap.size (.slice A gs.length c)) from by rw [hw1]; exact GX.mk (heap_alloc_new w _))
  have q1 := HG1.out.cl
  have HN := hid_of (knownOf_any gs A c w1 (hp.later HB1.out))
  clear hw1 hp HG1
  go_enter Tryz.func6, Tryz.ntmps6
  go_wp2_with (rw [HE1.out])
  refine Calls.mono HN.out ?_
  rintro e w2 ⟨⟨m, v, rfl, h1, h2⟩, b2⟩
  have HB2 := (show Hid (Below w.heap.size w w2) from HB1.out.trans (b2.mono HB1.out.size))
  have hs1 := HB1.out.size
  clear HN HE1 q1 b2
  by_cases hz : (ckG gs).2 = 0
  · obtain ⟨mb, Ar, cr, now, rfl, rfl, _, _, hF, hl, hok, ho⟩ := h2 hz
    have tz : ((ckG gs).2 != 0) = false := by rw [hz]; rfl
    have HO := (show Hid (w2.ownsRow w.heap.size 33 4 (.slice Ar gs.length cr) gs.length (emc now)) from T.own_base ho hs1)
    have HR := (show Hid (RuR gs now ∧ now.length = gs.length ∧ (ckG gs).2 = 0) from ⟨⟨fun _ => ⟨hF, hl, hok⟩, fun q => absurd hz q⟩, hl, hz⟩)
    clear h1 h2 ho hF hl hok hz hs1
    obtain ⟨w3, hw3⟩ : ∃ w3, w3 = w2.alloc (.cells #[.map (some mb), .slice Ar gs.length cr] 48) := ⟨_, rfl⟩
    have HE3 := (show Hid (w2.alloc (.cells #[.map (some mb), .slice Ar gs.length cr] 48) = w3) from hw3.symm)
    have k1 : w3.cell? ⟨w2.heap.size, 1, none⟩ = some (.slice Ar gs.length cr) := by rw [hw3]; exact (KX.new w2 _ _).c1
    have HB3 := (show Hid (Below w2.heap.size w2 w3) from by rw [hw3]; exact below_box _ _)
    clear hw3
    generalize hcd : (ckG gs).2 = cd at tz
    have HCD := (show Hid ((ckG gs).2 = cd) from hcd)
    clear hcd
    go_wp2_with (rw [HE3.out])
    refine bodyPost_ret (v := .tuple #[.slice Ar gs.length cr, .int .i64 0]) (by simp [results, Tryz.results6, go_sem]) rfl ⟨⟨_, now, by rw [HR.out.2.2], HR.out.1, by rw [HR.out.2.1]; exact T.own_below HO.out HB3.out⟩, HB2.out.trans (HB3.out.mono HB2.out.size)⟩
  · obtain ⟨rfl, rfl⟩ := h1 hz
    have tz : ((ckG gs).2 != 0) = true := by rw [bne, beq_eq_false_iff_ne.2 hz]; rfl
    have HR := (show Hid (RuR gs [] ∧ (ckG gs).2 ≠ 0) from ⟨⟨fun q => absurd q hz, fun _ => rfl⟩, hz⟩)
    clear h1 h2 hz hs1
    have HB3 := (show Hid (Below w2.heap.size w2 (w2.alloc (.cells #[.map none, .slice none 0 0] 48))) from below_box _ _)
    generalize hcd : (ckG gs).2 = cd at tz
    have HCD := (show Hid ((ckG gs).2 = cd) from hcd)
    clear hcd
    go_wp2_with fail
    refine bodyPost_ret (v := .tuple #[.slice none 0 0, .int .i64 cd]) (by simp [results, Tryz.results6, go_sem]) rfl ⟨⟨_, [], by rw [HCD.out], HR.out.1, World.ownsRow_nil _ _ _ _⟩, HB2.out.trans (HB3.out.mono HB2.out.size)⟩
end Go.Proofs.YtokfgoepnfjafaaGreat.N

namespace Go.Proofs.YtokfgoepnfjafaaGreat.N
open Go.RowKit Go.Maps
open Go.Proofs.YtokfgoepnfjafaaGreat.T
theorem nmL_mem {L : List Nd} {s : ByteArray} : ∀ k, k ≤ L.length → (s ∈ nmL L k ↔ ∃ (j : Nat) (n : Nd), j < k ∧ L[j]? = some n ∧ n.op = 6 ∧ n.tx = s) := by
  intro k
  induction k with
  | zero =>
    intro _
    constructor
    · intro h; simp [nmL] at h
    · rintro ⟨j, n, h, _⟩; omega
  | succ k ih =>
    intro hk
    have hn : L[k]? = some L[k] := List.getElem?_eq_getElem (by omega)
    have ih := ih (by omega)
    have key : s ∈ nmL L (k + 1) ↔ s ∈ nmL L k ∨ ((L[k]).op = 6 ∧ (L[k]).tx = s) := by
      rw [nmL_succ hn]
      by_cases q : (L[k]).op = 6 ∧ inB (L[k]).tx (nmL L k) = false
      · rw [if_pos q, List.mem_append, List.mem_singleton]
        constructor
        · rintro (h | h)
          · exact .inl h
          · exact .inr ⟨q.1, h.symm⟩
        · rintro (h | h)
          · exact .inl h
          · exact .inr h.2.symm
      · rw [if_neg q]
        constructor
        · exact .inl
        · rintro (h | ⟨h1, h2⟩)
          · exact h
          · have e : inB (L[k]).tx (nmL L k) = true := by
              cases e : inB (L[k]).tx (nmL L k)
              · exact absurd ⟨h1, e⟩ q
              · rfl
            rw [← h2]
            exact inB_mem.1 e
    rw [key, ih]
    constructor
    · rintro (⟨j, n, h1, h2, h3, h4⟩ | ⟨h1, h2⟩)
      · exact ⟨j, n, by omega, h2, h3, h4⟩
      · exact ⟨k, _, by omega, hn, h1, h2⟩
    · rintro ⟨j, n, h1, h2, h3, h4⟩
      by_cases q : j = k
      · subst q
        rw [hn] at h2
        obtain rfl := Option.some.inj h2
        exact .inr ⟨h3, h4⟩
      · exact .inl ⟨j, n, by omega, h2, h3, h4⟩
/-- What Of answers. -/
def OfR (gs : GL) (L : List Nd) (x : Em) (cd : Int) : Prop := ((ckG gs).2 ≠ 0 → cd = (ckG gs).2 ∧ x = e0) ∧ ((ckG gs).2 = 0 → ((ck L).2 ≠ 0 → cd = (ck L).2 ∧ x = e0) ∧ ((ck L).2 = 0 → ((∃ n ∈ L, n.op = 6 ∧ fdG gs n.tx = none) → cd = 81 ∧ x = e0) ∧ ((∀ n ∈ L, n.op = 6 → ∃ i, fdG gs n.tx = some i) → cd = 0 ∧ ∃ now, KnF gs now ∧ x = EE (lkE gs now) L (L.length - 1))))
structure OfS (w W : World) (kb mb : Nat) (Ar : Option Addr) (cr : Nat) (gs : GL) (now : List Em) : Prop where
  b : Below w.heap.size w W
  z : EX W (w.heap.size + 1) e0
  k : KX W kb (.map (some mb)) (.slice Ar gs.length cr)
  n : KnI W gs mb Ar now
theorem OfS.later {w W W' : World} {kb mb : Nat} {Ar : Option Addr} {cr : Nat} {gs : GL} {now : List Em} (h : OfS w W kb mb Ar cr gs now) (hb : Below W.heap.size W W') : OfS w W' kb mb Ar cr gs now := ⟨h.b.trans (hb.mono h.b.size), h.z.below hb, h.k.below hb, h.n.later hb⟩
theorem of_ret {w W : World} (hb : Below w.heap.size w W) (hz : EX W (w.heap.size + 1) e0) (f : Em) : EX (st4 W (w.heap.size + 1) f) (w.heap.size + 1) f ∧ Below w.heap.size w (st4 W (w.heap.size + 1) f) := ⟨hz.all f, st4_below hb (by omega) f⟩
set_option maxRecDepth 100000 in
set_option maxHeartbeats 16000000 in
theorem ofP_any (gs : GL) (A : Option Addr) (c : Nat) (L : List Nd) (Ap : Option Addr) (cp : Nat) (hL : L.length ≤ 140737488355328) (hT : ∀ n ∈ L, n.tx.size ≤ 140737488355328) (w : World) (hp : GI w A gs) (hr : RdN w Ap L) :
    Calls Tryz.prog 14 #[.agg #[.slice A gs.length c], .slice Ap L.length cp] w fun e w' => (∃ x cd, e = .returned (.tuple #[emG x, .int .i64 cd]) ∧ OfR gs L x cd) ∧ Below w.heap.size w w' := by
  obtain ⟨w1, hw1⟩ : ∃ w1, w1 = (w.alloc (.cells #[.slice A gs.length c] 24)).alloc (.cells #[.bool false, .bool false, .int .i64 0, .int .i64 0] 33) := ⟨_, rfl⟩
  have HE1 := (show Hid ((w.alloc (.cells #[.slice A gs.length c] 24)).alloc (.cells #[.bool false, .bool false, .int .i64 0, .int .i64 0] 33) = w1) from hw1.symm)
  have HS1 := (show Hid (Below w.heap.size w w1 ∧ GX w1 w.heap.size (.slice A gs.length c) ∧ EX w1 (w.heap.size + 1) e0) from by
    have s1 := World.size_alloc w (.cells #[.slice A gs.length c] 24)
    refine ⟨by rw [hw1]; exact ((Below.refl _ _).alloc (Nat.le_refl _) _).alloc (by omega) _, by rw [hw1]; exact (GX.mk (heap_alloc_new w _)).below (below_box _ _), ?_⟩
    have h := EX.new (w.alloc (.cells #[.slice A gs.length c] 24)) e0
    rw [s1] at h
    rw [hw1]; exact h)
  have q1 := HS1.out.2.1.cl
  have HN := hid_of (knownOf_any gs A c w1 (hp.later HS1.out.1))
  have HTt := (show Hid (L.length ≤ 140737488355328 ∧ (∀ n ∈ L, n.tx.size ≤ 140737488355328) ∧ RdN w Ap L) from ⟨hL, hT, hr⟩)
  clear hw1 hp hL hT hr
  go_enter Tryz.func14, Tryz.ntmps14
  go_wp2_with (rw [HE1.out])
  refine Calls.mono HN.out ?_
  rintro e w2 ⟨⟨m, v, rfl, h1, h2⟩, b2⟩
  have HB2 := (show Hid (Below w.heap.size w w2 ∧ EX w2 (w.heap.size + 1) e0) from ⟨HS1.out.1.trans (b2.mono HS1.out.1.size), HS1.out.2.2.below b2⟩)
  clear HN HE1 q1 b2 HS1
  by_cases hz : (ckG gs).2 = 0
  · obtain ⟨mb, Ar, cr, now, rfl, rfl, _, hm2, hF, hl, hok, ho⟩ := h2 hz
    have tz : ((ckG gs).2 != 0) = false := by rw [hz]; rfl
    have hR := ckG_ok.1 hz
    obtain ⟨w3, hw3⟩ : ∃ w3, w3 = w2.alloc (.cells #[.map (some mb), .slice Ar gs.length cr] 48) := ⟨_, rfl⟩
    have HE3 := (show Hid (w2.alloc (.cells #[.map (some mb), .slice Ar gs.length cr] 48) = w3) from hw3.symm)
    have hb3 : Below w2.heap.size w2 w3 := by rw [hw3]; exact below_box _ _
    obtain ⟨kb, hkb⟩ : ∃ kb, kb = w2.heap.size := ⟨_, rfl⟩
    have HKb := (show Hid (w2.heap.size = kb) from hkb.symm)
    have HS3 := (show Hid (OfS w w3 kb mb Ar cr gs now) from ⟨HB2.out.1.trans (hb3.mono HB2.out.1.size), HB2.out.2.below hb3, by rw [hw3, hkb]; exact KX.new w2 _ _, ⟨hm2.later hb3, own_rd (T.own_below ho hb3) hl, hl⟩⟩)
    have HR := (show Hid (RtG gs ∧ KnF gs now ∧ now.length = gs.length ∧ OkN gs now ∧ (ckG gs).2 = 0) from ⟨hR, hF, hl, hok, hz⟩)
    have HNm := hid_of (names_any L Ap cp HTt.out.1 HTt.out.2.1 w3 (HTt.out.2.2.below HS3.out.b (Nat.le_refl _)))
    clear h1 h2 ho hF hl hok hz hm2 hR hw3 hb3 hkb HB2
    generalize hcd : (ckG gs).2 = cd at tz ⊢
    clear hcd
    go_wp2_with (rw [HE3.out, HKb.out])
    refine Calls.mono HNm.out ?_
    rintro e w4 ⟨⟨v4, rfl, ho4⟩, b4⟩
    have HS4 := (show Hid (OfS w w4 kb mb Ar cr gs now) from HS3.out.later b4)
    clear HNm HE3 HKb b4
    by_cases hc : (ck L).2 = 0
    · have hnm : nmE L = nmL L L.length := by unfold nmE; rw [if_pos hc]
      have hrt := rt_of hc
      have hlen := hrt.len
      have HNl := (show Hid ((nmE L).length ≤ 2048) from by rw [hnm]; have := nmL_len L L.length; show _ ≤ _; omega)
      have HMem := (show Hid (∀ s, s ∈ nmE L ↔ ∃ n ∈ L, n.op = 6 ∧ n.tx = s) from fun s => by
        rw [hnm, nmL_mem _ (Nat.le_refl _)]
        constructor
        · rintro ⟨j, n, _, h2, h3, h4⟩; exact ⟨n, List.mem_of_getElem? h2, h3, h4⟩
        · rintro ⟨n, h2, h3, h4⟩
          obtain ⟨j, hj⟩ := List.getElem?_of_mem h2
          exact ⟨j, n, (List.getElem?_eq_some_iff.1 hj).1, hj, h3, h4⟩)
      obtain ⟨A4, c4, rfl⟩ := U.own_slice ho4
      have HO4 := hid_of ho4
      have HRt := (show Hid (Rt L ∧ (ck L).2 = 0) from ⟨hrt, hc⟩)
      have tc : ((ck L).2 != 0) = false := by rw [hc]; rfl
      clear hnm hrt hc ho4
      generalize hcd : (ck L).2 = ce at tc ⊢
      clear hcd
      obtain ⟨ns, hns⟩ : ∃ ns, ns = nmE L := ⟨_, rfl⟩
      rw [← hns] at HNl HMem HO4 ⊢
      clear hns
      have hnl := HNl.out
      go_wp2_with fail
      go_loopw [33] (fun t wr => ∃ k : Nat, k ≤ ns.length ∧ t = .int .i64 (k : Int) ∧ w4 = wr ∧ Hid (∀ (j : Nat) s, j < k → ns[j]? = some s → ∃ i, fdG gs s = some i)) (fun t _ => ns.length - (intOf t).toNat)
      case atStart => exact ⟨0, Nat.zero_le _, by go_num, rfl, fun j s hj => absurd hj (Nat.not_lt_zero _)⟩
      case round =>
        obtain ⟨k, hk, rfl, rfl, HI⟩ := hrel
        by_cases hlt : k < ns.length
        · obtain ⟨s, hs⟩ : ∃ s, ns[k]? = some s := ⟨_, List.getElem?_eq_getElem hlt⟩
          obtain ⟨g4, c5, e4, _, _, x4, _⟩ := U.own_get HO4.out (j := k) (x := .string s) (by unfold stc; rw [List.getElem?_map, hs]; rfl)
          injection e4 with e5 _ _
          subst e5
          obtain ⟨n0, hn0, h60, ht0⟩ := (HMem.out s).1 (List.mem_of_getElem? hs)
          have hsz : s.size ≤ 140737488355328 := by rw [← ht0]; exact HTt.out.2.1 n0 hn0
          obtain ⟨cc, hrun, _⟩ := HS4.out.n.m.look s hsz
          have kk0 := HS4.out.k.c0
          have y0 : (0 : Int) ≤ (k : Int) := by omega
          have y1 : (k : Int) < (ns.length : Int) := by omega
          cases hf : fdG gs s with
          | none =>
            rw [hf] at hrun
            have HA := (show Hid (OfR gs L e0 81) from ⟨fun q => absurd HR.out.2.2.2.2 q, fun _ => ⟨fun q => absurd HRt.out.2 q, fun _ => ⟨fun _ => ⟨rfl, rfl⟩, fun q => by
              obtain ⟨i, hi⟩ := q n0 hn0 h60
              rw [ht0, hf] at hi
              cases hi⟩⟩⟩)
            have f0 := HS4.out.z.fz 0
            have f1 := HS4.out.z.fz 1
            have f2 := HS4.out.z.fz 2
            have f3 := HS4.out.z.fz 3
            have z0 : w4.cell? ⟨w.heap.size + 1, 0, none⟩ = some (.bool false) := HS4.out.z.eb.c0
            have z1 : w4.cell? ⟨w.heap.size + 1, 1, none⟩ = some (.bool false) := HS4.out.z.eb.c1
            have z2 : w4.cell? ⟨w.heap.size + 1, 2, none⟩ = some (.int .i64 0) := HS4.out.z.eb.c2
            have z3 : w4.cell? ⟨w.heap.size + 1, 3, none⟩ = some (.int .i64 0) := HS4.out.z.eb.c3
            have HZ := hid_of (of_ret HS4.out.b HS4.out.z e0)
            simp only [Option.isSome] at hrun
            clear hf hs hn0 h60 ht0 hsz HS4 HO4 HMem HTt HI HR HS3 HRt HNl
            go_wp2_with fail
            refine ret_ex2 (s := 4) (t := 5) (k := w.heap.size + 1) (x := .int .i64 81) (by rfl) (by rfl) (by rfl) (by rfl) HZ.out.1 ?_
            exact ⟨⟨e0, 81, rfl, HA.out⟩, HZ.out.2⟩
          | some i =>
            rw [hf] at hrun
            have HI2 := (show Hid (∀ (j : Nat) s, j < k + 1 → ns[j]? = some s → ∃ i, fdG gs s = some i) from fun j s2 hj hj2 => by
              by_cases q : j = k
              · subst q
                rw [hs] at hj2
                obtain rfl := Option.some.inj hj2
                exact ⟨i, hf⟩
              · exact HI.out j s2 (by omega) hj2)
            simp only [Option.isSome] at hrun
            clear hf hs hn0 h60 ht0 hsz HI
            go_wp2_with fail
            go_roundw
            case rel => exact ⟨k + 1, by omega, by go_num, by first | rfl | trivial, HI2⟩
            case measure => simp [intOf]; omega
        · obtain rfl : k = ns.length := by omega
          have hall : ∀ n ∈ L, n.op = 6 → ∃ i, fdG gs n.tx = some i := fun n hn h6 => by
            obtain ⟨j, hj⟩ := List.getElem?_of_mem ((HMem.out n.tx).2 ⟨n, hn, h6, rfl⟩)
            exact HI.out j _ (List.getElem?_eq_some_iff.1 hj).1 hj
          obtain ⟨⟨en, ec, el, em⟩, hE⟩ : ∃ e, e = EE (lkE gs now) L (L.length - 1) := ⟨_, rfl⟩
          have HA := (show Hid (OfR gs L ⟨en, ec, el, em⟩ 0) from ⟨fun q => absurd HR.out.2.2.2.2 q, fun _ => ⟨fun q => absurd HRt.out.2 q, fun _ => ⟨fun ⟨n, hn, h6, hf⟩ => absurd (hall n hn h6) (by rw [hf]; rintro ⟨i, hi⟩; cases hi), fun _ => ⟨rfl, now, HR.out.2.1, hE⟩⟩⟩⟩)
          have HC := (show Hid (Calls Tryz.prog 23 #[.agg #[.map (some mb), .slice Ar gs.length cr], .slice Ap L.length cp] w4 fun e w' => e = .returned (.agg #[.bool en, .bool ec, .int .i64 el, .int .i64 em]) ∧ Below w4.heap.size w4 w') from by
            have hne : now ≠ [] := by rintro rfl; have h1 := HR.out.2.2.1; have h2 := HR.out.1.n1; rw [← h1] at h2; exact absurd h2 (by decide)
            have t := of_any ⟨HRt.out.1, HTt.out.2.1, hall, HR.out.2.2.2.1⟩ mb Ar Ap cr cp w4 HS4.out.n hne (HTt.out.2.2.below HS4.out.b (Nat.le_refl _))
            rw [← hE, HR.out.2.2.1] at t
            exact t)
          have kk0 := HS4.out.k.c0
          have kk1 := HS4.out.k.c1
          clear hall hE HMem HTt HI HR HRt HO4 HNl HS3
          go_wp2_with fail
          refine Calls.mono HC.out ?_
          rintro e w5 ⟨rfl, b5⟩
          have HS5 := (show Hid (OfS w w5 kb mb Ar cr gs now) from HS4.out.later b5)
          have f0 := HS5.out.z.fz 0
          have f1 := HS5.out.z.fz 1
          have f2 := HS5.out.z.fz 2
          have f3 := HS5.out.z.fz 3
          have z0 : w5.cell? ⟨w.heap.size + 1, 0, none⟩ = some (.bool false) := HS5.out.z.eb.c0
          have z1 : w5.cell? ⟨w.heap.size + 1, 1, none⟩ = some (.bool false) := HS5.out.z.eb.c1
          have z2 : w5.cell? ⟨w.heap.size + 1, 2, none⟩ = some (.int .i64 0) := HS5.out.z.eb.c2
          have z3 : w5.cell? ⟨w.heap.size + 1, 3, none⟩ = some (.int .i64 0) := HS5.out.z.eb.c3
          have HZ := hid_of (of_ret HS5.out.b HS5.out.z ⟨en, ec, el, em⟩)
          clear HC b5 HS5 HS4 kk0 kk1
          go_wp2_with fail
          refine ret_ex2 (s := 4) (t := 5) (k := w.heap.size + 1) (x := .int .i64 0) (by rfl) (by rfl) (by rfl) (by rfl) HZ.out.1 ?_
          exact ⟨⟨_, 0, rfl, HA.out⟩, HZ.out.2⟩
    · have tc : ((ck L).2 != 0) = true := by rw [bne, beq_eq_false_iff_ne.2 hc]; rfl
      have HA := (show Hid (OfR gs L e0 (ck L).2) from ⟨fun q => absurd HR.out.2.2.2.2 q, fun _ => ⟨fun _ => ⟨rfl, rfl⟩, fun q => absurd q hc⟩⟩)
      have f0 := HS4.out.z.fz 0
      have f1 := HS4.out.z.fz 1
      have f2 := HS4.out.z.fz 2
      have f3 := HS4.out.z.fz 3
      have z0 : w4.cell? ⟨w.heap.size + 1, 0, none⟩ = some (.bool false) := HS4.out.z.eb.c0
      have z1 : w4.cell? ⟨w.heap.size + 1, 1, none⟩ = some (.bool false) := HS4.out.z.eb.c1
      have z2 : w4.cell? ⟨w.heap.size + 1, 2, none⟩ = some (.int .i64 0) := HS4.out.z.eb.c2
      have z3 : w4.cell? ⟨w.heap.size + 1, 3, none⟩ = some (.int .i64 0) := HS4.out.z.eb.c3
      have HZ := hid_of (of_ret HS4.out.b HS4.out.z e0)
      clear hc ho4 HS4 HS3 HR HTt
      generalize hcd : (ck L).2 = ce at tc HA ⊢
      clear hcd
      go_wp2_with fail
      refine ret_ex2 (s := 4) (t := 5) (k := w.heap.size + 1) (x := .int .i64 ce) (by rfl) (by rfl) (by rfl) (by rfl) HZ.out.1 ?_
      exact ⟨⟨e0, ce, rfl, HA.out⟩, HZ.out.2⟩
  · obtain ⟨rfl, rfl⟩ := h1 hz
    have tz : ((ckG gs).2 != 0) = true := by rw [bne, beq_eq_false_iff_ne.2 hz]; rfl
    have HA := (show Hid (OfR gs L e0 (ckG gs).2) from ⟨fun _ => ⟨rfl, rfl⟩, fun q => absurd q hz⟩)
    have HB3 := (show Hid (Below w.heap.size w (w2.alloc (.cells #[.map none, .slice none 0 0] 48)) ∧ EX (w2.alloc (.cells #[.map none, .slice none 0 0] 48)) (w.heap.size + 1) e0) from ⟨HB2.out.1.trans ((below_box _ _).mono HB2.out.1.size), HB2.out.2.below (below_box _ _)⟩)
    clear h1 h2 hz HB2 HTt
    have f0 := HB3.out.2.fz 0
    have f1 := HB3.out.2.fz 1
    have f2 := HB3.out.2.fz 2
    have f3 := HB3.out.2.fz 3
    have z0 : (w2.alloc (.cells #[.map none, .slice none 0 0] 48)).cell? ⟨w.heap.size + 1, 0, none⟩ = some (.bool false) := HB3.out.2.eb.c0
    have z1 : (w2.alloc (.cells #[.map none, .slice none 0 0] 48)).cell? ⟨w.heap.size + 1, 1, none⟩ = some (.bool false) := HB3.out.2.eb.c1
    have z2 : (w2.alloc (.cells #[.map none, .slice none 0 0] 48)).cell? ⟨w.heap.size + 1, 2, none⟩ = some (.int .i64 0) := HB3.out.2.eb.c2
    have z3 : (w2.alloc (.cells #[.map none, .slice none 0 0] 48)).cell? ⟨w.heap.size + 1, 3, none⟩ = some (.int .i64 0) := HB3.out.2.eb.c3
    have HZ := hid_of (of_ret HB3.out.1 HB3.out.2 e0)
    generalize hcd : (ckG gs).2 = cd at tz HA ⊢
    clear hcd
    go_wp2_with fail
    refine ret_ex2 (s := 4) (t := 5) (k := w.heap.size + 1) (x := .int .i64 cd) (by rfl) (by rfl) (by rfl) (by rfl) HZ.out.1 ?_
    exact ⟨⟨e0, cd, rfl, HA.out⟩, HZ.out.2⟩
end Go.Proofs.YtokfgoepnfjafaaGreat.N

namespace Go.Proofs.YtokfgoepnfjafaaGreat.N
open Go.RowKit Go.Maps
open Go.Proofs.YtokfgoepnfjafaaGreat.T
set_option maxRecDepth 100000 in
set_option maxHeartbeats 4000000 in
theorem find9_any (gs : GL) (A : Option Addr) (c : Nat) (s : ByteArray) (w : World) (hp : GI w A gs) :
    Calls Tryz.prog 25 #[.agg #[.slice A gs.length c], .string s] w fun e w' => e = .returned (.int .i64 (fdN gs s)) ∧ Below w.heap.size w w' := by
  have HP := (show Hid (GrD w A gs) from hp.d)
  have hl := hp.l
  have HB1 := (show Hid (Below w.heap.size w (w.alloc (.cells #[.slice A gs.length c] 24))) from below_box _ _)
  have HG1 := (show Hid (GX (w.alloc (.cells #[.slice A gs.length c] 24)) w.heap.size (.slice A gs.length c)) from GX.mk (heap_alloc_new w _))
  clear hp
  go_enter Tryz.func25, Tryz.ntmps25
  go_wp2_with fail
  generalize w.alloc (.cells #[.slice A gs.length c] 24) = w1 at *
  have q1 := HG1.out.cl
  clear HG1
  go_loopw [5] (fun t wr => ∃ k : Nat, k ≤ gs.length ∧ t = .int .i64 k ∧ wr = w1 ∧ Hid (∀ j g, j < k → gs[j]? = some g → g.1 ≠ s)) (fun t _ => gs.length - (intOf t).toNat)
  case atStart => exact ⟨0, by omega, by go_num, rfl, fun j g h => by omega⟩
  case round =>
    obtain ⟨k, hk, rfl, rfl, HX⟩ := hrel
    by_cases hlt : k < gs.length
    · obtain ⟨g, hg⟩ : ∃ g, gs[k]? = some g := ⟨_, List.getElem?_eq_getElem hlt⟩
      obtain ⟨b, o, A2, c2, rfl, lb, x0, x1, r2⟩ := HP.out k g hg
      have x0' := (HB1.out.cell (p := ⟨b, o + k * 2, none⟩) lb).trans x0
      have z0 : (0 : Int) ≤ (k : Int) := by omega
      have z1 : (k : Int) < (gs.length : Int) := by omega
      clear x0 x1 r2 HP
      by_cases e : g.1 = s
      · have te : (g.1.toList == s.toList) = true := by rw [e]; simp
        have HE := (show Hid (fdN gs s = (k : Int)) from fdN_some (fdG_of hg e (fun j h hj hj2 => HX.out j h hj hj2)))
        clear HX hg e
        go_wp2_with fail
        go_ret
        exact ⟨by rw [HE.out]; rfl, HB1.out⟩
      · have te : (g.1.toList == s.toList) = false := by
          cases q : g.1.toList == s.toList
          · rfl
          · exact absurd (tx_ext (by simpa using q)) e
        have HX2 := (show Hid (∀ j g, j < k + 1 → gs[j]? = some g → g.1 ≠ s) from fun j h hj hj2 => by
          by_cases q : j = k
          · subst q; rw [hg] at hj2; cases hj2; exact e
          · exact HX.out j h (by omega) hj2)
        clear HX hg e
        go_wp2_with fail
        go_roundw
        case rel => exact ⟨k + 1, by omega, by go_num, by first | rfl | trivial, HX2⟩
        case measure => simp [intOf]; omega
    · obtain rfl : k = gs.length := by omega
      have HE := (show Hid (fdN gs s = -1) from fdN_none (fdG_none.2 fun g hg => by
        obtain ⟨j, hj, rfl⟩ := List.mem_iff_getElem.1 hg
        exact HX.out j _ hj (List.getElem?_eq_getElem hj)))
      clear HX HP
      go_wp2_with fail
      go_ret
      exact ⟨by rw [HE.out]; rfl, HB1.out⟩
end Go.Proofs.YtokfgoepnfjafaaGreat.N
