/- DERIVED. Plain mathematics and walks, laid together (9). -/
import Derived.Shelf.Slices.In.SortNone
import Derived.Sort.OwnSortedInts
import Derived.Sort.EveryDepth
import Derived.Laws.OwnMore
import Derived.Maps.Range
import Derived.Maps.Views
import Derived.Sort.KeysCollected
import Derived.Test.YtppggnmlbcdegabGreatRo08
namespace Go.Proofs.YtppggnmlbcdegabGreat.N
open Go.RowKit Go.Maps
open Go.Proofs.YtppggnmlbcdegabGreat.T
theorem sortI_any {w : World} {base n : Nat} {v : Value} {zs : List Int} (hn : n = zs.length) (hl : zs.length ≤ 1000000) (h : w.ownsRow base 3 1 v n (zs.map (Value.int .i64))) :
    Calls Tryz.prog 70 #[v] w fun e w' => e = .returned (.tuple #[]) ∧ w'.ownsRow base 3 1 v n ((zs.mergeSort fun x y => decide (x ≤ y)).map (Value.int .i64)) ∧ w.grownBy w' v.ownBlock := by
  subst hn
  rcases h.2 with ⟨rfl, h0⟩ | ⟨g, cap, cur, rfl, hb, hg, h1, h2, h3, h4⟩
  · have hz : zs = [] := List.eq_nil_of_length_eq_zero h0
    subst hz
    refine (Any.slices_Sort_int_none Tryz.lays189 none 0 w).mono ?_
    rintro e w' ⟨rfl, rfl⟩
    exact ⟨rfl, by rw [List.mergeSort_nil]; exact World.ownsRow_nil _ _ _ _, World.grownBy.refl _ _⟩
  · have hH := Go.holds_of_blockI hg (ss := zs) (by rw [← h4, Nat.mul_one])
    refine (calls_of_every_depth fun D => AnyS.slices_Sort_int_in Tryz.lays189 D g 0 cap zs w hH (Array.getElem?_eq_some_iff.1 hg).1 (by omega)).mono ?_
    rintro e w' ⟨rfl, k, os, rfl⟩
    exact ⟨rfl, ownsRow_sortedI (by rw [List.length_mergeSort]) hb hg h1 h2 h3, grownBy_sortedI _⟩
open U (nI own_get own_slice wpList_app1 below_grown)
/-- While the numbers of names are laid down. -/
structure ClS (w wr : World) (gs : GL) (ns : List ByteArray) (v u : Value) (l : List Nat) : Prop where
  b : Below w.heap.size w wr
  o : wr.ownsRow w.heap.size 9 1 v ns.length (stc ns)
  r : wr.ownsRow w.heap.size 3 1 u l.length (l.map nI)
  x : ∀ (j : Nat) s, j < l.length → ns[j]? = some s → ∃ i, l[j]? = some i ∧ fdG gs s = some i
theorem nI_map (l : List Nat) : l.map nI = (l.map fun (x : Nat) => (x : Int)).map (Value.int .i64) := by rw [List.map_map]; rfl
theorem ClS.push {w wr w5 : World} {gs : GL} {ns : List ByteArray} {v u u' : Value} {l : List Nat} {s : ByteArray} {i : Nat} (h : ClS w wr gs ns v u l) (hs : ns[l.length]? = some s) (hf : fdG gs s = some i) (ho : w5.ownsRow w.heap.size 3 1 u' (l.length + 1) (l.map nI ++ [nI i])) (hg : wr.grownBy w5 u.ownBlock) : ClS w w5 gs ns v u' (l ++ [i]) := by
  refine ⟨below_grown h.b hg (fun k e => (h.r.lt k e).1), U.own_kept h.o hg (fun k e => own_apart h.r h.o (by decide) e), ?_, fun j t hj ht => ?_⟩
  · rw [List.length_append, List.map_append]; exact ho
  · rw [List.length_append] at hj
    by_cases q : j < l.length
    · obtain ⟨a, a1, a2⟩ := h.x j t q ht
      exact ⟨a, by rw [List.getElem?_append_left q]; exact a1, a2⟩
    · have e : j = l.length := by simp at hj; omega
      subst e
      rw [hs] at ht
      cases ht
      exact ⟨i, by rw [List.getElem?_append_right (Nat.le_refl _), Nat.sub_self]; rfl, hf⟩
theorem ClS.sorted {w wr : World} {gs : GL} {ns : List ByteArray} {v u : Value} {l : List Nat} {r : Nat} (h : ClS w wr gs ns v u l) (hl : l.length = ns.length) (hn : ns.length ≤ 2048)
    (hF : ∀ l : List Nat, l.length = ns.length → (∀ (k : Nat) s, ns[k]? = some s → ∃ j, l[k]? = some j ∧ fdG gs s = some j) → (l.map fun (x : Nat) => (x : Int)).mergeSort (fun x y => decide (x ≤ y)) = (cL gs r).map fun (x : Nat) => (x : Int)) :
    Calls Tryz.prog 70 #[u] wr fun e w' => e = .returned (.tuple #[]) ∧ w'.ownsRow w.heap.size 3 1 u (cL gs r).length ((cL gs r).map nI) ∧ Below w.heap.size w w' := by
  have h1 := h.r
  rw [nI_map] at h1
  have hs := hF l hl (fun j s hs => h.x j s (by have := (List.getElem?_eq_some_iff.1 hs).1; omega) hs)
  have hlen : (cL gs r).length = l.length := by
    have := congrArg List.length hs
    rw [List.length_mergeSort, List.length_map, List.length_map] at this
    exact this.symm
  refine (sortI_any (zs := l.map fun (x : Nat) => (x : Int)) (by rw [List.length_map]) (by rw [List.length_map]; omega) h1).mono ?_
  rintro e w' ⟨rfl, h2, h3⟩
  rw [hs, ← nI_map] at h2
  rw [hlen]
  exact ⟨rfl, h2, below_grown h.b h3 (fun k e => (h.r.lt k e).1)⟩
set_option maxRecDepth 100000 in
set_option maxHeartbeats 8000000 in
theorem calledBy_any {gs : GL} (hR : RtG gs) {r : Nat} {g : ByteArray × List Nd} (hgr : gs[r]? = some g) (A : Option Addr) (c B : Nat) (hL : g.2.length ≤ 2048) (hT : ∀ n ∈ g.2, n.tx.size ≤ 140737488355328) (w : World) (hp : RdN w A g.2) (hm : NmM w B gs) :
    Calls Tryz.prog 63 #[.slice A g.2.length c, .map (some B)] w fun e w' => (∃ v, e = .returned v ∧ w'.ownsRow w.heap.size 3 1 v (cL gs r).length ((cL gs r).map nI)) ∧ Below w.heap.size w w' := by
  have hck : (ck g.2).2 = 0 := hR.ck g (List.mem_of_getElem? hgr)
  have hnE : nmE g.2 = nmL g.2 g.2.length := by unfold nmE; rw [if_pos hck]
  obtain ⟨ns, hns⟩ : ∃ ns, ns = nmL g.2 g.2.length := ⟨_, rfl⟩
  have HN : Hid (∀ _ : Unit, Calls Tryz.prog 69 #[.slice A g.2.length c] w fun e w' => (∃ v, e = .returned (.tuple #[v, .int .i64 (ck g.2).2]) ∧ w'.ownsRow w.heap.size 9 1 v ns.length (stc ns)) ∧ Below w.heap.size w w') := fun _ => by
    have h := names_any g.2 A c (by omega) hT w hp
    unfold NmV at h
    rw [hnE, ← hns] at h
    exact h
  have HKn := (show Hid (∀ k, k < ns.length → ∃ s i, ns[k]? = some s ∧ s.size ≤ 140737488355328 ∧ fdG gs s = some i ∧ i < gs.length) from fun k hk => by
    have hs : ns[k]? = some ns[k] := List.getElem?_eq_getElem hk
    have hmem : ns[k] ∈ nmL g.2 g.2.length := by rw [← hns]; exact List.getElem_mem hk
    obtain ⟨n, n1, n2, n3⟩ := nmL_all.1 hmem
    obtain ⟨i, hi⟩ := hR.dn.c g (List.mem_of_getElem? hgr) n n1 n2
    exact ⟨ns[k], i, hs, by rw [← n3]; exact hT n n1, by rw [← n3]; exact hi, fdG_lt hi⟩)
  have hnl : ns.length ≤ 2048 := by rw [hns]; have := nmL_len g.2 g.2.length; omega
  have hg200 : gs.length ≤ 200 := hR.n2
  have HFin := (show Hid (∀ l : List Nat, l.length = ns.length → (∀ (k : Nat) s, ns[k]? = some s → ∃ j, l[k]? = some j ∧ fdG gs s = some j) → (l.map fun (x : Nat) => (x : Int)).mergeSort (fun x y => decide (x ≤ y)) = (cL gs r).map fun (x : Nat) => (x : Int)) from fun l h1 h2 => called_sort hR hgr (by rw [← hns]; exact h1) (by rw [← hns]; exact h2))
  have HM := (show Hid (NmM w B gs) from hm)
  clear hp hm hT hck hnE hns hR hgr
  go_enter Tryz.func63, Tryz.ntmps63
  go_wp2_with fail
  refine (HN.out ()).mono ?_
  rintro e w1 ⟨⟨v, rfl, ho⟩, b1⟩
  obtain ⟨A1, c1, rfl⟩ := own_slice ho
  have HS := (show Hid (ClS w w1 gs ns (.slice A1 ns.length c1) (.slice none 0 0) []) from ⟨b1, ho, World.ownsRow_nil _ _ _ _, fun j s hj => by cases hj⟩)
  clear HN b1 ho
  generalize (ck g.2).2 = cd at *
  go_wp2_with fail
  go_loopw [7, 17] (fun u t wr => ∃ (k : Nat) (l : List Nat) (A2 : Option Addr) (c2 : Nat), k ≤ ns.length ∧ t = .int .i64 (k : Int) ∧ u = .slice A2 k c2 ∧ Hid (l.length = k) ∧ Hid (ClS w wr gs ns (.slice A1 ns.length c1) (.slice A2 k c2) l)) (fun _ t _ => ns.length - (intOf t).toNat)
  case atStart => exact ⟨0, [], none, 0, by omega, by go_num, rfl, rfl, HS⟩
  case round =>
    obtain ⟨k, l, A2, c2, hk, rfl, rfl, HLk, HW⟩ := hrel
    clear HS
    by_cases hlt : k < ns.length
    · obtain ⟨s, i, hs, hsz, hf, hi⟩ := HKn.out k hlt
      obtain ⟨g1, cap1, e1, lb1, l1, x1, _⟩ := own_get HW.out.o (j := k) (x := .string s) (by unfold stc; rw [List.getElem?_map, hs]; rfl)
      cases e1
      have hrun : (Instr.lookup 54 (.map (some B)) (.string s) false).run Tryz.prog wr = .ok (.int .i64 i) wr := NmM.look0 (HM.out.same (HW.out.b.block B HM.out.lt)) hsz hf
      have z0 : (0 : Int) ≤ (k : Int) := by omega
      have z1 : (k : Int) < (ns.length : Int) := by omega
      have HO := (show Hid (wr.ownsRow w.heap.size 3 1 (.slice A2 k c2) k (l.map nI)) from by have h := HW.out.r; rw [HLk.out] at h; exact h)
      have HBw := (show Hid (w.heap.size ≤ wr.heap.size) from HW.out.b.size)
      have HPu := (show Hid (∀ (u' : Value) (w5 : World), w5.ownsRow w.heap.size 3 1 u' (k + 1) (l.map nI ++ [nI i]) → wr.grownBy w5 (Value.slice A2 k c2).ownBlock → ClS w w5 gs ns (.slice (some ⟨g1, 0, none⟩) ns.length c1) u' (l ++ [i])) from fun u' w5 h1 h2 => HW.out.push (by rw [HLk.out]; exact hs) hf (by rw [HLk.out]; exact h1) h2)
      have HL2 := (show Hid ((l ++ [i]).length = k + 1) from by show _ = _; rw [List.length_append, HLk.out]; rfl)
      clear HW hs hf hsz lb1 l1 HLk
      go_wp2_with (at_builtin; refine wpList_app1 rfl _ _ 36 rfl (.int .i64 0) 8 Tryz.underlying36 Tryz.info3 rfl w.heap.size k _ (l.map nI) rfl rfl HO.out rfl (by omega) (by decide) HBw.out ?_; intro g3 cap3 w5 ho5 hg5 hat5 hl5; have HW5 := (show Hid (ClS w w5 gs ns (.slice (some ⟨g1, 0, none⟩) ns.length c1) (.slice (some ⟨g3, 0, none⟩) (k + 1) cap3) (l ++ [i])) from HPu.out _ _ ho5 hg5); clear ho5 hg5 hat5 hl5 HPu HO HBw hrun x1)
      go_roundw
      case rel => exact ⟨k + 1, l ++ [i], some ⟨g3, 0, none⟩, cap3, by omega, by go_num, rfl, HL2, HW5⟩
      case measure => simp [intOf]; omega
    · obtain rfl : k = ns.length := by omega
      have HC := (show Hid (∀ _ : Unit, Calls Tryz.prog 70 #[.slice A2 ns.length c2] wr fun e w' => e = .returned (.tuple #[]) ∧ w'.ownsRow w.heap.size 3 1 (.slice A2 ns.length c2) (cL gs r).length ((cL gs r).map nI) ∧ Below w.heap.size w w') from fun _ => HW.out.sorted HLk.out hnl HFin.out)
      clear HFin HW HKn HM HLk
      go_wp2_with fail
      refine (HC.out ()).mono ?_
      rintro e w6 ⟨rfl, ho6, hb6⟩
      have HB6 := (show Hid (Below w.heap.size w w6) from hb6)
      have HO6 := (show Hid (w6.ownsRow w.heap.size 3 1 (.slice A2 ns.length c2) (cL gs r).length ((cL gs r).map nI)) from ho6)
      clear HC ho6 hb6
      go_wp2_with fail
      go_ret
      exact ⟨⟨_, rfl, HO6.out⟩, HB6.out⟩
end Go.Proofs.YtppggnmlbcdegabGreat.N

namespace Go.Proofs.YtppggnmlbcdegabGreat.N
open Go.RowKit Go.Maps
open Go.Proofs.YtppggnmlbcdegabGreat.T

open U (nI)
set_option maxRecDepth 100000 in
set_option maxHeartbeats 8000000 in
/-- SpoilInts: only the row itself is written. -/
theorem spoilI_any (mk : Int) (v : Value) (n B : Nat) (xs : List Value) (w : World) (h : w.ownsRow B 3 1 v n xs) (hB : B ≤ w.heap.size) (hn : n ≤ 20000000) :
    Calls Tryz.prog 11 #[v, .int .i64 mk] w fun e w' => e = .returned (.tuple #[]) ∧ w.grownBy w' v.ownBlock := by
  obtain ⟨A, c, rfl⟩ := own_sl h
  have HA := (show Hid (∃ ys, w.ownsRow B 3 1 (.slice A n c) n ys) from ⟨xs, h⟩)
  have HX := (show Hid (0 < n → ∃ g, A = some ⟨g, 0, none⟩) from fun h0 => by
    obtain ⟨g, cap, e, _⟩ := h.form h0
    cases e
    exact ⟨g, rfl⟩)
  clear h
  go_enter Tryz.func11, Tryz.ntmps11
  go_wp2_with fail
  go_loopw [4] (fun t wr => ∃ k : Nat, k ≤ n ∧ t = .int .i64 k ∧ Hid (∃ ys, wr.ownsRow B 3 1 (.slice A n c) n ys) ∧ Hid (w.grownBy wr (Value.slice A n c).ownBlock)) (fun t _ => n - (intOf t).toNat)
  case atStart => exact ⟨0, by omega, by go_num, HA, World.grownBy.refl _ _⟩
  case round =>
    obtain ⟨k, hk, rfl, HO, HW⟩ := hrel
    clear HA
    by_cases hlt : k < n
    · obtain ⟨g, rfl⟩ := HX.out (by omega)
      obtain ⟨ys, ho⟩ := HO.out
      have hyl : ys.length = n := by have := ho.1; omega
      obtain ⟨y0, c0⟩ : ∃ y, wr.cell? ⟨g, k, none⟩ = some y := ⟨_, (ho.cellAt k (by omega)).trans (List.getElem?_eq_getElem (by omega))⟩
      have f0 := ho.frozenAt k
      obtain ⟨st1, st2⟩ := ho.stored k (.int .i64 mk)
      have HO2 := (show Hid (∃ ys, World.ownsRow _ B 3 1 (.slice (some ⟨g, 0, none⟩) n c) n ys) from ⟨_, st1⟩)
      have HW2 := (show Hid _ from HW.out.trans st2)
      have z0 : (0 : Int) ≤ (k : Int) := by omega
      have z1 : (k : Int) < (n : Int) := by omega
      clear HO HW st1 st2 ho hyl HX
      go_wp2_with fail
      go_roundw
      case rel => exact ⟨k + 1, by omega, by go_num, HO2, HW2⟩
      case measure => simp [intOf]; omega
    · obtain rfl : k = n := by omega
      obtain ⟨ys, hO1⟩ := HO.out
      have hsz := HW.out.size
      clear HX
      obtain ⟨i0, hinf, hz0, hz1, hz2⟩ := U.info_split Tryz.info3
      go_wp2_with (at_builtin; refine wpList_append_lies _ rfl _ _ 36 rfl B 3 i0 (.int .i64 0) 1 8 Tryz.underlying36 hinf hz0 hz1 hz2 rfl (by decide) _ _ _ rfl (hO1.alloc _) ⟨wr.heap.size, 0, none⟩ 1 1 [.int .i64 mk] rfl rfl ?c1 ?c2 (by decide) ?c3 ?c4 ?c5 (wr.heap.size + 1) (by simp) ?_)
      case c1 => exact World.news_of_block (cs := #[.int .i64 mk]) (t := 3) (fr := (0, 0)) (heap_alloc_new wr _)
      case c2 => intro u hu; rw [List.mem_singleton.1 hu]; rfl
      case c3 => unfold maxLen; omega
      case c4 => omega
      case c5 => rw [World.size_alloc]; omega
      intro g3 cap w3 hown hgrow hat hlt3
      have HG := (show Hid _ from HW.out.trans ((World.grownBy_alloc wr (.cells #[.int .i64 mk] 3) _).trans hgrow))
      clear hown hgrow hat hlt3 hO1 HO HW
      go_wp2_with fail
      go_end0
      exact ⟨rfl, HG.out⟩
end Go.Proofs.YtppggnmlbcdegabGreat.N

namespace Go.Proofs.YtppggnmlbcdegabGreat.N
open Go.RowKit Go.Maps
open Go.Proofs.YtppggnmlbcdegabGreat.T
/-- A call of a function value that holds what it captured, as one step of a region that draws its order. -/
theorem step_callv {F : Nat} (hen : ∀ args w, (callFunc F args).run Tryz.prog w = .ok (.enter F args) w) {ops : Array Oper} {o : Oper} {a : Act} {w : World} {K : Act → World → Prop} {Q : Exit → Act → World → Prop} {E : Prop} (hgd : o.guard = none) (f : Nat) (x : Operand) (T : TypeId) (ho : o.op = .call { callee := .value (.tmp f), args := #[x], argTypes := #[T] }) (p q : Value) (hf : a.eval (.tmp f) = .func (.func F) #[] #[p, q]) (v : Value) (hx : a.eval x = v)
    (hc : Calls Tryz.prog F #[v, p, q] w fun e w' => ∃ r, e = .returned r ∧ K (a.put o.dst r) w') :
    if Region.wanted o (yielded ops a.tmps) = true then Oper.wp Tryz.prog o a w K Q else E := by
  have hw : Region.wanted o (yielded ops a.tmps) = true := by simp [Region.wanted, hgd]
  rw [if_pos hw]
  have he : (execOp a.eval o).run Tryz.prog w = .ok (.enter F #[v, p, q]) w := by
    have hf2 : a.tmps[f]?.getD undef = .func (.func F) #[] #[p, q] := by simpa [Act.eval] using hf
    unfold execOp
    simp [ho, go_sem, invoke]
    rw [hf2]
    rw [← hx]
    cases x <;> simp [Act.eval, hen]
  unfold Oper.wp
  rw [he, Oper.upon_enter]
  refine hc.mono ?_
  rintro e w' ⟨r, rfl, hk⟩
  exact hk
theorem enters65 (args : Array Value) (w : World) : (callFunc 48 args).run Tryz.prog w = .ok (.enter 48 args) w := enters_of Tryz.func48 (by kernel_rfl) rfl args w
/-- While a renamed grammar is made. -/
structure RnT (w wr : World) (a : Value) (old nm : ByteArray) (v : Value) (ov : List Rg) : Prop where
  o : OG wr w.heap.size v ov
  b : Below w.heap.size w wr
  x : GX wr w.heap.size a
  p : BX wr (w.heap.size + 1) old
  q : BX wr (w.heap.size + 2) nm
  y : GX wr (w.heap.size + 3) (.slice none 0 0)
  z : GX wr (w.heap.size + 4) v
theorem RnT.later {w wr W' : World} {a v : Value} {old nm : ByteArray} {ov : List Rg} (h : RnT w wr a old nm v ov) (hb : Below wr.heap.size wr W') : RnT w W' a old nm v ov :=
  ⟨h.o.later hb, h.b.trans (hb.mono h.b.size), h.x.below hb, h.p.later hb, h.q.later hb, h.y.below hb, h.z.below hb⟩
theorem BX.same {W W' : World} {b : Nat} {s : ByteArray} (h : BX W b s) (hb : W'.heap[b]? = W.heap[b]?) : BX W' b s := ⟨hb.trans h.heap⟩
theorem BX.ne {W : World} {k B e s n : Nat} {u : Value} {t : ByteArray} {xs : List Value} (h : BX W k t) (ho : W.ownsRow B e s u n xs) (he : e ≠ 9) {j : Nat} (hj : u.ownBlock = some j) : j ≠ k := fun q => by
  subst q
  rcases ho.2 with ⟨rfl, _⟩ | ⟨g, cap, cur, rfl, _, hg, _⟩
  · cases hj
  · cases hj
    have h2 := h.heap
    rw [hg] at h2
    have h3 := Option.some.inj h2
    injection h3 with e1 e2 e3
    exact he e2
theorem RnT.start (w : World) (a : Value) (old nm : ByteArray) : RnT w (((((w.alloc (.cells #[a] 24)).alloc (.cells #[.string old] 9)).alloc (.cells #[.string nm] 9)).alloc (.cells #[.slice none 0 0] 24)).alloc (.cells #[.slice none 0 0] 24)) a old nm (.slice none 0 0) [] := by
  obtain ⟨w1, e1⟩ : ∃ w1, w1 = w.alloc (.cells #[a] 24) := ⟨_, rfl⟩
  obtain ⟨w2, e2⟩ : ∃ w2, w2 = w1.alloc (.cells #[.string old] 9) := ⟨_, rfl⟩
  obtain ⟨w3, e3⟩ : ∃ w3, w3 = w2.alloc (.cells #[.string nm] 9) := ⟨_, rfl⟩
  obtain ⟨w4, e4⟩ : ∃ w4, w4 = w3.alloc (.cells #[.slice none 0 0] 24) := ⟨_, rfl⟩
  obtain ⟨w5, e5⟩ : ∃ w5, w5 = w4.alloc (.cells #[.slice none 0 0] 24) := ⟨_, rfl⟩
  rw [← e1, ← e2, ← e3, ← e4, ← e5]
  have s1 : w1.heap.size = w.heap.size + 1 := by rw [e1, World.size_alloc]
  have s2 : w2.heap.size = w.heap.size + 2 := by rw [e2, World.size_alloc, s1]
  have s3 : w3.heap.size = w.heap.size + 3 := by rw [e3, World.size_alloc, s2]
  have s4 : w4.heap.size = w.heap.size + 4 := by rw [e4, World.size_alloc, s3]
  have b1 : Below w.heap.size w w1 := by rw [e1]; exact below_box _ _
  have b2 : Below w1.heap.size w1 w2 := by rw [e2]; exact below_box _ _
  have b3 : Below w2.heap.size w2 w3 := by rw [e3]; exact below_box _ _
  have b4 : Below w3.heap.size w3 w4 := by rw [e4]; exact below_box _ _
  have b5 : Below w4.heap.size w4 w5 := by rw [e5]; exact below_box _ _
  have g1 : GX w1 w.heap.size a := by rw [e1]; exact GX.mk (heap_alloc_new w _)
  have g2 : BX w2 (w.heap.size + 1) old := ⟨by rw [e2, ← s1]; exact heap_alloc_new w1 _⟩
  have g3 : BX w3 (w.heap.size + 2) nm := ⟨by rw [e3, ← s2]; exact heap_alloc_new w2 _⟩
  have g4 : GX w4 (w.heap.size + 3) (.slice none 0 0) := ⟨by rw [e4, ← s3]; exact heap_alloc_new w3 _⟩
  have g5 : GX w5 (w.heap.size + 4) (.slice none 0 0) := ⟨by rw [e5, ← s4]; exact heap_alloc_new w4 _⟩
  have c4 := b1.trans (((b2.trans (b3.mono b2.size)).trans (b4.mono (Nat.le_trans b2.size b3.size))).mono b1.size)
  exact ⟨OG.nil _ _, c4.trans (b5.mono c4.size), (((g1.below b2).below b3).below b4).below b5, ((g2.later b3).later b4).later b5, (g3.later b4).later b5, g4.below b5, g5⟩
theorem RnT.push {w wr wA w5 : World} {a v u v2 : Value} {old mm : ByteArray} {ov : List Rg} {nm : ByteArray} {L : List Nd} (h : RnT w wr a old mm v ov) (hA : Below wr.heap.size wr wA) (hl : wA.ownsRow wr.heap.size 53 7 v2 L.length (ndc L)) (hg : (wA.alloc (.cells #[.string nm, v2] 44)).grownBy w5 v.ownBlock) (ho : w5.ownsRow w.heap.size 44 2 u (ov.length + 1) (rgc ov ++ [.string nm, v2])) : GX w5 (w.heap.size + 4) v ∧ RnT w (w5.setCell ⟨w.heap.size + 4, 0, none⟩ u) a old mm u (ov ++ [((nm, L), v2)]) := by
  have h2 := (h.later hA).later (below_box wA (.cells #[.string nm, v2] 44))
  have kk : ∀ (j : Nat), j < (wA.alloc (.cells #[.string nm, v2] 44)).heap.size → (∀ q, v.ownBlock = some q → q ≠ j) → w5.heap[j]? = (wA.alloc (.cells #[.string nm, v2] 44)).heap[j]? := fun j hj hq => hg.block j hj (fun e => hq j e.symm rfl)
  have z5 := h2.z.same (kk _ h2.z.lt (fun q hq => h2.z.ne h2.o.o (by decide) hq))
  have x5 := h2.x.same (kk _ h2.x.lt (fun q hq => h2.x.ne h2.o.o (by decide) hq))
  have y5 := h2.y.same (kk _ h2.y.lt (fun q hq => h2.y.ne h2.o.o (by decide) hq))
  have p5 := h2.p.same (kk _ h2.p.lt (fun q hq => h2.p.ne h2.o.o (by decide) hq))
  have q5 := h2.q.same (kk _ h2.q.lt (fun q hq => h2.q.ne h2.o.o (by decide) hq))
  have o5 := h.o.push h.b.size hA hl hg ho
  have b5 : Below w.heap.size w w5 := h2.b.grown hg h2.b.size (fun k e => (h2.o.o.lt k e).1)
  have key : ∀ (j : Nat), j ≠ w.heap.size + 4 → (w5.setCell ⟨w.heap.size + 4, 0, none⟩ u).heap[j]? = w5.heap[j]? := fun j hj => Below.heap_setCell _ _ _ _ hj
  exact ⟨z5, o5.same fun k hk => key k (o5.ne z5 hk), b5.setCell (p := ⟨w.heap.size + 4, 0, none⟩) (by show w.heap.size ≤ w.heap.size + 4; omega) _, x5.same (key _ (by omega)), p5.same (key _ (by omega)), q5.same (key _ (by omega)), y5.same (key _ (by omega)), z5.set _⟩
/-- While a pattern of it is made. -/
structure RnJ (wA wr : World) (v : Value) (k : Nat) (L : List Nd) : Prop where
  b : Below wA.heap.size wA wr
  o : wr.ownsRow wA.heap.size 53 7 v k (ndc L)
theorem nx_put {W : World} {b : Nat} {n : Nd} (h : NX W b n) (t : ByteArray) : NX (W.setCell ⟨b, 2, none⟩ (.string t)) b { n with tx := t } := ⟨by rw [heap_setCell_same W b 2 _ 53 _ h.heap]; rfl⟩
theorem RnJ.wrote {wA wr wC : World} {v : Value} {k : Nat} {L : List Nd} {n : Nd} (h : RnJ wA wr v k L) (hC : Below (wr.alloc (ndO n)).heap.size (wr.alloc (ndO n)) wC) (t : ByteArray) : NX wC wr.heap.size n ∧ RnJ wA (wC.setCell ⟨wr.heap.size, 2, none⟩ (.string t)) v k L ∧ NX (wC.setCell ⟨wr.heap.size, 2, none⟩ (.string t)) wr.heap.size { n with tx := t } := by
  have n1 : NX (wr.alloc (ndO n)) wr.heap.size n := ⟨heap_alloc_new wr _⟩
  have n2 : NX wC wr.heap.size n := n1.same (hC.block _ n1.lt)
  have b2 : Below wr.heap.size wr wC := (below_box wr (ndO n)).trans (hC.mono (by rw [World.size_alloc]; omega))
  have o2 := T.own_below h.o b2
  have b3 := h.b.trans (b2.mono h.b.size)
  refine ⟨n2, ⟨b3.setCell (p := ⟨wr.heap.size, 2, none⟩) h.b.size _, own_same o2 fun q hq => Below.heap_setCell _ _ _ _ ?_⟩, nx_put n2 t⟩
  have := (h.o.lt q hq).2
  show q ≠ wr.heap.size
  omega
theorem RnJ.push {wA wD w5 : World} {v u : Value} {k : Nat} {L : List Nd} {n : Nd} (h : RnJ wA wD v k L) (hg : (wD.alloc (ndO n)).grownBy w5 v.ownBlock) (ho : w5.ownsRow wA.heap.size 53 7 u (k + 1) (ndc L ++ ndV n)) : RnJ wA w5 u (k + 1) (L ++ [n]) := by
  have b2 := h.b.alloc h.b.size (ndO n)
  have o2 := h.o.alloc (ndO n)
  refine ⟨b2.grown hg b2.size (fun q e => (o2.lt q e).1), ?_⟩
  have e : ndc (L ++ [n]) = ndc L ++ ndV n := by unfold ndc; rw [List.flatMap_append, List.flatMap_cons, List.flatMap_nil, List.append_nil]
  rw [e]
  exact ho
/-- What becomes of a node: by its kind. -/
theorem reN_call {a b : ByteArray} {n : Nd} (h : n.op = 6) : reN a b n = { n with tx := rnB a b n.tx } := by
  unfold reN rnB
  by_cases e : n.tx = a
  · rw [if_pos ⟨h, e⟩, if_pos e]
  · rw [if_neg (fun q => e q.2), if_neg e]
theorem reN_else {a b : ByteArray} {n : Nd} (h : ¬ n.op = 6) : reN a b n = { n with tx := n.tx } := by
  unfold reN
  rw [if_neg (fun q => h q.1)]
theorem make_nodes (w : World) (n : Nat) (hn : n ≤ 2048) : ∃ w1, (Instr.makeSlice 42 (.int .i64 0) (.int .i64 (n : Int))).run Tryz.prog w = .ok (.slice (some ⟨w.heap.size, 0, none⟩) 0 n) w1 ∧ RnJ w w1 (.slice (some ⟨w.heap.size, 0, none⟩) 0 n) 0 [] := by
  obtain ⟨i0, hinf, hz0, hz1, hz2⟩ := info_parts Tryz.info43
  obtain ⟨w2, hmk, ho2, hg2⟩ := run_make_own (P := Tryz.prog) w w.heap.size 42 53 i0 zA 7 Tryz.underlying42 hinf hz0 hz1 .i64 .i64 n (by rw [hz2]; omega) (by unfold maxLen; omega) (Nat.le_refl _)
  exact ⟨w2, hmk, U.below_grown (Below.refl _ _) hg2 (fun j e => by cases e), ho2⟩
end Go.Proofs.YtppggnmlbcdegabGreat.N

namespace Go.Proofs.YtppggnmlbcdegabGreat.N
open Go.RowKit Go.Maps
open Go.Proofs.YtppggnmlbcdegabGreat.T
theorem ret_gx6 {fn : Func} {R : Ending → World → Prop} {act : Act} {W : World} {k : Nat} {a : Value} (hF : fn.results = #[.cell 6 24]) (hd : act.defers = []) (h6 : act.tmps.getD 6 undef = .pointer (some ⟨k, 0, none⟩)) (hT : GX W k a) (hR : R (.returned (.agg #[a])) W) : bodyPost Tryz.prog fn R .ret act W := by
  have c0 := hT.cl
  refine bodyPost_ret (v := .agg #[a]) ?_ hd hR
  simp only [Array.getD_eq_getD_getElem?] at h6
  simp [results, hF, go_sem, h6, c0]
/-- A rule in a box of its own. -/
structure RlX (W : World) (k : Nat) (s : ByteArray) (v : Value) : Prop where
  heap : W.heap[k]? = some (.cells #[.string s, v] 44 (0, 0))
theorem RlX.lt {W : World} {k : Nat} {s : ByteArray} {v : Value} (h : RlX W k s v) : k < W.heap.size := (Array.getElem?_eq_some_iff.1 h.heap).1
theorem RlX.later {W W' : World} {k : Nat} {s : ByteArray} {v : Value} (h : RlX W k s v) (hb : Below W.heap.size W W') : RlX W' k s v := ⟨(hb.block k h.lt).trans h.heap⟩
theorem RlX.c0 {W : World} {k : Nat} {s : ByteArray} {v : Value} (h : RlX W k s v) : W.cell? ⟨k, 0, none⟩ = some (.string s) := by rw [cell_of_row W k 0 _ 44 (0, 0) h.heap]; rfl
theorem RlX.c1 {W : World} {k : Nat} {s : ByteArray} {v : Value} (h : RlX W k s v) : W.cell? ⟨k, 1, none⟩ = some v := by rw [cell_of_row W k 1 _ 44 (0, 0) h.heap]; rfl
set_option maxRecDepth 100000 in
set_option maxHeartbeats 32000000 in
theorem renamed_any (gs : GL) (A : Option Addr) (c : Nat) (old nm : ByteArray) (hnm : nm.size ≤ 281474976710656) (w : World) (hp : GI w A gs) (hn : gs.length ≤ 200) (hL : ∀ g ∈ gs, g.2 ≠ [] ∧ g.2.length ≤ 2048) :
    Calls Tryz.prog 23 #[.agg #[.slice A gs.length c], .string old, .string nm] w fun e w' => (∃ v ov, e = .returned (.agg #[v]) ∧ ov.map (·.1) = gs.map (rnR old nm) ∧ OG w' w.heap.size v ov) ∧ Below w.heap.size w w' := by
  obtain ⟨i0, hinf, hz0, hz1, hz2⟩ := info_parts Tryz.info41
  obtain ⟨i1, jinf, jz0, jz1, jz2⟩ := info_parts Tryz.info43
  have hmf : ∀ (fn : Fn) (first cap : Array Value) (w : World), (Instr.makeFunc fn first cap).run Tryz.prog w = .ok (.func fn first cap) w := fun _ _ _ _ => rfl
  have HG := (show Hid (∀ k, k < gs.length → ∃ g, gs[k]? = some g ∧ g.2.length ≤ 2048 ∧ g.1.size ≤ 281474976710656 ∧ (∀ n ∈ g.2, n.tx.size ≤ 281474976710656) ∧ ∃ b o g2 o2 c2, A = some ⟨b, o, none⟩ ∧ b < w.heap.size ∧ w.cell? ⟨b, o + k * 2, none⟩ = some (.string g.1) ∧ w.cell? ⟨b, o + k * 2 + 1, none⟩ = some (.slice (some ⟨g2, o2, none⟩) g.2.length c2) ∧ g2 < w.heap.size ∧ NdL w g2 o2 g.2) from fun k hk => by
    have e : gs[k]? = some gs[k] := List.getElem?_eq_getElem hk
    obtain ⟨b, o, A2, c2, h1, h2, h3, h4, h5⟩ := hp.d k _ e
    have h6 := hL _ (List.getElem_mem hk)
    have h7 := hp.t _ (List.getElem_mem hk)
    obtain ⟨b2, o2, rfl, l2, d2⟩ := h5 h6.1
    exact ⟨_, e, h6.2, by omega, fun n hn => by have := h7.2.2 n hn; omega, b, o, _, _, c2, h1, h2, h3, h4, l2, d2⟩)
  have HA := (show Hid _ from RnT.start w (.slice A gs.length c) old nm)
  have q1 := HA.out.x.cl
  clear hp hL
  go_enter Tryz.func23, Tryz.ntmps23
  go_wp2_with fail
  rw [show w.heap.size + 1 + 1 + 1 + 1 = w.heap.size + 4 from rfl, show w.heap.size + 1 + 1 + 1 = w.heap.size + 3 from rfl, show w.heap.size + 1 + 1 = w.heap.size + 2 from rfl]
  generalize ((((w.alloc (.cells #[.slice A gs.length c] 24)).alloc (.cells #[.string old] 9)).alloc (.cells #[.string nm] 9)).alloc (.cells #[.slice none 0 0] 24)).alloc (.cells #[.slice none 0 0] 24) = w1 at *
  clear q1
  go_loopw [18] (fun t wr => ∃ (i : Nat) (ov : List Rg) (Av : Option Addr) (cv : Nat), i ≤ gs.length ∧ t = .int .i64 (i : Int) ∧ Hid (ov.length = i ∧ ov.map (·.1) = (gs.take i).map (rnR old nm)) ∧ Hid (RnT w wr (.slice A gs.length c) old nm (.slice Av i cv) ov)) (fun t _ => gs.length - (intOf t).toNat)
  case atStart => exact ⟨0, [], none, 0, Nat.zero_le _, rfl, ⟨rfl, rfl⟩, HA⟩
  case round =>
    obtain ⟨i, ov, Av, cv, hi, rfl, HM, HW⟩ := hrel
    clear HA
    obtain ⟨wL, hwL⟩ : ∃ wL, wL = wr := ⟨_, rfl⟩
    subst hwL
    by_cases hlt : i < gs.length
    · obtain ⟨g, hgk, hgl, hgs, htx, b, o, g2, o2, c2, rfl, lb, e0, e1, lg2, hNd⟩ := HG.out i hlt
      have z0 : (0 : Int) ≤ (i : Int) := by omega
      have z1 : (i : Int) < (gs.length : Int) := by omega
      have d0 := (HW.out.b.cell (p := ⟨b, o + i * 2, none⟩) lb).trans e0
      have d1 := (HW.out.b.cell (p := ⟨b, o + i * 2 + 1, none⟩) lb).trans e1
      have HTk := (show Hid (gs.take (i + 1) = gs.take i ++ [g]) from by rw [List.take_add_one, hgk]; rfl)
      have HNd := (show Hid (NdL w g2 o2 g.2) from hNd)
      have HTx := (show Hid (∀ n ∈ g.2, n.tx.size ≤ 281474976710656) from htx)
      have HNm := (show Hid (nm.size ≤ 281474976710656 ∧ g.1.size ≤ 281474976710656) from ⟨hnm, hgs⟩)
      clear hgk hNd htx hgs hnm e0 e1 HG hlt lb
      obtain ⟨gn, L⟩ := g
      simp only at d0 d1 hgl HTk HNd HTx HNm
      obtain ⟨wA, hwA⟩ : ∃ wA, wA = wL.alloc (.cells #[.string gn, .slice (some ⟨g2, o2, none⟩) L.length c2] 44) := ⟨_, rfl⟩
      have HEA := (show Hid (wL.alloc (.cells #[.string gn, .slice (some ⟨g2, o2, none⟩) L.length c2] 44) = wA) from hwA.symm)
      have HBA := (show Hid (Below wL.heap.size wL wA) from by show Below _ _ _; rw [hwA]; exact below_box _ _)
      have HRl := (show Hid (RlX wA wL.heap.size gn (.slice (some ⟨g2, o2, none⟩) L.length c2)) from ⟨by rw [hwA]; exact heap_alloc_new wL _⟩)
      obtain ⟨wM, hmk, hJ0⟩ := make_nodes wA L.length hgl
      have HJ0 := (show Hid _ from hJ0)
      have r1 := HRl.out.c1
      have r2 := (HRl.out.later hJ0.b).c1
      have HT := (show Hid (∀ W, Below wA.heap.size wA W → RnT w W (.slice (some ⟨b, o, none⟩) gs.length c) old nm (.slice Av i cv) ov) from fun W hW => (HW.out.later HBA.out).later hW)
      clear hwA hJ0
      go_wp2_with (rw [HEA.out])
      clear hmk r1 r2 d0 d1 HEA
      go_loopw [11, 29] (fun u t wr => ∃ (k : Nat) (Ab : Option Addr) (cb : Nat), k ≤ L.length ∧ t = .int .i64 (k : Int) ∧ u = .slice Ab k cb ∧ Hid (RnJ wA wr (.slice Ab k cb) k ((L.take k).map (reN old nm)))) (fun _ t _ => L.length - (intOf t).toNat)
      case atStart => exact ⟨0, _, _, Nat.zero_le _, by go_num, rfl, HJ0⟩
      case round =>
        obtain ⟨k, Ab, cb, hk, rfl, rfl, HJ⟩ := hrel
        clear HJ0
        obtain ⟨wK, hwK⟩ : ∃ wK, wK = wr := ⟨_, rfl⟩
        subst hwK
        by_cases hkl : k < L.length
        · obtain ⟨nd, hnd⟩ : ∃ nd, L[k]? = some nd := ⟨_, List.getElem?_eq_getElem hkl⟩
          have y0 : (0 : Int) ≤ (k : Int) := by omega
          have y1 : (k : Int) < (L.length : Int) := by omega
          have HTL := (show Hid ((L.take (k + 1)).map (reN old nm) = (L.take k).map (reN old nm) ++ [reN old nm nd]) from by show List.map _ _ = _; rw [List.take_add_one, hnd, List.map_append]; rfl)
          have hNB := (HNd.out k nd hnd).same (((HT.out wK HJ.out.b).b).block g2 lg2)
          obtain ⟨n0, n1, n2, n3, n4, n5, n6⟩ := hNB
          have HTB := (show Hid (RnT w (wK.alloc (ndO nd)) (.slice (some ⟨b, o, none⟩) gs.length c) old nm (.slice Av i cv) ov) from (HT.out wK HJ.out.b).later (below_box _ _))
          have HX := (show Hid (NX (wK.alloc (ndO nd)) wK.heap.size nd) from ⟨heap_alloc_new wK _⟩)
          have x0 : (wK.alloc (ndO nd)).cell? ⟨wK.heap.size, 0, none⟩ = _ := HX.out.nb.c0
          have x2 : (wK.alloc (ndO nd)).cell? ⟨wK.heap.size, 2, none⟩ = _ := HX.out.nb.c2
          have hts := HTx.out nd (List.mem_of_getElem? hnd)
          obtain ⟨wB, hwB⟩ : ∃ wB, wB = wK.alloc (ndO nd) := ⟨_, rfl⟩
          have HEB := (show Hid (wK.alloc (.cells #[.int .i64 nd.op, .int .i64 nd.nn, .string nd.tx, .int .u64 nd.s0, .int .u64 nd.s1, .int .u64 nd.s2, .int .u64 nd.s3] 53) = wB) from hwB.symm)
          have HW3 := (show Hid (∀ wC t, Below wB.heap.size wB wC → NX wC wK.heap.size nd ∧ RnJ wA (wC.setCell ⟨wK.heap.size, 2, none⟩ (.string t)) (.slice Ab k cb) k ((L.take k).map (reN old nm)) ∧ NX (wC.setCell ⟨wK.heap.size, 2, none⟩ (.string t)) wK.heap.size { nd with tx := t }) from fun wC t hC => HJ.out.wrote (by rw [hwB] at hC; exact hC) t)
          have H65 := (show Hid (∀ _ : Unit, Calls Tryz.prog 48 #[.string nd.tx, .pointer (some ⟨w.heap.size + 1, 0, none⟩), .pointer (some ⟨w.heap.size + 2, 0, none⟩)] wB fun e w' => e = .returned (.string (rnB old nm nd.tx)) ∧ Below wB.heap.size wB w') from fun _ => by
            rw [hwB]
            exact renamed1_any old nm nd.tx HNm.out.1 hts _ _ _ HTB.out.p HTB.out.q)
          have H66 := (show Hid (∀ _ : Unit, Calls Tryz.prog 49 #[.string nd.tx] wB fun e w' => e = .returned (.string nd.tx) ∧ Below wB.heap.size wB w') from fun _ => clone_any nd.tx hts wB)
          rw [← hwB] at x0 x2
          clear hnd hts HTB HX hwB
          by_cases h6 : nd.op = 6
          · have te : (nd.op == 6) = true := by rw [h6]; rfl
            have HRe := (show Hid (reN old nm nd = { nd with tx := rnB old nm nd.tx }) from reN_call h6)
            clear h6 H66
            go_wp2_with (rw [HEB.out])
            refine (H65.out ()).mono ?_
            rintro e wC ⟨rfl, bC⟩
            obtain ⟨m0, m1, m2⟩ := HW3.out wC (rnB old nm nd.tx) bC
            have f2 := m0.fz 2
            have k2 : wC.cell? ⟨wK.heap.size, 2, none⟩ = some (.string nd.tx) := m0.nb.c2
            clear H65 HW3 bC m0 x0 x2 n0 n1 n2 n3 n4 n5 n6 HEB te
            generalize rnB old nm nd.tx = tt at *
            obtain ⟨wD, hwD⟩ : ∃ wD, wD = wC.setCell ⟨wK.heap.size, 2, none⟩ (.string tt) := ⟨_, rfl⟩
            have HED := (show Hid (wC.setCell ⟨wK.heap.size, 2, none⟩ (.string tt) = wD) from hwD.symm)
            rw [← hwD] at m1 m2
            have HJD := (show Hid _ from m1)
            have v0 : wD.cell? ⟨wK.heap.size, 0, none⟩ = some (.int .i64 nd.op) := m2.nb.c0
            have v1 : wD.cell? ⟨wK.heap.size, 1, none⟩ = some (.int .i64 nd.nn) := m2.nb.c1
            have v2 : wD.cell? ⟨wK.heap.size, 2, none⟩ = some (.string tt) := m2.nb.c2
            have v3 : wD.cell? ⟨wK.heap.size, 3, none⟩ = some (.int .u64 nd.s0) := m2.nb.c3
            have v4 : wD.cell? ⟨wK.heap.size, 4, none⟩ = some (.int .u64 nd.s1) := m2.nb.c4
            have v5 : wD.cell? ⟨wK.heap.size, 5, none⟩ = some (.int .u64 nd.s2) := m2.nb.c5
            have v6 : wD.cell? ⟨wK.heap.size, 6, none⟩ = some (.int .u64 nd.s3) := m2.nb.c6
            have HDs := (show Hid (wA.heap.size ≤ wD.heap.size) from m1.b.size)
            clear hwD m1 m2
            go_wp2_with (first | rw [HED.out] | (at_builtin; refine wpList_append_lies _ rfl _ _ 42 rfl wA.heap.size 53 i1 zA 7 64 Tryz.underlying42 jinf jz0 jz1 jz2 rfl (by decide) _ _ _ rfl (HJD.out.o.alloc _) ⟨wD.heap.size, 0, none⟩ 1 1 (ndV { nd with tx := tt }) rfl rfl (World.news_of_block (cs := #[.int .i64 nd.op, .int .i64 nd.nn, .string tt, .int .u64 nd.s0, .int .u64 nd.s1, .int .u64 nd.s2, .int .u64 nd.s3]) (t := 53) (fr := (0, 0)) (heap_alloc_new wD _)) (nd_one _) (by decide) (by unfold maxLen; omega) (by omega) (by rw [World.size_alloc]; exact Nat.le_succ_of_le HDs.out) (wD.heap.size + 1) (by simp) ?_; intro g3 cap3 w5 hown hgrow hat hltg; have HJ5 := (show Hid (RnJ wA w5 (.slice (some ⟨g3, 0, none⟩) (k + 1) cap3) (k + 1) ((L.take (k + 1)).map (reN old nm))) from (by show RnJ _ _ _ _ _; rw [HTL.out, HRe.out]; exact HJD.out.push hgrow hown)); clear hown hgrow hat hltg))
            go_roundw
            case rel => exact ⟨k + 1, _, _, by omega, by go_num, rfl, HJ5⟩
            case measure => simp [intOf]; omega
          · have te : (nd.op == 6) = false := by rw [beq_eq_false_iff_ne]; exact h6
            obtain ⟨tt, htt⟩ : ∃ tt, tt = nd.tx := ⟨_, rfl⟩
            have HRe := (show Hid (reN old nm nd = { nd with tx := tt }) from by show reN old nm nd = _; rw [htt]; exact reN_else h6)
            have H67 := (show Hid (∀ _ : Unit, Calls Tryz.prog 49 #[.string nd.tx] wB fun e w' => e = .returned (.string tt) ∧ Below wB.heap.size wB w') from fun _ => by rw [htt]; exact H66.out ())
            clear h6 H65 htt H66
            go_wp2_with (rw [HEB.out])
            refine (H67.out ()).mono ?_
            rintro e wC ⟨rfl, bC⟩
            obtain ⟨m0, m1, m2⟩ := HW3.out wC tt bC
            have f2 := m0.fz 2
            have k2 : wC.cell? ⟨wK.heap.size, 2, none⟩ = some (.string nd.tx) := m0.nb.c2
            clear H67 HW3 bC m0 x0 x2 n0 n1 n2 n3 n4 n5 n6 HEB te
            obtain ⟨wD, hwD⟩ : ∃ wD, wD = wC.setCell ⟨wK.heap.size, 2, none⟩ (.string tt) := ⟨_, rfl⟩
            have HED := (show Hid (wC.setCell ⟨wK.heap.size, 2, none⟩ (.string tt) = wD) from hwD.symm)
            rw [← hwD] at m1 m2
            have HJD := (show Hid _ from m1)
            have v0 : wD.cell? ⟨wK.heap.size, 0, none⟩ = some (.int .i64 nd.op) := m2.nb.c0
            have v1 : wD.cell? ⟨wK.heap.size, 1, none⟩ = some (.int .i64 nd.nn) := m2.nb.c1
            have v2 : wD.cell? ⟨wK.heap.size, 2, none⟩ = some (.string tt) := m2.nb.c2
            have v3 : wD.cell? ⟨wK.heap.size, 3, none⟩ = some (.int .u64 nd.s0) := m2.nb.c3
            have v4 : wD.cell? ⟨wK.heap.size, 4, none⟩ = some (.int .u64 nd.s1) := m2.nb.c4
            have v5 : wD.cell? ⟨wK.heap.size, 5, none⟩ = some (.int .u64 nd.s2) := m2.nb.c5
            have v6 : wD.cell? ⟨wK.heap.size, 6, none⟩ = some (.int .u64 nd.s3) := m2.nb.c6
            have HDs := (show Hid (wA.heap.size ≤ wD.heap.size) from m1.b.size)
            clear hwD m1 m2
            go_wp2_with (first | rw [HED.out] | (at_builtin; refine wpList_append_lies _ rfl _ _ 42 rfl wA.heap.size 53 i1 zA 7 64 Tryz.underlying42 jinf jz0 jz1 jz2 rfl (by decide) _ _ _ rfl (HJD.out.o.alloc _) ⟨wD.heap.size, 0, none⟩ 1 1 (ndV { nd with tx := tt }) rfl rfl (World.news_of_block (cs := #[.int .i64 nd.op, .int .i64 nd.nn, .string tt, .int .u64 nd.s0, .int .u64 nd.s1, .int .u64 nd.s2, .int .u64 nd.s3]) (t := 53) (fr := (0, 0)) (heap_alloc_new wD _)) (nd_one _) (by decide) (by unfold maxLen; omega) (by omega) (by rw [World.size_alloc]; exact Nat.le_succ_of_le HDs.out) (wD.heap.size + 1) (by simp) ?_; intro g3 cap3 w5 hown hgrow hat hltg; have HJ5 := (show Hid (RnJ wA w5 (.slice (some ⟨g3, 0, none⟩) (k + 1) cap3) (k + 1) ((L.take (k + 1)).map (reN old nm))) from (by show RnJ _ _ _ _ _; rw [HTL.out, HRe.out]; exact HJD.out.push hgrow hown)); clear hown hgrow hat hltg))
            go_roundw
            case rel => exact ⟨k + 1, _, _, by omega, by go_num, rfl, HJ5⟩
            case measure => simp [intOf]; omega
        · obtain rfl : k = L.length := by omega
          have HJe := (show Hid (RnJ wA wK (.slice Ab L.length cb) L.length (L.map (reN old nm))) from by have h := HJ.out; rw [List.take_length] at h; exact h)
          have hD : Below wK.heap.size wK wK.drew := (Below.refl _ _).drew
          have HTd := (show Hid (RnT w wK.drew (.slice (some ⟨b, o, none⟩) gs.length c) old nm (.slice Av i cv) ov) from (HT.out wK HJe.out.b).later hD)
          have HRd := (show Hid (RlX wK.drew wL.heap.size gn (.slice (some ⟨g2, o2, none⟩) L.length c2)) from (HRl.out.later HJe.out.b).later hD)
          have HOd := (show Hid (wK.drew.ownsRow wL.heap.size 53 7 (.slice Ab L.length cb) L.length (ndc (L.map (reN old nm)))) from T.own_base (T.own_below HJe.out.o hD) HBA.out.size)
          have HBd := (show Hid (Below wL.heap.size wL wK.drew) from (HBA.out.trans (HJe.out.b.mono HBA.out.size)).drew)
          have dz := HTd.out.z.cl
          have dn := HRd.out.c0
          have HCall := (show Hid (∀ _ : Unit, Calls Tryz.prog 48 #[.string gn, .pointer (some ⟨w.heap.size + 1, 0, none⟩), .pointer (some ⟨w.heap.size + 2, 0, none⟩)] wK.drew fun e w' => e = .returned (.string (rnB old nm gn)) ∧ Below wK.drew.heap.size wK.drew w') from fun _ => renamed1_any old nm gn HNm.out.1 HNm.out.2 _ _ _ HTd.out.p HTd.out.q)
          have HAft := (show Hid (∀ wX, Below wK.drew.heap.size wK.drew wX → wX.cell? ⟨wL.heap.size, 0, none⟩ = some (.string gn) ∧ wX.cell? ⟨w.heap.size + 4, 0, none⟩ = some (.slice Av i cv) ∧ ∀ ob : Obj, (wX.alloc ob).cell? ⟨w.heap.size + 4, 0, none⟩ = some (.slice Av i cv)) from fun wX hX => by
            have h3 := HTd.out.later hX
            exact ⟨(HRd.out.later hX).c0, h3.z.cl, fun ob => (h3.later (below_box wX ob)).z.cl⟩)
          have hov := HM.out.1
          have HO := (show Hid (wK.drew.ownsRow w.heap.size 44 2 (.slice Av i cv) i (rgc ov)) from by have h := HTd.out.o.o; rw [hov] at h; exact h)
          have HPu := (show Hid (∀ (wX w5 : World) (u : Value) (t : ByteArray), Below wK.drew.heap.size wK.drew wX → (wX.alloc (.cells #[.string t, .slice Ab L.length cb] 44)).grownBy w5 (Value.slice Av i cv).ownBlock → w5.ownsRow w.heap.size 44 2 u (i + 1) (rgc ov ++ [.string t, .slice Ab L.length cb]) → GX w5 (w.heap.size + 4) (.slice Av i cv) ∧ RnT w (w5.setCell ⟨w.heap.size + 4, 0, none⟩ u) (.slice (some ⟨b, o, none⟩) gs.length c) old nm u (ov ++ [((t, L.map (reN old nm)), .slice Ab L.length cb)])) from fun wX w5 u t hX hg ho => by
            refine HW.out.push (HBd.out.trans (hX.mono HBd.out.size)) ?_ hg (by rw [HM.out.1]; exact ho)
            rw [List.length_map]
            exact T.own_below HOd.out hX)
          have HsD := (show Hid (∀ wX, Below wK.drew.heap.size wK.drew wX → w.heap.size ≤ wX.heap.size) from fun wX hX => Nat.le_trans HTd.out.b.size hX.size)
          obtain ⟨tn, htn⟩ : ∃ tn, tn = rnB old nm gn := ⟨_, rfl⟩
          have HTn := (show Hid (tn = rnB old nm gn) from htn)
          rw [← htn] at HCall
          clear htn
          clear HNd HTx HNm HT HJ HJe HTd HRd HOd HBd HRl HBA hov
          go_wp2_with fail
          go_region_law (first
            | (refine step_callv enters65 rfl _ _ _ (by rfl) (.pointer (some ⟨w.heap.size + 1, 0, none⟩)) (.pointer (some ⟨w.heap.size + 2, 0, none⟩)) (by rfl) (.string gn) (by rfl) ?_; with_reducible refine (HCall.out ()).mono ?_; rintro e wX ⟨rfl, bX⟩; refine ⟨_, rfl, ?_⟩; obtain ⟨a0, az, ay⟩ := HAft.out wX bX)
            | (refine step_append_lies _ (by rfl) _ _ _ (by rfl) w.heap.size 44 i0 (.agg #[.string ⟨#[]⟩, .slice none 0 0]) 2 40 Tryz.underlying22 hinf hz0 hz1 hz2 rfl (by omega) _ _ (rgc ov) (by rfl) ((T.own_below HO.out bX).alloc _) ⟨wX.heap.size, 0, none⟩ 1 1 [.string tn, .slice Ab L.length cb] (by rfl) (by rfl) (World.news_of_block (cs := #[.string tn, .slice Ab L.length cb]) (t := 44) (fr := (0, 0)) (heap_alloc_new wX _)) (by intro u hu; simp only [List.mem_cons, List.not_mem_nil, or_false] at hu; rcases hu with rfl | rfl <;> rfl) (by omega) (by unfold maxLen; omega) (by omega) (by rw [World.size_alloc]; exact Nat.le_succ_of_le (HsD.out wX bX)) (wX.heap.size + 1) (by simp) ?_; intro g3 cap3 w5 hown hgrow hat hltg; obtain ⟨hz5, hpu⟩ := HPu.out wX w5 (.slice (some ⟨g3, 0, none⟩) (i + 1) cap3) tn bX hgrow hown; have HPn := (show Hid _ from hpu); clear hpu; have hzf := hz5.fz; have hzc := hz5.cl; clear hz5))
          all_goals
            clear hown hgrow hat hltg bX a0 az ay HCall HAft HO HPu HsD
            generalize w5.setCell ⟨w.heap.size + 4, 0, none⟩ (.slice (some ⟨g3, 0, none⟩) (i + 1) cap3) = w6 at *
            go_wp2_with fail
            go_roundw
            case rel => exact ⟨i + 1, _, _, _, by omega, by go_num, ⟨by rw [List.length_append, HM.out.1]; rfl, by rw [List.map_append, HM.out.2, HTk.out, List.map_append, HTn.out]; rfl⟩, HPn⟩
            case measure => simp [intOf]; omega
    · obtain rfl : i = gs.length := by omega
      have HMm := (show Hid (ov.map (·.1) = gs.map (rnR old nm)) from by have := HM.out.2; rw [List.take_length] at this; exact this)
      have hyf := HW.out.y.fz
      have hyc := HW.out.y.cl
      have hzc := HW.out.z.cl
      clear HG HM
      go_wp2_with fail
      refine ret_gx6 rfl rfl rfl (HW.out.y.set _) ?_
      have h5 := HW.out
      have key : ∀ (j : Nat), j ≠ w.heap.size + 3 → (wL.setCell ⟨w.heap.size + 3, 0, none⟩ (.slice Av gs.length cv)).heap[j]? = wL.heap[j]? := fun j hj => Below.heap_setCell _ _ _ _ hj
      exact ⟨⟨_, ov, rfl, HMm.out, h5.o.same fun j hj => key j (h5.o.ne h5.y hj)⟩, h5.b.setCell (p := ⟨w.heap.size + 3, 0, none⟩) (by show w.heap.size ≤ w.heap.size + 3; omega) _⟩
end Go.Proofs.YtppggnmlbcdegabGreat.N

namespace Go.Proofs.YtppggnmlbcdegabGreat.N
open Go.RowKit Go.Maps
open Go.Proofs.YtppggnmlbcdegabGreat.T
set_option maxRecDepth 100000 in
set_option maxHeartbeats 8000000 in
/-- The document's Rename where it refuses. -/
theorem renameD_no (gs : GL) (A : Option Addr) (c : Nat) (r : Int) (s : ByteArray) (hs : s.size ≤ 140737488355328) (w : World) (hp : GI w A gs) (hn : ¬ rnE gs r s = 0) :
    Calls Tryz.prog 5 #[.agg #[.slice A gs.length c], .int .i64 r, .string s] w fun e w' => RnA w w' e gs r s ∧ Below w.heap.size w w' := by
  have HA := (show Hid (RnS w ((w.alloc (.cells #[.slice A gs.length c] 24)).alloc (.cells #[.slice none 0 0] 24)) (.slice A gs.length c)) from RnS.mk2 _ _)
  have HP := (show Hid (GI w A gs) from hp)
  have HLk := (show Hid (∀ W, Below w.heap.size w W → Calls Tryz.prog 17 #[.agg #[.slice A gs.length c], .int .i64 r] W fun e w' => e = .returned (.int .i64 (lkR gs r)) ∧ Below W.heap.size W w') from fun W hW => lookD_any gs A c r W (HP.out.later hW))
  have HNm := (show Hid (∀ W, Calls Tryz.prog 18 #[.string s] W fun e w' => e = .returned (.bool (nmB s)) ∧ w' = W) from fun W => nameR_any s hs W)
  have HFd := (show Hid (∀ W, Below w.heap.size w W → Calls Tryz.prog 19 #[.agg #[.slice A gs.length c], .string s] W fun e w' => e = .returned (.int .i64 (fdN gs s)) ∧ Below W.heap.size W w') from fun W hW => find_any gs A c s W (HP.out.later hW))
  have q1 := HA.out.x.cl
  clear hp HP
  go_enter Tryz.func5, Tryz.ntmps5
  go_wp2_with fail
  generalize (w.alloc (.cells #[.slice A gs.length c] 24)).alloc (.cells #[.slice none 0 0] 24) = w1 at *
  go_wp2_with fail
  refine (HLk.out _ HA.out.b).mono ?_
  rintro e w2 ⟨rfl, b2⟩
  have HA2 := (show Hid (RnS w w2 (.slice A gs.length c)) from HA.out.later b2)
  clear HA q1 HLk b2
  by_cases hz : lkR gs r = 0
  · have tz : (lkR gs r != 0) = false := by rw [hz]; rfl
    have HZ := (show Hid (lkR gs r = 0) from hz)
    rw [hz] at tz ⊢
    clear hz
    go_wp2_with fail
    refine (HNm.out _).mono ?_
    rintro e w3 ⟨rfl, rfl⟩
    clear HNm tz
    cases hb : nmB s with
    | false =>
      have HE := (show Hid _ from rnE_name HZ.out hb)
      have hyf := HA2.out.y.fz
      have hyc := HA2.out.y.cl
      clear HZ hn HFd
      go_wp2_with fail
      refine ret_gx2 rfl rfl rfl rfl (HA2.out.y.set _) ?_
      exact ⟨RnA.none HE.out, HA2.out.b.setCell (p := ⟨w.heap.size + 1, 0, none⟩) (by show w.heap.size ≤ w.heap.size + 1; omega) _⟩
    | true =>
      obtain ⟨i, hf, hir⟩ : ∃ i : Nat, fdG gs s = some i ∧ (i : Int) ≠ r := by
        refine Classical.byContradiction fun q => hn ?_
        unfold rnE
        rw [if_neg (fun z => z HZ.out), if_neg (by rw [hb]; exact Bool.noConfusion), if_neg]
        rintro ⟨z1, z2⟩
        cases hf : fdG gs s with
        | none => rw [fdN_none hf] at z1; omega
        | some i => rw [fdN_some hf] at z2; exact q ⟨i, hf, z2⟩
      have HE := (show Hid _ from rnE_twice HZ.out hb (by rw [fdN_some hf]; omega) (by rw [fdN_some hf]; exact hir))
      rw [fdN_some hf] at HFd
      have ti : ((i : Int) != r) = true := by rw [bne, beq_eq_false_iff_ne.2 hir]; rfl
      have ti0 : (0 : Int) ≤ (i : Int) := by omega
      have q2 := HA2.out.x.cl
      clear HZ hn hf hir
      go_wp2_with fail
      refine (HFd.out _ HA2.out.b).mono ?_
      rintro e w4 ⟨rfl, b4⟩
      have HA4 := (show Hid (RnS w w4 (.slice A gs.length c)) from HA2.out.later b4)
      have hyf := HA4.out.y.fz
      have hyc := HA4.out.y.cl
      clear HA2 b4 HFd q2
      go_wp2_with fail
      refine ret_gx2 rfl rfl rfl rfl (HA4.out.y.set _) ?_
      exact ⟨RnA.none HE.out, HA4.out.b.setCell (p := ⟨w.heap.size + 1, 0, none⟩) (by show w.heap.size ≤ w.heap.size + 1; omega) _⟩
  · have tz : (lkR gs r != 0) = true := by rw [bne, beq_eq_false_iff_ne.2 hz]; rfl
    have HE := (show Hid _ from rnE_bad (s := s) hz)
    have hyf := HA2.out.y.fz
    have hyc := HA2.out.y.cl
    clear hz HNm HFd
    generalize lkR gs r = cd at *
    go_wp2_with fail
    refine ret_gx2 rfl rfl rfl rfl (HA2.out.y.set _) ?_
    exact ⟨RnA.none HE.out, HA2.out.b.setCell (p := ⟨w.heap.size + 1, 0, none⟩) (by show w.heap.size ≤ w.heap.size + 1; omega) _⟩
end Go.Proofs.YtppggnmlbcdegabGreat.N

namespace Go.Proofs.YtppggnmlbcdegabGreat.N
open Go.RowKit Go.Maps
open Go.Proofs.YtppggnmlbcdegabGreat.T
/-- A list whose first entries are changed already. -/
def mxB (f : Nd → Nd) (L : List Nd) (k : Nat) : List Nd := L.mapIdx fun j n => if j < k then f n else n
theorem mx_get {f : Nd → Nd} {L : List Nd} {k : Nat} (j : Nat) : (mxB f L k)[j]? = (L[j]?).map fun n => if j < k then f n else n := by
  unfold mxB
  rw [List.getElem?_mapIdx]
theorem mx_len {f : Nd → Nd} {L : List Nd} {k : Nat} : (mxB f L k).length = L.length := by unfold mxB; rw [List.length_mapIdx]
theorem mx_zero {f : Nd → Nd} {L : List Nd} : mxB f L 0 = L := by
  refine List.ext_getElem? fun j => ?_
  rw [mx_get]
  cases L[j]? with
  | none => rfl
  | some n => simp
theorem mx_all {f : Nd → Nd} {L : List Nd} {k : Nat} (h : L.length ≤ k) : mxB f L k = L.map f := by
  refine List.ext_getElem? fun j => ?_
  rw [mx_get, List.getElem?_map]
  cases hj : L[j]? with
  | none => rfl
  | some n =>
    have := (List.getElem?_eq_some_iff.1 hj).1
    rw [Option.map_some, Option.map_some, if_pos (by omega)]
theorem mx_same {f : Nd → Nd} {L : List Nd} {k : Nat} {n : Nd} (h : L[k]? = some n) (hf : f n = n) : mxB f L (k + 1) = mxB f L k := by
  refine List.ext_getElem? fun j => ?_
  rw [mx_get, mx_get]
  by_cases q : j = k
  · subst q
    rw [h, Option.map_some, Option.map_some, if_pos (Nat.lt_succ_self _), if_neg (Nat.lt_irrefl _), hf]
  · cases L[j]? with
    | none => rfl
    | some m =>
      rw [Option.map_some, Option.map_some]
      by_cases q2 : j < k
      · rw [if_pos q2, if_pos (by omega)]
      · rw [if_neg q2, if_neg (by omega)]
theorem mx_set {f : Nd → Nd} {L : List Nd} {k : Nat} {n : Nd} (h : L[k]? = some n) : mxB f L (k + 1) = (mxB f L k).set k (f n) := by
  refine List.ext_getElem? fun j => ?_
  rw [List.getElem?_set, mx_get, mx_get]
  by_cases q : k = j
  · subst q
    rw [h, Option.map_some, if_pos rfl, if_pos (Nat.lt_succ_self _), if_pos (by rw [mx_len]; exact (List.getElem?_eq_some_iff.1 h).1)]
  · rw [if_neg q]
    cases L[j]? with
    | none => rfl
    | some m =>
      rw [Option.map_some, Option.map_some]
      by_cases q2 : j < k
      · rw [if_pos q2, if_pos (by omega)]
      · rw [if_neg q2, if_neg (by omega)]
/-- A grammar while it is renamed: the rules ahead of i whole, of the rule i the nodes ahead of k. -/
def rkG (gs : GL) (r : Nat) (a b : ByteArray) (i k : Nat) : GL := gs.mapIdx fun j g => (if j = r then b else g.1, mxB (reN a b) g.2 (if j < i then g.2.length else if j = i then k else 0))
theorem rk_get {gs : GL} {r : Nat} {a b : ByteArray} {i k : Nat} (j : Nat) : (rkG gs r a b i k)[j]? = (gs[j]?).map fun g => (if j = r then b else g.1, mxB (reN a b) g.2 (if j < i then g.2.length else if j = i then k else 0)) := by
  unfold rkG
  rw [List.getElem?_mapIdx]
theorem rk_at {gs : GL} {r : Nat} {a b : ByteArray} {i k : Nat} {g : ByteArray × List Nd} (h : gs[i]? = some g) : (rkG gs r a b i k)[i]? = some (if i = r then b else g.1, mxB (reN a b) g.2 k) := by
  rw [rk_get, h, Option.map_some, if_neg (Nat.lt_irrefl i), if_pos rfl]
theorem rk_len {gs : GL} {r : Nat} {a b : ByteArray} {i k : Nat} : (rkG gs r a b i k).length = gs.length := by unfold rkG; rw [List.length_mapIdx]
theorem rk_start {gs : GL} {r : Nat} {a b : ByteArray} {g0 : ByteArray × List Nd} (h : gs[r]? = some g0) : gs.set r (b, g0.2) = rkG gs r a b 0 0 := by
  refine List.ext_getElem? fun j => ?_
  rw [List.getElem?_set, rk_get]
  by_cases q : r = j
  · subst q
    rw [if_pos rfl, if_pos (List.getElem?_eq_some_iff.1 h).1, h, Option.map_some, if_pos rfl, if_neg (Nat.not_lt_zero _), show (if r = 0 then 0 else 0) = 0 from by split <;> rfl, mx_zero]
  · rw [if_neg q]
    cases gs[j]? with
    | none => rfl
    | some g => rw [Option.map_some, if_neg (fun e => q e.symm), if_neg (Nat.not_lt_zero _), show (if j = 0 then 0 else 0) = 0 from by split <;> rfl, mx_zero]
theorem rk_next {gs : GL} {r : Nat} {a b : ByteArray} {i : Nat} {g : ByteArray × List Nd} (h : gs[i]? = some g) : rkG gs r a b i g.2.length = rkG gs r a b (i + 1) 0 := by
  refine List.ext_getElem? fun j => ?_
  rw [rk_get, rk_get]
  by_cases q : j = i
  · subst q
    rw [h, Option.map_some, Option.map_some, if_neg (Nat.lt_irrefl j), if_pos rfl, if_pos (Nat.lt_succ_self j)]
  · cases gs[j]? with
    | none => rfl
    | some m =>
      rw [Option.map_some, Option.map_some]
      by_cases q2 : j < i
      · rw [if_pos q2, if_pos (show j < i + 1 by omega)]
      · rw [if_neg q2, if_neg q, if_neg (show ¬ j < i + 1 by omega), show (if j = i + 1 then 0 else 0) = 0 from by split <;> rfl]
theorem rk_end {gs : GL} {r : Nat} {a b : ByteArray} : rkG gs r a b gs.length 0 = reG gs r a b := by
  refine List.ext_getElem? fun j => ?_
  rw [rk_get, reG_get]
  cases h : gs[j]? with
  | none => rfl
  | some m => rw [Option.map_some, Option.map_some, if_pos (List.getElem?_eq_some_iff.1 h).1, mx_all (Nat.le_refl _)]
theorem rk_same {gs : GL} {r : Nat} {a b : ByteArray} {i k : Nat} {g : ByteArray × List Nd} {n : Nd} (h : gs[i]? = some g) (hn : g.2[k]? = some n) (hf : reN a b n = n) : rkG gs r a b i (k + 1) = rkG gs r a b i k := by
  refine List.ext_getElem? fun j => ?_
  rw [rk_get, rk_get]
  by_cases q : j = i
  · subst q
    rw [h, Option.map_some, Option.map_some, if_neg (Nat.lt_irrefl j), if_pos rfl, if_neg (Nat.lt_irrefl j), if_pos rfl, mx_same hn hf]
  · cases gs[j]? with
    | none => rfl
    | some m => rw [Option.map_some, Option.map_some, if_neg q, if_neg q]
theorem rk_set {gs : GL} {r : Nat} {a b : ByteArray} {i k : Nat} {g : ByteArray × List Nd} {n : Nd} (h : gs[i]? = some g) (hn : g.2[k]? = some n) : rkG gs r a b i (k + 1) = (rkG gs r a b i k).set i (if i = r then b else g.1, (mxB (reN a b) g.2 k).set k (reN a b n)) := by
  refine List.ext_getElem? fun j => ?_
  rw [List.getElem?_set, rk_get, rk_get, rk_len]
  by_cases q : i = j
  · subst q
    rw [h, Option.map_some, if_neg (Nat.lt_irrefl i), if_pos rfl, if_pos rfl, if_pos (List.getElem?_eq_some_iff.1 h).1, mx_set hn]
  · rw [if_neg q]
    cases gs[j]? with
    | none => rfl
    | some m =>
      have q2 : ¬ j = i := fun e => q e.symm
      simp only [Option.map_some, if_neg q2]
end Go.Proofs.YtppggnmlbcdegabGreat.N

namespace Go.Proofs.YtppggnmlbcdegabGreat.N
open Go.RowKit Go.Maps
open Go.Proofs.YtppggnmlbcdegabGreat.T
/-- While a grammar is copied. -/
structure CpI (w wr : World) (a v : Value) (ov : List Rg) : Prop where
  o : OG wr w.heap.size v ov
  b : Below w.heap.size w wr
  x : GX wr w.heap.size a
  y : GX wr (w.heap.size + 1) (.slice none 0 0)
  z : GX wr (w.heap.size + 2) v
theorem CpI.later {w wr W' : World} {a v : Value} {ov : List Rg} (h : CpI w wr a v ov) (hb : Below wr.heap.size wr W') : CpI w W' a v ov :=
  ⟨h.o.later hb, h.b.trans (hb.mono h.b.size), h.x.below hb, h.y.below hb, h.z.below hb⟩
theorem CpI.box {w wr wA w5 : World} {a v v2 : Value} {ov : List Rg} {nm : ByteArray} (h : CpI w wr a v ov) (hA : Below wr.heap.size wr wA) (hg : (wA.alloc (.cells #[.string nm, v2] 44)).grownBy w5 v.ownBlock) : GX w5 w.heap.size a ∧ GX w5 (w.heap.size + 1) (.slice none 0 0) ∧ GX w5 (w.heap.size + 2) v := by
  have h2 := (h.later hA).later (below_box wA (.cells #[.string nm, v2] 44))
  exact ⟨h2.x.same (hg.block _ h2.x.lt (fun e => h2.x.ne h2.o.o (by decide) e.symm rfl)), h2.y.same (hg.block _ h2.y.lt (fun e => h2.y.ne h2.o.o (by decide) e.symm rfl)), h2.z.same (hg.block _ h2.z.lt (fun e => h2.z.ne h2.o.o (by decide) e.symm rfl))⟩
theorem CpI.push {w wr wA w5 : World} {a v u v2 : Value} {ov : List Rg} {nm : ByteArray} {L : List Nd} (h : CpI w wr a v ov) (hA : Below wr.heap.size wr wA) (hl : wA.ownsRow wr.heap.size 53 7 v2 L.length (ndc L)) (hg : (wA.alloc (.cells #[.string nm, v2] 44)).grownBy w5 v.ownBlock) (ho : w5.ownsRow w.heap.size 44 2 u (ov.length + 1) (rgc ov ++ [.string nm, v2])) : CpI w (w5.setCell ⟨w.heap.size + 2, 0, none⟩ u) a u (ov ++ [((nm, L), v2)]) := by
  obtain ⟨x5, y5, z5⟩ := h.box hA hg
  have o5 := h.o.push h.b.size hA hl hg ho
  have h2 := (h.later hA).later (below_box wA (.cells #[.string nm, v2] 44))
  have b5 : Below w.heap.size w w5 := h2.b.grown hg h2.b.size (fun k e => (h2.o.o.lt k e).1)
  have key : ∀ (j : Nat), j ≠ w.heap.size + 2 → (w5.setCell ⟨w.heap.size + 2, 0, none⟩ u).heap[j]? = w5.heap[j]? := fun j hj => Below.heap_setCell _ _ _ _ hj
  exact ⟨o5.same fun k hk => key k (o5.ne z5 hk), b5.setCell (p := ⟨w.heap.size + 2, 0, none⟩) (by show w.heap.size ≤ w.heap.size + 2; omega) _, x5.same (key _ (by omega)), y5.same (key _ (by omega)), z5.set _⟩
theorem enters67 (args : Array Value) (w : World) : (callFunc 45 args).run Tryz.prog w = .ok (.enter 45 args) w := enters_of Tryz.func45 (by kernel_rfl) rfl args w
set_option maxRecDepth 100000 in
set_option maxHeartbeats 16000000 in
theorem copyG_any (gs : GL) (A : Option Addr) (c : Nat) (w : World) (hd : GrD w A gs) (hn : gs.length ≤ 200) (hL : ∀ g ∈ gs, g.2 ≠ [] ∧ g.2.length ≤ 2048) :
    Calls Tryz.prog 20 #[.agg #[.slice A gs.length c]] w fun e w' => (∃ v ov, e = .returned (.agg #[v]) ∧ ov.map (·.1) = gs ∧ OG w' w.heap.size v ov) ∧ Below w.heap.size w w' := by
  obtain ⟨i0, hinf, hz0, hz1, hz2⟩ := info_parts Tryz.info41
  have HG := (show Hid (∀ k, k < gs.length → ∃ g, gs[k]? = some g ∧ g.2.length ≤ 2048 ∧ ∃ b o ad c2, A = some ⟨b, o, none⟩ ∧ b < w.heap.size ∧ w.cell? ⟨b, o + k * 2, none⟩ = some (.string g.1) ∧ w.cell? ⟨b, o + k * 2 + 1, none⟩ = some (.slice (some ad) g.2.length c2) ∧ RdN w (some ad) g.2) from fun k hk => by
    have e : gs[k]? = some gs[k] := List.getElem?_eq_getElem hk
    obtain ⟨b, o, A2, c2, h1, h2, h3, h4, h5⟩ := hd k _ e
    have h6 := hL _ (List.getElem_mem hk)
    obtain ⟨b2, o2, rfl, _⟩ := h5 h6.1
    exact ⟨_, e, h6.2, b, o, _, c2, h1, h2, h3, h4, h5⟩)
  have HA := (show Hid (CpI w (((w.alloc (.cells #[.slice A gs.length c] 24)).alloc (.cells #[.slice none 0 0] 24)).alloc (.cells #[.slice none 0 0] 24)) (.slice A gs.length c) (.slice none 0 0) []) from by
    have s1 := World.size_alloc w (.cells #[.slice A gs.length c] 24)
    have s2 := World.size_alloc (w.alloc (.cells #[.slice A gs.length c] 24)) (.cells #[.slice none 0 0] 24)
    refine ⟨OG.nil _ _, (((Below.refl _ _).alloc (Nat.le_refl _) _).alloc (by omega) _).alloc (by omega) _, ((GX.mk (heap_alloc_new w _)).below (below_box _ _)).below (below_box _ _), (GX.mk ?_).below (below_box _ _), ⟨?_⟩⟩
    · have h := heap_alloc_new (w.alloc (.cells #[.slice A gs.length c] 24)) (.cells #[.slice none 0 0] 24); rw [s1] at h; exact h
    · have h := heap_alloc_new ((w.alloc (.cells #[.slice A gs.length c] 24)).alloc (.cells #[.slice none 0 0] 24)) (.cells #[.slice none 0 0] 24); rw [s2, s1] at h; exact h)
  clear hd hL
  go_enter Tryz.func20, Tryz.ntmps20
  go_wp2_with fail
  rw [show w.heap.size + 1 + 1 = w.heap.size + 2 from rfl]
  generalize ((w.alloc (.cells #[.slice A gs.length c] 24)).alloc (.cells #[.slice none 0 0] 24)).alloc (.cells #[.slice none 0 0] 24) = w1 at *
  go_loopw [4] (fun t wr => ∃ (k : Nat) (ov : List Rg) (Av : Option Addr) (cv : Nat), k ≤ gs.length ∧ t = .int .i64 (k : Int) ∧ Hid (ov.length = k ∧ ov.map (·.1) = gs.take k) ∧ Hid (CpI w wr (.slice A gs.length c) (.slice Av k cv) ov)) (fun t _ => gs.length - (intOf t).toNat)
  case atStart => exact ⟨0, [], none, 0, Nat.zero_le _, rfl, ⟨rfl, rfl⟩, HA⟩
  case round =>
    obtain ⟨k, ov, Av, cv, hk, rfl, HM, HW⟩ := hrel
    clear HA
    have x0 := HW.out.x.cl
    by_cases hlt : k < gs.length
    · obtain ⟨g, hgk, hgl, b, o, ad, c2, rfl, lb, e0, e1, hin⟩ := HG.out k hlt
      have z0 : (0 : Int) ≤ (k : Int) := by omega
      have z1 : (k : Int) < (gs.length : Int) := by omega
      have hD : Below wr.heap.size wr wr.drew := (Below.refl _ _).drew
      have HLd := (show Hid (CpI w wr.drew (.slice (some ⟨b, o, none⟩) gs.length c) (.slice Av k cv) ov) from HW.out.later hD)
      have d0 := (HLd.out.b.cell (p := ⟨b, o + k * 2, none⟩) lb).trans e0
      have d1 := (HLd.out.b.cell (p := ⟨b, o + k * 2 + 1, none⟩) lb).trans e1
      have dx := HLd.out.x.cl
      have dz := HLd.out.z.cl
      have hsz : w.heap.size ≤ wr.heap.size := HW.out.b.size
      have HCall := (show Hid (∀ _ : Unit, Calls Tryz.prog 45 #[.slice (some ad) g.2.length c2] wr.drew fun e w' => (∃ A9 c9, e = .returned (.slice A9 g.2.length c9) ∧ w'.ownsRow wr.heap.size 53 7 (.slice A9 g.2.length c9) g.2.length (ndc g.2)) ∧ Below wr.drew.heap.size wr.drew w') from fun _ => by
        refine (copy_any ad c2 g.2 wr.drew hgl (hin.below HLd.out.b (Nat.le_refl _))).mono ?_
        rintro e w' ⟨⟨v9, rfl, r9⟩, b9⟩
        obtain ⟨A9, c9, rfl⟩ := own_sl r9
        exact ⟨⟨A9, c9, rfl, r9⟩, b9⟩)
      have HAft := (show Hid (∀ wA, Below wr.drew.heap.size wr.drew wA → wA.cell? ⟨w.heap.size, 0, none⟩ = some (.slice (some ⟨b, o, none⟩) gs.length c) ∧ wA.cell? ⟨b, o + k * 2, none⟩ = some (.string g.1) ∧ wA.cell? ⟨w.heap.size + 2, 0, none⟩ = some (.slice Av k cv) ∧ ∀ ob : Obj, (wA.alloc ob).cell? ⟨w.heap.size + 2, 0, none⟩ = some (.slice Av k cv)) from fun wA hA => by
        have h3 := HLd.out.later hA
        exact ⟨h3.x.cl, (h3.b.cell (p := ⟨b, o + k * 2, none⟩) lb).trans e0, h3.z.cl, fun ob => (h3.later (below_box wA ob)).z.cl⟩)
      have HTk := (show Hid (gs.take (k + 1) = gs.take k ++ [g]) from by rw [List.take_add_one, hgk]; rfl)
      have hov := HM.out.1
      have HO := (show Hid (wr.drew.ownsRow w.heap.size 44 2 (.slice Av k cv) k (rgc ov)) from by have h := HLd.out.o.o; rw [hov] at h; exact h)
      have HPu := (show Hid (∀ (wA w5 : World) (v2 u : Value), Below wr.drew.heap.size wr.drew wA → wA.ownsRow wr.heap.size 53 7 v2 g.2.length (ndc g.2) → (wA.alloc (.cells #[.string g.1, v2] 44)).grownBy w5 (Value.slice Av k cv).ownBlock → w5.ownsRow w.heap.size 44 2 u (k + 1) (rgc ov ++ [.string g.1, v2]) → GX w5 (w.heap.size + 2) (.slice Av k cv) ∧ CpI w (w5.setCell ⟨w.heap.size + 2, 0, none⟩ u) (.slice (some ⟨b, o, none⟩) gs.length c) u (ov ++ [((g.1, g.2), v2)])) from fun wA w5 v2 u hA hl hg ho => by
        have q2 : wr.drew.heap.size = wr.heap.size := rfl
        have hA2 : Below wr.heap.size wr wA := hD.trans (by rw [← q2]; exact hA)
        exact ⟨(HW.out.box hA2 hg).2.2, HW.out.push hA2 hl hg (by rw [HM.out.1]; exact ho)⟩)
      clear hgk hin e0 e1 HG hlt hov
      obtain ⟨nm, L⟩ := g
      simp only at d0 d1 HCall HAft HTk hgl HPu
      go_wp2_with fail
      go_region_law (first
        | (refine step_call1 enters67 rfl _ _ (by rfl) (.slice (some ad) L.length c2) (by rfl) ?_; with_reducible refine (HCall.out ()).mono ?_; rintro e wA ⟨⟨A9, c9, rfl, rA⟩, bA⟩; refine ⟨_, rfl, ?_⟩; obtain ⟨ax, a0, az, ay⟩ := HAft.out wA bA)
        | (refine step_append_lies _ (by rfl) _ _ _ (by rfl) w.heap.size 44 i0 (.agg #[.string ⟨#[]⟩, .slice none 0 0]) 2 40 Tryz.underlying22 hinf hz0 hz1 hz2 rfl (by omega) _ _ (rgc ov) (by rfl) ((T.own_below HO.out bA).alloc _) ⟨wA.heap.size, 0, none⟩ 1 1 [.string nm, .slice A9 L.length c9] (by rfl) (by rfl) (World.news_of_block (cs := #[.string nm, .slice A9 L.length c9]) (t := 44) (fr := (0, 0)) (heap_alloc_new wA _)) (by intro u hu; simp only [List.mem_cons, List.not_mem_nil, or_false] at hu; rcases hu with rfl | rfl <;> rfl) (by omega) (by unfold maxLen; omega) (by omega) (by have q1 := bA.size; have q2 : wr.drew.heap.size = wr.heap.size := rfl; rw [World.size_alloc]; omega) (wA.heap.size + 1) (by simp) ?_; intro g3 cap3 w5 hown hgrow hat hltg; obtain ⟨hz5, hpu⟩ := HPu.out wA w5 (.slice A9 L.length c9) (.slice (some ⟨g3, 0, none⟩) (k + 1) cap3) bA rA hgrow hown; have HPn := (show Hid _ from hpu); clear hpu; have hzf := hz5.fz; have hzc := hz5.cl; clear hz5))
      all_goals
        clear hown hgrow hat hltg rA bA ax a0 az ay HCall HAft HO HLd HW hD HPu
        generalize w5.setCell ⟨w.heap.size + 2, 0, none⟩ (.slice (some ⟨g3, 0, none⟩) (k + 1) cap3) = w6 at *
        go_wp2_with fail
        go_roundw
        case rel => exact ⟨k + 1, _, _, _, by omega, by go_num, ⟨by rw [List.length_append, HM.out.1]; rfl, by rw [List.map_append, HM.out.2, HTk.out]; rfl⟩, HPn⟩
        case measure => simp [intOf]; omega
    · obtain rfl : k = gs.length := by omega
      have HMm := (show Hid (ov.map (·.1) = gs) from by have := HM.out.2; rw [List.take_length] at this; exact this)
      have hyf := HW.out.y.fz
      have hyc := HW.out.y.cl
      have hzc := HW.out.z.cl
      clear HG HM
      go_wp2_with fail
      refine ret_gx rfl rfl rfl (HW.out.y.set _) ?_
      have h5 := HW.out
      have key : ∀ (j : Nat), j ≠ w.heap.size + 1 → (wr.setCell ⟨w.heap.size + 1, 0, none⟩ (.slice Av gs.length cv)).heap[j]? = wr.heap[j]? := fun j hj => Below.heap_setCell _ _ _ _ hj
      exact ⟨⟨_, ov, rfl, HMm.out, h5.o.same fun j hj => key j (h5.o.ne h5.y hj)⟩, h5.b.setCell (p := ⟨w.heap.size + 1, 0, none⟩) (by show w.heap.size ≤ w.heap.size + 1; omega) _⟩
end Go.Proofs.YtppggnmlbcdegabGreat.N

namespace Go.Proofs.YtppggnmlbcdegabGreat.N
open Go.RowKit Go.Maps
open Go.Proofs.YtppggnmlbcdegabGreat.T

open U (nI own_get own_slice wpList_app1 below_grown TT Out)
/-- A net: of each rule what it calls. -/
def ntM (gs : GL) : List (List Value) := (List.range gs.length).map fun i => (cL gs i).map nI
theorem ntM_len (gs : GL) : (ntM gs).length = gs.length := by unfold ntM; rw [List.length_map, List.length_range]
theorem ntM_get {gs : GL} {i : Nat} (h : i < gs.length) : (ntM gs)[i]? = some ((cL gs i).map nI) := by
  unfold ntM
  rw [List.getElem?_map, List.getElem?_range h]; rfl
theorem Tryz.info37 : (Tryz.prog.info? 36).map (fun i => (i.zero, i.size, i.bytes)) = some (some (.slice none 0 0), 1, 24) := by kernel_rfl
/-- What a step of the range tells: a name and its number. -/
theorem step_nm {gs : GL} {D : DataW Unit} (hD : NmD D gs) {key v : Value} {kl : Lit} {y : DataW Unit × List MemPlace} (hkey : keyOf Tryz.prog 9 key = some kl) (hv : plainElem Tryz.prog 3 v = some y) (hat : ∀ zd, D.atKey kl zd = y.1) : ∃ (s : ByteArray) (i : Nat), kl = .string s.data.toList ∧ v = .int .i64 i ∧ fdG gs s = some i := by
  obtain ⟨x, rfl, rfl, _⟩ := Maps.keyOf_str Tryz.underlying9 hkey
  obtain ⟨c, rfl, rfl, _⟩ := plainElem_int_inv Tryz.underlying3 hv
  have hh := has_true_of_atKey hat
  obtain ⟨h1, h2⟩ := hD ⟨x.toArray⟩
  have hx : (⟨x.toArray⟩ : ByteArray).data.toList = x := rfl
  rw [hx] at h1 h2
  rw [hh] at h1
  cases hf : fdG gs ⟨x.toArray⟩ with
  | none => rw [hf] at h1; cases h1
  | some i =>
    have e := h2 i hf (.lit (.int .i64 0))
    rw [hat] at e
    injection e with e
    injection e with _ e
    exact ⟨⟨x.toArray⟩, i, rfl, by rw [e], hf⟩
/-- While the net is made. -/
structure NtS (w wr : World) (gs : GL) (B r cnt : Nat) (D : DataW Unit) (left : Lit → Bool) (g : Nat) (M : List (List Value)) (xs : List Value) (u : Value) : Prop where
  b : Below w.heap.size w wr
  x : GX wr w.heap.size u
  rg : wr.ranges Tryz.prog 9 (plainElem Tryz.prog 3) B r gs.length D left cnt
  t : TT wr w.heap.size 36 3 (.slice (some ⟨g, 0, none⟩) gs.length gs.length) M xs
  ln : M.length = gs.length
  gr : w.heap.size < g ∧ g < r
  dn : ∀ (s : ByteArray) (i : Nat), fdG gs s = some i → left (.string s.data.toList) = false → M[i]? = some ((cL gs i).map nI)
theorem same_str {a b : ByteArray} : (Lit.string a.data.toList).sameKey (.string b.data.toList) = true ↔ a = b := by
  constructor
  · intro h
    have := WideAt.sameKey_eq h
    injection this with e
    exact ByteArray.ext (Array.ext' e)
  · rintro rfl
    simp [Lit.sameKey]
/-- One name is gone over. -/
theorem NtS.put {w wr wA w4 : World} {gs : GL} {B r cnt cnt1 g : Nat} {D : DataW Unit} {left : Lit → Bool} {M : List (List Value)} {xs : List Value} {u v4 : Value} {s : ByteArray} {i : Nat} (h : NtS w wr gs B r cnt D left g M xs u) (_hd : Dn gs) (hf : fdG gs s = some i)
    (hA : wr.grownBy wA (some r)) (hrg : wA.ranges Tryz.prog 9 (plainElem Tryz.prog 3) B r gs.length D (fun z => left z && !z.sameKey (.string s.data.toList)) cnt1)
    (hsz : wA.heap.size = wr.heap.size) (hB : B < w.heap.size) (hb : Below wA.heap.size wA w4) (ho : w4.ownsRow wA.heap.size 3 1 v4 (cL gs i).length ((cL gs i).map nI)) :
    ∃ M2 xs2, NtS w (w4.setCell ⟨g, i, none⟩ v4) gs B r cnt1 D (fun z => left z && !z.sameKey (.string s.data.toList)) g M2 xs2 u := by
  have hlx : xs.length = gs.length := h.t.len.trans h.ln
  have hr := h.rg.lt
  have hwr := h.b.size
  have ht : TT wr w.heap.size 36 3 (.slice (some ⟨g, 0, none⟩) xs.length gs.length) M xs := by rw [hlx]; exact h.t
  have hout : Out (.slice (some ⟨g, 0, none⟩) xs.length gs.length) xs r := by
    refine ⟨fun e => ?_, fun j x hj e => ?_⟩
    · have e : g = r := Option.some.inj e
      have := h.gr.2
      omega
    · obtain ⟨row, _, hrow⟩ := ht.both hj
      obtain ⟨cur, hc⟩ := own_ty hrow e
      obtain ⟨_, _, _, _, _, _, _, _, _, hh, _⟩ := h.rg
      rw [hc] at hh
      cases hh
  have hi : i < gs.length := fdG_lt hf
  have ht2 : TT w4 w.heap.size 36 3 (.slice (some ⟨g, 0, none⟩) xs.length gs.length) M xs := (ht.turn hout hA).below hb
  have hnew : ∀ k, v4.ownBlock = some k → Out (.slice (some ⟨g, 0, none⟩) xs.length gs.length) xs k := fun k hk => by
    have := (ho.lt k hk).1
    exact ht.new (by omega)
  have ht3 := ht2.put (y := v4) (s := (cL gs i).map nI) (by rw [List.length_map]; exact U.own_base ho (by omega)) hnew (i := i) (by omega)
  have hst := (ht2.o.stored i v4).2
  have hgw : Below w.heap.size w wA := below_grown h.b hA (fun k e => by cases e; have := h.gr; omega)
  have hg4 : Below w.heap.size w w4 := hgw.trans (hb.mono hgw.size)
  refine ⟨M.set i ((cL gs i).map nI), xs.set i v4, below_grown hg4 hst (fun k e => by cases e; have := h.gr; omega), ?_, ?_, ?_, by rw [List.length_set]; exact h.ln, h.gr, ?_⟩
  · refine ((h.x.same (hA.block _ h.x.lt (fun e => by injection e with e; have := h.gr; omega))).below hb).same (hst.block _ ?_ (fun e => by injection e with e; have := h.gr; omega))
    exact ((h.x.same (hA.block _ h.x.lt (fun e => by injection e with e; have := h.gr; omega))).below hb).lt
  · exact (hrg.kept (U.below_grow hb none) (by simp) (by simp)).kept hst (fun e => by injection e with e; have := h.gr; omega) (fun e => by injection e with e; have := h.gr; omega)
  · rw [hlx] at ht3; exact ht3
  · intro t j ht hl
    by_cases e : s = t
    · subst e
      rw [hf] at ht
      cases ht
      rw [List.getElem?_set_self (by rw [h.ln]; exact hi)]
    · have hij : i ≠ j := fun q => by
        subst q
        obtain ⟨x, x1, x2, _⟩ := fdG_some hf
        obtain ⟨y, y1, y2, _⟩ := fdG_some ht
        rw [x1] at y1
        cases y1
        exact e (x2.symm.trans y2)
      rw [List.getElem?_set_ne hij]
      refine h.dn t j ht ?_
      cases q : left (.string t.data.toList)
      · rfl
      · have hs : (Lit.string t.data.toList).sameKey (.string s.data.toList) = false := by
          cases q2 : (Lit.string t.data.toList).sameKey (.string s.data.toList)
          · rfl
          · exact absurd (same_str.1 q2).symm e
        simp only [q, hs] at hl
        cases hl
end Go.Proofs.YtppggnmlbcdegabGreat.N

namespace Go.Proofs.YtppggnmlbcdegabGreat.N
open Go.RowKit Go.Maps
open Go.Proofs.YtppggnmlbcdegabGreat.T

open U (nI own_get own_slice wpList_app1 below_grown TT Out info_split)
theorem NtS.done {w wr : World} {gs : GL} {B r cnt : Nat} {D : DataW Unit} {left : Lit → Bool} {g : Nat} {M : List (List Value)} {xs : List Value} {u : Value} (h : NtS w wr gs B r cnt D left g M xs u) (hd : Dn gs) (hl : ∀ kl, left kl = false) : TT wr w.heap.size 36 3 (.slice (some ⟨g, 0, none⟩) gs.length gs.length) (ntM gs) xs := by
  have e : M = ntM gs := by
    refine List.ext_getElem? fun i => ?_
    by_cases hi : i < gs.length
    · rw [ntM_get hi]
      have hg : gs[i]? = some gs[i] := List.getElem?_eq_getElem hi
      exact h.dn gs[i].1 i (fdG_of hg rfl (fun j x hj hx e => by have := hd.d j i x _ hx hg e; omega)) (hl _)
    · rw [List.getElem?_eq_none (by rw [h.ln]; omega), List.getElem?_eq_none (by rw [ntM_len]; omega)]
  rw [← e]
  exact h.t
theorem NtS.start {w w1 w2 w3 : World} {gs : GL} {A : Option Addr} {c B : Nat} {D : DataW Unit} (hw1 : w1 = w.alloc (.cells #[.slice A gs.length c] 24)) (ho : w2.ownsRow w.heap.size 36 1 (.slice (some ⟨w1.heap.size, 0, none⟩) gs.length gs.length) gs.length (List.replicate gs.length (.slice none 0 0))) (hg2 : w1.grownBy w2 none)
    (hrg : w3.ranges Tryz.prog 9 (plainElem Tryz.prog 3) B w2.heap.size gs.length D (Maps.has D) (Maps.size D)) (hg3 : w2.grownBy w3 none) (hD : NmD D gs) : NtS w w3 gs B w2.heap.size (Maps.size D) D (Maps.has D) w1.heap.size (List.replicate gs.length []) (List.replicate gs.length (.slice none 0 0)) (.slice A gs.length c) := by
  have hs1 : w1.heap.size = w.heap.size + 1 := by rw [hw1, World.size_alloc]
  have hb1 : Below w.heap.size w w1 := by rw [hw1]; exact below_box _ _
  have hx1 : GX w1 w.heap.size (.slice A gs.length c) := by rw [hw1]; exact GX.mk (heap_alloc_new w _)
  have hx2 := hx1.same (hg2.block _ hx1.lt (by simp))
  have hlt := (ho.lt _ rfl).2
  refine ⟨below_grown (below_grown hb1 hg2 (fun k e => by cases e)) hg3 (fun k e => by cases e), hx2.same (hg3.block _ hx2.lt (by simp)), hrg, (TT.made ho).kept hg3 (fun k e => by cases e) (fun i x k _ e => by cases e), List.length_replicate, ⟨by omega, hlt⟩, fun s i hf hl => ?_⟩
  have := (hD s).1
  rw [hf, hl] at this
  cases this
set_option maxRecDepth 100000 in
set_option maxHeartbeats 16000000 in
theorem netBy_any {gs : GL} (hR : RtG gs) (A : Option Addr) (c B : Nat) (w : World) (hp : GI w A gs) (hm : NmM w B gs) :
    Calls Tryz.prog 50 #[.map (some B), .agg #[.slice A gs.length c]] w fun e w' => (∃ v xs, e = .returned v ∧ TT w' w.heap.size 36 3 v (ntM gs) xs) ∧ Below w.heap.size w w' := by
  have hB := hm.lt
  have hn := hR.n2
  obtain ⟨w1, hw1⟩ : ∃ w1, w1 = w.alloc (.cells #[.slice A gs.length c] 24) := ⟨_, rfl⟩
  have HE0 := (show Hid (w.alloc (.cells #[.slice A gs.length c] 24) = w1) from hw1.symm)
  have hb1 : Below w.heap.size w w1 := by rw [hw1]; exact below_box _ _
  have q1 : w1.cell? ⟨w.heap.size, 0, none⟩ = some (.slice A gs.length c) := by rw [hw1]; exact (GX.mk (heap_alloc_new w _)).cl
  obtain ⟨i0, hinf, hz0, hz1, hz2⟩ := info_split Tryz.info37
  obtain ⟨w2, hmk, ho2, hg2⟩ := run_make_full (P := Tryz.prog) w1 w.heap.size 65 36 i0 (.slice none 0 0) 1 Tryz.underlying65 hinf hz0 hz1 .i64 .i64 gs.length (by rw [hz2]; omega) (by unfold maxLen; omega) hb1.size
  have ho2' : w2.ownsRow w.heap.size 36 1 (.slice (some ⟨w1.heap.size, 0, none⟩) gs.length gs.length) gs.length (List.replicate gs.length (.slice none 0 0)) := by
    have e : (madeCells (Value.cells (.slice none 0 0)) (gs.length * 1)).toList = List.replicate gs.length (Value.slice none 0 0) := by rw [Nat.mul_one]; exact toList_madeCells_one _ _
    rw [e] at ho2
    exact ho2
  obtain ⟨D, hown, hD⟩ := hm.ex
  have hown2 : w2.ownsMap Tryz.prog 9 (plainElem Tryz.prog 3) B gs.length D := by
    have h1 : w1.ownsMap Tryz.prog 9 (plainElem Tryz.prog 3) B gs.length D := by rw [hw1]; exact hown.alloc _
    exact h1.kept hg2 (by simp)
  obtain ⟨w3, hrn, hrg3, hg3, _⟩ := hown2.range keyed Tryz.underlying54
  have HS := (show Hid (NtS w w3 gs B w2.heap.size (Maps.size D) D (Maps.has D) w1.heap.size (List.replicate gs.length []) (List.replicate gs.length (.slice none 0 0)) (.slice A gs.length c)) from NtS.start hw1 ho2' hg2 hrg3 hg3 hD)
  have HD := (show Hid (NmD D gs) from hD)
  have HM := (show Hid (NmM w B gs) from hm)
  have HP := (show Hid (GI w A gs) from hp)
  have HR := (show Hid (RtG gs) from hR)
  clear hown hown2 hrg3 hg3 hD hm hp hR ho2 ho2' hg2 hb1 hw1 hinf hz0 hz1 hz2 i0
  go_enter Tryz.func50, Tryz.ntmps50
  go_wp2_with (rw [HE0.out])
  clear hmk hrn q1 HE0
  generalize w2.heap.size = r0 at *
  generalize w1.heap.size = g0 at *
  go_loopw [7] (fun _ wr => ∃ (left : Lit → Bool) (cnt : Nat) (M : List (List Value)) (xs : List Value), Hid (NtS w wr gs B r0 cnt D left g0 M xs (.slice A gs.length c))) (fun _ wr => wr.rangeLeft B r0)
  case atStart => exact ⟨_, _, _, _, HS⟩
  case round =>
    obtain ⟨left, cnt, M, xs, HW⟩ := hrel
    clear HS
    rcases HW.out.rg.next keyed 0 with ⟨h0, hl, hrun⟩ | ⟨key, v, kl, y, wA, cnt1, hkey, hlk, hv, hat, hrun, hrg, hlt, hgr, hsz, hen⟩
    · have HT := (show Hid (TT wr w.heap.size 36 3 (.slice (some ⟨g0, 0, none⟩) gs.length gs.length) (ntM gs) xs) from HW.out.done HR.out.dn hl)
      have HB := (show Hid (Below w.heap.size w wr) from HW.out.b)
      clear h0 hl HW HR HM HP HD
      go_wp2_with fail
      go_ret
      exact ⟨⟨_, xs, rfl, HT.out⟩, HB.out⟩
    · obtain ⟨s, i, rfl, rfl, hf⟩ := step_nm HD.out hkey hv hat
      have hi : i < gs.length := fdG_lt hf
      have hgw : Below w.heap.size w wA := below_grown HW.out.b hgr (fun k e => by cases e; have := HW.out.gr; omega)
      obtain ⟨g, hg⟩ : ∃ g, gs[i]? = some g := ⟨_, List.getElem?_eq_getElem hi⟩
      obtain ⟨b, o, A2, c2, rfl, lb, _, x1, r2⟩ := HP.out.d i g hg
      have x1' := (hgw.cell (p := ⟨b, o + i * 2 + 1, none⟩) lb).trans x1
      have q1 := (HW.out.x.same (hgr.block _ HW.out.x.lt (fun e => by injection e with e; have := HW.out.gr; omega))).cl
      have hck := HR.out.ck g (List.mem_of_getElem? hg)
      have hL : g.2.length ≤ 2048 := by
        by_cases q : g.2.length ≤ 2048
        · exact q
        · have := ck_long (L := g.2) (by omega)
          rw [this] at hck
          exact absurd hck (by decide)
      have HC := (show Hid (∀ _ : Unit, Calls Tryz.prog 63 #[.slice A2 g.2.length c2, .map (some B)] wA fun e w' => (∃ v, e = .returned v ∧ w'.ownsRow wA.heap.size 3 1 v (cL gs i).length ((cL gs i).map nI)) ∧ Below wA.heap.size wA w') from fun _ => calledBy_any HR.out hg A2 c2 B hL (HP.out.t g (List.mem_of_getElem? hg)).2.2 wA (r2.below hgw (Nat.le_refl _)) (HM.out.same (hgw.block B hB)))
      have HPu := (show Hid (∀ (w4 : World) (v4 : Value), Below wA.heap.size wA w4 → w4.ownsRow wA.heap.size 3 1 v4 (cL gs i).length ((cL gs i).map nI) → ∃ M2 xs2, NtS w (w4.setCell ⟨g0, i, none⟩ v4) gs B r0 cnt1 D (fun z => left z && !z.sameKey (.string s.data.toList)) g0 M2 xs2 (.slice (some ⟨b, o, none⟩) gs.length c)) from fun w4 v4 h1 h2 => HW.out.put HR.out.dn hf hgr hrg hsz hB h1 h2)
      have hlx : xs.length = gs.length := HW.out.t.len.trans HW.out.ln
      obtain ⟨x, hx⟩ : ∃ x, xs[i]? = some x := ⟨_, List.getElem?_eq_getElem (by omega)⟩
      have hgl := (HW.out.t.o.lt g0 rfl).2
      have HCe := (show Hid (∀ w4, Below wA.heap.size wA w4 → w4.cell? ⟨g0, i, none⟩ = some x ∧ w4.frozen? ⟨g0, i, none⟩ = false) from fun w4 h1 => by
        have ho : wr.ownsRow w.heap.size 36 1 (.slice (some ⟨g0, 0, none⟩) gs.length gs.length) gs.length xs := by have h := HW.out.t.o; rw [hlx] at h; exact h
        have hoA := U.own_below (U.own_kept ho hgr (fun k e q => by cases e; have q : g0 = r0 := Option.some.inj q; have := HW.out.gr; omega)) h1
        exact ⟨(hoA.cellAt i (by omega)).trans hx, hoA.frozenAt i⟩)
      have HLf := (show Hid (wr.rangeLeft B r0 = cnt ∧ cnt1 < cnt) from ⟨HW.out.rg.left_eq, hlt⟩)
      have z0 : (0 : Int) ≤ (i : Int) := by omega
      have z1 : (i : Int) < (gs.length : Int) := by omega
      clear hkey hlk hv hat hrg hlt hgr hsz hf hi hgw hg x1 r2 lb hck hL HW hlx hx hgl HM HP HR HD hB hn
      go_wp2_with fail
      refine (HC.out ()).mono ?_
      rintro e w4 ⟨⟨v4, rfl, ho4⟩, b4⟩
      obtain ⟨k0, k1⟩ := HCe.out w4 b4
      obtain ⟨M2, xs2, h2⟩ := HPu.out w4 v4 b4 ho4
      have HN2 := (show Hid _ from h2)
      obtain ⟨A4, c4, rfl⟩ := own_slice ho4
      clear ho4 b4 HC HPu HCe h2 hrun hen q1 x1'
      go_wp2_with fail
      go_roundw
      case rel => exact ⟨_, _, _, _, HN2⟩
      case measure => rw [HN2.out.rg.left_eq, HLf.out.1]; exact HLf.out.2
end Go.Proofs.YtppggnmlbcdegabGreat.N
