/- DERIVED. Plain mathematics and walks, laid together (6). -/
import Derived.Shelf.Sort.AssemblyIn
import Derived.Sort.EveryDepth
import Derived.Test.YtppggnmlbcdegabProg
import Derived.Shelf.Slices.In.SortNone
import Derived.Sort.OwnSortedInts
import Derived.Maps.Range
import Derived.Maps.Views
import Derived.Sort.KeysCollected
import Derived.Laws.OwnMore
import Derived.Test.YtppggnmlbcdegabRr05
namespace Go.Proofs.Ytppggnmlbcdegab.T
open Go.RowKit
set_option maxRecDepth 100000 in
set_option maxHeartbeats 1000000 in
theorem through_long (L : List Nd) (Ap : Option Addr) (cp : Nat) (sv : Value) (hlong : 2048 < L.length) (w : World) :
    Calls Try.prog 25 #[.slice Ap L.length cp, sv] w fun e w' => e = .returned (.tuple #[.int .i64 (ck L).1, .int .i64 (ck L).2]) ∧ w' = w := by
  have HE := (show Hid (ck L = (0, 2)) from ck_long hlong)
  have z : (2048 : Int) < (L.length : Int) := by omega
  go_enter Try.func25, Try.ntmps25
  go_wp2_with fail
  go_ret2
  exact ⟨by rw [HE.out]; rfl, rfl⟩

set_option maxRecDepth 100000 in
set_option maxHeartbeats 4000000 in
theorem names_any (L : List Nd) (Ap : Option Addr) (cp : Nat) (hL : L.length ≤ 140737488355328) (hT : ∀ n ∈ L, n.tx.size ≤ 140737488355328) (w : World) (hp : RdN w Ap L) :
    Calls Try.prog 32 #[.slice Ap L.length cp] w fun e w' => NmV w w' L e ∧ Below w.heap.size w w' := by
  obtain ⟨W2, hW2⟩ : ∃ W2, W2 = (w.alloc (.cells #[.slice Ap L.length cp] 36)).alloc (.cells #[.slice none 0 0] 80) := ⟨_, rfl⟩
  have hB1 := below_box w (.cells #[.slice Ap L.length cp] 36)
  have hB2 : Below w.heap.size w W2 := by rw [hW2]; exact hB1.alloc hB1.size _
  have hs2 : W2.heap.size = w.heap.size + 2 := by rw [hW2]; simp
  have e0 : W2.heap[w.heap.size]? = some (.cells #[.slice Ap L.length cp] 36 (0, 0)) := by
    rw [hW2, (below_box _ _).block _ (by simp)]
    exact heap_alloc_new w _
  have e1 : W2.heap[w.heap.size + 1]? = some (.cells #[.slice none 0 0] 80 (0, 0)) := by
    rw [hW2]
    have h := heap_alloc_new (w.alloc (.cells #[.slice Ap L.length cp] 36)) (.cells #[.slice none 0 0] 80)
    rw [World.size_alloc] at h
    exact h
  have k0 : W2.cell? ⟨w.heap.size, 0, none⟩ = some (.slice Ap L.length cp) := by rw [cell_of_row W2 _ 0 _ 36 (0, 0) e0]; rfl
  have HT : Hid (∀ _ : Unit, Calls Try.prog 25 #[.slice Ap L.length cp, .func (.func 37) #[] #[.pointer (some ⟨w.heap.size, 0, none⟩), .pointer (some ⟨w.heap.size + 1, 0, none⟩)]] W2 fun e w' => e = .returned (.tuple #[.int .i64 (ck L).1, .int .i64 (ck L).2]) ∧ Below w.heap.size W2 w' ∧ ((ck L).2 = 0 → ∃ v, TB w' (w.heap.size + 1) v ∧ w'.ownsRow w.heap.size 9 1 v (nmL L L.length).length (stc (nmL L L.length)))) := fun _ => by
    by_cases hlen : 2048 < L.length
    · exact (through_long L Ap cp _ hlen W2).mono fun e w' ⟨h1, h2⟩ => ⟨h1, by rw [h2]; exact Below.refl _ _, fun q => by rw [ck_long hlen] at q; cases q⟩
    · refine (through_any L 37 _ _ Ap cp w.heap.size hL hT W2 (by omega) (hp.below hB2 (Nat.le_refl _)) (fun hne a ha => by
        obtain ⟨g, o, e, lt, _⟩ := hp hne
        rw [e] at ha
        cases ha
        exact lt) enters49 (see49 L Ap cp w.heap.size (w.heap.size + 1) w.heap.size W2.heap.size (by omega)) (fun b => b = w.heap.size + 1) ⟨by omega, ⟨_, ⟨e1⟩, fun b => by simp [Value.ownBlock], World.ownsRow_nil _ _ _ _⟩, k0, fun hne => ?_⟩).mono fun e w' ⟨h1, h2, k, X, hj, hk⟩ => ⟨h1, h2, fun q => by
          obtain ⟨v, h3, _, h4⟩ := hj.s
          rw [hk q] at h4
          exact ⟨v, h3, own_base h4 (by omega)⟩⟩
      obtain ⟨g, o, e, lt, cl⟩ := hp hne
      exact ⟨g, o, e, lt, by omega, cl.same (hB2.block g lt)⟩
  have HB2 := (show Hid (Below w.heap.size w W2) from hB2)
  clear hB1 hB2 e0 e1 hp hT hs2
  have HE : Hid (nmE L = if (ck L).2 = 0 then nmL L L.length else []) := rfl
  subst hW2
  go_enter Try.func32, Try.ntmps32
  go_wp2_with fail
  refine (HT.out ()).mono ?_
  rintro e w3 ⟨rfl, b3, hn⟩
  have HB3 := (show Hid (Below w.heap.size w w3) from HB2.out.trans b3)
  clear HT b3 HB2 k0
  by_cases hc : (ck L).2 = 0
  · obtain ⟨v, h3, h4⟩ := hn hc
    have c0 := h3.c0
    have HI := (show Hid (nmE L = nmL L L.length ∧ (ck L).2 = 0) from ⟨by rw [HE.out, if_pos hc], hc⟩)
    have HO := (show Hid (w3.ownsRow w.heap.size 9 1 v (nmL L L.length).length (stc (nmL L L.length))) from h4)
    have t1 : ((ck L).2 != 0) = false := by rw [hc]; rfl
    clear hn hc HE h3 h4
    go_wp2_with fail
    go_ret2
    exact ⟨⟨v, by rw [HI.out.2]; rfl, by rw [HI.out.1]; exact HO.out⟩, HB3.out⟩
  · have HI := (show Hid (nmE L = []) from by show nmE L = _; rw [HE.out, if_neg hc])
    have t1 : ((ck L).2 != 0) = true := by rw [bne, beq_eq_false_iff_ne.2 hc]; rfl
    clear hn hc HE
    go_wp2_with fail
    go_ret2
    exact ⟨⟨_, rfl, by rw [HI.out]; exact World.ownsRow_nil _ _ _ _⟩, HB3.out⟩
end Go.Proofs.Ytppggnmlbcdegab.T

namespace Go.Proofs
open Go.Shelf
def Try.lays189_ren : Go.Shelf.Ren := ⟨fun | 189 => 33 | 125 => 41 | 257 => 40 | 128 => 54 | 129 => 55 | 294 => 45 | 295 => 46 | 296 => 47 | 297 => 48 | 298 => 49 | 299 => 50 | 216 => 51 | 300 => 52 | 301 => 53 | 328 => 58 | 329 => 59 | 330 => 60 | 331 => 61 | 332 => 62 | 215 => 63 | 343 => 64 | n => n, fun | 28 => 31 | 3 => 3 | 46 => 89 | 0 => 0 | 51 => 100 | 53 => 51 | 4 => 4 | 183 => 93 | 182 => 92 | 131 => 45 | 5 => 5 | 9 => 9 | 218 => 103 | 222 => 107 | 228 => 110 | 229 => 111 | n => n, fun | n => n⟩
theorem Try.lays189 : Go.Proofs.Lays.n189 Try.prog Try.lays189_ren := {
  mixed := by kernel_rfl
  f125 := Try.func41.trans (congrArg some (by kernel_rfl))
  f128 := Try.func54.trans (congrArg some (by kernel_rfl))
  f129 := Try.func55.trans (congrArg some (by kernel_rfl))
  f189 := Try.func33.trans (congrArg some (by kernel_rfl))
  f215 := Try.func63.trans (congrArg some (by kernel_rfl))
  f216 := Try.func51.trans (congrArg some (by kernel_rfl))
  f257 := Try.func40.trans (congrArg some (by kernel_rfl))
  f294 := Try.func45.trans (congrArg some (by kernel_rfl))
  f295 := Try.func46.trans (congrArg some (by kernel_rfl))
  f296 := Try.func47.trans (congrArg some (by kernel_rfl))
  f297 := Try.func48.trans (congrArg some (by kernel_rfl))
  f298 := Try.func49.trans (congrArg some (by kernel_rfl))
  f299 := Try.func50.trans (congrArg some (by kernel_rfl))
  f300 := Try.func52.trans (congrArg some (by kernel_rfl))
  f301 := Try.func53.trans (congrArg some (by kernel_rfl))
  f328 := Try.func58.trans (congrArg some (by kernel_rfl))
  f329 := Try.func59.trans (congrArg some (by kernel_rfl))
  f330 := Try.func60.trans (congrArg some (by kernel_rfl))
  f331 := Try.func61.trans (congrArg some (by kernel_rfl))
  f332 := Try.func62.trans (congrArg some (by kernel_rfl))
  f343 := Try.func64.trans (congrArg some (by kernel_rfl))
  t0 := Try.underlying0
  a0 := Try.isAgg0
  z0 := Try.sizeOf0
  v0 := Try.zeroValue0
  t3 := Try.underlying3
  a3 := Try.isAgg3
  z3 := Try.sizeOf3
  v3 := Try.zeroValue3
  t4 := Try.underlying4
  a4 := Try.isAgg4
  z4 := Try.sizeOf4
  v4 := Try.zeroValue4
  t5 := Try.underlying5
  a5 := Try.isAgg5
  z5 := Try.sizeOf5
  v5 := Try.zeroValue5
  t9 := Try.underlying9
  a9 := Try.isAgg9
  z9 := Try.sizeOf9
  v9 := Try.zeroValue9
  t28 := Try.underlying31
  a28 := Try.isAgg31
  z28 := Try.sizeOf31
  v28 := Try.zeroValue31
  t46 := Try.underlying89
  a46 := Try.isAgg89
  z46 := Try.sizeOf89
  v46 := Try.zeroValue89
  t51 := Try.underlying100
  a51 := Try.isAgg100
  z51 := Try.sizeOf100
  v51 := Try.zeroValue100
  t53 := Try.underlying51
  a53 := Try.isAgg51
  z53 := Try.sizeOf51
  v53 := Try.zeroValue51
  t131 := Try.underlying45
  a131 := Try.isAgg45
  z131 := Try.sizeOf45
  v131 := Try.zeroValue45
  t182 := Try.underlying92
  a182 := Try.isAgg92
  z182 := Try.sizeOf92
  v182 := Try.zeroValue92
  t183 := Try.underlying93
  a183 := Try.isAgg93
  z183 := Try.sizeOf93
  v183 := Try.zeroValue93
  t218 := Try.underlying103
  a218 := Try.isAgg103
  z218 := Try.sizeOf103
  v218 := Try.zeroValue103
  t222 := Try.underlying107
  a222 := Try.isAgg107
  z222 := Try.sizeOf107
  v222 := Try.zeroValue107
  t228 := Try.underlying110
  a228 := Try.isAgg110
  z228 := Try.sizeOf110
  v228 := Try.zeroValue110
  t229 := Try.underlying111
  a229 := Try.isAgg111
  z229 := Try.sizeOf111
  v229 := Try.zeroValue111 }
end Go.Proofs

namespace Go.Proofs.Ytppggnmlbcdegab.N
open Go.RowKit Go.Maps
open Go.Proofs.Ytppggnmlbcdegab.T
theorem sortI_any {w : World} {base n : Nat} {v : Value} {zs : List Int} (hn : n = zs.length) (hl : zs.length ≤ 1000000) (h : w.ownsRow base 3 1 v n (zs.map (Value.int .i64))) :
    Calls Try.prog 33 #[v] w fun e w' => e = .returned (.tuple #[]) ∧ w'.ownsRow base 3 1 v n ((zs.mergeSort fun x y => decide (x ≤ y)).map (Value.int .i64)) ∧ w.grownBy w' v.ownBlock := by
  subst hn
  rcases h.2 with ⟨rfl, h0⟩ | ⟨g, cap, cur, rfl, hb, hg, h1, h2, h3, h4⟩
  · have hz : zs = [] := List.eq_nil_of_length_eq_zero h0
    subst hz
    refine (Any.slices_Sort_int_none Try.lays189 none 0 w).mono ?_
    rintro e w' ⟨rfl, rfl⟩
    exact ⟨rfl, by rw [List.mergeSort_nil]; exact World.ownsRow_nil _ _ _ _, World.grownBy.refl _ _⟩
  · have hH := Go.holds_of_blockI hg (ss := zs) (by rw [← h4, Nat.mul_one])
    refine (calls_of_every_depth fun D => AnyS.slices_Sort_int_in Try.lays189 D g 0 cap zs w hH (Array.getElem?_eq_some_iff.1 hg).1 (by omega)).mono ?_
    rintro e w' ⟨rfl, k, os, rfl⟩
    exact ⟨rfl, ownsRow_sortedI (by rw [List.length_mergeSort]) hb hg h1 h2 h3, grownBy_sortedI _⟩
open U (nI own_get own_slice wpList_app1 below_grown)
/-- While the numbers of names are laid down. -/
structure ClS (w wr : World) (gs : GL) (ns : List ByteArray) (v u : Value) (l : List Nat) : Prop where
  b : Below w.heap.size w wr
  o : wr.ownsRow w.heap.size 9 1 v ns.length (stc ns)
  r : wr.ownsRow w.heap.size 3 1 u l.length (l.map nI)
  x : ∀ (j : Nat) s, j < l.length → ns[j]? = some s → ∃ i, l[j]? = some i ∧ fdG gs s = some i
theorem nI_map (l : List Nat) : l.map nI = (l.map fun (x : Nat) => (x : Int)).map (Value.int .i64) := by rw [List.map_map]; rfl
theorem ClS.push {w wr w5 : World} {gs : GL} {ns : List ByteArray} {v u u' : Value} {l : List Nat} {s : ByteArray} {i : Nat} (h : ClS w wr gs ns v u l) (hs : ns[l.length]? = some s) (hf : fdG gs s = some i) (ho : w5.ownsRow w.heap.size 3 1 u' (l.length + 1) (l.map nI ++ [nI i])) (hg : wr.grownBy w5 u.ownBlock) : ClS w w5 gs ns v u' (l ++ [i]) := by
  refine ⟨below_grown h.b hg (fun k e => (h.r.lt k e).1), U.own_kept h.o hg (fun k e => own_apart h.r h.o (by decide) e), ?_, fun j t hj ht => ?_⟩
  · rw [List.length_append, List.map_append]; exact ho
  · rw [List.length_append] at hj
    by_cases q : j < l.length
    · obtain ⟨a, a1, a2⟩ := h.x j t q ht
      exact ⟨a, by rw [List.getElem?_append_left q]; exact a1, a2⟩
    · have e : j = l.length := by simp at hj; omega
      subst e
      rw [hs] at ht
      cases ht
      exact ⟨i, by rw [List.getElem?_append_right (Nat.le_refl _), Nat.sub_self]; rfl, hf⟩
theorem ClS.sorted {w wr : World} {gs : GL} {ns : List ByteArray} {v u : Value} {l : List Nat} {r : Nat} (h : ClS w wr gs ns v u l) (hl : l.length = ns.length) (hn : ns.length ≤ 2048)
    (hF : ∀ l : List Nat, l.length = ns.length → (∀ (k : Nat) s, ns[k]? = some s → ∃ j, l[k]? = some j ∧ fdG gs s = some j) → (l.map fun (x : Nat) => (x : Int)).mergeSort (fun x y => decide (x ≤ y)) = (cL gs r).map fun (x : Nat) => (x : Int)) :
    Calls Try.prog 33 #[u] wr fun e w' => e = .returned (.tuple #[]) ∧ w'.ownsRow w.heap.size 3 1 u (cL gs r).length ((cL gs r).map nI) ∧ Below w.heap.size w w' := by
  have h1 := h.r
  rw [nI_map] at h1
  have hs := hF l hl (fun j s hs => h.x j s (by have := (List.getElem?_eq_some_iff.1 hs).1; omega) hs)
  have hlen : (cL gs r).length = l.length := by
    have := congrArg List.length hs
    rw [List.length_mergeSort, List.length_map, List.length_map] at this
    exact this.symm
  refine (sortI_any (zs := l.map fun (x : Nat) => (x : Int)) (by rw [List.length_map]) (by rw [List.length_map]; omega) h1).mono ?_
  rintro e w' ⟨rfl, h2, h3⟩
  rw [hs, ← nI_map] at h2
  rw [hlen]
  exact ⟨rfl, h2, below_grown h.b h3 (fun k e => (h.r.lt k e).1)⟩
set_option maxRecDepth 100000 in
set_option maxHeartbeats 8000000 in
theorem calledBy_any {gs : GL} (hR : RtG gs) {r : Nat} {g : ByteArray × List Nd} (hgr : gs[r]? = some g) (A : Option Addr) (c B : Nat) (hL : g.2.length ≤ 2048) (hT : ∀ n ∈ g.2, n.tx.size ≤ 140737488355328) (w : World) (hp : RdN w A g.2) (hm : NmM w B gs) :
    Calls Try.prog 28 #[.slice A g.2.length c, .map (some B)] w fun e w' => (∃ v, e = .returned v ∧ w'.ownsRow w.heap.size 3 1 v (cL gs r).length ((cL gs r).map nI)) ∧ Below w.heap.size w w' := by
  have hck : (ck g.2).2 = 0 := hR.ck g (List.mem_of_getElem? hgr)
  have hnE : nmE g.2 = nmL g.2 g.2.length := by unfold nmE; rw [if_pos hck]
  obtain ⟨ns, hns⟩ : ∃ ns, ns = nmL g.2 g.2.length := ⟨_, rfl⟩
  have HN : Hid (∀ _ : Unit, Calls Try.prog 32 #[.slice A g.2.length c] w fun e w' => (∃ v, e = .returned (.tuple #[v, .int .i64 (ck g.2).2]) ∧ w'.ownsRow w.heap.size 9 1 v ns.length (stc ns)) ∧ Below w.heap.size w w') := fun _ => by
    have h := names_any g.2 A c (by omega) hT w hp
    unfold NmV at h
    rw [hnE, ← hns] at h
    exact h
  have HKn := (show Hid (∀ k, k < ns.length → ∃ s i, ns[k]? = some s ∧ s.size ≤ 140737488355328 ∧ fdG gs s = some i ∧ i < gs.length) from fun k hk => by
    have hs : ns[k]? = some ns[k] := List.getElem?_eq_getElem hk
    have hmem : ns[k] ∈ nmL g.2 g.2.length := by rw [← hns]; exact List.getElem_mem hk
    obtain ⟨n, n1, n2, n3⟩ := nmL_all.1 hmem
    obtain ⟨i, hi⟩ := hR.dn.c g (List.mem_of_getElem? hgr) n n1 n2
    exact ⟨ns[k], i, hs, by rw [← n3]; exact hT n n1, by rw [← n3]; exact hi, fdG_lt hi⟩)
  have hnl : ns.length ≤ 2048 := by rw [hns]; have := nmL_len g.2 g.2.length; omega
  have hg200 : gs.length ≤ 200 := hR.n2
  have HFin := (show Hid (∀ l : List Nat, l.length = ns.length → (∀ (k : Nat) s, ns[k]? = some s → ∃ j, l[k]? = some j ∧ fdG gs s = some j) → (l.map fun (x : Nat) => (x : Int)).mergeSort (fun x y => decide (x ≤ y)) = (cL gs r).map fun (x : Nat) => (x : Int)) from fun l h1 h2 => called_sort hR hgr (by rw [← hns]; exact h1) (by rw [← hns]; exact h2))
  have HM := (show Hid (NmM w B gs) from hm)
  clear hp hm hT hck hnE hns hR hgr
  go_enter Try.func28, Try.ntmps28
  go_wp2_with fail
  refine (HN.out ()).mono ?_
  rintro e w1 ⟨⟨v, rfl, ho⟩, b1⟩
  obtain ⟨A1, c1, rfl⟩ := own_slice ho
  have HS := (show Hid (ClS w w1 gs ns (.slice A1 ns.length c1) (.slice none 0 0) []) from ⟨b1, ho, World.ownsRow_nil _ _ _ _, fun j s hj => by cases hj⟩)
  clear HN b1 ho
  generalize (ck g.2).2 = cd at *
  go_wp2_with fail
  go_loopw [7, 17] (fun u t wr => ∃ (k : Nat) (l : List Nat) (A2 : Option Addr) (c2 : Nat), k ≤ ns.length ∧ t = .int .i64 (k : Int) ∧ u = .slice A2 k c2 ∧ Hid (l.length = k) ∧ Hid (ClS w wr gs ns (.slice A1 ns.length c1) (.slice A2 k c2) l)) (fun _ t _ => ns.length - (intOf t).toNat)
  case atStart => exact ⟨0, [], none, 0, by omega, by go_num, rfl, rfl, HS⟩
  case round =>
    obtain ⟨k, l, A2, c2, hk, rfl, rfl, HLk, HW⟩ := hrel
    clear HS
    by_cases hlt : k < ns.length
    · obtain ⟨s, i, hs, hsz, hf, hi⟩ := HKn.out k hlt
      obtain ⟨g1, cap1, e1, lb1, l1, x1, _⟩ := own_get HW.out.o (j := k) (x := .string s) (by unfold stc; rw [List.getElem?_map, hs]; rfl)
      cases e1
      have hrun : (Instr.lookup 41 (.map (some B)) (.string s) false).run Try.prog wr = .ok (.int .i64 i) wr := NmM.look0 (HM.out.same (HW.out.b.block B HM.out.lt)) hsz hf
      have z0 : (0 : Int) ≤ (k : Int) := by omega
      have z1 : (k : Int) < (ns.length : Int) := by omega
      have HO := (show Hid (wr.ownsRow w.heap.size 3 1 (.slice A2 k c2) k (l.map nI)) from by have h := HW.out.r; rw [HLk.out] at h; exact h)
      have HBw := (show Hid (w.heap.size ≤ wr.heap.size) from HW.out.b.size)
      have HPu := (show Hid (∀ (u' : Value) (w5 : World), w5.ownsRow w.heap.size 3 1 u' (k + 1) (l.map nI ++ [nI i]) → wr.grownBy w5 (Value.slice A2 k c2).ownBlock → ClS w w5 gs ns (.slice (some ⟨g1, 0, none⟩) ns.length c1) u' (l ++ [i])) from fun u' w5 h1 h2 => HW.out.push (by rw [HLk.out]; exact hs) hf (by rw [HLk.out]; exact h1) h2)
      have HL2 := (show Hid ((l ++ [i]).length = k + 1) from by show _ = _; rw [List.length_append, HLk.out]; rfl)
      clear HW hs hf hsz lb1 l1 HLk
      go_wp2_with (at_builtin; refine wpList_app1 rfl _ _ 31 rfl (.int .i64 0) 8 Try.underlying31 Try.info3 rfl w.heap.size k _ (l.map nI) rfl rfl HO.out rfl (by omega) (by decide) HBw.out ?_; intro g3 cap3 w5 ho5 hg5 hat5 hl5; have HW5 := (show Hid (ClS w w5 gs ns (.slice (some ⟨g1, 0, none⟩) ns.length c1) (.slice (some ⟨g3, 0, none⟩) (k + 1) cap3) (l ++ [i])) from HPu.out _ _ ho5 hg5); clear ho5 hg5 hat5 hl5 HPu HO HBw hrun x1)
      go_roundw
      case rel => exact ⟨k + 1, l ++ [i], some ⟨g3, 0, none⟩, cap3, by omega, by go_num, rfl, HL2, HW5⟩
      case measure => simp [intOf]; omega
    · obtain rfl : k = ns.length := by omega
      have HC := (show Hid (∀ _ : Unit, Calls Try.prog 33 #[.slice A2 ns.length c2] wr fun e w' => e = .returned (.tuple #[]) ∧ w'.ownsRow w.heap.size 3 1 (.slice A2 ns.length c2) (cL gs r).length ((cL gs r).map nI) ∧ Below w.heap.size w w') from fun _ => HW.out.sorted HLk.out hnl HFin.out)
      clear HFin HW HKn HM HLk
      go_wp2_with fail
      refine (HC.out ()).mono ?_
      rintro e w6 ⟨rfl, ho6, hb6⟩
      have HB6 := (show Hid (Below w.heap.size w w6) from hb6)
      have HO6 := (show Hid (w6.ownsRow w.heap.size 3 1 (.slice A2 ns.length c2) (cL gs r).length ((cL gs r).map nI)) from ho6)
      clear HC ho6 hb6
      go_wp2_with fail
      go_ret
      exact ⟨⟨_, rfl, HO6.out⟩, HB6.out⟩
end Go.Proofs.Ytppggnmlbcdegab.N

namespace Go.Proofs.Ytppggnmlbcdegab.N
open Go.RowKit Go.Maps
open Go.Proofs.Ytppggnmlbcdegab.T

open U (nI own_get own_slice wpList_app1 below_grown TT Out)
/-- A net: of each rule what it calls. -/
def ntM (gs : GL) : List (List Value) := (List.range gs.length).map fun i => (cL gs i).map nI
theorem ntM_len (gs : GL) : (ntM gs).length = gs.length := by unfold ntM; rw [List.length_map, List.length_range]
theorem ntM_get {gs : GL} {i : Nat} (h : i < gs.length) : (ntM gs)[i]? = some ((cL gs i).map nI) := by
  unfold ntM
  rw [List.getElem?_map, List.getElem?_range h]; rfl
theorem Try.info37 : (Try.prog.info? 31).map (fun i => (i.zero, i.size, i.bytes)) = some (some (.slice none 0 0), 1, 24) := by kernel_rfl
/-- What a step of the range tells: a name and its number. -/
theorem step_nm {gs : GL} {D : DataW Unit} (hD : NmD D gs) {key v : Value} {kl : Lit} {y : DataW Unit × List MemPlace} (hkey : keyOf Try.prog 9 key = some kl) (hv : plainElem Try.prog 3 v = some y) (hat : ∀ zd, D.atKey kl zd = y.1) : ∃ (s : ByteArray) (i : Nat), kl = .string s.data.toList ∧ v = .int .i64 i ∧ fdG gs s = some i := by
  obtain ⟨x, rfl, rfl, _⟩ := Maps.keyOf_str Try.underlying9 hkey
  obtain ⟨c, rfl, rfl, _⟩ := plainElem_int_inv Try.underlying3 hv
  have hh := has_true_of_atKey hat
  obtain ⟨h1, h2⟩ := hD ⟨x.toArray⟩
  have hx : (⟨x.toArray⟩ : ByteArray).data.toList = x := rfl
  rw [hx] at h1 h2
  rw [hh] at h1
  cases hf : fdG gs ⟨x.toArray⟩ with
  | none => rw [hf] at h1; cases h1
  | some i =>
    have e := h2 i hf (.lit (.int .i64 0))
    rw [hat] at e
    injection e with e
    injection e with _ e
    exact ⟨⟨x.toArray⟩, i, rfl, by rw [e], hf⟩
/-- While the net is made. -/
structure NtS (w wr : World) (gs : GL) (B r cnt : Nat) (D : DataW Unit) (left : Lit → Bool) (g : Nat) (M : List (List Value)) (xs : List Value) (u : Value) : Prop where
  b : Below w.heap.size w wr
  x : GX wr w.heap.size u
  rg : wr.ranges Try.prog 9 (plainElem Try.prog 3) B r gs.length D left cnt
  t : TT wr w.heap.size 31 3 (.slice (some ⟨g, 0, none⟩) gs.length gs.length) M xs
  ln : M.length = gs.length
  gr : w.heap.size < g ∧ g < r
  dn : ∀ (s : ByteArray) (i : Nat), fdG gs s = some i → left (.string s.data.toList) = false → M[i]? = some ((cL gs i).map nI)
theorem same_str {a b : ByteArray} : (Lit.string a.data.toList).sameKey (.string b.data.toList) = true ↔ a = b := by
  constructor
  · intro h
    have := WideAt.sameKey_eq h
    injection this with e
    exact ByteArray.ext (Array.ext' e)
  · rintro rfl
    simp [Lit.sameKey]
/-- One name is gone over. -/
theorem NtS.put {w wr wA w4 : World} {gs : GL} {B r cnt cnt1 g : Nat} {D : DataW Unit} {left : Lit → Bool} {M : List (List Value)} {xs : List Value} {u v4 : Value} {s : ByteArray} {i : Nat} (h : NtS w wr gs B r cnt D left g M xs u) (_hd : Dn gs) (hf : fdG gs s = some i)
    (hA : wr.grownBy wA (some r)) (hrg : wA.ranges Try.prog 9 (plainElem Try.prog 3) B r gs.length D (fun z => left z && !z.sameKey (.string s.data.toList)) cnt1)
    (hsz : wA.heap.size = wr.heap.size) (hB : B < w.heap.size) (hb : Below wA.heap.size wA w4) (ho : w4.ownsRow wA.heap.size 3 1 v4 (cL gs i).length ((cL gs i).map nI)) :
    ∃ M2 xs2, NtS w (w4.setCell ⟨g, i, none⟩ v4) gs B r cnt1 D (fun z => left z && !z.sameKey (.string s.data.toList)) g M2 xs2 u := by
  have hlx : xs.length = gs.length := h.t.len.trans h.ln
  have hr := h.rg.lt
  have hwr := h.b.size
  have ht : TT wr w.heap.size 31 3 (.slice (some ⟨g, 0, none⟩) xs.length gs.length) M xs := by rw [hlx]; exact h.t
  have hout : Out (.slice (some ⟨g, 0, none⟩) xs.length gs.length) xs r := by
    refine ⟨fun e => ?_, fun j x hj e => ?_⟩
    · have e : g = r := Option.some.inj e
      have := h.gr.2
      omega
    · obtain ⟨row, _, hrow⟩ := ht.both hj
      obtain ⟨cur, hc⟩ := own_ty hrow e
      obtain ⟨_, _, _, _, _, _, _, _, _, hh, _⟩ := h.rg
      rw [hc] at hh
      cases hh
  have hi : i < gs.length := fdG_lt hf
  have ht2 : TT w4 w.heap.size 31 3 (.slice (some ⟨g, 0, none⟩) xs.length gs.length) M xs := (ht.turn hout hA).below hb
  have hnew : ∀ k, v4.ownBlock = some k → Out (.slice (some ⟨g, 0, none⟩) xs.length gs.length) xs k := fun k hk => by
    have := (ho.lt k hk).1
    exact ht.new (by omega)
  have ht3 := ht2.put (y := v4) (s := (cL gs i).map nI) (by rw [List.length_map]; exact U.own_base ho (by omega)) hnew (i := i) (by omega)
  have hst := (ht2.o.stored i v4).2
  have hgw : Below w.heap.size w wA := below_grown h.b hA (fun k e => by cases e; have := h.gr; omega)
  have hg4 : Below w.heap.size w w4 := hgw.trans (hb.mono hgw.size)
  refine ⟨M.set i ((cL gs i).map nI), xs.set i v4, below_grown hg4 hst (fun k e => by cases e; have := h.gr; omega), ?_, ?_, ?_, by rw [List.length_set]; exact h.ln, h.gr, ?_⟩
  · refine ((h.x.same (hA.block _ h.x.lt (fun e => by injection e with e; have := h.gr; omega))).below hb).same (hst.block _ ?_ (fun e => by injection e with e; have := h.gr; omega))
    exact ((h.x.same (hA.block _ h.x.lt (fun e => by injection e with e; have := h.gr; omega))).below hb).lt
  · exact (hrg.kept (U.below_grow hb none) (by simp) (by simp)).kept hst (fun e => by injection e with e; have := h.gr; omega) (fun e => by injection e with e; have := h.gr; omega)
  · rw [hlx] at ht3; exact ht3
  · intro t j ht hl
    by_cases e : s = t
    · subst e
      rw [hf] at ht
      cases ht
      rw [List.getElem?_set_self (by rw [h.ln]; exact hi)]
    · have hij : i ≠ j := fun q => by
        subst q
        obtain ⟨x, x1, x2, _⟩ := fdG_some hf
        obtain ⟨y, y1, y2, _⟩ := fdG_some ht
        rw [x1] at y1
        cases y1
        exact e (x2.symm.trans y2)
      rw [List.getElem?_set_ne hij]
      refine h.dn t j ht ?_
      cases q : left (.string t.data.toList)
      · rfl
      · have hs : (Lit.string t.data.toList).sameKey (.string s.data.toList) = false := by
          cases q2 : (Lit.string t.data.toList).sameKey (.string s.data.toList)
          · rfl
          · exact absurd (same_str.1 q2).symm e
        simp only [q, hs] at hl
        cases hl
end Go.Proofs.Ytppggnmlbcdegab.N

namespace Go.Proofs.Ytppggnmlbcdegab.N
open Go.RowKit Go.Maps
open Go.Proofs.Ytppggnmlbcdegab.T

open U (nI own_get own_slice wpList_app1 below_grown TT Out info_split)
theorem NtS.done {w wr : World} {gs : GL} {B r cnt : Nat} {D : DataW Unit} {left : Lit → Bool} {g : Nat} {M : List (List Value)} {xs : List Value} {u : Value} (h : NtS w wr gs B r cnt D left g M xs u) (hd : Dn gs) (hl : ∀ kl, left kl = false) : TT wr w.heap.size 31 3 (.slice (some ⟨g, 0, none⟩) gs.length gs.length) (ntM gs) xs := by
  have e : M = ntM gs := by
    refine List.ext_getElem? fun i => ?_
    by_cases hi : i < gs.length
    · rw [ntM_get hi]
      have hg : gs[i]? = some gs[i] := List.getElem?_eq_getElem hi
      exact h.dn gs[i].1 i (fdG_of hg rfl (fun j x hj hx e => by have := hd.d j i x _ hx hg e; omega)) (hl _)
    · rw [List.getElem?_eq_none (by rw [h.ln]; omega), List.getElem?_eq_none (by rw [ntM_len]; omega)]
  rw [← e]
  exact h.t
theorem NtS.start {w w1 w2 w3 : World} {gs : GL} {A : Option Addr} {c B : Nat} {D : DataW Unit} (hw1 : w1 = w.alloc (.cells #[.slice A gs.length c] 24)) (ho : w2.ownsRow w.heap.size 31 1 (.slice (some ⟨w1.heap.size, 0, none⟩) gs.length gs.length) gs.length (List.replicate gs.length (.slice none 0 0))) (hg2 : w1.grownBy w2 none)
    (hrg : w3.ranges Try.prog 9 (plainElem Try.prog 3) B w2.heap.size gs.length D (Maps.has D) (Maps.size D)) (hg3 : w2.grownBy w3 none) (hD : NmD D gs) : NtS w w3 gs B w2.heap.size (Maps.size D) D (Maps.has D) w1.heap.size (List.replicate gs.length []) (List.replicate gs.length (.slice none 0 0)) (.slice A gs.length c) := by
  have hs1 : w1.heap.size = w.heap.size + 1 := by rw [hw1, World.size_alloc]
  have hb1 : Below w.heap.size w w1 := by rw [hw1]; exact below_box _ _
  have hx1 : GX w1 w.heap.size (.slice A gs.length c) := by rw [hw1]; exact GX.mk (heap_alloc_new w _)
  have hx2 := hx1.same (hg2.block _ hx1.lt (by simp))
  have hlt := (ho.lt _ rfl).2
  refine ⟨below_grown (below_grown hb1 hg2 (fun k e => by cases e)) hg3 (fun k e => by cases e), hx2.same (hg3.block _ hx2.lt (by simp)), hrg, (TT.made ho).kept hg3 (fun k e => by cases e) (fun i x k _ e => by cases e), List.length_replicate, ⟨by omega, hlt⟩, fun s i hf hl => ?_⟩
  have := (hD s).1
  rw [hf, hl] at this
  cases this
set_option maxRecDepth 100000 in
set_option maxHeartbeats 16000000 in
theorem netBy_any {gs : GL} (hR : RtG gs) (A : Option Addr) (c B : Nat) (w : World) (hp : GI w A gs) (hm : NmM w B gs) :
    Calls Try.prog 23 #[.map (some B), .agg #[.slice A gs.length c]] w fun e w' => (∃ v xs, e = .returned v ∧ TT w' w.heap.size 31 3 v (ntM gs) xs) ∧ Below w.heap.size w w' := by
  have hB := hm.lt
  have hn := hR.n2
  obtain ⟨w1, hw1⟩ : ∃ w1, w1 = w.alloc (.cells #[.slice A gs.length c] 24) := ⟨_, rfl⟩
  have HE0 := (show Hid (w.alloc (.cells #[.slice A gs.length c] 24) = w1) from hw1.symm)
  have hb1 : Below w.heap.size w w1 := by rw [hw1]; exact below_box _ _
  have q1 : w1.cell? ⟨w.heap.size, 0, none⟩ = some (.slice A gs.length c) := by rw [hw1]; exact (GX.mk (heap_alloc_new w _)).cl
  obtain ⟨i0, hinf, hz0, hz1, hz2⟩ := info_split Try.info37
  obtain ⟨w2, hmk, ho2, hg2⟩ := run_make_full (P := Try.prog) w1 w.heap.size 59 31 i0 (.slice none 0 0) 1 Try.underlying59 hinf hz0 hz1 .i64 .i64 gs.length (by rw [hz2]; omega) (by unfold maxLen; omega) hb1.size
  have ho2' : w2.ownsRow w.heap.size 31 1 (.slice (some ⟨w1.heap.size, 0, none⟩) gs.length gs.length) gs.length (List.replicate gs.length (.slice none 0 0)) := by
    have e : (madeCells (Value.cells (.slice none 0 0)) (gs.length * 1)).toList = List.replicate gs.length (Value.slice none 0 0) := by rw [Nat.mul_one]; exact toList_madeCells_one _ _
    rw [e] at ho2
    exact ho2
  obtain ⟨D, hown, hD⟩ := hm.ex
  have hown2 : w2.ownsMap Try.prog 9 (plainElem Try.prog 3) B gs.length D := by
    have h1 : w1.ownsMap Try.prog 9 (plainElem Try.prog 3) B gs.length D := by rw [hw1]; exact hown.alloc _
    exact h1.kept hg2 (by simp)
  obtain ⟨w3, hrn, hrg3, hg3, _⟩ := hown2.range keyed Try.underlying41
  have HS := (show Hid (NtS w w3 gs B w2.heap.size (Maps.size D) D (Maps.has D) w1.heap.size (List.replicate gs.length []) (List.replicate gs.length (.slice none 0 0)) (.slice A gs.length c)) from NtS.start hw1 ho2' hg2 hrg3 hg3 hD)
  have HD := (show Hid (NmD D gs) from hD)
  have HM := (show Hid (NmM w B gs) from hm)
  have HP := (show Hid (GI w A gs) from hp)
  have HR := (show Hid (RtG gs) from hR)
  clear hown hown2 hrg3 hg3 hD hm hp hR ho2 ho2' hg2 hb1 hw1 hinf hz0 hz1 hz2 i0
  go_enter Try.func23, Try.ntmps23
  go_wp2_with (rw [HE0.out])
  clear hmk hrn q1 HE0
  generalize w2.heap.size = r0 at *
  generalize w1.heap.size = g0 at *
  go_loopw [7] (fun _ wr => ∃ (left : Lit → Bool) (cnt : Nat) (M : List (List Value)) (xs : List Value), Hid (NtS w wr gs B r0 cnt D left g0 M xs (.slice A gs.length c))) (fun _ wr => wr.rangeLeft B r0)
  case atStart => exact ⟨_, _, _, _, HS⟩
  case round =>
    obtain ⟨left, cnt, M, xs, HW⟩ := hrel
    clear HS
    rcases HW.out.rg.next keyed 0 with ⟨h0, hl, hrun⟩ | ⟨key, v, kl, y, wA, cnt1, hkey, hlk, hv, hat, hrun, hrg, hlt, hgr, hsz, hen⟩
    · have HT := (show Hid (TT wr w.heap.size 31 3 (.slice (some ⟨g0, 0, none⟩) gs.length gs.length) (ntM gs) xs) from HW.out.done HR.out.dn hl)
      have HB := (show Hid (Below w.heap.size w wr) from HW.out.b)
      clear h0 hl HW HR HM HP HD
      go_wp2_with fail
      go_ret
      exact ⟨⟨_, xs, rfl, HT.out⟩, HB.out⟩
    · obtain ⟨s, i, rfl, rfl, hf⟩ := step_nm HD.out hkey hv hat
      have hi : i < gs.length := fdG_lt hf
      have hgw : Below w.heap.size w wA := below_grown HW.out.b hgr (fun k e => by cases e; have := HW.out.gr; omega)
      obtain ⟨g, hg⟩ : ∃ g, gs[i]? = some g := ⟨_, List.getElem?_eq_getElem hi⟩
      obtain ⟨b, o, A2, c2, rfl, lb, _, x1, r2⟩ := HP.out.d i g hg
      have x1' := (hgw.cell (p := ⟨b, o + i * 2 + 1, none⟩) lb).trans x1
      have q1 := (HW.out.x.same (hgr.block _ HW.out.x.lt (fun e => by injection e with e; have := HW.out.gr; omega))).cl
      have hck := HR.out.ck g (List.mem_of_getElem? hg)
      have hL : g.2.length ≤ 2048 := by
        by_cases q : g.2.length ≤ 2048
        · exact q
        · have := ck_long (L := g.2) (by omega)
          rw [this] at hck
          exact absurd hck (by decide)
      have HC := (show Hid (∀ _ : Unit, Calls Try.prog 28 #[.slice A2 g.2.length c2, .map (some B)] wA fun e w' => (∃ v, e = .returned v ∧ w'.ownsRow wA.heap.size 3 1 v (cL gs i).length ((cL gs i).map nI)) ∧ Below wA.heap.size wA w') from fun _ => calledBy_any HR.out hg A2 c2 B hL (HP.out.t g (List.mem_of_getElem? hg)).2.2 wA (r2.below hgw (Nat.le_refl _)) (HM.out.same (hgw.block B hB)))
      have HPu := (show Hid (∀ (w4 : World) (v4 : Value), Below wA.heap.size wA w4 → w4.ownsRow wA.heap.size 3 1 v4 (cL gs i).length ((cL gs i).map nI) → ∃ M2 xs2, NtS w (w4.setCell ⟨g0, i, none⟩ v4) gs B r0 cnt1 D (fun z => left z && !z.sameKey (.string s.data.toList)) g0 M2 xs2 (.slice (some ⟨b, o, none⟩) gs.length c)) from fun w4 v4 h1 h2 => HW.out.put HR.out.dn hf hgr hrg hsz hB h1 h2)
      have hlx : xs.length = gs.length := HW.out.t.len.trans HW.out.ln
      obtain ⟨x, hx⟩ : ∃ x, xs[i]? = some x := ⟨_, List.getElem?_eq_getElem (by omega)⟩
      have hgl := (HW.out.t.o.lt g0 rfl).2
      have HCe := (show Hid (∀ w4, Below wA.heap.size wA w4 → w4.cell? ⟨g0, i, none⟩ = some x ∧ w4.frozen? ⟨g0, i, none⟩ = false) from fun w4 h1 => by
        have ho : wr.ownsRow w.heap.size 31 1 (.slice (some ⟨g0, 0, none⟩) gs.length gs.length) gs.length xs := by have h := HW.out.t.o; rw [hlx] at h; exact h
        have hoA := U.own_below (U.own_kept ho hgr (fun k e q => by cases e; have q : g0 = r0 := Option.some.inj q; have := HW.out.gr; omega)) h1
        exact ⟨(hoA.cellAt i (by omega)).trans hx, hoA.frozenAt i⟩)
      have HLf := (show Hid (wr.rangeLeft B r0 = cnt ∧ cnt1 < cnt) from ⟨HW.out.rg.left_eq, hlt⟩)
      have z0 : (0 : Int) ≤ (i : Int) := by omega
      have z1 : (i : Int) < (gs.length : Int) := by omega
      clear hkey hlk hv hat hrg hlt hgr hsz hf hi hgw hg x1 r2 lb hck hL HW hlx hx hgl HM HP HR HD hB hn
      go_wp2_with fail
      refine (HC.out ()).mono ?_
      rintro e w4 ⟨⟨v4, rfl, ho4⟩, b4⟩
      obtain ⟨k0, k1⟩ := HCe.out w4 b4
      obtain ⟨M2, xs2, h2⟩ := HPu.out w4 v4 b4 ho4
      have HN2 := (show Hid _ from h2)
      obtain ⟨A4, c4, rfl⟩ := own_slice ho4
      clear ho4 b4 HC HPu HCe h2 hrun hen q1 x1'
      go_wp2_with fail
      go_roundw
      case rel => exact ⟨_, _, _, _, HN2⟩
      case measure => rw [HN2.out.rg.left_eq, HLf.out.1]; exact HLf.out.2
end Go.Proofs.Ytppggnmlbcdegab.N

namespace Go.Proofs.Ytppggnmlbcdegab.N
open Go.RowKit Go.Maps
open Go.Proofs.Ytppggnmlbcdegab.T

open U (nI own_get own_slice wpList_app1 below_grown TT Out info_split)
theorem lkR_zero {gs : GL} {r : Int} (h : lkR gs r = 0) : RtG gs ∧ 0 ≤ r ∧ r < (gs.length : Int) := by
  unfold lkR at h
  by_cases h1 : (ckG gs).2 ≠ 0
  · rw [if_pos h1] at h; exact absurd h h1
  · rw [if_neg h1] at h
    by_cases h2 : r < 0 ∨ (gs.length : Int) ≤ r
    · rw [if_pos h2] at h; cases h
    · exact ⟨ckG_ok.1 (Classical.not_not.1 h1), by omega, by omega⟩
/-- What netWith answers. -/
def NwV (w w' : World) (gs : GL) (k : Int) (e : Ending) : Prop := ∃ v, e = .returned (.tuple #[v, .int .i64 k]) ∧ (k ≠ 0 → v = .slice none 0 0) ∧ (k = 0 → ∃ xs, TT w' w.heap.size 31 3 v (ntM gs) xs)
set_option maxRecDepth 100000 in
set_option maxHeartbeats 4000000 in
theorem netWith_any (gs : GL) (A : Option Addr) (c : Nat) (r : Int) (w : World) (hp : GI w A gs) :
    Calls Try.prog 15 #[.agg #[.slice A gs.length c], .int .i64 r] w fun e w' => NwV w w' gs (lkR gs r) e ∧ Below w.heap.size w w' := by
  obtain ⟨w1, hw1⟩ : ∃ w1, w1 = (w.alloc (.cells #[.slice A gs.length c] 24)) := ⟨_, rfl⟩
  have HB1 : Hid (Below w.heap.size w w1) := by show Below _ _ _; rw [hw1]; exact below_box _ _
  have HG1 : Hid (GX w1 w.heap.size (.slice A gs.length c)) := by show GX _ _ _; rw [hw1]; exact GX.mk (heap_alloc_new w _)
  have HN := (show Hid (∀ _ : Unit, Calls Try.prog 10 #[.agg #[.slice A gs.length c], .int .i64 r] w1 fun e w' => (∃ mv, e = .returned (.tuple #[mv, .int .i64 (lkR gs r)]) ∧ (lkR gs r = 0 → ∃ B, w1.heap.size ≤ B ∧ mv = .map (some B) ∧ NmM w' B gs)) ∧ Below w1.heap.size w1 w') from fun _ => numbW_any gs A c r w1 (hp.later HB1.out))
  have HP := (show Hid (GI w A gs) from hp)
  clear hp
  go_enter Try.func15, Try.ntmps15
  go_wp2_with fail
  rw [← hw1]
  refine (HN.out ()).mono ?_
  rintro e w3 ⟨⟨mv, rfl, hm⟩, b3⟩
  have HB := (show Hid (Below w.heap.size w w3) from HB1.out.trans (b3.mono HB1.out.size))
  have q1 := (HG1.out.below b3).cl
  clear HN b3 hw1 HB1 HG1
  by_cases hz : lkR gs r = 0
  · obtain ⟨B, _, rfl, hM⟩ := hm hz
    have tz : (lkR gs r != 0) = false := by rw [hz]; rfl
    have HC := (show Hid (∀ _ : Unit, Calls Try.prog 23 #[.map (some B), .agg #[.slice A gs.length c]] w3 fun e w' => (∃ v xs, e = .returned v ∧ TT w' w3.heap.size 31 3 v (ntM gs) xs) ∧ Below w3.heap.size w3 w') from fun _ => netBy_any (lkR_zero hz).1 A c B w3 (HP.out.later HB.out) hM)
    have HZ := (show Hid (lkR gs r = 0) from hz)
    clear hM hm hz HP
    generalize hcd : lkR gs r = cd at *
    have HCD := (show Hid (lkR gs r = cd) from hcd)
    clear hcd
    go_wp2_with fail
    refine (HC.out ()).mono ?_
    rintro e w4 ⟨⟨v, xs, rfl, hT⟩, b4⟩
    have HB4 := (show Hid (Below w.heap.size w w4) from HB.out.trans (b4.mono HB.out.size))
    have HT := (show Hid (TT w4 w.heap.size 31 3 v (ntM gs) xs) from hT.base HB.out.size)
    clear HC b4 hT HB
    go_wp2_with fail
    refine bodyPost_ret (v := .tuple #[v, .int .i64 0]) (by simp [results, Try.results15, go_sem]) rfl ⟨⟨v, by rw [HCD.out, HZ.out], fun q => absurd (HCD.out.trans HZ.out) q, fun _ => ⟨xs, HT.out⟩⟩, HB4.out⟩
  · have tz : (lkR gs r != 0) = true := by rw [bne, beq_eq_false_iff_ne.2 hz]; rfl
    have HZ := (show Hid (lkR gs r ≠ 0) from hz)
    clear hm hz HP
    generalize hcd : lkR gs r = cd at *
    have HCD := (show Hid (lkR gs r = cd) from hcd)
    clear hcd
    go_wp2_with fail
    refine bodyPost_ret (v := .tuple #[.slice none 0 0, .int .i64 cd]) (by simp [results, Try.results15, go_sem]) rfl ⟨⟨_, by rw [HCD.out], fun _ => rfl, fun q => absurd (HCD.out.symm.trans q) HZ.out⟩, HB.out⟩
/-- What Calls answers. -/
def clR (gs : GL) (r : Int) : List Nat := if lkR gs r = 0 then cL gs r.toNat else []
set_option maxRecDepth 100000 in
set_option maxHeartbeats 4000000 in
theorem callsP_any (gs : GL) (A : Option Addr) (c : Nat) (r : Int) (w : World) (hp : GI w A gs) :
    Calls Try.prog 7 #[.agg #[.slice A gs.length c], .int .i64 r] w fun e w' => (∃ v, e = .returned (.tuple #[v, .int .i64 (lkR gs r)]) ∧ w'.ownsRow w.heap.size 3 1 v (clR gs r).length ((clR gs r).map nI)) ∧ Below w.heap.size w w' := by
  obtain ⟨w1, hw1⟩ : ∃ w1, w1 = (w.alloc (.cells #[.slice A gs.length c] 24)) := ⟨_, rfl⟩
  have HB1 : Hid (Below w.heap.size w w1) := by show Below _ _ _; rw [hw1]; exact below_box _ _
  have HN := (show Hid (∀ _ : Unit, Calls Try.prog 15 #[.agg #[.slice A gs.length c], .int .i64 r] w1 fun e w' => NwV w1 w' gs (lkR gs r) e ∧ Below w1.heap.size w1 w') from fun _ => netWith_any gs A c r w1 (hp.later HB1.out))
  clear hp
  go_enter Try.func7, Try.ntmps7
  go_wp2_with fail
  rw [← hw1]
  refine (HN.out ()).mono ?_
  rintro e w3 ⟨⟨v, rfl, h1, h2⟩, b3⟩
  have HB := (show Hid (Below w.heap.size w w3) from HB1.out.trans (b3.mono HB1.out.size))
  by_cases hz : lkR gs r = 0
  · obtain ⟨xs, hT⟩ := h2 hz
    have tz : (lkR gs r != 0) = false := by rw [hz]; rfl
    obtain ⟨_, r0, r1⟩ := lkR_zero hz
    obtain ⟨i, rfl⟩ : ∃ i : Nat, r = (i : Int) := ⟨r.toNat, by omega⟩
    have hi : i < gs.length := by omega
    have HR := (show Hid (clR gs i = cL gs i) from by show clR gs i = _; unfold clR; rw [if_pos hz]; rfl)
    obtain ⟨x, row, hx, hrow, hox⟩ := hT.at' (i := i) (by rw [ntM_len]; exact hi)
    rw [ntM_get hi] at hrow
    cases hrow
    have hlx : xs.length = gs.length := hT.len.trans (ntM_len gs)
    obtain ⟨g0, cp, rfl, _, _, x0, _⟩ := own_get hT.o hx
    rw [hlx]
    have HO := (show Hid (w3.ownsRow w.heap.size 3 1 x (clR gs i).length ((clR gs i).map nI)) from by
      show World.ownsRow _ _ _ _ _ _ _
      rw [HR.out]
      have h := U.own_base hox HB1.out.size
      rw [List.length_map] at h
      exact h)
    have HZ := (show Hid (lkR gs i = 0) from hz)
    clear h1 h2 HN b3 hw1 HB1 hT hz hx hox hlx HR
    generalize hcd : lkR gs i = cd at *
    have HCD := (show Hid (lkR gs i = cd) from hcd)
    clear hcd
    go_wp2_with fail
    refine bodyPost_ret (v := .tuple #[x, .int .i64 0]) (by simp [results, Try.results7, go_sem]) rfl ⟨⟨x, by rw [HCD.out, HZ.out], HO.out⟩, HB.out⟩
  · obtain rfl := h1 hz
    have tz : (lkR gs r != 0) = true := by rw [bne, beq_eq_false_iff_ne.2 hz]; rfl
    have HR := (show Hid (clR gs r = []) from by show clR gs r = _; unfold clR; rw [if_neg hz])
    clear h1 h2 HN b3 hw1 HB1 hz
    generalize hcd : lkR gs r = cd at *
    have HCD := (show Hid (lkR gs r = cd) from hcd)
    clear hcd
    go_wp2_with fail
    refine bodyPost_ret (v := .tuple #[.slice none 0 0, .int .i64 cd]) (by simp [results, Try.results7, go_sem]) rfl ⟨⟨_, by rw [HCD.out], by rw [HR.out]; exact World.ownsRow_nil _ _ _ _⟩, HB.out⟩
end Go.Proofs.Ytppggnmlbcdegab.N

namespace Go.Proofs.Ytppggnmlbcdegab.N
open Go.RowKit Go.Maps
open Go.Proofs.Ytppggnmlbcdegab.T
theorem rnE_zero {gs : GL} {r : Int} {s : ByteArray} (h : rnE gs r s = 0) : lkR gs r = 0 ∧ nmB s = true ∧ (fdN gs s = -1 ∨ fdN gs s = r) := by
  unfold rnE at h
  by_cases h1 : lkR gs r ≠ 0
  · rw [if_pos h1] at h; exact absurd h h1
  · rw [if_neg h1] at h
    have h1 : lkR gs r = 0 := Classical.byContradiction h1
    by_cases h2 : nmB s = false
    · rw [if_pos h2] at h; exact absurd h (by decide)
    · rw [if_neg h2] at h
      by_cases h3 : fdN gs s ≥ 0 ∧ fdN gs s ≠ r
      · rw [if_pos h3] at h; exact absurd h (by decide)
      · refine ⟨h1, by simpa using h2, ?_⟩
        cases hf : fdG gs s with
        | none => exact .inl (fdN_none hf)
        | some i =>
          rw [fdN_some hf] at h3 ⊢
          exact .inr (Classical.byContradiction fun q => h3 ⟨by omega, q⟩)
theorem rt_sizes {gs : GL} (h : RtG gs) : ∀ g ∈ gs, g.2 ≠ [] ∧ g.2.length ≤ 2048 := fun g hg => by
  have h1 := (rt_of (h.ck g hg)).len
  have h2 := (rt_of (h.ck g hg)).one
  refine ⟨fun q => ?_, by omega⟩
  rw [q] at h2
  simp [run] at h2
end Go.Proofs.Ytppggnmlbcdegab.N

namespace Go.Proofs.Ytppggnmlbcdegab.N
open Go.RowKit Go.Maps
open Go.Proofs.Ytppggnmlbcdegab.T
/-- A call of three slots, as one step of a region that draws its order. -/
theorem step_call3 {F : Nat} (hen : ∀ args w, (callFunc F args).run Try.prog w = .ok (.enter F args) w) {ops : Array Oper} {o : Oper} {a : Act} {w : World} {K : Act → World → Prop} {Q : Exit → Act → World → Prop} {E : Prop} (hgd : o.guard = none) (x y z : Nat) (T U V : TypeId) (ho : o.op = .call { callee := .value (.func F), args := #[.tmp x, .tmp y, .tmp z], argTypes := #[T, U, V] }) (u v t : Value) (hx : a.eval (.tmp x) = u) (hy : a.eval (.tmp y) = v) (hz : a.eval (.tmp z) = t)
    (hc : Calls Try.prog F #[u, v, t] w fun e w' => ∃ r, e = .returned r ∧ K (a.put o.dst r) w') :
    if Region.wanted o (yielded ops a.tmps) = true then Oper.wp Try.prog o a w K Q else E := by
  have hw : Region.wanted o (yielded ops a.tmps) = true := by simp [Region.wanted, hgd]
  rw [if_pos hw]
  have he : (execOp a.eval o).run Try.prog w = .ok (.enter F #[u, v, t]) w := by
    have hx2 : a.tmps[x]?.getD undef = u := by simpa [Act.eval] using hx
    have hy2 : a.tmps[y]?.getD undef = v := by simpa [Act.eval] using hy
    have hz2 : a.tmps[z]?.getD undef = t := by simpa [Act.eval] using hz
    unfold execOp
    simp [ho, go_sem, invoke, hen]
    exact ⟨hx2, hy2, hz2⟩
  unfold Oper.wp
  rw [he, Oper.upon_enter]
  refine hc.mono ?_
  rintro e w' ⟨r, rfl, hk⟩
  exact hk
theorem enters52 (args : Array Value) (w : World) : (callFunc 12 args).run Try.prog w = .ok (.enter 12 args) w := enters_of Try.func12 (by kernel_rfl) rfl args w
theorem OG.base {W : World} {B B2 : Nat} {v : Value} {ov : List Rg} (h : OG W B v ov) (hb : B2 ≤ B) : OG W B2 v ov := ⟨T.own_base h.o hb, fun x hx => T.own_base (h.e x hx) hb, h.ap⟩
set_option maxRecDepth 100000 in
set_option maxHeartbeats 16000000 in
theorem renameP_yes (gs : GL) (A : Option Addr) (c : Nat) (r : Nat) (s : ByteArray) (hs : s.size ≤ 140737488355328) (w : World) (hp : GI w A gs) (h0 : rnE gs (r : Int) s = 0) :
    Calls Try.prog 4 #[.agg #[.slice A gs.length c], .int .i64 (r : Int), .string s] w fun e w' => RnA w w' e gs (r : Int) s ∧ Below w.heap.size w w' := by
  obtain ⟨hlk, hnm, hfd⟩ := rnE_zero h0
  obtain ⟨hR, _, hr1⟩ := lkR_zero hlk
  have hr : r < gs.length := by omega
  obtain ⟨g0, hg0⟩ : ∃ g0, gs[r]? = some g0 := ⟨_, List.getElem?_eq_getElem hr⟩
  have HEn := (show Hid (rnG gs (r : Int) s = gs.map (rnR g0.1 s)) from by show rnG gs (r : Int) s = _; rw [rnR_reG hR.dn hg0 rfl]; unfold rnG; rw [if_pos h0, Int.toNat_natCast, hg0]; rfl)
  have HE0 := (show Hid (rnE gs (r : Int) s = 0) from h0)
  have HA := (show Hid (RnS w ((w.alloc (.cells #[.slice A gs.length c] 24)).alloc (.cells #[.slice none 0 0] 24)) (.slice A gs.length c)) from RnS.mk2 _ _)
  have HNb := (show Hid (∀ W, Below w.heap.size w W → Calls Try.prog 10 #[.agg #[.slice A gs.length c], .int .i64 (r : Int)] W fun e w' => (∃ B, e = .returned (.tuple #[.map (some B), .int .i64 0]) ∧ NmM w' B gs) ∧ Below W.heap.size W w') from fun W hW => by
    refine (numbW_any gs A c (r : Int) W (hp.later hW)).mono ?_
    rintro e w' ⟨⟨mv, rfl, hm⟩, hb⟩
    obtain ⟨B, _, rfl, hM⟩ := hm hlk
    exact ⟨⟨B, by rw [hlk], hM⟩, hb⟩)
  have HNm := (show Hid (∀ W, Calls Try.prog 11 #[.string s] W fun e w' => e = .returned (.bool true) ∧ Below W.heap.size W w') from fun W => by rw [← hnm]; exact nameP_any s hs W)
  have H52 := (show Hid (∀ W, Below w.heap.size w W → Calls Try.prog 12 #[.agg #[.slice A gs.length c], .string g0.1, .string s] W fun e w' => (∃ v ov, e = .returned (.agg #[v]) ∧ ov.map (·.1) = gs.map (rnR g0.1 s) ∧ OG w' W.heap.size v ov) ∧ Below W.heap.size W w') from fun W hW => renamed_any gs A c g0.1 s (by omega) W (hp.later hW) hR.n2 (rt_sizes hR))
  obtain ⟨b, o, A2, c2, rfl, lb, e0, _, _⟩ := hp.d r g0 hg0
  have HB0 := (show Hid (∀ W, Below w.heap.size w W → W.cell? ⟨b, o + r * 2, none⟩ = some (.string g0.1)) from fun W hW => (hW.cell (p := ⟨b, o + r * 2, none⟩) lb).trans e0)
  have z0 : (0 : Int) ≤ (r : Int) := by omega
  have z1 : (r : Int) < (gs.length : Int) := by omega
  have q1 := HA.out.x.cl
  have HFd := (show Hid (fdG gs s = none ∨ fdG gs s = some r) from by
    cases hf : fdG gs s with
    | none => exact .inl rfl
    | some i =>
      rw [fdN_some hf] at hfd
      refine .inr ?_
      rcases hfd with q | q
      · omega
      · rw [show i = r by omega])
  have HSz := (show Hid (s.size ≤ 140737488355328) from hs)
  obtain ⟨nm0, hnm0⟩ : ∃ nm0, nm0 = g0.1 := ⟨_, rfl⟩
  rw [← hnm0] at HEn HB0 H52
  clear hp h0 hlk hnm hr1 hR e0 lb hg0 hs hfd hr hnm0
  go_enter Try.func4, Try.ntmps4
  go_wp2_with fail
  generalize (w.alloc (.cells #[.slice (some ⟨b, o, none⟩) gs.length c] 24)).alloc (.cells #[.slice none 0 0] 24) = w1 at *
  go_wp2_with fail
  refine (HNb.out _ HA.out.b).mono ?_
  rintro e w2 ⟨⟨B, rfl, hM⟩, b2⟩
  have HA2 := (show Hid (RnS w w2 (.slice (some ⟨b, o, none⟩) gs.length c)) from HA.out.later b2)
  have HM := (show Hid (NmM w2 B gs) from hM)
  clear HA q1 HNb b2 hM
  go_wp2_with fail
  refine (HNm.out _).mono ?_
  rintro e w3 ⟨rfl, b3⟩
  have HA3 := (show Hid (RnS w w3 (.slice (some ⟨b, o, none⟩) gs.length c)) from HA2.out.later b3)
  have HM3 := (show Hid (NmM w3 B gs) from HM.out.same (b3.block B HM.out.lt))
  clear HA2 HM b3 HNm
  have hD : Below w3.heap.size w3 w3.drew := (Below.refl _ _).drew
  have HAd := (show Hid (RnS w w3.drew (.slice (some ⟨b, o, none⟩) gs.length c)) from HA3.out.later hD)
  have q4 := HAd.out.x.cl
  have q5 := HB0.out _ HAd.out.b
  have HCall := (show Hid (∀ _ : Unit, Calls Try.prog 12 #[.agg #[.slice (some ⟨b, o, none⟩) gs.length c], .string nm0, .string s] w3.drew fun e w' => (∃ Av nv cv ov, e = .returned (.agg #[.slice Av nv cv]) ∧ ov.map (·.1) = gs.map (rnR nm0 s) ∧ OG w' w.heap.size (.slice Av nv cv) ov) ∧ RnS w w' (.slice (some ⟨b, o, none⟩) gs.length c)) from fun _ => by
    refine (H52.out _ HAd.out.b).mono ?_
    rintro e w' ⟨⟨v, ov, rfl, h1, h2⟩, hb⟩
    obtain ⟨Av, cv, rfl⟩ := own_sl h2.o
    exact ⟨⟨Av, _, cv, ov, rfl, h1, h2.base HAd.out.b.size⟩, HAd.out.later hb⟩)
  clear H52 HB0 HA3 hD
  obtain ⟨c0, hrun, hc0⟩ := HM3.out.look s HSz.out
  rcases HFd.out with hf | hf
  · rw [hf, Option.isSome_none] at hrun
    clear HM3 hf hc0 HFd
    go_wp2_with fail
    go_region_law (refine step_call3 enters52 rfl _ _ _ _ _ _ (by rfl) (.agg #[.slice (some ⟨b, o, none⟩) gs.length c]) (.string nm0) (.string s) (by rfl) (by rfl) (by rfl) ?_; with_reducible refine (HCall.out ()).mono ?_; rintro e w4 ⟨⟨Av, nv, cv, ov, rfl, h1, h2⟩, h3⟩; refine ⟨_, rfl, ?_⟩; have hyf := h3.y.fz; have hyc := h3.y.cl)
    all_goals
      go_wp2_with fail
      refine ret_gx2 (x := .int .i64 0) rfl rfl rfl rfl (h3.y.set _) ?_
      have key : ∀ (j : Nat), j ≠ w.heap.size + 1 → (w4.setCell ⟨w.heap.size + 1, 0, none⟩ (.slice Av nv cv)).heap[j]? = w4.heap[j]? := fun j hj => Below.heap_setCell _ _ _ _ hj
      exact ⟨⟨_, ov, by rw [HE0.out], by rw [h1, HEn.out], h2.same fun j hj => key j (h2.ne h3.y hj)⟩, h3.b.setCell (p := ⟨w.heap.size + 1, 0, none⟩) (by show w.heap.size ≤ w.heap.size + 1; omega) _⟩
  · have hc1 := hc0 r hf
    subst hc1
    rw [hf, Option.isSome_some] at hrun
    have ti : ((r : Int) != (r : Int)) = false := by simp
    clear HM3 hf hc0 HFd
    go_wp2_with fail
    go_region_law (refine step_call3 enters52 rfl _ _ _ _ _ _ (by rfl) (.agg #[.slice (some ⟨b, o, none⟩) gs.length c]) (.string nm0) (.string s) (by rfl) (by rfl) (by rfl) ?_; with_reducible refine (HCall.out ()).mono ?_; rintro e w4 ⟨⟨Av, nv, cv, ov, rfl, h1, h2⟩, h3⟩; refine ⟨_, rfl, ?_⟩; have hyf := h3.y.fz; have hyc := h3.y.cl)
    all_goals
      go_wp2_with fail
      refine ret_gx2 (x := .int .i64 0) rfl rfl rfl rfl (h3.y.set _) ?_
      have key : ∀ (j : Nat), j ≠ w.heap.size + 1 → (w4.setCell ⟨w.heap.size + 1, 0, none⟩ (.slice Av nv cv)).heap[j]? = w4.heap[j]? := fun j hj => Below.heap_setCell _ _ _ _ hj
      exact ⟨⟨_, ov, by rw [HE0.out], by rw [h1, HEn.out], h2.same fun j hj => key j (h2.ne h3.y hj)⟩, h3.b.setCell (p := ⟨w.heap.size + 1, 0, none⟩) (by show w.heap.size ≤ w.heap.size + 1; omega) _⟩
end Go.Proofs.Ytppggnmlbcdegab.N

namespace Go.Proofs.Ytppggnmlbcdegab.N
open Go.RowKit Go.Maps
open Go.Proofs.Ytppggnmlbcdegab.T
theorem fdG_dn {gs : GL} (hd : Dn gs) {j : Nat} {x : ByteArray × List Nd} (hj : gs[j]? = some x) : fdG gs x.1 = some j := fdG_of hj rfl fun i h hi hh e => by
  have := hd.d i j h x hh hj e
  omega
theorem rnE_hb {gs : GL} {r : Nat} {s : ByteArray} (h0 : rnE gs (r : Int) s = 0) : ∀ (j : Nat) (h : ByteArray × List Nd), gs[j]? = some h → h.1 = s → j = r := fun j h hj he => by
  obtain ⟨hlk, _, hfd⟩ := rnE_zero h0
  have hd := (lkR_zero hlk).1.dn
  have hf := fdG_dn hd hj
  rw [he] at hf
  rw [fdN_some hf] at hfd
  omega
theorem lkR_in {gs : GL} (h : RtG gs) {i : Nat} (hi : i < gs.length) : lkR gs (i : Int) = 0 := by
  unfold lkR
  rw [if_neg (by rw [ckG_ok.2 h]; simp), if_neg (by omega)]
theorem ren_right {gs : GL} {r : Nat} {s : ByteArray} {g0 : ByteArray × List Nd} (h0 : rnE gs (r : Int) s = 0) (hr : gs[r]? = some g0) : RtG (reG gs r g0.1 s) := reG_right (lkR_zero (rnE_zero h0).1).1 hr rfl (rnE_zero h0).2.1 (rnE_hb h0)
theorem ren_find {gs : GL} {r : Nat} {s : ByteArray} {g0 : ByteArray × List Nd} (h0 : rnE gs (r : Int) s = 0) (hr : gs[r]? = some g0) : fnR (reG gs r g0.1 s) s = ((r : Int), 0) := by
  have hR := (lkR_zero (rnE_zero h0).1).1
  have h1 := reG_find hR.dn hr rfl (rnE_hb h0) (fdG_dn hR.dn hr)
  rw [if_pos rfl] at h1
  unfold fnR
  rw [if_neg (by rw [ckG_ok.2 (ren_right h0 hr)]; simp), h1]
theorem ren_calls {gs : GL} {r : Nat} {s : ByteArray} {g0 : ByteArray × List Nd} (h0 : rnE gs (r : Int) s = 0) (hr : gs[r]? = some g0) {i : Nat} (hi : i < gs.length) : lkR gs (i : Int) = 0 ∧ lkR (reG gs r g0.1 s) (i : Int) = 0 ∧ clR (reG gs r g0.1 s) (i : Int) = clR gs (i : Int) := by
  have hR := (lkR_zero (rnE_zero h0).1).1
  have k1 := lkR_in hR hi
  have k2 := lkR_in (ren_right h0 hr) (i := i) (by rw [reG_len]; exact hi)
  refine ⟨k1, k2, ?_⟩
  unfold clR
  rw [if_pos k1, if_pos k2]
  unfold cL
  rw [reG_len]
  refine List.filter_congr fun j _ => ?_
  rw [reG_calls hR.dn hr rfl (rnE_hb h0)]
theorem nm_empty {s : ByteArray} (h : s.size = 0) : nmB s = false := nmB_f fun q => by
  have := q.1
  omega
theorem ren_back0 {gs : GL} {r : Nat} {s : ByteArray} {g0 : ByteArray × List Nd} (h0 : rnE gs (r : Int) s = 0) (hr : gs[r]? = some g0) (hz : g0.1.size = 0) : rnE (reG gs r g0.1 s) (r : Int) g0.1 = 6 :=
  (rnE_name (lkR_in (ren_right h0 hr) (by rw [reG_len]; exact (List.getElem?_eq_some_iff.1 hr).1)) (nm_empty hz)).1
theorem ren_back {gs : GL} {r : Nat} {s : ByteArray} {g0 : ByteArray × List Nd} (h0 : rnE gs (r : Int) s = 0) (hr : gs[r]? = some g0) (hz : ¬ g0.1.size = 0) : rnE (reG gs r g0.1 s) (r : Int) g0.1 = 0 ∧ rnG (reG gs r g0.1 s) (r : Int) g0.1 = gs := by
  have hR := (lkR_zero (rnE_zero h0).1).1
  have hnm : nmB g0.1 = true := by
    rcases hR.nm g0 (List.mem_of_getElem? hr) with q | q
    · exact q
    · exact absurd q.1 hz
  have hrr : (reG gs r g0.1 s)[r]? = some (s, g0.2.map (reN g0.1 s)) := by rw [reG_get, hr, Option.map_some, if_pos rfl]
  have h2 := rnE_well (s := g0.1) (lkR_in (ren_right h0 hr) (i := r) (by rw [reG_len]; exact (List.getElem?_eq_some_iff.1 hr).1)) hnm hrr (by
    rintro ⟨q1, q2⟩
    cases hf : fdG (reG gs r g0.1 s) g0.1 with
    | none => rw [fdN_none hf] at q1; omega
    | some k =>
      rw [fdN_some hf] at q2
      obtain ⟨x, hx, he, _⟩ := fdG_some hf
      rw [reG_get] at hx
      cases hk : gs[k]? with
      | none => rw [hk] at hx; cases hx
      | some y =>
        rw [hk] at hx
        cases hx
        have he : (if k = r then s else y.1) = g0.1 := he
        by_cases q : k = r
        · exact q2 (by rw [q])
        · rw [if_neg q] at he
          exact q (hR.dn.d k r y g0 hk hr he))
  exact ⟨h2.1, h2.2.trans (reG_back hR.dn hr rfl (rnE_hb h0))⟩
theorem ren_sizes {gs : GL} {r : Nat} {a s : ByteArray} (hs : s.size ≤ 140737488355328) (ht : ∀ g ∈ gs, g.1.size ≤ 140737488355328 ∧ g.2.length ≤ 140737488355328 ∧ ∀ n ∈ g.2, n.tx.size ≤ 140737488355328) : ∀ g ∈ reG gs r a s, g.1.size ≤ 140737488355328 ∧ g.2.length ≤ 140737488355328 ∧ ∀ n ∈ g.2, n.tx.size ≤ 140737488355328 := fun g hg => by
  obtain ⟨k, hk⟩ := List.getElem?_of_mem hg
  rw [reG_get] at hk
  cases hx : gs[k]? with
  | none => rw [hx] at hk; cases hk
  | some x =>
    rw [hx] at hk
    cases hk
    obtain ⟨t1, t2, t3⟩ := ht x (List.mem_of_getElem? hx)
    refine ⟨?_, by show (List.map _ _).length ≤ _; rw [List.length_map]; exact t2, fun n hn => ?_⟩
    · show (if k = r then s else x.1).size ≤ _
      split
      · exact hs
      · exact t1
    · obtain ⟨m, hm, rfl⟩ := List.mem_map.1 hn
      unfold reN
      split
      · exact hs
      · exact t3 m hm
end Go.Proofs.Ytppggnmlbcdegab.N

namespace Go.Proofs.Ytppggnmlbcdegab.N
open Go.RowKit Go.Maps
open Go.Proofs.Ytppggnmlbcdegab.T
theorem nmB_s : nmB ⟨#[115]⟩ = true := by kernel_rfl
theorem ckG_one : ckG [((⟨#[115]⟩ : ByteArray), [zN 3])] = ((0, 0), 0) := by
  have h1 : c1G [((⟨#[115]⟩ : ByteArray), [zN 3])] 0 0 [((⟨#[115]⟩ : ByteArray), [zN 3])] = ((0, 0), 0) := by
    rw [c1G, if_neg (fun q => q (.inl nmB_s)), if_neg, if_neg (by rw [ck_any1]; decide), if_neg (by show ¬ 2048 < 0 + 1; decide), c1G]
    unfold tw
    have : fdG [((⟨#[115]⟩ : ByteArray), [zN 3])] ⟨#[115]⟩ = some 0 := by rw [fdG, if_pos rfl]
    rw [this]
    decide
  rw [ckG_un (by decide) (by decide) h1, unG_cons]
  have : unN [((⟨#[115]⟩ : ByteArray), [zN 3])] 0 [zN 3] = none := by
    rw [unN_cons, if_neg (by rintro ⟨q, _⟩; exact absurd q (show ¬ (3 : Int) = 6 by decide))]
    rfl
  rw [this]
  rfl
theorem ckG_nil : ckG [] = ((0, 0), 3) := rfl
theorem gi_one (w : World) : GI ((w.alloc (ndO (zN 3))).alloc (.cells #[.string ⟨#[115]⟩, .slice (some ⟨w.heap.size, 0, none⟩) 1 1] 38)) (some ⟨w.heap.size + 1, 0, none⟩) [((⟨#[115]⟩ : ByteArray), [zN 3])] := by
  have hr : RB ((w.alloc (ndO (zN 3))).alloc (.cells #[.string ⟨#[115]⟩, .slice (some ⟨w.heap.size, 0, none⟩) 1 1] 38)) (w.heap.size + 1) ⟨#[115]⟩ (.slice (some ⟨w.heap.size, 0, none⟩) 1 1) := ⟨by
    have h := heap_alloc_new (w.alloc (ndO (zN 3))) (.cells #[.string ⟨#[115]⟩, .slice (some ⟨w.heap.size, 0, none⟩) 1 1] 38)
    rw [World.size_alloc] at h
    exact h⟩
  refine ⟨fun k g hg => ?_, by show 1 ≤ _; omega, fun g hg => ?_⟩
  · cases k with
    | succ k => simp at hg
    | zero =>
      cases hg
      exact ⟨w.heap.size + 1, 0, some ⟨w.heap.size, 0, none⟩, 1, rfl, hr.lt, hr.c0, hr.c1, (rd_one w (zN 3)).below (below_box _ _) (Nat.le_refl _)⟩
  · rw [List.mem_singleton] at hg
    subst hg
    exact ⟨by show 1 ≤ _; omega, one_len _, one_tx 3⟩
theorem gi_nil (w : World) : GI w none [] := ⟨fun k g hg => by simp at hg, by show 0 ≤ _; omega, fun g hg => by cases hg⟩
set_option maxRecDepth 100000 in
set_option maxHeartbeats 4000000 in
theorem lives_any (w : World) : Calls Try.prog 5 #[] w fun e w' => e = .returned (.bool true) ∧ Below w.heap.size w w' := by
  obtain ⟨w2, hw2⟩ : ∃ w2, w2 = (w.alloc (ndO (zN 3))).alloc (.cells #[.string ⟨#[115]⟩, .slice (some ⟨w.heap.size, 0, none⟩) 1 1] 38) := ⟨_, rfl⟩
  have HB2 : Hid (Below w.heap.size w w2) := by show Below _ _ _; rw [hw2]; exact (below_box w _).alloc (below_box w _).size _
  have H1 : Hid (∀ _ : Unit, Calls Try.prog 13 #[.agg #[.slice (some ⟨w.heap.size + 1, 0, none⟩) 1 1]] w2 fun e w' => e = .returned (.tuple #[.agg #[.int .i64 0, .int .i64 0], .int .i64 0]) ∧ Below w2.heap.size w2 w') := fun _ => by
    have h := checkP_any [((⟨#[115]⟩ : ByteArray), [zN 3])] (some ⟨w.heap.size + 1, 0, none⟩) 1 w2 (by rw [hw2]; exact gi_one w)
    rw [ckG_one] at h
    exact h
  have H2 : Hid (∀ W : World, Calls Try.prog 13 #[.agg #[.slice none 0 0]] W fun e w' => e = .returned (.tuple #[.agg #[.int .i64 0, .int .i64 0], .int .i64 3]) ∧ Below W.heap.size W w') := fun W => by
    have h := checkP_any [] none 0 W (gi_nil W)
    rw [ckG_nil] at h
    exact h
  have H3 : Hid (∀ W : World, Calls Try.prog 11 #[.string ⟨#[115]⟩] W fun e w' => e = .returned (.bool true) ∧ Below W.heap.size W w') := fun W => by
    have h := nameP_any ⟨#[115]⟩ (by show 1 ≤ _; omega) W
    rw [nmB_s] at h
    exact h
  go_enter Try.func5, Try.ntmps5
  go_wp2_with fail
  have e2 : (w.alloc (ndO (zN 3))).alloc (.cells #[.string ⟨#[115]⟩, .slice (some ⟨w.heap.size, 0, none⟩) 1 1] 38) = w2 := hw2.symm
  unfold zN ndO at e2
  rw [e2]
  clear e2 hw2
  refine (H1.out ()).mono ?_
  rintro e w3 ⟨rfl, b3⟩
  have HB3 := (show Hid (Below w.heap.size w w3) from HB2.out.trans (b3.mono HB2.out.size))
  clear b3 HB2 H1
  have HB4 := (show Hid (Below w.heap.size w (w3.alloc (.cells #[.int .i64 0, .int .i64 0] 48))) from HB3.out.alloc HB3.out.size _)
  clear HB3
  go_wp2_with fail
  refine (H2.out _).mono ?_
  rintro e w5 ⟨rfl, b5⟩
  have HB5 := (show Hid (Below w.heap.size w w5) from HB4.out.trans (b5.mono HB4.out.size))
  clear b5 HB4 H2
  have HB6 := (show Hid (Below w.heap.size w (w5.alloc (.cells #[.int .i64 0, .int .i64 0] 48))) from HB5.out.alloc HB5.out.size _)
  clear HB5
  go_wp2_with fail
  refine (H3.out _).mono ?_
  rintro e w7 ⟨rfl, b7⟩
  have HB7 := (show Hid (Below w.heap.size w w7) from HB6.out.trans (b7.mono HB6.out.size))
  clear b7 HB6 H3
  go_wp2_with fail
  go_ret
  exact ⟨rfl, HB7.out⟩
end Go.Proofs.Ytppggnmlbcdegab.N

namespace Go.Proofs.Ytppggnmlbcdegab.N
open Go.RowKit Go.Maps
open Go.Proofs.Ytppggnmlbcdegab.T

open U (nI own_get own_slice wpList_app1 below_grown TT Out info_split)
set_option maxRecDepth 100000 in
set_option maxHeartbeats 4000000 in
theorem sameI_any (v1 v2 : Value) (B1 B2 n : Nat) (l : List Nat) (hl : n ≤ 100000) (w : World) (h1 : w.ownsRow B1 3 1 v1 n (l.map nI)) (h2 : w.ownsRow B2 3 1 v2 n (l.map nI)) :
    Calls Try.prog 8 #[v1, v2] w fun e w' => e = .returned (.bool true) ∧ Below w.heap.size w w' := by
  have form : ∀ (v : Value) (B : Nat), w.ownsRow B 3 1 v n (l.map nI) → ∃ A c, v = .slice A n c ∧ (0 < n → ∃ g, A = some ⟨g, 0, none⟩ ∧ g < w.heap.size ∧ ∀ (j : Nat) (x : Nat), l[j]? = some x → w.cell? ⟨g, j, none⟩ = some (nI x)) := fun v B h => by
    have hc := h
    rcases h.2 with ⟨rfl, h0⟩ | ⟨g, cap, cur, rfl, _⟩
    · exact ⟨none, 0, by rw [h0], fun q => by omega⟩
    · refine ⟨_, cap, rfl, fun _ => ⟨g, rfl, (hc.lt g rfl).2, fun j x hj => ?_⟩⟩
      have := hc.cells (g := g) rfl j (nI x) (by rw [List.getElem?_map, hj]; rfl)
      rwa [Addr.add_lit, Nat.zero_add] at this
  obtain ⟨A1, c1, rfl, f1⟩ := form v1 B1 h1
  obtain ⟨A2, c2, rfl, f2⟩ := form v2 B2 h2
  have hll : l.length = n := by have := h1.1; rw [List.length_map] at this; omega
  have H1 := (show Hid _ from f1)
  have H2 := (show Hid _ from f2)
  have HG := (show Hid (∀ k, k < n → ∃ x, l[k]? = some x) from fun k hk => ⟨_, List.getElem?_eq_getElem (by omega)⟩)
  clear h1 h2 form f1 f2 hll
  go_enter Try.func8, Try.ntmps8
  go_wp2_with fail
  go_loopw [5] (fun t wr => ∃ k : Nat, k ≤ n ∧ t = .int .i64 k ∧ Hid (Below w.heap.size w wr)) (fun t _ => n - (intOf t).toNat)
  case atStart => exact ⟨0, by omega, by go_num, Below.refl _ _⟩
  case round =>
    obtain ⟨k, hk, rfl, HW⟩ := hrel
    by_cases hlt : k < n
    · obtain ⟨x, hx⟩ := HG.out k hlt
      obtain ⟨g1, rfl, l1, q1⟩ := H1.out (by omega)
      obtain ⟨g2, rfl, l2, q2⟩ := H2.out (by omega)
      have e1 := (HW.out.cell (p := ⟨g1, k, none⟩) l1).trans (q1 k x hx)
      have e2 := (HW.out.cell (p := ⟨g2, k, none⟩) l2).trans (q2 k x hx)
      have z0 : (0 : Int) ≤ (k : Int) := by omega
      have z1 : (k : Int) < (n : Int) := by omega
      unfold nI at e1 e2
      clear HG H1 H2 q1 q2 hx
      go_wp2_with fail
      go_quiet (fail)
      have HW2 := (show Hid (Below w.heap.size w (wr.drewN nq)) from HW.out.trans (below_drewN (Below.refl _ _) _))
      generalize wr.drewN nq = w2 at *
      clear e1 e2 HW
      go_wp2
      go_roundw
      case rel => exact ⟨k + 1, by omega, by go_num, HW2⟩
      case measure => simp [intOf]; omega
    · obtain rfl : k = n := by omega
      clear HG H1 H2
      go_wp2
      go_ret
      exact ⟨rfl, HW.out⟩
end Go.Proofs.Ytppggnmlbcdegab.N

namespace Go.Proofs.Ytppggnmlbcdegab.N
open Go.RowKit Go.Maps
open Go.Proofs.Ytppggnmlbcdegab.T
set_option maxRecDepth 100000 in
set_option maxHeartbeats 8000000 in
/-- The program's Rename where it refuses. -/
theorem renameP_no (gs : GL) (A : Option Addr) (c : Nat) (r : Int) (s : ByteArray) (hs : s.size ≤ 140737488355328) (w : World) (hp : GI w A gs) (hn : ¬ rnE gs r s = 0) :
    Calls Try.prog 4 #[.agg #[.slice A gs.length c], .int .i64 r, .string s] w fun e w' => RnA w w' e gs r s ∧ Below w.heap.size w w' := by
  have HA := (show Hid (RnS w ((w.alloc (.cells #[.slice A gs.length c] 24)).alloc (.cells #[.slice none 0 0] 24)) (.slice A gs.length c)) from RnS.mk2 _ _)
  have HP := (show Hid (GI w A gs) from hp)
  have HNb := (show Hid (∀ W, Below w.heap.size w W → Calls Try.prog 10 #[.agg #[.slice A gs.length c], .int .i64 r] W fun e w' => (∃ mv, e = .returned (.tuple #[mv, .int .i64 (lkR gs r)]) ∧ (lkR gs r = 0 → ∃ B, W.heap.size ≤ B ∧ mv = .map (some B) ∧ NmM w' B gs)) ∧ Below W.heap.size W w') from fun W hW => numbW_any gs A c r W (HP.out.later hW))
  have HNm := (show Hid (∀ W, Calls Try.prog 11 #[.string s] W fun e w' => e = .returned (.bool (nmB s)) ∧ Below W.heap.size W w') from fun W => nameP_any s hs W)
  have q1 := HA.out.x.cl
  clear hp HP
  go_enter Try.func4, Try.ntmps4
  go_wp2_with fail
  generalize (w.alloc (.cells #[.slice A gs.length c] 24)).alloc (.cells #[.slice none 0 0] 24) = w1 at *
  go_wp2_with fail
  refine (HNb.out _ HA.out.b).mono ?_
  rintro e w2 ⟨⟨mv, rfl, hm⟩, b2⟩
  have HA2 := (show Hid (RnS w w2 (.slice A gs.length c)) from HA.out.later b2)
  clear HA q1 HNb b2
  by_cases hz : lkR gs r = 0
  · obtain ⟨B, hB, rfl, hM⟩ := hm hz
    have HM := (show Hid (NmM w2 B gs) from hM)
    have tz : (lkR gs r != 0) = false := by rw [hz]; rfl
    have HZ := (show Hid (lkR gs r = 0) from hz)
    clear hm hM hz hB
    have HZ2 := HZ
    rw [HZ.out] at tz ⊢
    clear HZ2
    go_wp2_with fail
    refine (HNm.out _).mono ?_
    rintro e w3 ⟨rfl, b3⟩
    have HA3 := (show Hid (RnS w w3 (.slice A gs.length c)) from HA2.out.later b3)
    have HM3 := (show Hid (NmM w3 B gs) from HM.out.same (b3.block B HM.out.lt))
    clear HA2 HM b3 HNm tz
    cases hb : nmB s with
    | false =>
      have HE := (show Hid _ from rnE_name HZ.out hb)
      have hyf := HA3.out.y.fz
      have hyc := HA3.out.y.cl
      clear HM3 HZ hn
      go_wp2_with fail
      refine ret_gx2 rfl rfl rfl rfl (HA3.out.y.set _) ?_
      exact ⟨RnA.none HE.out, HA3.out.b.setCell (p := ⟨w.heap.size + 1, 0, none⟩) (by show w.heap.size ≤ w.heap.size + 1; omega) _⟩
    | true =>
      obtain ⟨i, hf, hir⟩ : ∃ i : Nat, fdG gs s = some i ∧ (i : Int) ≠ r := by
        refine Classical.byContradiction fun q => hn ?_
        unfold rnE
        rw [if_neg (fun z => z HZ.out), if_neg (by rw [hb]; exact Bool.noConfusion), if_neg]
        rintro ⟨z1, z2⟩
        cases hf : fdG gs s with
        | none => rw [fdN_none hf] at z1; omega
        | some i => rw [fdN_some hf] at z2; exact q ⟨i, hf, z2⟩
      have HE := (show Hid _ from rnE_twice HZ.out hb (by rw [fdN_some hf]; omega) (by rw [fdN_some hf]; exact hir))
      obtain ⟨c0, hrun, hc0⟩ := HM3.out.look s hs
      obtain rfl := hc0 i hf
      rw [hf, Option.isSome_some] at hrun
      have ti : ((i : Int) != r) = true := by rw [bne, beq_eq_false_iff_ne.2 hir]; rfl
      have hyf := HA3.out.y.fz
      have hyc := HA3.out.y.cl
      clear HM3 HZ hn hf hc0 hir
      go_wp2_with fail
      refine ret_gx2 rfl rfl rfl rfl (HA3.out.y.set _) ?_
      exact ⟨RnA.none HE.out, HA3.out.b.setCell (p := ⟨w.heap.size + 1, 0, none⟩) (by show w.heap.size ≤ w.heap.size + 1; omega) _⟩
  · have tz : (lkR gs r != 0) = true := by rw [bne, beq_eq_false_iff_ne.2 hz]; rfl
    have HE := (show Hid _ from rnE_bad (s := s) hz)
    have hyf := HA2.out.y.fz
    have hyc := HA2.out.y.cl
    clear hm hz HNm
    generalize lkR gs r = cd at *
    go_wp2_with fail
    refine ret_gx2 rfl rfl rfl rfl (HA2.out.y.set _) ?_
    exact ⟨RnA.none HE.out, HA2.out.b.setCell (p := ⟨w.heap.size + 1, 0, none⟩) (by show w.heap.size ≤ w.heap.size + 1; omega) _⟩
end Go.Proofs.Ytppggnmlbcdegab.N
