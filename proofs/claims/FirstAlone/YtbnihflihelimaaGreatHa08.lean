/- DERIVED. Plain mathematics and walks, laid together (8). -/
import Derived.Shelf.Sort.AssemblyIn
import Derived.Sort.EveryDepth
import Derived.Test.YtbnihflihelimaaGreatProg
import Derived.Shelf.Slices.In.SortNone
import Derived.Sort.OwnSortedInts
import Derived.Maps.Range
import Derived.Maps.Views
import Derived.Sort.KeysCollected
import Derived.Laws.OwnMore
import Derived.Deep.LoopGhost
import Derived.Test.YtbnihflihelimaaGreatHa07
namespace Go.Proofs
open Go.Shelf
def Tryz.lays189_ren : Go.Shelf.Ren := ⟨fun | 189 => 135 | 125 => 137 | 257 => 136 | 128 => 147 | 129 => 148 | 294 => 138 | 295 => 139 | 296 => 140 | 297 => 141 | 298 => 142 | 299 => 143 | 216 => 144 | 300 => 145 | 301 => 146 | 328 => 149 | 329 => 150 | 330 => 151 | 331 => 152 | 332 => 153 | 215 => 154 | 343 => 155 | n => n, fun | 28 => 108 | 3 => 3 | 46 => 137 | 0 => 0 | 51 => 181 | 53 => 32 | 4 => 4 | 183 => 174 | 182 => 173 | 131 => 102 | 5 => 5 | 9 => 9 | 218 => 183 | 222 => 187 | 228 => 190 | 229 => 191 | n => n, fun | n => n⟩
theorem Tryz.lays189 : Go.Proofs.Lays.n189 Tryz.prog Tryz.lays189_ren := {
  mixed := by kernel_rfl
  f125 := Tryz.func137.trans (congrArg some (by kernel_rfl))
  f128 := Tryz.func147.trans (congrArg some (by kernel_rfl))
  f129 := Tryz.func148.trans (congrArg some (by kernel_rfl))
  f189 := Tryz.func135.trans (congrArg some (by kernel_rfl))
  f215 := Tryz.func154.trans (congrArg some (by kernel_rfl))
  f216 := Tryz.func144.trans (congrArg some (by kernel_rfl))
  f257 := Tryz.func136.trans (congrArg some (by kernel_rfl))
  f294 := Tryz.func138.trans (congrArg some (by kernel_rfl))
  f295 := Tryz.func139.trans (congrArg some (by kernel_rfl))
  f296 := Tryz.func140.trans (congrArg some (by kernel_rfl))
  f297 := Tryz.func141.trans (congrArg some (by kernel_rfl))
  f298 := Tryz.func142.trans (congrArg some (by kernel_rfl))
  f299 := Tryz.func143.trans (congrArg some (by kernel_rfl))
  f300 := Tryz.func145.trans (congrArg some (by kernel_rfl))
  f301 := Tryz.func146.trans (congrArg some (by kernel_rfl))
  f328 := Tryz.func149.trans (congrArg some (by kernel_rfl))
  f329 := Tryz.func150.trans (congrArg some (by kernel_rfl))
  f330 := Tryz.func151.trans (congrArg some (by kernel_rfl))
  f331 := Tryz.func152.trans (congrArg some (by kernel_rfl))
  f332 := Tryz.func153.trans (congrArg some (by kernel_rfl))
  f343 := Tryz.func155.trans (congrArg some (by kernel_rfl))
  t0 := Tryz.underlying0
  a0 := Tryz.isAgg0
  z0 := Tryz.sizeOf0
  v0 := Tryz.zeroValue0
  t3 := Tryz.underlying3
  a3 := Tryz.isAgg3
  z3 := Tryz.sizeOf3
  v3 := Tryz.zeroValue3
  t4 := Tryz.underlying4
  a4 := Tryz.isAgg4
  z4 := Tryz.sizeOf4
  v4 := Tryz.zeroValue4
  t5 := Tryz.underlying5
  a5 := Tryz.isAgg5
  z5 := Tryz.sizeOf5
  v5 := Tryz.zeroValue5
  t9 := Tryz.underlying9
  a9 := Tryz.isAgg9
  z9 := Tryz.sizeOf9
  v9 := Tryz.zeroValue9
  t28 := Tryz.underlying108
  a28 := Tryz.isAgg108
  z28 := Tryz.sizeOf108
  v28 := Tryz.zeroValue108
  t46 := Tryz.underlying137
  a46 := Tryz.isAgg137
  z46 := Tryz.sizeOf137
  v46 := Tryz.zeroValue137
  t51 := Tryz.underlying181
  a51 := Tryz.isAgg181
  z51 := Tryz.sizeOf181
  v51 := Tryz.zeroValue181
  t53 := Tryz.underlying32
  a53 := Tryz.isAgg32
  z53 := Tryz.sizeOf32
  v53 := Tryz.zeroValue32
  t131 := Tryz.underlying102
  a131 := Tryz.isAgg102
  z131 := Tryz.sizeOf102
  v131 := Tryz.zeroValue102
  t182 := Tryz.underlying173
  a182 := Tryz.isAgg173
  z182 := Tryz.sizeOf173
  v182 := Tryz.zeroValue173
  t183 := Tryz.underlying174
  a183 := Tryz.isAgg174
  z183 := Tryz.sizeOf174
  v183 := Tryz.zeroValue174
  t218 := Tryz.underlying183
  a218 := Tryz.isAgg183
  z218 := Tryz.sizeOf183
  v218 := Tryz.zeroValue183
  t222 := Tryz.underlying187
  a222 := Tryz.isAgg187
  z222 := Tryz.sizeOf187
  v222 := Tryz.zeroValue187
  t228 := Tryz.underlying190
  a228 := Tryz.isAgg190
  z228 := Tryz.sizeOf190
  v228 := Tryz.zeroValue190
  t229 := Tryz.underlying191
  a229 := Tryz.isAgg191
  z229 := Tryz.sizeOf191
  v229 := Tryz.zeroValue191 }
end Go.Proofs

namespace Go.Proofs.YtbnihflihelimaaGreat.N
open Go.RowKit Go.Maps
open Go.Proofs.YtbnihflihelimaaGreat.T
theorem sortI_any {w : World} {base n : Nat} {v : Value} {zs : List Int} (hn : n = zs.length) (hl : zs.length ≤ 1000000) (h : w.ownsRow base 3 1 v n (zs.map (Value.int .i64))) :
    Calls Tryz.prog 135 #[v] w fun e w' => e = .returned (.tuple #[]) ∧ w'.ownsRow base 3 1 v n ((zs.mergeSort fun x y => decide (x ≤ y)).map (Value.int .i64)) ∧ w.grownBy w' v.ownBlock := by
  subst hn
  rcases h.2 with ⟨rfl, h0⟩ | ⟨g, cap, cur, rfl, hb, hg, h1, h2, h3, h4⟩
  · have hz : zs = [] := List.eq_nil_of_length_eq_zero h0
    subst hz
    refine (Any.slices_Sort_int_none Tryz.lays189 none 0 w).mono ?_
    rintro e w' ⟨rfl, rfl⟩
    exact ⟨rfl, by rw [List.mergeSort_nil]; exact World.ownsRow_nil _ _ _ _, World.grownBy.refl _ _⟩
  · have hH := Go.holds_of_blockI hg (ss := zs) (by rw [← h4, Nat.mul_one])
    refine (calls_of_every_depth fun D => AnyS.slices_Sort_int_in Tryz.lays189 D g 0 cap zs w hH (Array.getElem?_eq_some_iff.1 hg).1 (by omega)).mono ?_
    rintro e w' ⟨rfl, k, os, rfl⟩
    exact ⟨rfl, ownsRow_sortedI (by rw [List.length_mergeSort]) hb hg h1 h2 h3, grownBy_sortedI _⟩
open U (nI own_get own_slice wpList_app1 below_grown)
/-- While the numbers of names are laid down. -/
structure ClS (w wr : World) (gs : GL) (ns : List ByteArray) (v u : Value) (l : List Nat) : Prop where
  b : Below w.heap.size w wr
  o : wr.ownsRow w.heap.size 9 1 v ns.length (stc ns)
  r : wr.ownsRow w.heap.size 3 1 u l.length (l.map nI)
  x : ∀ (j : Nat) s, j < l.length → ns[j]? = some s → ∃ i, l[j]? = some i ∧ fdG gs s = some i
theorem nI_map (l : List Nat) : l.map nI = (l.map fun (x : Nat) => (x : Int)).map (Value.int .i64) := by rw [List.map_map]; rfl
theorem ClS.push {w wr w5 : World} {gs : GL} {ns : List ByteArray} {v u u' : Value} {l : List Nat} {s : ByteArray} {i : Nat} (h : ClS w wr gs ns v u l) (hs : ns[l.length]? = some s) (hf : fdG gs s = some i) (ho : w5.ownsRow w.heap.size 3 1 u' (l.length + 1) (l.map nI ++ [nI i])) (hg : wr.grownBy w5 u.ownBlock) : ClS w w5 gs ns v u' (l ++ [i]) := by
  refine ⟨below_grown h.b hg (fun k e => (h.r.lt k e).1), U.own_kept h.o hg (fun k e => own_apart h.r h.o (by decide) e), ?_, fun j t hj ht => ?_⟩
  · rw [List.length_append, List.map_append]; exact ho
  · rw [List.length_append] at hj
    by_cases q : j < l.length
    · obtain ⟨a, a1, a2⟩ := h.x j t q ht
      exact ⟨a, by rw [List.getElem?_append_left q]; exact a1, a2⟩
    · have e : j = l.length := by simp at hj; omega
      subst e
      rw [hs] at ht
      cases ht
      exact ⟨i, by rw [List.getElem?_append_right (Nat.le_refl _), Nat.sub_self]; rfl, hf⟩
theorem ClS.sorted {w wr : World} {gs : GL} {ns : List ByteArray} {v u : Value} {l : List Nat} {r : Nat} (h : ClS w wr gs ns v u l) (hl : l.length = ns.length) (hn : ns.length ≤ 2048)
    (hF : ∀ l : List Nat, l.length = ns.length → (∀ (k : Nat) s, ns[k]? = some s → ∃ j, l[k]? = some j ∧ fdG gs s = some j) → (l.map fun (x : Nat) => (x : Int)).mergeSort (fun x y => decide (x ≤ y)) = (cL gs r).map fun (x : Nat) => (x : Int)) :
    Calls Tryz.prog 135 #[u] wr fun e w' => e = .returned (.tuple #[]) ∧ w'.ownsRow w.heap.size 3 1 u (cL gs r).length ((cL gs r).map nI) ∧ Below w.heap.size w w' := by
  have h1 := h.r
  rw [nI_map] at h1
  have hs := hF l hl (fun j s hs => h.x j s (by have := (List.getElem?_eq_some_iff.1 hs).1; omega) hs)
  have hlen : (cL gs r).length = l.length := by
    have := congrArg List.length hs
    rw [List.length_mergeSort, List.length_map, List.length_map] at this
    exact this.symm
  refine (sortI_any (zs := l.map fun (x : Nat) => (x : Int)) (by rw [List.length_map]) (by rw [List.length_map]; omega) h1).mono ?_
  rintro e w' ⟨rfl, h2, h3⟩
  rw [hs, ← nI_map] at h2
  rw [hlen]
  exact ⟨rfl, h2, below_grown h.b h3 (fun k e => (h.r.lt k e).1)⟩
set_option maxRecDepth 100000 in
set_option maxHeartbeats 8000000 in
theorem calledBy_any {gs : GL} (hR : RtG gs) {r : Nat} {g : ByteArray × List Nd} (hgr : gs[r]? = some g) (A : Option Addr) (c B : Nat) (hL : g.2.length ≤ 2048) (hT : ∀ n ∈ g.2, n.tx.size ≤ 140737488355328) (w : World) (hp : RdN w A g.2) (hm : NmM w B gs) :
    Calls Tryz.prog 132 #[.slice A g.2.length c, .map (some B)] w fun e w' => (∃ v, e = .returned v ∧ w'.ownsRow w.heap.size 3 1 v (cL gs r).length ((cL gs r).map nI)) ∧ Below w.heap.size w w' := by
  have hck : (ck g.2).2 = 0 := hR.ck g (List.mem_of_getElem? hgr)
  have hnE : nmE g.2 = nmL g.2 g.2.length := by unfold nmE; rw [if_pos hck]
  obtain ⟨ns, hns⟩ : ∃ ns, ns = nmL g.2 g.2.length := ⟨_, rfl⟩
  have HN : Hid (∀ _ : Unit, Calls Tryz.prog 47 #[.slice A g.2.length c] w fun e w' => (∃ v, e = .returned (.tuple #[v, .int .i64 (ck g.2).2]) ∧ w'.ownsRow w.heap.size 9 1 v ns.length (stc ns)) ∧ Below w.heap.size w w') := fun _ => by
    have h := names_any g.2 A c (by omega) hT w hp
    unfold NmV at h
    rw [hnE, ← hns] at h
    exact h
  have HKn := (show Hid (∀ k, k < ns.length → ∃ s i, ns[k]? = some s ∧ s.size ≤ 140737488355328 ∧ fdG gs s = some i ∧ i < gs.length) from fun k hk => by
    have hs : ns[k]? = some ns[k] := List.getElem?_eq_getElem hk
    have hmem : ns[k] ∈ nmL g.2 g.2.length := by rw [← hns]; exact List.getElem_mem hk
    obtain ⟨n, n1, n2, n3⟩ := nmL_all.1 hmem
    obtain ⟨i, hi⟩ := hR.dn.c g (List.mem_of_getElem? hgr) n n1 n2
    exact ⟨ns[k], i, hs, by rw [← n3]; exact hT n n1, by rw [← n3]; exact hi, fdG_lt hi⟩)
  have hnl : ns.length ≤ 2048 := by rw [hns]; have := nmL_len g.2 g.2.length; omega
  have hg200 : gs.length ≤ 200 := hR.n2
  have HFin := (show Hid (∀ l : List Nat, l.length = ns.length → (∀ (k : Nat) s, ns[k]? = some s → ∃ j, l[k]? = some j ∧ fdG gs s = some j) → (l.map fun (x : Nat) => (x : Int)).mergeSort (fun x y => decide (x ≤ y)) = (cL gs r).map fun (x : Nat) => (x : Int)) from fun l h1 h2 => called_sort hR hgr (by rw [← hns]; exact h1) (by rw [← hns]; exact h2))
  have HM := (show Hid (NmM w B gs) from hm)
  clear hp hm hT hck hnE hns hR hgr
  go_enter Tryz.func132, Tryz.ntmps132
  go_wp2_with fail
  refine (HN.out ()).mono ?_
  rintro e w1 ⟨⟨v, rfl, ho⟩, b1⟩
  obtain ⟨A1, c1, rfl⟩ := own_slice ho
  have HS := (show Hid (ClS w w1 gs ns (.slice A1 ns.length c1) (.slice none 0 0) []) from ⟨b1, ho, World.ownsRow_nil _ _ _ _, fun j s hj => by cases hj⟩)
  clear HN b1 ho
  generalize (ck g.2).2 = cd at *
  go_wp2_with fail
  go_loopw [7, 17] (fun u t wr => ∃ (k : Nat) (l : List Nat) (A2 : Option Addr) (c2 : Nat), k ≤ ns.length ∧ t = .int .i64 (k : Int) ∧ u = .slice A2 k c2 ∧ Hid (l.length = k) ∧ Hid (ClS w wr gs ns (.slice A1 ns.length c1) (.slice A2 k c2) l)) (fun _ t _ => ns.length - (intOf t).toNat)
  case atStart => exact ⟨0, [], none, 0, by omega, by go_num, rfl, rfl, HS⟩
  case round =>
    obtain ⟨k, l, A2, c2, hk, rfl, rfl, HLk, HW⟩ := hrel
    clear HS
    by_cases hlt : k < ns.length
    · obtain ⟨s, i, hs, hsz, hf, hi⟩ := HKn.out k hlt
      obtain ⟨g1, cap1, e1, lb1, l1, x1, _⟩ := own_get HW.out.o (j := k) (x := .string s) (by unfold stc; rw [List.getElem?_map, hs]; rfl)
      cases e1
      have hrun : (Instr.lookup 52 (.map (some B)) (.string s) false).run Tryz.prog wr = .ok (.int .i64 i) wr := NmM.look0 (HM.out.same (HW.out.b.block B HM.out.lt)) hsz hf
      have z0 : (0 : Int) ≤ (k : Int) := by omega
      have z1 : (k : Int) < (ns.length : Int) := by omega
      have HO := (show Hid (wr.ownsRow w.heap.size 3 1 (.slice A2 k c2) k (l.map nI)) from by have h := HW.out.r; rw [HLk.out] at h; exact h)
      have HBw := (show Hid (w.heap.size ≤ wr.heap.size) from HW.out.b.size)
      have HPu := (show Hid (∀ (u' : Value) (w5 : World), w5.ownsRow w.heap.size 3 1 u' (k + 1) (l.map nI ++ [nI i]) → wr.grownBy w5 (Value.slice A2 k c2).ownBlock → ClS w w5 gs ns (.slice (some ⟨g1, 0, none⟩) ns.length c1) u' (l ++ [i])) from fun u' w5 h1 h2 => HW.out.push (by rw [HLk.out]; exact hs) hf (by rw [HLk.out]; exact h1) h2)
      have HL2 := (show Hid ((l ++ [i]).length = k + 1) from by show _ = _; rw [List.length_append, HLk.out]; rfl)
      clear HW hs hf hsz lb1 l1 HLk
      go_wp2_with (at_builtin; refine wpList_app1 rfl _ _ 108 rfl (.int .i64 0) 8 Tryz.underlying108 Tryz.info3 rfl w.heap.size k _ (l.map nI) rfl rfl HO.out rfl (by omega) (by decide) HBw.out ?_; intro g3 cap3 w5 ho5 hg5 hat5 hl5; have HW5 := (show Hid (ClS w w5 gs ns (.slice (some ⟨g1, 0, none⟩) ns.length c1) (.slice (some ⟨g3, 0, none⟩) (k + 1) cap3) (l ++ [i])) from HPu.out _ _ ho5 hg5); clear ho5 hg5 hat5 hl5 HPu HO HBw hrun x1)
      go_roundw
      case rel => exact ⟨k + 1, l ++ [i], some ⟨g3, 0, none⟩, cap3, by omega, by go_num, rfl, HL2, HW5⟩
      case measure => simp [intOf]; omega
    · obtain rfl : k = ns.length := by omega
      have HC := (show Hid (∀ _ : Unit, Calls Tryz.prog 135 #[.slice A2 ns.length c2] wr fun e w' => e = .returned (.tuple #[]) ∧ w'.ownsRow w.heap.size 3 1 (.slice A2 ns.length c2) (cL gs r).length ((cL gs r).map nI) ∧ Below w.heap.size w w') from fun _ => HW.out.sorted HLk.out hnl HFin.out)
      clear HFin HW HKn HM HLk
      go_wp2_with fail
      refine (HC.out ()).mono ?_
      rintro e w6 ⟨rfl, ho6, hb6⟩
      have HB6 := (show Hid (Below w.heap.size w w6) from hb6)
      have HO6 := (show Hid (w6.ownsRow w.heap.size 3 1 (.slice A2 ns.length c2) (cL gs r).length ((cL gs r).map nI)) from ho6)
      clear HC ho6 hb6
      go_wp2_with fail
      go_ret
      exact ⟨⟨_, rfl, HO6.out⟩, HB6.out⟩
end Go.Proofs.YtbnihflihelimaaGreat.N

namespace Go.Proofs.YtbnihflihelimaaGreat.N
open Go.RowKit Go.Maps
open Go.Proofs.YtbnihflihelimaaGreat.T

open U (nI own_get own_slice wpList_app1 below_grown TT Out)
/-- A net: of each rule what it calls. -/
def ntM (gs : GL) : List (List Value) := (List.range gs.length).map fun i => (cL gs i).map nI
theorem ntM_len (gs : GL) : (ntM gs).length = gs.length := by unfold ntM; rw [List.length_map, List.length_range]
theorem ntM_get {gs : GL} {i : Nat} (h : i < gs.length) : (ntM gs)[i]? = some ((cL gs i).map nI) := by
  unfold ntM
  rw [List.getElem?_map, List.getElem?_range h]; rfl
theorem Tryz.info37 : (Tryz.prog.info? 108).map (fun i => (i.zero, i.size, i.bytes)) = some (some (.slice none 0 0), 1, 24) := by kernel_rfl
/-- What a step of the range tells: a name and its number. -/
theorem step_nm {gs : GL} {D : DataW Unit} (hD : NmD D gs) {key v : Value} {kl : Lit} {y : DataW Unit × List MemPlace} (hkey : keyOf Tryz.prog 9 key = some kl) (hv : plainElem Tryz.prog 3 v = some y) (hat : ∀ zd, D.atKey kl zd = y.1) : ∃ (s : ByteArray) (i : Nat), kl = .string s.data.toList ∧ v = .int .i64 i ∧ fdG gs s = some i := by
  obtain ⟨x, rfl, rfl, _⟩ := Maps.keyOf_str Tryz.underlying9 hkey
  obtain ⟨c, rfl, rfl, _⟩ := plainElem_int_inv Tryz.underlying3 hv
  have hh := has_true_of_atKey hat
  obtain ⟨h1, h2⟩ := hD ⟨x.toArray⟩
  have hx : (⟨x.toArray⟩ : ByteArray).data.toList = x := rfl
  rw [hx] at h1 h2
  rw [hh] at h1
  cases hf : fdG gs ⟨x.toArray⟩ with
  | none => rw [hf] at h1; cases h1
  | some i =>
    have e := h2 i hf (.lit (.int .i64 0))
    rw [hat] at e
    injection e with e
    injection e with _ e
    exact ⟨⟨x.toArray⟩, i, rfl, by rw [e], hf⟩
/-- While the net is made. -/
structure NtS (w wr : World) (gs : GL) (B r cnt : Nat) (D : DataW Unit) (left : Lit → Bool) (g : Nat) (M : List (List Value)) (xs : List Value) (u : Value) : Prop where
  b : Below w.heap.size w wr
  x : GX wr w.heap.size u
  rg : wr.ranges Tryz.prog 9 (plainElem Tryz.prog 3) B r gs.length D left cnt
  t : TT wr w.heap.size 108 3 (.slice (some ⟨g, 0, none⟩) gs.length gs.length) M xs
  ln : M.length = gs.length
  gr : w.heap.size < g ∧ g < r
  dn : ∀ (s : ByteArray) (i : Nat), fdG gs s = some i → left (.string s.data.toList) = false → M[i]? = some ((cL gs i).map nI)
theorem same_str {a b : ByteArray} : (Lit.string a.data.toList).sameKey (.string b.data.toList) = true ↔ a = b := by
  constructor
  · intro h
    have := WideAt.sameKey_eq h
    injection this with e
    exact ByteArray.ext (Array.ext' e)
  · rintro rfl
    simp [Lit.sameKey]
/-- One name is gone over. -/
theorem NtS.put {w wr wA w4 : World} {gs : GL} {B r cnt cnt1 g : Nat} {D : DataW Unit} {left : Lit → Bool} {M : List (List Value)} {xs : List Value} {u v4 : Value} {s : ByteArray} {i : Nat} (h : NtS w wr gs B r cnt D left g M xs u) (_hd : Dn gs) (hf : fdG gs s = some i)
    (hA : wr.grownBy wA (some r)) (hrg : wA.ranges Tryz.prog 9 (plainElem Tryz.prog 3) B r gs.length D (fun z => left z && !z.sameKey (.string s.data.toList)) cnt1)
    (hsz : wA.heap.size = wr.heap.size) (hB : B < w.heap.size) (hb : Below wA.heap.size wA w4) (ho : w4.ownsRow wA.heap.size 3 1 v4 (cL gs i).length ((cL gs i).map nI)) :
    ∃ M2 xs2, NtS w (w4.setCell ⟨g, i, none⟩ v4) gs B r cnt1 D (fun z => left z && !z.sameKey (.string s.data.toList)) g M2 xs2 u := by
  have hlx : xs.length = gs.length := h.t.len.trans h.ln
  have hr := h.rg.lt
  have hwr := h.b.size
  have ht : TT wr w.heap.size 108 3 (.slice (some ⟨g, 0, none⟩) xs.length gs.length) M xs := by rw [hlx]; exact h.t
  have hout : Out (.slice (some ⟨g, 0, none⟩) xs.length gs.length) xs r := by
    refine ⟨fun e => ?_, fun j x hj e => ?_⟩
    · have e : g = r := Option.some.inj e
      have := h.gr.2
      omega
    · obtain ⟨row, _, hrow⟩ := ht.both hj
      obtain ⟨cur, hc⟩ := own_ty hrow e
      obtain ⟨_, _, _, _, _, _, _, _, _, hh, _⟩ := h.rg
      rw [hc] at hh
      cases hh
  have hi : i < gs.length := fdG_lt hf
  have ht2 : TT w4 w.heap.size 108 3 (.slice (some ⟨g, 0, none⟩) xs.length gs.length) M xs := (ht.turn hout hA).below hb
  have hnew : ∀ k, v4.ownBlock = some k → Out (.slice (some ⟨g, 0, none⟩) xs.length gs.length) xs k := fun k hk => by
    have := (ho.lt k hk).1
    exact ht.new (by omega)
  have ht3 := ht2.put (y := v4) (s := (cL gs i).map nI) (by rw [List.length_map]; exact U.own_base ho (by omega)) hnew (i := i) (by omega)
  have hst := (ht2.o.stored i v4).2
  have hgw : Below w.heap.size w wA := below_grown h.b hA (fun k e => by cases e; have := h.gr; omega)
  have hg4 : Below w.heap.size w w4 := hgw.trans (hb.mono hgw.size)
  refine ⟨M.set i ((cL gs i).map nI), xs.set i v4, below_grown hg4 hst (fun k e => by cases e; have := h.gr; omega), ?_, ?_, ?_, by rw [List.length_set]; exact h.ln, h.gr, ?_⟩
  · refine ((h.x.same (hA.block _ h.x.lt (fun e => by injection e with e; have := h.gr; omega))).below hb).same (hst.block _ ?_ (fun e => by injection e with e; have := h.gr; omega))
    exact ((h.x.same (hA.block _ h.x.lt (fun e => by injection e with e; have := h.gr; omega))).below hb).lt
  · exact (hrg.kept (U.below_grow hb none) (by simp) (by simp)).kept hst (fun e => by injection e with e; have := h.gr; omega) (fun e => by injection e with e; have := h.gr; omega)
  · rw [hlx] at ht3; exact ht3
  · intro t j ht hl
    by_cases e : s = t
    · subst e
      rw [hf] at ht
      cases ht
      rw [List.getElem?_set_self (by rw [h.ln]; exact hi)]
    · have hij : i ≠ j := fun q => by
        subst q
        obtain ⟨x, x1, x2, _⟩ := fdG_some hf
        obtain ⟨y, y1, y2, _⟩ := fdG_some ht
        rw [x1] at y1
        cases y1
        exact e (x2.symm.trans y2)
      rw [List.getElem?_set_ne hij]
      refine h.dn t j ht ?_
      cases q : left (.string t.data.toList)
      · rfl
      · have hs : (Lit.string t.data.toList).sameKey (.string s.data.toList) = false := by
          cases q2 : (Lit.string t.data.toList).sameKey (.string s.data.toList)
          · rfl
          · exact absurd (same_str.1 q2).symm e
        simp only [q, hs] at hl
        cases hl
end Go.Proofs.YtbnihflihelimaaGreat.N

namespace Go.Proofs.YtbnihflihelimaaGreat.N
open Go.RowKit Go.Maps
open Go.Proofs.YtbnihflihelimaaGreat.T

open U (nI own_get own_slice wpList_app1 below_grown TT Out info_split)
theorem NtS.done {w wr : World} {gs : GL} {B r cnt : Nat} {D : DataW Unit} {left : Lit → Bool} {g : Nat} {M : List (List Value)} {xs : List Value} {u : Value} (h : NtS w wr gs B r cnt D left g M xs u) (hd : Dn gs) (hl : ∀ kl, left kl = false) : TT wr w.heap.size 108 3 (.slice (some ⟨g, 0, none⟩) gs.length gs.length) (ntM gs) xs := by
  have e : M = ntM gs := by
    refine List.ext_getElem? fun i => ?_
    by_cases hi : i < gs.length
    · rw [ntM_get hi]
      have hg : gs[i]? = some gs[i] := List.getElem?_eq_getElem hi
      exact h.dn gs[i].1 i (fdG_of hg rfl (fun j x hj hx e => by have := hd.d j i x _ hx hg e; omega)) (hl _)
    · rw [List.getElem?_eq_none (by rw [h.ln]; omega), List.getElem?_eq_none (by rw [ntM_len]; omega)]
  rw [← e]
  exact h.t
theorem NtS.start {w w1 w2 w3 : World} {gs : GL} {A : Option Addr} {c B : Nat} {D : DataW Unit} (hw1 : w1 = w.alloc (.cells #[.slice A gs.length c] 24)) (ho : w2.ownsRow w.heap.size 108 1 (.slice (some ⟨w1.heap.size, 0, none⟩) gs.length gs.length) gs.length (List.replicate gs.length (.slice none 0 0))) (hg2 : w1.grownBy w2 none)
    (hrg : w3.ranges Tryz.prog 9 (plainElem Tryz.prog 3) B w2.heap.size gs.length D (Maps.has D) (Maps.size D)) (hg3 : w2.grownBy w3 none) (hD : NmD D gs) : NtS w w3 gs B w2.heap.size (Maps.size D) D (Maps.has D) w1.heap.size (List.replicate gs.length []) (List.replicate gs.length (.slice none 0 0)) (.slice A gs.length c) := by
  have hs1 : w1.heap.size = w.heap.size + 1 := by rw [hw1, World.size_alloc]
  have hb1 : Below w.heap.size w w1 := by rw [hw1]; exact below_box _ _
  have hx1 : GX w1 w.heap.size (.slice A gs.length c) := by rw [hw1]; exact GX.mk (heap_alloc_new w _)
  have hx2 := hx1.same (hg2.block _ hx1.lt (by simp))
  have hlt := (ho.lt _ rfl).2
  refine ⟨below_grown (below_grown hb1 hg2 (fun k e => by cases e)) hg3 (fun k e => by cases e), hx2.same (hg3.block _ hx2.lt (by simp)), hrg, (TT.made ho).kept hg3 (fun k e => by cases e) (fun i x k _ e => by cases e), List.length_replicate, ⟨by omega, hlt⟩, fun s i hf hl => ?_⟩
  have := (hD s).1
  rw [hf, hl] at this
  cases this
set_option maxRecDepth 100000 in
set_option maxHeartbeats 16000000 in
theorem netBy_any {gs : GL} (hR : RtG gs) (A : Option Addr) (c B : Nat) (w : World) (hp : GI w A gs) (hm : NmM w B gs) :
    Calls Tryz.prog 118 #[.map (some B), .agg #[.slice A gs.length c]] w fun e w' => (∃ v xs, e = .returned v ∧ TT w' w.heap.size 108 3 v (ntM gs) xs) ∧ Below w.heap.size w w' := by
  have hB := hm.lt
  have hn := hR.n2
  obtain ⟨w1, hw1⟩ : ∃ w1, w1 = w.alloc (.cells #[.slice A gs.length c] 24) := ⟨_, rfl⟩
  have HE0 := (show Hid (w.alloc (.cells #[.slice A gs.length c] 24) = w1) from hw1.symm)
  have hb1 : Below w.heap.size w w1 := by rw [hw1]; exact below_box _ _
  have q1 : w1.cell? ⟨w.heap.size, 0, none⟩ = some (.slice A gs.length c) := by rw [hw1]; exact (GX.mk (heap_alloc_new w _)).cl
  obtain ⟨i0, hinf, hz0, hz1, hz2⟩ := info_split Tryz.info37
  obtain ⟨w2, hmk, ho2, hg2⟩ := run_make_full (P := Tryz.prog) w1 w.heap.size 153 108 i0 (.slice none 0 0) 1 Tryz.underlying153 hinf hz0 hz1 .i64 .i64 gs.length (by rw [hz2]; omega) (by unfold maxLen; omega) hb1.size
  have ho2' : w2.ownsRow w.heap.size 108 1 (.slice (some ⟨w1.heap.size, 0, none⟩) gs.length gs.length) gs.length (List.replicate gs.length (.slice none 0 0)) := by
    have e : (madeCells (Value.cells (.slice none 0 0)) (gs.length * 1)).toList = List.replicate gs.length (Value.slice none 0 0) := by rw [Nat.mul_one]; exact toList_madeCells_one _ _
    rw [e] at ho2
    exact ho2
  obtain ⟨D, hown, hD⟩ := hm.ex
  have hown2 : w2.ownsMap Tryz.prog 9 (plainElem Tryz.prog 3) B gs.length D := by
    have h1 : w1.ownsMap Tryz.prog 9 (plainElem Tryz.prog 3) B gs.length D := by rw [hw1]; exact hown.alloc _
    exact h1.kept hg2 (by simp)
  obtain ⟨w3, hrn, hrg3, hg3, _⟩ := hown2.range keyed Tryz.underlying52
  have HS := (show Hid (NtS w w3 gs B w2.heap.size (Maps.size D) D (Maps.has D) w1.heap.size (List.replicate gs.length []) (List.replicate gs.length (.slice none 0 0)) (.slice A gs.length c)) from NtS.start hw1 ho2' hg2 hrg3 hg3 hD)
  have HD := (show Hid (NmD D gs) from hD)
  have HM := (show Hid (NmM w B gs) from hm)
  have HP := (show Hid (GI w A gs) from hp)
  have HR := (show Hid (RtG gs) from hR)
  clear hown hown2 hrg3 hg3 hD hm hp hR ho2 ho2' hg2 hb1 hw1 hinf hz0 hz1 hz2 i0
  go_enter Tryz.func118, Tryz.ntmps118
  go_wp2_with (rw [HE0.out])
  clear hmk hrn q1 HE0
  generalize w2.heap.size = r0 at *
  generalize w1.heap.size = g0 at *
  go_loopw [7] (fun _ wr => ∃ (left : Lit → Bool) (cnt : Nat) (M : List (List Value)) (xs : List Value), Hid (NtS w wr gs B r0 cnt D left g0 M xs (.slice A gs.length c))) (fun _ wr => wr.rangeLeft B r0)
  case atStart => exact ⟨_, _, _, _, HS⟩
  case round =>
    obtain ⟨left, cnt, M, xs, HW⟩ := hrel
    clear HS
    rcases HW.out.rg.next keyed 0 with ⟨h0, hl, hrun⟩ | ⟨key, v, kl, y, wA, cnt1, hkey, hlk, hv, hat, hrun, hrg, hlt, hgr, hsz, hen⟩
    · have HT := (show Hid (TT wr w.heap.size 108 3 (.slice (some ⟨g0, 0, none⟩) gs.length gs.length) (ntM gs) xs) from HW.out.done HR.out.dn hl)
      have HB := (show Hid (Below w.heap.size w wr) from HW.out.b)
      clear h0 hl HW HR HM HP HD
      go_wp2_with fail
      go_ret
      exact ⟨⟨_, xs, rfl, HT.out⟩, HB.out⟩
    · obtain ⟨s, i, rfl, rfl, hf⟩ := step_nm HD.out hkey hv hat
      have hi : i < gs.length := fdG_lt hf
      have hgw : Below w.heap.size w wA := below_grown HW.out.b hgr (fun k e => by cases e; have := HW.out.gr; omega)
      obtain ⟨g, hg⟩ : ∃ g, gs[i]? = some g := ⟨_, List.getElem?_eq_getElem hi⟩
      obtain ⟨b, o, A2, c2, rfl, lb, _, x1, r2⟩ := HP.out.d i g hg
      have x1' := (hgw.cell (p := ⟨b, o + i * 2 + 1, none⟩) lb).trans x1
      have q1 := (HW.out.x.same (hgr.block _ HW.out.x.lt (fun e => by injection e with e; have := HW.out.gr; omega))).cl
      have hck := HR.out.ck g (List.mem_of_getElem? hg)
      have hL : g.2.length ≤ 2048 := by
        by_cases q : g.2.length ≤ 2048
        · exact q
        · have := ck_long (L := g.2) (by omega)
          rw [this] at hck
          exact absurd hck (by decide)
      have HC := (show Hid (∀ _ : Unit, Calls Tryz.prog 132 #[.slice A2 g.2.length c2, .map (some B)] wA fun e w' => (∃ v, e = .returned v ∧ w'.ownsRow wA.heap.size 3 1 v (cL gs i).length ((cL gs i).map nI)) ∧ Below wA.heap.size wA w') from fun _ => calledBy_any HR.out hg A2 c2 B hL (HP.out.t g (List.mem_of_getElem? hg)).2.2 wA (r2.below hgw (Nat.le_refl _)) (HM.out.same (hgw.block B hB)))
      have HPu := (show Hid (∀ (w4 : World) (v4 : Value), Below wA.heap.size wA w4 → w4.ownsRow wA.heap.size 3 1 v4 (cL gs i).length ((cL gs i).map nI) → ∃ M2 xs2, NtS w (w4.setCell ⟨g0, i, none⟩ v4) gs B r0 cnt1 D (fun z => left z && !z.sameKey (.string s.data.toList)) g0 M2 xs2 (.slice (some ⟨b, o, none⟩) gs.length c)) from fun w4 v4 h1 h2 => HW.out.put HR.out.dn hf hgr hrg hsz hB h1 h2)
      have hlx : xs.length = gs.length := HW.out.t.len.trans HW.out.ln
      obtain ⟨x, hx⟩ : ∃ x, xs[i]? = some x := ⟨_, List.getElem?_eq_getElem (by omega)⟩
      have hgl := (HW.out.t.o.lt g0 rfl).2
      have HCe := (show Hid (∀ w4, Below wA.heap.size wA w4 → w4.cell? ⟨g0, i, none⟩ = some x ∧ w4.frozen? ⟨g0, i, none⟩ = false) from fun w4 h1 => by
        have ho : wr.ownsRow w.heap.size 108 1 (.slice (some ⟨g0, 0, none⟩) gs.length gs.length) gs.length xs := by have h := HW.out.t.o; rw [hlx] at h; exact h
        have hoA := U.own_below (U.own_kept ho hgr (fun k e q => by cases e; have q : g0 = r0 := Option.some.inj q; have := HW.out.gr; omega)) h1
        exact ⟨(hoA.cellAt i (by omega)).trans hx, hoA.frozenAt i⟩)
      have HLf := (show Hid (wr.rangeLeft B r0 = cnt ∧ cnt1 < cnt) from ⟨HW.out.rg.left_eq, hlt⟩)
      have z0 : (0 : Int) ≤ (i : Int) := by omega
      have z1 : (i : Int) < (gs.length : Int) := by omega
      clear hkey hlk hv hat hrg hlt hgr hsz hf hi hgw hg x1 r2 lb hck hL HW hlx hx hgl HM HP HR HD hB hn
      go_wp2_with fail
      refine (HC.out ()).mono ?_
      rintro e w4 ⟨⟨v4, rfl, ho4⟩, b4⟩
      obtain ⟨k0, k1⟩ := HCe.out w4 b4
      obtain ⟨M2, xs2, h2⟩ := HPu.out w4 v4 b4 ho4
      have HN2 := (show Hid _ from h2)
      obtain ⟨A4, c4, rfl⟩ := own_slice ho4
      clear ho4 b4 HC HPu HCe h2 hrun hen q1 x1'
      go_wp2_with fail
      go_roundw
      case rel => exact ⟨_, _, _, _, HN2⟩
      case measure => rw [HN2.out.rg.left_eq, HLf.out.1]; exact HLf.out.2
end Go.Proofs.YtbnihflihelimaaGreat.N

namespace Go.Proofs.YtbnihflihelimaaGreat.N
open Go.RowKit Go.Maps
open Go.Proofs.YtbnihflihelimaaGreat.T

open U (nI own_get own_slice wpList_app1 below_grown TT Out info_split)
/-- What netWith answers. -/
def NwV (w w' : World) (gs : GL) (k : Int) (e : Ending) : Prop := ∃ v, e = .returned (.tuple #[v, .int .i64 k]) ∧ (k ≠ 0 → v = .slice none 0 0) ∧ (k = 0 → ∃ xs, TT w' w.heap.size 108 3 v (ntM gs) xs)
set_option maxRecDepth 100000 in
set_option maxHeartbeats 4000000 in
theorem netOf_any (gs : GL) (A : Option Addr) (c : Nat) (w : World) (hp : GI w A gs) :
    Calls Tryz.prog 107 #[.agg #[.slice A gs.length c]] w fun e w' => NwV w w' gs (ckG gs).2 e ∧ Below w.heap.size w w' := by
  obtain ⟨w1, hw1⟩ : ∃ w1, w1 = (w.alloc (.cells #[.slice A gs.length c] 24)) := ⟨_, rfl⟩
  have HB1 : Hid (Below w.heap.size w w1) := by show Below _ _ _; rw [hw1]; exact below_box _ _
  have HG1 : Hid (GX w1 w.heap.size (.slice A gs.length c)) := by show GX _ _ _; rw [hw1]; exact GX.mk (heap_alloc_new w _)
  have HN := (show Hid (∀ _ : Unit, Calls Tryz.prog 117 #[.agg #[.slice A gs.length c]] w1 fun e w' => NuV w1 w' gs e ∧ Below w1.heap.size w1 w') from fun _ => numb_any gs A c hp.l hp.t w1 (hp.d.later HB1.out))
  have HP := (show Hid (GI w A gs) from hp)
  clear hp
  go_enter Tryz.func107, Tryz.ntmps107
  go_wp2_with fail
  rw [← hw1]
  refine (HN.out ()).mono ?_
  rintro e w3 ⟨hv, b3⟩
  obtain ⟨mv, rfl, hm⟩ := hv.form
  obtain ⟨w4, hw4⟩ : ∃ w4, w4 = w3.alloc (.cells #[.int .i64 ((ckG gs).1.1 : Int), .int .i64 ((ckG gs).1.2 : Int)] 60) := ⟨_, rfl⟩
  have HE4 := (show Hid (w3.alloc (.cells #[.int .i64 ((ckG gs).1.1 : Int), .int .i64 ((ckG gs).1.2 : Int)] 60) = w4) from hw4.symm)
  have HB := (show Hid (Below w.heap.size w w4) from by show Below _ _ _; rw [hw4]; exact (HB1.out.trans (b3.mono HB1.out.size)).alloc (HB1.out.trans (b3.mono HB1.out.size)).size _)
  have q1 : w4.cell? ⟨w.heap.size, 0, none⟩ = some (.slice A gs.length c) := by rw [hw4]; exact ((HG1.out.below b3).below (below_box _ _)).cl
  clear HN b3 hw1 HB1 HG1 hv
  by_cases hz : (ckG gs).2 = 0
  · obtain ⟨B, _, rfl, hM⟩ := hm hz
    have tz : ((ckG gs).2 != 0) = false := by rw [hz]; rfl
    have HC := (show Hid (∀ _ : Unit, Calls Tryz.prog 118 #[.map (some B), .agg #[.slice A gs.length c]] w4 fun e w' => (∃ v xs, e = .returned v ∧ TT w' w4.heap.size 108 3 v (ntM gs) xs) ∧ Below w4.heap.size w4 w') from fun _ => netBy_any (ckG_ok.1 hz) A c B w4 (HP.out.later HB.out) (by rw [hw4]; exact hM.later (below_box _ _)))
    have HZ := (show Hid ((ckG gs).2 = 0) from hz)
    clear hM hm hz HP hw4
    generalize hcd : (ckG gs).2 = cd at *
    have HCD := (show Hid ((ckG gs).2 = cd) from hcd)
    clear hcd
    go_wp2_with (rw [HE4.out])
    refine (HC.out ()).mono ?_
    rintro e w5 ⟨⟨v, xs, rfl, hT⟩, b5⟩
    have HB4 := (show Hid (Below w.heap.size w w5) from HB.out.trans (b5.mono HB.out.size))
    have HT := (show Hid (TT w5 w.heap.size 108 3 v (ntM gs) xs) from hT.base HB.out.size)
    clear HC b5 hT HB
    go_wp2_with fail
    refine bodyPost_ret (v := .tuple #[v, .int .i64 0]) (by simp [results, Tryz.results107, go_sem]) rfl ⟨⟨v, by rw [HCD.out, HZ.out], fun q => absurd (HCD.out.trans HZ.out) q, fun _ => ⟨xs, HT.out⟩⟩, HB4.out⟩
  · have tz : ((ckG gs).2 != 0) = true := by rw [bne, beq_eq_false_iff_ne.2 hz]; rfl
    have HZ := (show Hid ((ckG gs).2 ≠ 0) from hz)
    clear hm hz HP hw4
    generalize hcd : (ckG gs).2 = cd at *
    have HCD := (show Hid ((ckG gs).2 = cd) from hcd)
    clear hcd
    go_wp2_with (rw [HE4.out])
    refine bodyPost_ret (v := .tuple #[.slice none 0 0, .int .i64 cd]) (by simp [results, Tryz.results107, go_sem]) rfl ⟨⟨_, by rw [HCD.out], fun _ => rfl, fun q => absurd (HCD.out.symm.trans q) HZ.out⟩, HB.out⟩
end Go.Proofs.YtbnihflihelimaaGreat.N

namespace Go.Proofs.YtbnihflihelimaaGreat.N
open Go.RowKit Go.Maps
open Go.Proofs.YtbnihflihelimaaGreat.T

open U (nI own_get own_slice wpList_app1 below_grown TT Out info_split)
theorem Tryz.info4 : (Tryz.prog.info? 4).map (fun i => (i.zero, i.size, i.bytes)) = some (some (.bool false), 1, 1) := by kernel_rfl
theorem own_take {W : World} {B e g n cap k : Nat} {xs : List Value} (h : W.ownsRow B e 1 (.slice (some ⟨g, 0, none⟩) n cap) n xs) (hk : k ≤ n) : W.ownsRow B e 1 (.slice (some ⟨g, 0, none⟩) k cap) k (xs.take k) := by
  have hl := h.1
  rcases h.2 with ⟨q, _⟩ | ⟨g', cap', cur, q, hb, hg, h1, h2, h3, h4⟩
  · cases q
  · cases q
    refine ⟨by rw [List.length_take]; omega, .inr ⟨g, cap, cur, rfl, hb, hg, by omega, h2, h3, ?_⟩⟩
    rw [← h4, List.take_take]
    congr 1
    omega
/-- While it is found out what a rule comes to. -/
structure CmS (w wr : World) (gs : GL) (r gb : Nat) (l : List Bool) (ah : List Nat) (x : Option Nat) (u : Value) : Prop where
  b : Below w.heap.size w wr
  m : wr.ownsRow w.heap.size 4 1 (.slice (some ⟨gb, 0, none⟩) gs.length gs.length) gs.length (l.map Value.bool)
  a : wr.ownsRow w.heap.size 3 1 u ah.length (ah.map nI)
  i : WlI gs.length (cG gs) r l ah x
theorem CmS.store {w wr : World} {gs : GL} {r gb : Nat} {l : List Bool} {ah : List Nat} {x : Option Nat} {u : Value} (h : CmS w wr gs r gb l ah x u) (j : Nat) : Below w.heap.size w (wr.setCell ⟨gb, j, none⟩ (.bool true)) ∧ (wr.setCell ⟨gb, j, none⟩ (.bool true)).ownsRow w.heap.size 4 1 (.slice (some ⟨gb, 0, none⟩) gs.length gs.length) gs.length ((l.set j true).map Value.bool) ∧ (wr.setCell ⟨gb, j, none⟩ (.bool true)).ownsRow w.heap.size 3 1 u ah.length (ah.map nI) := by
  obtain ⟨st1, st2⟩ := h.m.stored j (.bool true)
  refine ⟨below_grown h.b st2 (fun k e => by cases e; exact (h.m.lt gb rfl).1), ?_, U.own_kept h.a st2 (fun k e => by cases e; exact own_apart h.m h.a (by decide) rfl)⟩
  rw [List.map_set]
  exact st1
theorem CmS.mark {w wr w5 : World} {gs : GL} {r gb y j : Nat} {l : List Bool} {ah : List Nat} {u u' : Value} (h : CmS w wr gs r gb l ah (some y) u) (hy : y < gs.length ∧ (y = r ∨ l[y]? = some true)) (hc : cG gs y j = true) (hj : j < gs.length)
    (ho : w5.ownsRow w.heap.size 3 1 u' (ah.length + 1) (ah.map nI ++ [nI j])) (hg : (wr.setCell ⟨gb, j, none⟩ (.bool true)).grownBy w5 u.ownBlock) : CmS w w5 gs r gb (l.set j true) (ah ++ [j]) (some y) u' := by
  obtain ⟨s1, s2, s3⟩ := h.store j
  refine ⟨below_grown s1 hg (fun k e => (s3.lt k e).1), U.own_kept s2 hg (fun k e => own_apart s3 s2 (by decide) e), ?_, h.i.mark hy hc hj⟩
  rw [List.length_append, List.map_append]
  exact ho
theorem CmS.pop {w wr : World} {gs : GL} {r gb g cap k y : Nat} {l : List Bool} {ah : List Nat} (h : CmS w wr gs r gb l (ah ++ [y]) none (.slice (some ⟨g, 0, none⟩) (k + 1) cap)) (hk : ah.length = k) : CmS w wr gs r gb l ah (some y) (.slice (some ⟨g, 0, none⟩) k cap) ∧ y < gs.length ∧ (y = r ∨ l[y]? = some true) := by
  obtain ⟨i1, i2⟩ := h.i.pop
  refine ⟨⟨h.b, h.m, ?_, i1⟩, i2⟩
  have h1 := h.a
  rw [List.length_append, hk] at h1
  have h2 := own_take h1 (k := k) (by omega)
  rw [List.map_append, List.take_left' (by rw [List.length_map, hk])] at h2
  rw [hk]
  exact h2
theorem CmS.start {w w1 : World} {gs : GL} {r : Nat} (hr : r < gs.length) (ho : w1.ownsRow w.heap.size 4 1 (.slice (some ⟨w.heap.size, 0, none⟩) gs.length gs.length) gs.length (List.replicate gs.length (.bool false))) (hg : w.grownBy w1 none) :
    CmS w (w1.alloc (.cells #[.int .i64 (r : Int)] 3)) gs r w.heap.size (List.replicate gs.length false) [r] none (.slice (some ⟨w1.heap.size, 0, none⟩) 1 1) := by
  have hb : Below w.heap.size w w1 := below_grown (Below.refl _ _) hg (fun k e => by cases e)
  refine ⟨hb.alloc hb.size _, ?_, ?_, WlI.start hr⟩
  · rw [List.map_replicate]; exact ho.alloc _
  · exact World.ownsRow_lit w1 #[.int .i64 (r : Int)] 1 hb.size (by unfold maxLen; omega) rfl
/-- What comesTo answers. -/
def CmV (w w' : World) (gs : GL) (r : Nat) (e : Ending) : Prop := ∃ (u : Value) (l : List Bool), e = .returned u ∧ l.length = gs.length ∧ (∀ j, l[j]? = some true ↔ Rc gs.length (cG gs) r j) ∧ w'.ownsRow w.heap.size 4 1 u gs.length (l.map Value.bool) ∧ u.ownBlock = some w.heap.size
set_option maxRecDepth 100000 in
set_option maxHeartbeats 16000000 in
theorem comesTo_any {gs : GL} (hR : RtG gs) {N r : Nat} {v : Value} {xs : List Value} (hr : r < gs.length) (w : World) (hT : TT w N 108 3 v (ntM gs) xs) :
    Calls Tryz.prog 108 #[v, .int .i64 (r : Int)] w fun e w' => CmV w w' gs r e ∧ Below w.heap.size w w' := by
  have hn := hR.n2
  have hlx : xs.length = gs.length := hT.len.trans (ntM_len gs)
  obtain ⟨i0, hinf, hz0, hz1, hz2⟩ := info_split Tryz.info4
  obtain ⟨w1, hmk, ho1, hg1⟩ := run_make_full (P := Tryz.prog) w w.heap.size 65 4 i0 (.bool false) 1 Tryz.underlying65 hinf hz0 hz1 .i64 .i64 gs.length (by rw [hz2]; omega) (by unfold maxLen; omega) (Nat.le_refl _)
  have ho1' : w1.ownsRow w.heap.size 4 1 (.slice (some ⟨w.heap.size, 0, none⟩) gs.length gs.length) gs.length (List.replicate gs.length (.bool false)) := by
    have e : (madeCells (Value.cells (.bool false)) (gs.length * 1)).toList = List.replicate gs.length (Value.bool false) := by rw [Nat.mul_one]; exact toList_madeCells_one _ _
    rw [e] at ho1
    exact ho1
  have HS := (show Hid (CmS w (w1.alloc (.cells #[.int .i64 (r : Int)] 3)) gs r w.heap.size (List.replicate gs.length false) [r] none (.slice (some ⟨w1.heap.size, 0, none⟩) 1 1)) from CmS.start hr ho1' hg1)
  have HW0 := (show Hid (wlM (List.replicate gs.length false) [r] = 2 * gs.length + 1) from by show wlM _ _ = _; unfold wlM; rw [List.count_replicate_self]; rfl)
  have HT := (show Hid (TT w N 108 3 v (ntM gs) xs) from hT)
  have HR := (show Hid (RtG gs) from hR)
  obtain ⟨Av, cv, hv⟩ := own_slice hT.o
  rw [hlx] at hv
  subst hv
  have HNe := (show Hid (∀ (y : Nat) (wr : World), y < gs.length → Below w.heap.size w wr → ∃ g0 Ac cc, Av = some ⟨g0, 0, none⟩ ∧ wr.cell? ⟨g0, y, none⟩ = some (.slice Ac (cL gs y).length cc) ∧ ∀ (j z : Nat), (cL gs y)[j]? = some z → ∃ gc, Ac = some ⟨gc, 0, none⟩ ∧ gc < w.heap.size ∧ w.cell? ⟨gc, j, none⟩ = some (.int .i64 (z : Int))) from fun y wr hy hb => by
    obtain ⟨x, row, hx, hrow, hox⟩ := hT.at' (i := y) (by rw [ntM_len]; exact hy)
    rw [ntM_get hy] at hrow
    cases hrow
    rw [List.length_map] at hox
    obtain ⟨Ac, cc, rfl⟩ := own_slice hox
    obtain ⟨g0, cp, e, _, lt0, x0, _⟩ := own_get hT.o hx
    have e1 : Av = some ⟨g0, 0, none⟩ := by injection e
    clear e
    subst e1
    refine ⟨g0, Ac, cc, rfl, (hb.cell (p := ⟨g0, y, none⟩) lt0).trans x0, fun j z hz => ?_⟩
    obtain ⟨gc, cp2, e2, _, lt2, x2, _⟩ := own_get hox (j := j) (x := nI z) (by rw [List.getElem?_map, hz]; rfl)
    injection e2 with e3 _ _
    exact ⟨gc, e3, lt2, x2⟩)
  clear hT hR ho1 ho1' hg1 hinf hz0 hz1 hz2 i0 hlx HT
  go_enter Tryz.func108, Tryz.ntmps108
  go_wp2_with fail
  clear hmk
  generalize hwa : w1.alloc (.cells #[.int .i64 (r : Int)] 3) = wa at *
  generalize hka : w1.heap.size = ka at *
  clear hwa hka
  have HGb := (show Hid (w.heap.size = w.heap.size) from rfl)
  go_loopg [6] (2 * gs.length + 1) (fun gk u wr => ∃ (m : Nat) (ah : List Nat) (l : List Bool) (A2 : Option Addr) (c2 : Nat), u = .slice A2 m c2 ∧ m ≤ 401 ∧ Hid (ah.length = m ∧ wlM l ah = gk ∧ gk ≤ 401) ∧ Hid (CmS w wr gs r w.heap.size l ah none (.slice A2 m c2)))
  case atStart => exact ⟨1, [r], List.replicate gs.length false, some ⟨ka, 0, none⟩, 1, rfl, by omega, ⟨rfl, HW0.out, by omega⟩, HS⟩
  case round =>
    obtain ⟨m, ah, l, A2, c2, rfl, hm, HL, HW⟩ := hrel
    clear HS HW0
    cases m with
    | zero =>
      have hah : ah = [] := List.eq_nil_of_length_eq_zero HL.out.1
      subst hah
      have HD := (show Hid (∀ j, l[j]? = some true ↔ Rc gs.length (cG gs) r j) from fun j => HW.out.i.done j)
      have HLn := (show Hid (l.length = gs.length) from HW.out.i.ln)
      have HO := (show Hid (wr.ownsRow w.heap.size 4 1 (.slice (some ⟨w.heap.size, 0, none⟩) gs.length gs.length) gs.length (l.map Value.bool)) from HW.out.m)
      have HB := (show Hid (Below w.heap.size w wr) from HW.out.b)
      clear HW HL HNe HR
      go_wp2_with fail
      go_ret
      exact ⟨⟨_, l, rfl, HLn.out, HD.out, HO.out, rfl⟩, HB.out⟩
    | succ k =>
      obtain ⟨ah', y, rfl⟩ : ∃ ah' y, ah = ah' ++ [y] := by
        have hne : ah ≠ [] := fun q => by have := HL.out.1; rw [q] at this; cases this
        exact ⟨ah.dropLast, ah.getLast hne, (List.dropLast_concat_getLast hne).symm⟩
      have hak : ah'.length = k := by have := HL.out.1; rw [List.length_append] at this; simpa using this
      have HAk := (show Hid (ah'.length = k) from hak)
      obtain ⟨ga, ca, ea, _, _⟩ := HW.out.a.form (by rw [List.length_append, hak]; simp)
      obtain ⟨rfl, rfl⟩ : A2 = some ⟨ga, 0, none⟩ ∧ c2 = ca := by injection ea with ea1 ea0 ea2; exact ⟨ea1, ea2⟩
      clear ea
      obtain ⟨gx, cx, ex, _, _, xa, _⟩ := own_get HW.out.a (j := k) (x := nI y) (by rw [List.getElem?_map, List.getElem?_append_right (by omega), hak, Nat.sub_self]; rfl)
      have exg : ga = gx := by injection ex with ex1; injection ex1 with ex1; injection ex1
      clear ex
      subst exg
      have hc2 : k ≤ c2 := by
        rcases HW.out.a.2 with ⟨q, _⟩ | ⟨g', cap', cur, q, _, _, q1, _⟩
        · cases q
        · have e2 : c2 = cap' := by injection q
          rw [List.length_append, hak] at q1
          simp at q1
          omega
      have xa' : wr.cell? ⟨ga, k, none⟩ = some (.int .i64 (y : Int)) := xa
      obtain ⟨P1, P2, P3⟩ := HW.out.pop hak
      have HP1 := (show Hid (CmS w wr gs r w.heap.size l ah' (some y) (.slice (some ⟨ga, 0, none⟩) k c2)) from P1)
      have HP2 := (show Hid (y < gs.length ∧ (y = r ∨ l[y]? = some true)) from ⟨P2, P3⟩)
      have HM1 := (show Hid (wlM l ah' + 1 = gk ∧ gk ≤ 401) from ⟨by have h := HL.out.2.1; unfold wlM at h ⊢; rw [List.length_append] at h; simp at h; omega, HL.out.2.2⟩)
      obtain ⟨g0, Ac, cc, rfl, x0, hcs⟩ := HNe.out y wr P2 HW.out.b
      have HCs := (show Hid (∀ (j z : Nat), (cL gs y)[j]? = some z → ∃ gc, Ac = some ⟨gc, 0, none⟩ ∧ gc < w.heap.size ∧ w.cell? ⟨gc, j, none⟩ = some (.int .i64 (z : Int))) from hcs)
      have z0 : (0 : Int) ≤ (k : Int) := by omega
      have z1 : (0 : Int) ≤ (y : Int) := by omega
      have z2 : (y : Int) < (gs.length : Int) := by omega
      have hcl := cL_len gs y
      clear HW HL xa P1 P2 P3 hak hcs HNe
      go_wp2_with fail
      clear xa' x0
      go_loopw [6, 34] (fun u t wr => ∃ (j m : Nat) (ah : List Nat) (l : List Bool) (A2 : Option Addr) (c2 : Nat), j ≤ (cL gs y).length ∧ t = .int .i64 (j : Int) ∧ u = .slice A2 m c2 ∧ m ≤ 401 ∧ Hid (ah.length = m ∧ wlM l ah + 1 ≤ gk ∧ gk ≤ 401 ∧ (y = r ∨ l[y]? = some true)) ∧ Hid (∀ i z, i < j → (cL gs y)[i]? = some z → l[z]? = some true) ∧ Hid (CmS w wr gs r w.heap.size l ah (some y) (.slice A2 m c2))) (fun _ t _ => (cL gs y).length - (intOf t).toNat)
      case atStart => exact ⟨0, k, ah', l, some ⟨ga, 0, none⟩, c2, by omega, by go_num, rfl, by omega, ⟨HAk.out, by have := HM1.out.1; omega, HM1.out.2, HP2.out.2⟩, (fun i z hi => by omega), HP1⟩
      case round =>
        obtain ⟨j, m, ah, l, A2, c2, hj, rfl, rfl, hm, HL, HMk, HW⟩ := hrel
        have HP2y := (show Hid (y < gs.length) from HP2.out.1)
        clear HP1 HM1 HAk HP2
        by_cases hlt : j < (cL gs y).length
        · obtain ⟨z, hz⟩ : ∃ z, (cL gs y)[j]? = some z := ⟨_, List.getElem?_eq_getElem hlt⟩
          obtain ⟨gc, rfl, ltc, xc⟩ := HCs.out j z hz
          have xc' := (HW.out.b.cell (p := ⟨gc, j, none⟩) ltc).trans xc
          have hzm := cL_mem.1 (List.mem_of_getElem? hz)
          have hll := HW.out.i.ln
          obtain ⟨bz, hbz⟩ : ∃ bz, l[z]? = some bz := ⟨_, List.getElem?_eq_getElem (by omega)⟩
          obtain ⟨gm, cm, em, _, _, xm, fm⟩ := own_get HW.out.m (j := z) (x := .bool bz) (by rw [List.getElem?_map, hbz]; rfl)
          have emg : w.heap.size = gm := by injection em with e1; injection e1 with e1; injection e1
          clear em
          subst emg
          have y0 : (0 : Int) ≤ (j : Int) := by omega
          have y1 : (j : Int) < ((cL gs y).length : Int) := by omega
          have y2 : (0 : Int) ≤ (z : Int) := by omega
          have y3 : (z : Int) < (gs.length : Int) := by omega
          cases bz with
          | true =>
            have HMk2 := (show Hid (∀ i q, i < j + 1 → (cL gs y)[i]? = some q → l[q]? = some true) from fun i q hi hq => by
              by_cases e : i = j
              · subst e; rw [hz] at hq; cases hq; exact hbz
              · exact HMk.out i q (by omega) hq)
            clear HMk hz hzm hll hbz xc ltc HR fm
            go_wp2_with fail
            go_roundw
            case rel => exact ⟨j + 1, m, ah, l, A2, c2, by omega, by go_num, rfl, hm, HL, HMk2, HW⟩
            case measure => simp [intOf]; omega
          | false =>
            have HMk2 := (show Hid (∀ i q, i < j + 1 → (cL gs y)[i]? = some q → (l.set z true)[q]? = some true) from fun i q hi hq => get_set.2 (by
              by_cases e : i = j
              · subst e; rw [hz] at hq; cases hq; exact .inl ⟨rfl, by omega⟩
              · exact .inr (HMk.out i q (by omega) hq)))
            have hwl := wlM_mark (ah := ah) hbz
            have hm2 : m + 1 ≤ 401 := by
              have h1 := HL.out.2.1
              have h2 := HL.out.2.2.1
              have h3 := HL.out.1
              unfold wlM at hwl h1
              rw [List.length_append] at hwl
              simp at hwl
              omega
            have HL2 := (show Hid ((ah ++ [z]).length = m + 1 ∧ wlM (l.set z true) (ah ++ [z]) + 1 ≤ gk ∧ gk ≤ 401 ∧ (y = r ∨ (l.set z true)[y]? = some true)) from ⟨by rw [List.length_append, HL.out.1]; rfl, by have := HL.out.2.1; omega, HL.out.2.2.1, HL.out.2.2.2.imp id fun q => get_set.2 (.inr q)⟩)
            have HSt := (show Hid ((wr.setCell ⟨w.heap.size, z, none⟩ (.bool true)).ownsRow w.heap.size 3 1 (.slice A2 m c2) m (ah.map nI)) from by have h := (HW.out.store z).2.2; rw [HL.out.1] at h; exact h)
            have HSb := (show Hid (w.heap.size ≤ (wr.setCell ⟨w.heap.size, z, none⟩ (.bool true)).heap.size) from (HW.out.store z).1.size)
            have HSz := (show Hid ((wr.setCell ⟨w.heap.size, z, none⟩ (.bool true)).heap.size = wr.heap.size) from by show _ = _; simp)
            have HPu := (show Hid (∀ (u' : Value) (w5 : World), w5.ownsRow w.heap.size 3 1 u' (m + 1) (ah.map nI ++ [nI z]) → (wr.setCell ⟨w.heap.size, z, none⟩ (.bool true)).grownBy w5 (Value.slice A2 m c2).ownBlock → CmS w w5 gs r w.heap.size (l.set z true) (ah ++ [z]) (some y) u') from fun u' w5 h1 h2 => HW.out.mark ⟨HP2y.out, HL.out.2.2.2⟩ hzm.2 hzm.1 (by rw [HL.out.1]; exact h1) h2)
            clear HMk hz hzm hll hbz xc ltc HR HW HL hwl
            go_wp2_with (at_builtin; refine U.wpList_app1H wr.heap.size HSz.out rfl _ _ 108 rfl (.int .i64 0) 8 Tryz.underlying108 Tryz.info3 rfl w.heap.size m _ (ah.map nI) rfl rfl HSt.out rfl (by omega) (by decide) HSb.out ?_; intro g3 cap3 w5 ho5 hg5 hat5 hl5; have HW5 := (show Hid (CmS w w5 gs r w.heap.size (l.set z true) (ah ++ [z]) (some y) (.slice (some ⟨g3, 0, none⟩) (m + 1) cap3)) from HPu.out _ _ ho5 hg5); clear ho5 hg5 hat5 hl5 HPu HSt HSb HSz xm fm xc')
            go_roundw
            case rel => exact ⟨j + 1, m + 1, ah ++ [z], l.set z true, some ⟨g3, 0, none⟩, cap3, by omega, by go_num, rfl, hm2, HL2, HMk2, HW5⟩
            case measure => simp [intOf]; omega
        · obtain rfl : j = (cL gs y).length := by omega
          have HW2 := (show Hid (CmS w wr gs r w.heap.size l ah none (.slice A2 m c2)) from ⟨HW.out.b, HW.out.m, HW.out.a, HW.out.i.shut fun q hq => by
            have hlt2 : q < gs.length := by
              unfold cG at hq
              cases hg : gs[y]? with
              | none => rw [hg] at hq; cases hq
              | some g =>
                rw [hg] at hq
                simp only [List.any_eq_true, Bool.and_eq_true, decide_eq_true_eq] at hq
                obtain ⟨nd, _, _, h3⟩ := hq
                exact fdG_lt h3
            obtain ⟨i, hi, e⟩ := List.mem_iff_getElem.1 (cL_mem.2 ⟨hlt2, hq⟩)
            exact HMk.out i q hi (by rw [List.getElem?_eq_getElem hi, e])⟩)
          have HL2 := (show Hid (ah.length = m ∧ wlM l ah ≤ 401) from ⟨HL.out.1, by have := HL.out.2.1; have := HL.out.2.2.1; omega⟩)
          have HL3 := (show Hid (wlM l ah < gk) from by have := HL.out.2.1; show wlM l ah < gk; omega)
          clear HW HMk HL HCs HR HP2y
          go_wp2_with fail
          go_roundg (wlM l ah)
          case measure => exact HL3.out
          case rel => exact ⟨m, ah, l, A2, c2, rfl, hm, ⟨HL2.out.1, rfl, HL2.out.2⟩, HW2⟩
end Go.Proofs.YtbnihflihelimaaGreat.N

namespace Go.Proofs.YtbnihflihelimaaGreat.N
open Go.RowKit Go.Maps
open Go.Proofs.YtbnihflihelimaaGreat.T

open U (nI own_get own_slice wpList_app1 below_grown TT Out info_split)
theorem cG_lt {gs : GL} {i j : Nat} (q : cG gs i j = true) : i < gs.length ∧ j < gs.length := by
  unfold cG at q
  cases hg : gs[i]? with
  | none => rw [hg] at q; cases q
  | some g =>
    rw [hg] at q
    simp only [List.any_eq_true, Bool.and_eq_true, decide_eq_true_eq] at q
    obtain ⟨nd, _, _, h3⟩ := q
    exact ⟨(List.getElem?_eq_some_iff.1 hg).1, fdG_lt h3⟩
end Go.Proofs.YtbnihflihelimaaGreat.N

namespace Go.Proofs.YtbnihflihelimaaGreat.N
open Go.RowKit Go.Maps
open Go.Proofs.YtbnihflihelimaaGreat.T

open U (nI own_get own_slice wpList_app1 below_grown TT Out info_split)
/-- What Again answers. -/
def AgR (gs : GL) (l : List Bool) : Prop := ((ckG gs).2 = 0 → l.length = gs.length ∧ ∀ i, l[i]? = some true ↔ i < gs.length ∧ Rc gs.length (cG gs) i i) ∧ ((ckG gs).2 ≠ 0 → l = [])
/-- While it is told which rules come to themselves. -/
structure AgS (w wr : World) (gs : GL) (u : Value) (l : List Bool) : Prop where
  b : Below w.heap.size w wr
  o : wr.ownsRow w.heap.size 4 1 u l.length (l.map Value.bool)
  i : ∀ i, l[i]? = some true ↔ i < l.length ∧ Rc gs.length (cG gs) i i
theorem AgS.push {w wr w4 w5 : World} {gs : GL} {u u' : Value} {l : List Bool} {b : Bool} (h : AgS w wr gs u l) (b4 : Below wr.heap.size wr w4) (hb : b = true ↔ Rc gs.length (cG gs) l.length l.length) (ho : w5.ownsRow w.heap.size 4 1 u' (l.length + 1) (l.map Value.bool ++ [.bool b])) (hg : w4.grownBy w5 u.ownBlock) : AgS w w5 gs u' (l ++ [b]) := by
  have hb4 : Below w.heap.size w w4 := h.b.trans (b4.mono h.b.size)
  refine ⟨below_grown hb4 hg (fun j e => (h.o.lt j e).1), by rw [List.length_append, List.map_append]; exact ho, fun i => ?_⟩
  rw [List.length_append, List.length_singleton]
  by_cases q : i < l.length
  · rw [List.getElem?_append_left q, h.i i]
    constructor
    · rintro ⟨_, r⟩; exact ⟨by omega, r⟩
    · rintro ⟨_, r⟩; exact ⟨q, r⟩
  · rw [List.getElem?_append_right (by omega)]
    by_cases q2 : i = l.length
    · subst q2
      rw [Nat.sub_self]
      constructor
      · intro e
        have e : b = true := by simpa using e
        exact ⟨by omega, hb.1 e⟩
      · rintro ⟨_, r⟩
        rw [hb.2 r]; rfl
    · rw [List.getElem?_eq_none (by simp; omega)]
      constructor
      · intro e; cases e
      · rintro ⟨r, _⟩; omega
set_option maxRecDepth 100000 in
set_option maxHeartbeats 8000000 in
theorem againP_any (gs : GL) (A : Option Addr) (c : Nat) (w : World) (hp : GI w A gs) :
    Calls Tryz.prog 89 #[.agg #[.slice A gs.length c]] w fun e w' => (∃ v l, e = .returned (.tuple #[v, .int .i64 (ckG gs).2]) ∧ AgR gs l ∧ w'.ownsRow w.heap.size 4 1 v l.length (l.map Value.bool)) ∧ Below w.heap.size w w' := by
  obtain ⟨w1, hw1⟩ : ∃ w1, w1 = (w.alloc (.cells #[.slice A gs.length c] 24)) := ⟨_, rfl⟩
  have HB1 : Hid (Below w.heap.size w w1) := by show Below _ _ _; rw [hw1]; exact below_box _ _
  have HN := (show Hid (∀ _ : Unit, Calls Tryz.prog 107 #[.agg #[.slice A gs.length c]] w1 fun e w' => NwV w1 w' gs (ckG gs).2 e ∧ Below w1.heap.size w1 w') from fun _ => netOf_any gs A c w1 (hp.later HB1.out))
  clear hp
  go_enter Tryz.func89, Tryz.ntmps89
  go_wp2_with fail
  rw [← hw1]
  refine (HN.out ()).mono ?_
  rintro e w3 ⟨⟨v, rfl, h1, h2⟩, b3⟩
  have HB := (show Hid (Below w.heap.size w w3) from HB1.out.trans (b3.mono HB1.out.size))
  clear HN b3 hw1 HB1
  by_cases hz : (ckG gs).2 = 0
  · obtain ⟨xs, hT⟩ := h2 hz
    have tz : ((ckG gs).2 != 0) = false := by rw [hz]; rfl
    have hR := ckG_ok.1 hz
    have hn := hR.n2
    have HC := (show Hid (∀ (k : Nat) (wr : World), k < gs.length → Below w3.heap.size w3 wr → Calls Tryz.prog 108 #[v, .int .i64 (k : Int)] wr fun e w' => CmV wr w' gs k e ∧ Below wr.heap.size wr w') from fun k wr hk hb => comesTo_any hR hk wr (hT.below hb))
    have hlx : xs.length = gs.length := hT.len.trans (ntM_len gs)
    obtain ⟨Av, cv, hv⟩ := own_slice hT.o
    rw [hlx] at hv
    subst hv
    have HS := (show Hid (AgS w3 w3 gs (.slice none 0 0) []) from ⟨Below.refl _ _, World.ownsRow_nil _ _ _ _, fun i => by simp⟩)
    have HZ := (show Hid ((ckG gs).2 = 0) from hz)
    clear h1 h2 hT hz hR hlx
    generalize hcd : (ckG gs).2 = cd at *
    have HCD := (show Hid ((ckG gs).2 = cd) from hcd)
    clear hcd
    go_wp2_with fail
    go_loopw [6, 18] (fun u t wr => ∃ (k : Nat) (l : List Bool) (A2 : Option Addr) (c2 : Nat), k ≤ gs.length ∧ t = .int .i64 (k : Int) ∧ u = .slice A2 k c2 ∧ Hid (l.length = k) ∧ Hid (AgS w3 wr gs (.slice A2 k c2) l)) (fun _ t _ => gs.length - (intOf t).toNat)
    case atStart => exact ⟨0, [], none, 0, by omega, by go_num, rfl, rfl, HS⟩
    case round =>
      obtain ⟨k, l, A2, c2, hk, rfl, rfl, HL, HW⟩ := hrel
      clear HS
      by_cases hlt : k < gs.length
      · have HC2 := (show Hid (∀ _ : Unit, Calls Tryz.prog 108 #[.slice Av gs.length cv, .int .i64 (k : Int)] wr fun e w' => CmV wr w' gs k e ∧ Below wr.heap.size wr w') from fun _ => HC.out k wr hlt HW.out.b)
        clear HC
        go_wp2_with fail
        refine (HC2.out ()).mono ?_
        rintro e w4 ⟨⟨u, l4, rfl, hl4, hm4, ho4, _⟩, b4⟩
        obtain ⟨bk, hbk⟩ : ∃ bk, l4[k]? = some bk := ⟨_, List.getElem?_eq_getElem (by omega)⟩
        obtain ⟨g4, c4, rfl, _, _, x4, _⟩ := own_get ho4 (j := k) (x := .bool bk) (by rw [List.getElem?_map, hbk]; rfl)
        have hbR : bk = true ↔ Rc gs.length (cG gs) k k := by
          rw [← hm4 k, hbk]; simp
        have HO := (show Hid (w4.ownsRow w3.heap.size 4 1 (.slice A2 k c2) k (l.map Value.bool)) from by have h := U.own_below HW.out.o b4; rw [HL.out] at h; exact h)
        have HBw := (show Hid (w3.heap.size ≤ w4.heap.size) from Nat.le_trans HW.out.b.size b4.size)
        have HPu := (show Hid (∀ (u' : Value) (w5 : World), w5.ownsRow w3.heap.size 4 1 u' (k + 1) (l.map Value.bool ++ [.bool bk]) → w4.grownBy w5 (Value.slice A2 k c2).ownBlock → AgS w3 w5 gs u' (l ++ [bk])) from fun u' w5 h1 h2 => HW.out.push b4 (by rw [HL.out]; exact hbR) (by rw [HL.out]; exact h1) h2)
        have HL2 := (show Hid ((l ++ [bk]).length = k + 1) from by show _ = _; rw [List.length_append, HL.out]; rfl)
        have v0 : (0 : Int) ≤ (k : Int) := by omega
        have v1 : (k : Int) < (gs.length : Int) := by omega
        clear HC2 hl4 hm4 ho4 b4 HW HL hbk hbR
        go_wp2_with (at_builtin; refine wpList_app1 rfl _ _ 65 rfl (.bool false) 1 Tryz.underlying65 Tryz.info4 rfl w3.heap.size k _ (l.map Value.bool) rfl rfl HO.out rfl (by omega) (by decide) HBw.out ?_; intro g5 cap5 w5 ho5 hg5 hat5 hl5; have HW5 := (show Hid (AgS w3 w5 gs (.slice (some ⟨g5, 0, none⟩) (k + 1) cap5) (l ++ [bk])) from HPu.out _ _ ho5 hg5); clear ho5 hg5 hat5 hl5 HPu HO HBw x4)
        go_roundw
        case rel => exact ⟨k + 1, l ++ [bk], some ⟨g5, 0, none⟩, cap5, by omega, by go_num, rfl, HL2, HW5⟩
        case measure => simp [intOf]; omega
      · obtain rfl : k = gs.length := by omega
        have HO := (show Hid (wr.ownsRow w.heap.size 4 1 (.slice A2 gs.length c2) l.length (l.map Value.bool)) from U.own_base HW.out.o HB.out.size)
        have HA := (show Hid (AgR gs l) from ⟨fun _ => ⟨HL.out, fun i => by rw [HW.out.i i, HL.out]⟩, fun q => absurd (HCD.out.trans HZ.out) q⟩)
        have HB6 := (show Hid (Below w.heap.size w wr) from HB.out.trans (HW.out.b.mono HB.out.size))
        clear HW HL HC HB
        go_wp2_with fail
        refine bodyPost_ret (v := .tuple #[.slice A2 gs.length c2, .int .i64 0]) (by simp [results, Tryz.results89, go_sem]) rfl ⟨⟨_, l, by rw [HCD.out, HZ.out], HA.out, HO.out⟩, HB6.out⟩
  · obtain rfl := h1 hz
    have tz : ((ckG gs).2 != 0) = true := by rw [bne, beq_eq_false_iff_ne.2 hz]; rfl
    have HZ := (show Hid ((ckG gs).2 ≠ 0) from hz)
    clear h1 h2 hz
    generalize hcd : (ckG gs).2 = cd at *
    have HCD := (show Hid ((ckG gs).2 = cd) from hcd)
    clear hcd
    go_wp2_with fail
    refine bodyPost_ret (v := .tuple #[.slice none 0 0, .int .i64 cd]) (by simp [results, Tryz.results89, go_sem]) rfl ⟨⟨_, [], by rw [HCD.out], ⟨fun q => absurd (HCD.out.symm.trans q) HZ.out, fun _ => rfl⟩, World.ownsRow_nil _ _ _ _⟩, HB.out⟩
end Go.Proofs.YtbnihflihelimaaGreat.N

namespace Go.Proofs.YtbnihflihelimaaGreat.N
open Go.RowKit Go.Maps
open Go.Proofs.YtbnihflihelimaaGreat.T
/-- One more behind a row of what is known. -/
theorem wpList_appE {ops : Array Oper} {rest : List Oper} {o : Oper} {a : Act} {Q : Exit → Act → World → Prop} {W : World} {en ec : Bool} {el em : Int} (H : Nat) (hH : W.heap.size = H) (hgd : o.guard = none) (s x : Operand)
    (ho : o.op = .call { callee := .builtin .append, args := #[s, x], argTypes := #[53, 53] })
    (base n : Nat) (v : Value) (l : List Em) (hs : a.eval s = v) (hx : a.eval x = .slice (some ⟨H, 0, none⟩) 1 1) (hown : W.ownsRow base 74 4 v n (emc l)) (hn : n ≤ 1000000) (hbase : base ≤ W.heap.size)
    (h : ∀ g cap w', w'.ownsRow base 74 4 (.slice (some ⟨g, 0, none⟩) (n + 1) cap) (n + 1) (emc (l ++ [⟨en, ec, el, em⟩])) → W.grownBy w' v.ownBlock → (v.ownBlock = some g ∨ g = H + 1) → g < w'.heap.size → wpList Tryz.prog ops Q rest (a.put o.dst (.slice (some ⟨g, 0, none⟩) (n + 1) cap)) w') :
    wpList Tryz.prog ops Q (o :: rest) a (W.alloc (.cells #[.bool en, .bool ec, .int .i64 el, .int .i64 em] 74)) := by
  subst hH
  obtain ⟨i0, hinf, hz0, hz1, hz2⟩ := info_parts Tryz.infoE
  refine wpList_append_lies (W.alloc (.cells #[.bool en, .bool ec, .int .i64 el, .int .i64 em] 74)) hgd s x 53 ho base 74 i0 _ 4 24 Tryz.underlying53 hinf hz0 hz1 hz2 rfl (by decide) v n (emc l) hs (hown.alloc _) ⟨W.heap.size, 0, none⟩ 1 1 (emV ⟨en, ec, el, em⟩) hx rfl (World.news_of_block (cs := #[.bool en, .bool ec, .int .i64 el, .int .i64 em]) (t := 74) (fr := (0, 0)) (heap_alloc_new W _)) (em_one _) (by decide) (by unfold maxLen; omega) (by omega) (by rw [World.size_alloc]; omega) (W.heap.size + 1) (by rw [World.size_alloc]) ?_
  intro g cap w' h2 h3 h4 h5
  refine h g cap w' ?_ (U.grow_alloc h3) h4 h5
  rw [emc_app, emc_one]
  exact h2
/-- Bits, as they lie. -/
def RdB (W : World) (g : Nat) (ag : List Bool) : Prop := ∀ (j : Nat) b, ag[j]? = some b → W.cell? ⟨g, j, none⟩ = some (.bool b)
theorem RdB.later {W W' : World} {g : Nat} {ag : List Bool} (h : RdB W g ag) (hb : Below W.heap.size W W') : RdB W' g ag := fun j b hj => by
  have hc := h j b hj
  exact (hb.cell (p := ⟨g, j, none⟩) (World.block_lt_of_cell? W _ hc)).trans hc
def bdA (ag : List Bool) (i : Nat) : Bool := !((ag[i]?).getD false)
theorem ptR_of {gs : GL} (hR : RtG gs) {A : Option Addr} {w : World} (hp : GI w A gs) {now : List Em} (hok : OkN gs now) {g : ByteArray × List Nd} (hm : g ∈ gs) : PtR gs now g.2 :=
  ⟨rt_of (hR.ck g hm), (hp.t g hm).2.2, fun n hn h6 => hR.dn.c g hm n hn h6, hok⟩
structure RoS (w wr : World) (m s u : Value) (l : List Em) (v : Value) : Prop where
  b : Below w.heap.size w wr
  k : KX wr w.heap.size m s
  g : GX wr (w.heap.size + 1) u
  o : wr.ownsRow (w.heap.size + 2) 74 4 v l.length (emc l)
theorem RoS.start (w : World) (m s u : Value) : RoS w ((w.alloc (.cells #[m, s] 129)).alloc (.cells #[u] 24)) m s u [] (.slice none 0 0) := by
  have s1 := World.size_alloc w (.cells #[m, s] 129)
  refine ⟨((Below.refl _ _).alloc (Nat.le_refl _) _).alloc (by omega) _, (KX.new w m s).below (below_box _ _), ?_, World.ownsRow_nil _ _ _ _⟩
  have h : GX ((w.alloc (.cells #[m, s] 129)).alloc (.cells #[u] 24)) (w.alloc (.cells #[m, s] 129)).heap.size u := ⟨heap_alloc_new _ _⟩
  rw [s1] at h; exact h
theorem RoS.later {w wr w2 : World} {m s u v : Value} {l : List Em} (h : RoS w wr m s u l v) (hb : Below wr.heap.size wr w2) : RoS w w2 m s u l v := ⟨h.b.trans (hb.mono h.b.size), h.k.below hb, h.g.below hb, T.own_below h.o hb⟩
theorem RoS.push {w wr w2 : World} {m s u v v' : Value} {l : List Em} {e : Em} (h : RoS w wr m s u l v) (ho : w2.ownsRow (w.heap.size + 2) 74 4 v' (l.length + 1) (emc (l ++ [e]))) (hg : wr.grownBy w2 v.ownBlock) : RoS w w2 m s u (l ++ [e]) v' := by
  have hlow : ∀ q, v.ownBlock = some q → w.heap.size + 2 ≤ q := fun q hq => (h.o.lt q hq).1
  refine ⟨h.b.grown hg h.b.size (fun q e => by have := hlow q e; omega), h.k.same (hg.block _ h.k.lt (fun e => by have := hlow _ e.symm; omega)), h.g.same (hg.block _ h.g.lt (fun e => by have := hlow _ e.symm; omega)), ?_⟩
  rw [List.length_append]
  exact ho
set_option maxRecDepth 100000 in
set_option maxHeartbeats 16000000 in
/-- All rules anew. -/
theorem round_any {gs : GL} (hR : RtG gs) {now : List Em} (hok : OkN gs now) {ag : List Bool} (hag : ag.length = gs.length) (B gA : Nat) (Ar A : Option Addr) (cr c ca : Nat) (w : World) (hk : KnI w gs B Ar now) (hp : GI w A gs) (hb : RdB w gA ag) :
    Calls Tryz.prog 91 #[.agg #[.map (some B), .slice Ar now.length cr], .agg #[.slice A gs.length c], .slice (some ⟨gA, 0, none⟩) gs.length ca] w fun e w' => (∃ v, e = .returned v ∧ w'.ownsRow (w.heap.size + 2) 74 4 v gs.length (emc (rdE gs kdR (bdA ag) now))) ∧ Below w.heap.size w w' := by
  have hn200 := hR.n2
  have hne : now ≠ [] := by rintro rfl; have := hk.n; have := hR.n1; simp at *; omega
  obtain ⟨nx, hnx⟩ : ∃ nx, nx = rdE gs kdR (bdA ag) now := ⟨_, rfl⟩
  have HX := (show Hid (nx.length = gs.length) from by show nx.length = _; rw [hnx]; exact rdE_len)
  have HGt := (show Hid (∀ (k : Nat), k < gs.length → ∃ g b, gs[k]? = some g ∧ ag[k]? = some b ∧ PtR gs now g.2 ∧ nx[k]? = some (if b then ⟨(EE (lkE gs now) g.2 (g.2.length - 1)).nu, (EE (lkE gs now) g.2 (g.2.length - 1)).cf, (EE (lkE gs now) g.2 (g.2.length - 1)).le, -1⟩ else EE (lkE gs now) g.2 (g.2.length - 1))) from fun k hk => by
    have hg : gs[k]? = some gs[k] := List.getElem?_eq_getElem hk
    have ha : ag[k]? = some ag[k] := List.getElem?_eq_getElem (by omega)
    have hm := List.mem_of_getElem? hg
    refine ⟨_, _, hg, ha, ptR_of hR hp hok hm, ?_⟩
    rw [hnx, rdE_get hg, EE_la (body_pos hR hm)]
    have e : bdA ag k = !ag[k] := by unfold bdA; rw [ha]; rfl
    rw [e]
    cases ag[k] <;> rfl)
  have HP := (show Hid (GrD w A gs) from hp.d)
  have HK := (show Hid (KnI w gs B Ar now) from hk)
  have HB := (show Hid (RdB w gA ag) from hb)
  have HNe := (show Hid (now ≠ []) from hne)
  have HS := (show Hid (RoS w ((w.alloc (.cells #[.map (some B), .slice Ar now.length cr] 129)).alloc (.cells #[.slice A gs.length c] 24)) (.map (some B)) (.slice Ar now.length cr) (.slice A gs.length c) [] (.slice none 0 0)) from RoS.start w _ _ _)
  obtain ⟨w1, hw1⟩ : ∃ w1, w1 = (w.alloc (.cells #[.map (some B), .slice Ar now.length cr] 129)).alloc (.cells #[.slice A gs.length c] 24) := ⟨_, rfl⟩
  have HE1 := (show Hid ((w.alloc (.cells #[.map (some B), .slice Ar now.length cr] 129)).alloc (.cells #[.slice A gs.length c] 24) = w1) from hw1.symm)
  rw [← hw1] at HS
  rw [← hnx]
  have q1 := HS.out.g.cl
  clear hw1 hk hp hb hne hnx hok hR hag
  go_enter Tryz.func91, Tryz.ntmps91
  go_wp2_with (rw [HE1.out])
  clear HE1 q1
  go_loopw [7, 14] (fun v t wr => ∃ (k : Nat) (A3 : Option Addr) (c3 : Nat), k ≤ gs.length ∧ t = .int .i64 (k : Int) ∧ v = .slice A3 k c3 ∧ Hid (RoS w wr (.map (some B)) (.slice Ar now.length cr) (.slice A gs.length c) (nx.take k) (.slice A3 k c3))) (fun _ t _ => gs.length - (intOf t).toNat)
  case atStart => exact ⟨0, none, 0, Nat.zero_le _, by go_num, rfl, HS⟩
  case round =>
    obtain ⟨k, A3, c3, hk, rfl, rfl, HW⟩ := hrel
    clear HS
    by_cases hlt : k < gs.length
    · obtain ⟨g, ba, hg, ha, hpt, hxk⟩ := HGt.out k hlt
      obtain ⟨b, o, A2, c2, rfl, lb, x0, x1, r2⟩ := HP.out k g hg
      have x0' := (HW.out.b.cell (p := ⟨b, o + k * 2, none⟩) lb).trans x0
      have x1' := (HW.out.b.cell (p := ⟨b, o + k * 2 + 1, none⟩) lb).trans x1
      clear x0 x1
      have z0 : (0 : Int) ≤ (k : Int) := by omega
      have z1 : (k : Int) < (gs.length : Int) := by omega
      obtain ⟨w2, hw2⟩ : ∃ w2, w2 = wr.alloc (.cells #[.string g.1, .slice A2 g.2.length c2] 50) := ⟨_, rfl⟩
      have HE2 := (show Hid (wr.alloc (.cells #[.string g.1, .slice A2 g.2.length c2] 50) = w2) from hw2.symm)
      have hb2 : Below wr.heap.size wr w2 := by rw [hw2]; exact below_box _ _
      have HR2 := (show Hid (RB w2 wr.heap.size g.1 (.slice A2 g.2.length c2)) from by rw [hw2]; exact ⟨heap_alloc_new wr _⟩)
      have HW2 := (show Hid (RoS w w2 (.map (some B)) (.slice Ar now.length cr) (.slice (some ⟨b, o, none⟩) gs.length c) (nx.take k) (.slice A3 k c3)) from HW.out.later hb2)
      obtain ⟨⟨en, ec, el, em⟩, hE⟩ : ∃ e, e = EE (lkE gs now) g.2 (g.2.length - 1) := ⟨_, rfl⟩
      rw [← hE] at hxk
      have HC := (show Hid (Calls Tryz.prog 109 #[.agg #[.map (some B), .slice Ar now.length cr], .slice A2 g.2.length c2] w2 fun e w' => e = .returned (.agg #[.bool en, .bool ec, .int .i64 el, .int .i64 em]) ∧ Below w2.heap.size w2 w') from by
        have t := of_any hpt B Ar A2 cr c2 w2 (HK.out.later HW2.out.b) HNe.out (r2.below HW2.out.b (Nat.le_refl _))
        rw [← hE] at t
        exact t)
      have k0 := HW2.out.k.c0
      have k1 := HW2.out.k.c1
      have y1 := HR2.out.c1
      have HXk := (show Hid (nx[k]? = some (if ba then ⟨en, ec, el, -1⟩ else ⟨en, ec, el, em⟩)) from hxk)
      have HAg := (show Hid (ag[k]? = some ba) from ha)
      clear hw2 hb2 hg ha hpt hxk r2 hE HW HGt HP
      go_wp2_with (rw [HE2.out])
      refine HC.out.mono ?_
      rintro e w3 ⟨rfl, b3⟩
      have HW3 := (show Hid (RoS w w3 (.map (some B)) (.slice Ar now.length cr) (.slice (some ⟨b, o, none⟩) gs.length c) (nx.take k) (.slice A3 k c3)) from HW2.out.later b3)
      clear HC HE2 k0 k1 y1 HR2 HW2 b3 x0' x1'
      obtain ⟨kk, hkk⟩ : ∃ kk, kk = w3.heap.size := ⟨_, rfl⟩
      obtain ⟨w4, hw4⟩ : ∃ w4, w4 = w3.alloc (.cells #[.bool en, .bool ec, .int .i64 el, .int .i64 em] 74) := ⟨_, rfl⟩
      have HE4 := (show Hid (w3.alloc (.cells #[.bool en, .bool ec, .int .i64 el, .int .i64 em] 74) = w4) from hw4.symm)
      have HKk := (show Hid (w3.heap.size = kk) from hkk.symm)
      have HX4 := (show Hid (EX w4 kk ⟨en, ec, el, em⟩) from by rw [hw4, hkk]; exact EX.new w3 ⟨en, ec, el, em⟩)
      have HW4 := (show Hid (RoS w w4 (.map (some B)) (.slice Ar now.length cr) (.slice (some ⟨b, o, none⟩) gs.length c) (nx.take k) (.slice A3 k c3)) from HW3.out.later (by rw [hw4]; exact below_box _ _))
      have HKw := (show Hid (w.heap.size + 2 ≤ kk ∧ ∀ q, (Value.slice A3 k c3).ownBlock = some q → q < kk) from ⟨by rw [hkk]; have := HW3.out.g.lt; omega, fun q hq => by rw [hkk]; exact (HW3.out.o.lt q hq).2⟩)
      have a0 : w4.cell? ⟨gA, k, none⟩ = some (.bool ba) := HB.out.later HW4.out.b k ba HAg.out
      have v0 : w4.cell? ⟨kk, 0, none⟩ = some (.bool en) := HX4.out.eb.c0
      have v1 : w4.cell? ⟨kk, 1, none⟩ = some (.bool ec) := HX4.out.eb.c1
      have v2 : w4.cell? ⟨kk, 2, none⟩ = some (.int .i64 el) := HX4.out.eb.c2
      have v3 : w4.cell? ⟨kk, 3, none⟩ = some (.int .i64 em) := HX4.out.eb.c3
      have f3 := HX4.out.fz 3
      have HTk := (show Hid (∀ e, nx[k]? = some e → nx.take (k + 1) = nx.take k ++ [e] ∧ (nx.take k).length = k) from fun e he => ⟨by rw [List.take_add_one, he]; rfl, by rw [List.length_take, HX.out]; omega⟩)
      clear hw4 hkk HW3
      cases ba with
      | false =>
        obtain ⟨T1, T2⟩ := HTk.out _ HXk.out
        have HO := (show Hid (w4.ownsRow (w.heap.size + 2) 74 4 (.slice A3 k c3) k (emc (nx.take k))) from by have h := HW4.out.o; rw [T2] at h; exact h)
        have HSz := (show Hid (w.heap.size + 2 ≤ w4.heap.size) from Nat.le_trans HKw.out.1 (Nat.le_of_lt HX4.out.lt))
        have HPu := (show Hid (∀ (w6 : World) (g3 cap3 : Nat), w6.ownsRow (w.heap.size + 2) 74 4 (.slice (some ⟨g3, 0, none⟩) (k + 1) cap3) (k + 1) (emc (nx.take k ++ [⟨en, ec, el, em⟩])) → w4.grownBy w6 (Value.slice A3 k c3).ownBlock → RoS w w6 (.map (some B)) (.slice Ar now.length cr) (.slice (some ⟨b, o, none⟩) gs.length c) (nx.take (k + 1)) (.slice (some ⟨g3, 0, none⟩) (k + 1) cap3)) from fun w6 g3 cap3 h1 h2 => by
          have h := HW4.out.push (e := ⟨en, ec, el, em⟩) (v' := .slice (some ⟨g3, 0, none⟩) (k + 1) cap3) (w2 := w6) (by rw [T2]; exact h1) h2
          have T1' : nx.take (k + 1) = nx.take k ++ [⟨en, ec, el, em⟩] := T1
          rw [T1']
          exact h)
        clear T1 T2 HTk HXk HW4 HX4 HAg
        go_wp2_with (first | rw [HE4.out, HKk.out] | (at_builtin; refine wpList_appE w4.heap.size rfl rfl _ _ rfl (w.heap.size + 2) k _ (nx.take k) rfl rfl HO.out (by omega) HSz.out ?_; intro g6 cap6 w6 ho6 hg6 hat6 hl6; have HW6 := (show Hid _ from HPu.out w6 g6 cap6 ho6 hg6); clear ho6 hg6 hat6 hl6 HPu HO HSz v0 v1 v2 v3 f3 a0))
        go_roundw
        case rel => exact ⟨k + 1, some ⟨g6, 0, none⟩, cap6, by omega, by go_num, rfl, HW6⟩
        case measure => simp [intOf]; omega
      | true =>
        obtain ⟨T1, T2⟩ := HTk.out _ HXk.out
        obtain ⟨w5, hw5⟩ : ∃ w5, w5 = w4.setCell ⟨kk, 3, none⟩ (.int .i64 (-1)) := ⟨_, rfl⟩
        have HE5 := (show Hid (w4.setCell ⟨kk, 3, none⟩ (.int .i64 (-1)) = w5) from hw5.symm)
        have HX5 := (show Hid (EX w5 kk ⟨en, ec, el, -1⟩) from by rw [hw5]; exact HX4.out.set3 (-1))
        have HW5 := (show Hid (RoS w w5 (.map (some B)) (.slice Ar now.length cr) (.slice (some ⟨b, o, none⟩) gs.length c) (nx.take k) (.slice A3 k c3)) from by
          have h := HW4.out
          have hk := HKw.out.1
          have key : ∀ j, j ≠ kk → w5.heap[j]? = w4.heap[j]? := fun j hj => by rw [hw5]; exact heap_setCell_other _ _ _ _ hj
          exact ⟨by rw [hw5]; exact h.b.setCell (p := ⟨kk, 3, none⟩) (by show w.heap.size ≤ kk; omega) _, h.k.same (key _ (by omega)), h.g.same (key _ (by omega)), own_same h.o fun q hq => key q (by have := HKw.out.2 q hq; omega)⟩)
        have u0 : w5.cell? ⟨kk, 0, none⟩ = some (.bool en) := HX5.out.eb.c0
        have u1 : w5.cell? ⟨kk, 1, none⟩ = some (.bool ec) := HX5.out.eb.c1
        have u2 : w5.cell? ⟨kk, 2, none⟩ = some (.int .i64 el) := HX5.out.eb.c2
        have u3 : w5.cell? ⟨kk, 3, none⟩ = some (.int .i64 (-1)) := HX5.out.eb.c3
        have HO := (show Hid (w5.ownsRow (w.heap.size + 2) 74 4 (.slice A3 k c3) k (emc (nx.take k))) from by have h := HW5.out.o; rw [T2] at h; exact h)
        have HSz := (show Hid (w.heap.size + 2 ≤ w5.heap.size) from Nat.le_trans HKw.out.1 (Nat.le_of_lt HX5.out.lt))
        have HPu := (show Hid (∀ (w6 : World) (g3 cap3 : Nat), w6.ownsRow (w.heap.size + 2) 74 4 (.slice (some ⟨g3, 0, none⟩) (k + 1) cap3) (k + 1) (emc (nx.take k ++ [⟨en, ec, el, -1⟩])) → w5.grownBy w6 (Value.slice A3 k c3).ownBlock → RoS w w6 (.map (some B)) (.slice Ar now.length cr) (.slice (some ⟨b, o, none⟩) gs.length c) (nx.take (k + 1)) (.slice (some ⟨g3, 0, none⟩) (k + 1) cap3)) from fun w6 g3 cap3 h1 h2 => by
          have h := HW5.out.push (e := ⟨en, ec, el, -1⟩) (v' := .slice (some ⟨g3, 0, none⟩) (k + 1) cap3) (w2 := w6) (by rw [T2]; exact h1) h2
          have T1' : nx.take (k + 1) = nx.take k ++ [⟨en, ec, el, -1⟩] := T1
          rw [T1']
          exact h)
        clear T1 T2 HTk HXk HW4 HX4 HAg hw5 HX5 HW5
        go_wp2_with (first | rw [HE4.out, HKk.out] | rw [HE5.out] | (at_builtin; refine wpList_appE w5.heap.size rfl rfl _ _ rfl (w.heap.size + 2) k _ (nx.take k) rfl rfl HO.out (by omega) HSz.out ?_; intro g6 cap6 w6 ho6 hg6 hat6 hl6; have HW6 := (show Hid _ from HPu.out w6 g6 cap6 ho6 hg6); clear ho6 hg6 hat6 hl6 HPu HO HSz v0 v1 v2 v3 f3 a0 u0 u1 u2 u3))
        go_roundw
        case rel => exact ⟨k + 1, some ⟨g6, 0, none⟩, cap6, by omega, by go_num, rfl, HW6⟩
        case measure => simp [intOf]; omega
    · obtain rfl : k = gs.length := by omega
      have HO := (show Hid (wr.ownsRow (w.heap.size + 2) 74 4 (.slice A3 gs.length c3) gs.length (emc nx)) from by
        have h := HW.out.o
        rw [← HX.out, List.take_length, HX.out] at h
        exact h)
      have HBz := (show Hid (Below w.heap.size w wr) from HW.out.b)
      clear HW HGt HP HK HB
      go_wp2_with fail
      go_ret
      exact ⟨⟨_, rfl, HO.out⟩, HBz.out⟩
end Go.Proofs.YtbnihflihelimaaGreat.N
