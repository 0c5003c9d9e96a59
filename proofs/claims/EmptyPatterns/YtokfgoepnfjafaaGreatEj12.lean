/- DERIVED. Plain mathematics and walks, laid together (12). -/
import Derived.Shelf.Sort.AssemblyIn
import Derived.Sort.EveryDepth
import Derived.Test.YtokfgoepnfjafaaGreatProg
import Derived.Shelf.Slices.In.SortNone
import Derived.Sort.OwnSortedInts
import Derived.Maps.Range
import Derived.Maps.Views
import Derived.Sort.KeysCollected
import Derived.Laws.OwnMore
import Derived.Deep.LoopGhost
import Derived.Test.YtokfgoepnfjafaaGreatEj11
namespace Go.Proofs.YtokfgoepnfjafaaGreat.T
open Go.RowKit
theorem enters49 (args : Array Value) (w : World) : (callFunc 39 args).run Tryz.prog w = .ok (.enter 39 args) w := enters_of Tryz.func39 (by kernel_rfl) rfl args w
set_option maxRecDepth 100000 in
set_option maxHeartbeats 8000000 in
theorem names1_old (L : List Nd) (p : Pt) (va v : Value) (n : Nd) (l : List ByteArray) (g o cp bp bn B : Nat) (hl : l.length ≤ 2048) (w : World) (hn : L[p.2.1]? = some n) (hp : w.cell? ⟨bp, 0, none⟩ = some (.slice (some ⟨g, o, none⟩) L.length cp)) (hc : TB w bn v) (ho : w.ownsRow B 9 1 v l.length (stc l)) (hr : NdL w g o L) (h6 : ¬ (n.op = 6 ∧ inB n.tx l = false)) :
    Calls Tryz.prog 39 #[ptG p, va, .pointer (some ⟨bp, 0, none⟩), .pointer (some ⟨bn, 0, none⟩)] w fun e w' => (∃ u, e = .returned u) ∧ Below w.heap.size w w' := by
  have hj : p.2.1 < L.length := by
    by_cases q : p.2.1 < L.length
    · exact q
    · rw [List.getElem?_eq_none (by omega)] at hn; cases hn
  obtain ⟨e0, e1, e2, e3, e4, e5, e6⟩ := hr p.2.1 n hn
  have hlp := World.block_lt_of_cell? w _ hp
  have hlg := (hr p.2.1 n hn).lt
  have hlc := hc.lt
  simp only at hlp
  have c0 := hc.c0
  have z0 : (0 : Int) ≤ (p.2.1 : Int) := by omega
  have z1 : (p.2.1 : Int) < (L.length : Int) := by omega
  obtain ⟨W2, hW2⟩ : ∃ W2, W2 = (w.alloc (.cells #[.int .i64 p.1, .int .i64 p.2.1, .int .i64 p.2.2] 82)).alloc (.cells #[.int .i64 n.op, .int .i64 n.nn, .string n.tx, .int .u64 n.s0, .int .u64 n.s1, .int .u64 n.s2, .int .u64 n.s3] 62) := ⟨_, rfl⟩
  have hB2 : Below w.heap.size w W2 := by rw [hW2]; exact (below_box w _).alloc (below_box w _).size _
  have HB2 := (show Hid (Below w.heap.size w W2) from hB2)
  by_cases q6 : n.op = 6
  · have t6 : (n.op == 6) = true := beq_iff_eq.2 q6
    have hi : inB n.tx l = true := by
      cases q : inB n.tx l with
      | true => rfl
      | false => exact absurd ⟨q6, q⟩ h6
    have HCn : Hid (∀ _ : Unit, Calls Tryz.prog 40 #[v, .string n.tx] W2 fun e w' => e = .returned (.bool true) ∧ w' = W2) := fun _ => by
      have h := contains_any v n.tx l (by omega) W2 (own_rdt (own_below ho hB2) rfl)
      rw [hi] at h
      exact h
    clear hr hn hc ho h6 q6 hi hB2
    subst hW2
    go_enter Tryz.func39, Tryz.ntmps39
    go_wp2_with fail
    refine (HCn.out ()).mono ?_
    rintro e w3 ⟨rfl, rfl⟩
    clear HCn e0 e1 e2 e3 e4 e5 e6 c0 hp t6
    go_wp2_with fail
    go_end0
    exact ⟨⟨_, rfl⟩, HB2.out⟩
  · have t6 : (n.op == 6) = false := beq_eq_false_iff_ne.2 q6
    clear hr hn hc ho h6 q6 hB2
    subst hW2
    go_enter Tryz.func39, Tryz.ntmps39
    go_wp2_with fail
    go_end0
    exact ⟨⟨_, rfl⟩, HB2.out⟩

structure JM (L : List Nd) (Ap : Option Addr) (cp bp bn Bc B k : Nat) (X : Nat → Prop) (w : World) : Prop where
  far : Bc ≤ bp ∧ Bc ≤ bn ∧ bp < B ∧ bn < B ∧ bp ≠ bn ∧ Bc ≤ B
  s : ∃ v, TB w bn v ∧ (∀ b, X b ↔ b = bn ∨ v.ownBlock = some b) ∧ w.ownsRow B 9 1 v (nmL L k).length (stc (nmL L k))
  p : w.cell? ⟨bp, 0, none⟩ = some (.slice Ap L.length cp)
  r : L ≠ [] → ∃ g o, Ap = some ⟨g, o, none⟩ ∧ g < Bc ∧ g < w.heap.size ∧ NdL w g o L
theorem JM.kept {L : List Nd} {Ap : Option Addr} {cp bp bn Bc B k : Nat} {X : Nat → Prop} {w w' : World} (h : JM L Ap cp bp bn Bc B k X w) (hz : w.heap.size ≤ w'.heap.size) (hb : ∀ b, (b < B ∨ X b) → w'.heap[b]? = w.heap[b]?) : JM L Ap cp bp bn Bc B k X w' := by
  obtain ⟨f1, f2, f3, f4, f5, f6⟩ := h.far
  obtain ⟨v, hs, hx, ho⟩ := h.s
  refine ⟨h.far, ⟨v, hs.same (hb bn (.inl f4)), hx, ho.1, ?_⟩, (World.cell?_of_block (a := ⟨bp, 0, none⟩) (hb bp (.inl f3))).trans h.p, fun hne => ?_⟩
  · rcases ho.2 with q | ⟨g, cap, cur, rfl, r1, r2, rest⟩
    · exact .inl q
    · exact .inr ⟨g, cap, cur, rfl, r1, (hb g (.inr ((hx g).2 (.inr rfl)))).trans r2, rest⟩
  · obtain ⟨g, o, e, q1, q2, q3⟩ := h.r hne
    exact ⟨g, o, e, q1, by omega, q3.same (hb g (.inl (by omega)))⟩
theorem see49 (L : List Nd) (Ap : Option Addr) (cp bp bn Bc B : Nat) (hL : L.length ≤ 2048) : See L 39 #[.pointer (some ⟨bp, 0, none⟩), .pointer (some ⟨bn, 0, none⟩)] Bc B (JM L Ap cp bp bn Bc B) := by
  refine ⟨fun k X w w' h hz hb => h.kept hz hb, fun k X w h b hb => ?_, fun k X w A c h hB hk he hr hA => ?_⟩
  · obtain ⟨v, hs, hx, ho⟩ := h.s
    rcases (hx b).1 hb with rfl | q
    · exact ⟨h.far.2.1, hs.lt⟩
    · have := ho.lt b q; have := h.far.2.2.2.2.2; omega
  · obtain ⟨f1, f2, f3, f4, f5, f6⟩ := h.far
    obtain ⟨v, hs, hx, ho⟩ := h.s
    obtain ⟨g, o, rfl, q1, q2, q3⟩ := h.r (by rintro rfl; simp at hk)
    have hn : L[k]? = some L[k] := List.getElem?_eq_getElem hk
    have hpl : (pt L k).2.1 = k := mk_last _ _ _ _
    have hln := nmL_len L k
    have hrow : ∀ b, v.ownBlock = some b → B ≤ b := fun b q => (ho.lt b q).1
    have hpk : ∀ {W : World}, (∀ b, b < w.heap.size → b < B → b ≠ bn → W.heap[b]? = w.heap[b]?) → W.cell? ⟨bp, 0, none⟩ = some (.slice (some ⟨g, o, none⟩) L.length cp) ∧ NdL W g o L := fun hW =>
      ⟨(World.cell?_of_block (a := ⟨bp, 0, none⟩) (hW bp (World.block_lt_of_cell? w _ h.p) f3 f5)).trans h.p, q3.same (hW g q2 (by omega) (by omega))⟩
    by_cases h6 : L[k].op = 6 ∧ inB L[k].tx (nmL L k) = false
    · have hc := names1_new L (pt L k) (.slice A (arN (opAt L k)) c) v L[k] (nmL L k) g o cp bp bn B (by omega) w (by rw [hpl]; exact hn) f5 h.p hs ho f4 hB q3 (by omega) h6.1 h6.2
      refine hc.mono fun e w' ⟨hu, v', h1, h2, h3, h4⟩ => ⟨hu, fun b => b = bn ∨ v'.ownBlock = some b, ⟨h.far, ⟨v', h1, fun b => Iff.rfl, by rw [nmL_succ hn, if_pos h6, List.length_append]; exact h2⟩, (hpk (fun b b1 b2 b3 => h4.block b b1 (by rintro (q | q); exact b3 q; have := hrow b q; omega))).1, fun _ => ⟨g, o, rfl, q1, Nat.lt_of_lt_of_le q2 h4.size, (hpk (fun b b1 b2 b3 => h4.block b b1 (by rintro (q | q); exact b3 q; have := hrow b q; omega))).2⟩⟩, ⟨h4.os, h4.tape, h4.output, h4.size, fun b hb hnx => h4.block b hb (fun q => hnx ((hx b).2 q))⟩, fun b q => ?_⟩
      rcases q with q | q
      · exact .inl ((hx b).2 (.inl q))
      · rcases h3 b q with r | r
        · exact .inl ((hx b).2 (.inr r))
        · exact .inr r
    · have hc := names1_old L (pt L k) (.slice A (arN (opAt L k)) c) v L[k] (nmL L k) g o cp bp bn B (by omega) w (by rw [hpl]; exact hn) h.p hs ho q3 h6
      refine hc.mono fun e w' ⟨hu, hb⟩ => ⟨hu, X, ⟨h.far, ⟨v, hs.same (hb.block bn hs.lt), hx, by rw [nmL_succ hn, if_neg h6]; exact own_below ho hb⟩, (hpk (fun b b1 _ _ => hb.block b b1)).1, fun _ => ⟨g, o, rfl, q1, Nat.lt_of_lt_of_le q2 hb.size, (hpk (fun b b1 _ _ => hb.block b b1)).2⟩⟩, ⟨hb.os, hb.tape, hb.output, hb.size, fun b hlt _ => hb.block b hlt⟩, fun b q => .inl q⟩
end Go.Proofs.YtokfgoepnfjafaaGreat.T

namespace Go.Proofs.YtokfgoepnfjafaaGreat.T
open Go.RowKit
set_option maxRecDepth 100000 in
set_option maxHeartbeats 1000000 in
theorem through_long (L : List Nd) (Ap : Option Addr) (cp : Nat) (sv : Value) (hlong : 2048 < L.length) (w : World) :
    Calls Tryz.prog 38 #[.slice Ap L.length cp, sv] w fun e w' => e = .returned (.tuple #[.int .i64 (ck L).1, .int .i64 (ck L).2]) ∧ w' = w := by
  have HE := (show Hid (ck L = (0, 2)) from ck_long hlong)
  have z : (2048 : Int) < (L.length : Int) := by omega
  go_enter Tryz.func38, Tryz.ntmps38
  go_wp2_with fail
  go_ret2
  exact ⟨by rw [HE.out]; rfl, rfl⟩

set_option maxRecDepth 100000 in
set_option maxHeartbeats 4000000 in
theorem names_any (L : List Nd) (Ap : Option Addr) (cp : Nat) (hL : L.length ≤ 140737488355328) (hT : ∀ n ∈ L, n.tx.size ≤ 140737488355328) (w : World) (hp : RdN w Ap L) :
    Calls Tryz.prog 22 #[.slice Ap L.length cp] w fun e w' => NmV w w' L e ∧ Below w.heap.size w w' := by
  obtain ⟨W2, hW2⟩ : ∃ W2, W2 = (w.alloc (.cells #[.slice Ap L.length cp] 38)).alloc (.cells #[.slice none 0 0] 63) := ⟨_, rfl⟩
  have hB1 := below_box w (.cells #[.slice Ap L.length cp] 38)
  have hB2 : Below w.heap.size w W2 := by rw [hW2]; exact hB1.alloc hB1.size _
  have hs2 : W2.heap.size = w.heap.size + 2 := by rw [hW2]; simp
  have e0 : W2.heap[w.heap.size]? = some (.cells #[.slice Ap L.length cp] 38 (0, 0)) := by
    rw [hW2, (below_box _ _).block _ (by simp)]
    exact heap_alloc_new w _
  have e1 : W2.heap[w.heap.size + 1]? = some (.cells #[.slice none 0 0] 63 (0, 0)) := by
    rw [hW2]
    have h := heap_alloc_new (w.alloc (.cells #[.slice Ap L.length cp] 38)) (.cells #[.slice none 0 0] 63)
    rw [World.size_alloc] at h
    exact h
  have k0 : W2.cell? ⟨w.heap.size, 0, none⟩ = some (.slice Ap L.length cp) := by rw [cell_of_row W2 _ 0 _ 38 (0, 0) e0]; rfl
  have HT : Hid (∀ _ : Unit, Calls Tryz.prog 38 #[.slice Ap L.length cp, .func (.func 39) #[] #[.pointer (some ⟨w.heap.size, 0, none⟩), .pointer (some ⟨w.heap.size + 1, 0, none⟩)]] W2 fun e w' => e = .returned (.tuple #[.int .i64 (ck L).1, .int .i64 (ck L).2]) ∧ Below w.heap.size W2 w' ∧ ((ck L).2 = 0 → ∃ v, TB w' (w.heap.size + 1) v ∧ w'.ownsRow w.heap.size 9 1 v (nmL L L.length).length (stc (nmL L L.length)))) := fun _ => by
    by_cases hlen : 2048 < L.length
    · exact (through_long L Ap cp _ hlen W2).mono fun e w' ⟨h1, h2⟩ => ⟨h1, by rw [h2]; exact Below.refl _ _, fun q => by rw [ck_long hlen] at q; cases q⟩
    · refine (through_any L 39 _ _ Ap cp w.heap.size hL hT W2 (by omega) (hp.below hB2 (Nat.le_refl _)) (fun hne a ha => by
        obtain ⟨g, o, e, lt, _⟩ := hp hne
        rw [e] at ha
        cases ha
        exact lt) enters49 (see49 L Ap cp w.heap.size (w.heap.size + 1) w.heap.size W2.heap.size (by omega)) (fun b => b = w.heap.size + 1) ⟨by omega, ⟨_, ⟨e1⟩, fun b => by simp [Value.ownBlock], World.ownsRow_nil _ _ _ _⟩, k0, fun hne => ?_⟩).mono fun e w' ⟨h1, h2, k, X, hj, hk⟩ => ⟨h1, h2, fun q => by
          obtain ⟨v, h3, _, h4⟩ := hj.s
          rw [hk q] at h4
          exact ⟨v, h3, own_base h4 (by omega)⟩⟩
      obtain ⟨g, o, e, lt, cl⟩ := hp hne
      exact ⟨g, o, e, lt, by omega, cl.same (hB2.block g lt)⟩
  have HB2 := (show Hid (Below w.heap.size w W2) from hB2)
  clear hB1 hB2 e0 e1 hp hT hs2
  have HE : Hid (nmE L = if (ck L).2 = 0 then nmL L L.length else []) := rfl
  subst hW2
  go_enter Tryz.func22, Tryz.ntmps22
  go_wp2_with fail
  refine (HT.out ()).mono ?_
  rintro e w3 ⟨rfl, b3, hn⟩
  have HB3 := (show Hid (Below w.heap.size w w3) from HB2.out.trans b3)
  clear HT b3 HB2 k0
  by_cases hc : (ck L).2 = 0
  · obtain ⟨v, h3, h4⟩ := hn hc
    have c0 := h3.c0
    have HI := (show Hid (nmE L = nmL L L.length ∧ (ck L).2 = 0) from ⟨by rw [HE.out, if_pos hc], hc⟩)
    have HO := (show Hid (w3.ownsRow w.heap.size 9 1 v (nmL L L.length).length (stc (nmL L L.length))) from h4)
    have t1 : ((ck L).2 != 0) = false := by rw [hc]; rfl
    clear hn hc HE h3 h4
    go_wp2_with fail
    go_ret2
    exact ⟨⟨v, by rw [HI.out.2]; rfl, by rw [HI.out.1]; exact HO.out⟩, HB3.out⟩
  · have HI := (show Hid (nmE L = []) from by show nmE L = _; rw [HE.out, if_neg hc])
    have t1 : ((ck L).2 != 0) = true := by rw [bne, beq_eq_false_iff_ne.2 hc]; rfl
    clear hn hc HE
    go_wp2_with fail
    go_ret2
    exact ⟨⟨_, rfl, by rw [HI.out]; exact World.ownsRow_nil _ _ _ _⟩, HB3.out⟩
end Go.Proofs.YtokfgoepnfjafaaGreat.T

namespace Go.Proofs
open Go.Shelf
def Tryz.lays189_ren : Go.Shelf.Ren := ⟨fun | 189 => 88 | 125 => 92 | 257 => 91 | 128 => 102 | 129 => 103 | 294 => 93 | 295 => 94 | 296 => 95 | 297 => 96 | 298 => 97 | 299 => 98 | 216 => 99 | 300 => 100 | 301 => 101 | 328 => 104 | 329 => 105 | 330 => 106 | 331 => 107 | 332 => 108 | 215 => 109 | 343 => 110 | n => n, fun | 28 => 87 | 3 => 3 | 46 => 119 | 0 => 0 | 51 => 129 | 53 => 58 | 4 => 4 | 183 => 122 | 182 => 121 | 131 => 66 | 5 => 5 | 9 => 9 | 218 => 131 | 222 => 135 | 228 => 138 | 229 => 139 | n => n, fun | n => n⟩
theorem Tryz.lays189 : Go.Proofs.Lays.n189 Tryz.prog Tryz.lays189_ren := {
  mixed := by kernel_rfl
  f125 := Tryz.func92.trans (congrArg some (by kernel_rfl))
  f128 := Tryz.func102.trans (congrArg some (by kernel_rfl))
  f129 := Tryz.func103.trans (congrArg some (by kernel_rfl))
  f189 := Tryz.func88.trans (congrArg some (by kernel_rfl))
  f215 := Tryz.func109.trans (congrArg some (by kernel_rfl))
  f216 := Tryz.func99.trans (congrArg some (by kernel_rfl))
  f257 := Tryz.func91.trans (congrArg some (by kernel_rfl))
  f294 := Tryz.func93.trans (congrArg some (by kernel_rfl))
  f295 := Tryz.func94.trans (congrArg some (by kernel_rfl))
  f296 := Tryz.func95.trans (congrArg some (by kernel_rfl))
  f297 := Tryz.func96.trans (congrArg some (by kernel_rfl))
  f298 := Tryz.func97.trans (congrArg some (by kernel_rfl))
  f299 := Tryz.func98.trans (congrArg some (by kernel_rfl))
  f300 := Tryz.func100.trans (congrArg some (by kernel_rfl))
  f301 := Tryz.func101.trans (congrArg some (by kernel_rfl))
  f328 := Tryz.func104.trans (congrArg some (by kernel_rfl))
  f329 := Tryz.func105.trans (congrArg some (by kernel_rfl))
  f330 := Tryz.func106.trans (congrArg some (by kernel_rfl))
  f331 := Tryz.func107.trans (congrArg some (by kernel_rfl))
  f332 := Tryz.func108.trans (congrArg some (by kernel_rfl))
  f343 := Tryz.func110.trans (congrArg some (by kernel_rfl))
  t0 := Tryz.underlying0
  a0 := Tryz.isAgg0
  z0 := Tryz.sizeOf0
  v0 := Tryz.zeroValue0
  t3 := Tryz.underlying3
  a3 := Tryz.isAgg3
  z3 := Tryz.sizeOf3
  v3 := Tryz.zeroValue3
  t4 := Tryz.underlying4
  a4 := Tryz.isAgg4
  z4 := Tryz.sizeOf4
  v4 := Tryz.zeroValue4
  t5 := Tryz.underlying5
  a5 := Tryz.isAgg5
  z5 := Tryz.sizeOf5
  v5 := Tryz.zeroValue5
  t9 := Tryz.underlying9
  a9 := Tryz.isAgg9
  z9 := Tryz.sizeOf9
  v9 := Tryz.zeroValue9
  t28 := Tryz.underlying87
  a28 := Tryz.isAgg87
  z28 := Tryz.sizeOf87
  v28 := Tryz.zeroValue87
  t46 := Tryz.underlying119
  a46 := Tryz.isAgg119
  z46 := Tryz.sizeOf119
  v46 := Tryz.zeroValue119
  t51 := Tryz.underlying129
  a51 := Tryz.isAgg129
  z51 := Tryz.sizeOf129
  v51 := Tryz.zeroValue129
  t53 := Tryz.underlying58
  a53 := Tryz.isAgg58
  z53 := Tryz.sizeOf58
  v53 := Tryz.zeroValue58
  t131 := Tryz.underlying66
  a131 := Tryz.isAgg66
  z131 := Tryz.sizeOf66
  v131 := Tryz.zeroValue66
  t182 := Tryz.underlying121
  a182 := Tryz.isAgg121
  z182 := Tryz.sizeOf121
  v182 := Tryz.zeroValue121
  t183 := Tryz.underlying122
  a183 := Tryz.isAgg122
  z183 := Tryz.sizeOf122
  v183 := Tryz.zeroValue122
  t218 := Tryz.underlying131
  a218 := Tryz.isAgg131
  z218 := Tryz.sizeOf131
  v218 := Tryz.zeroValue131
  t222 := Tryz.underlying135
  a222 := Tryz.isAgg135
  z222 := Tryz.sizeOf135
  v222 := Tryz.zeroValue135
  t228 := Tryz.underlying138
  a228 := Tryz.isAgg138
  z228 := Tryz.sizeOf138
  v228 := Tryz.zeroValue138
  t229 := Tryz.underlying139
  a229 := Tryz.isAgg139
  z229 := Tryz.sizeOf139
  v229 := Tryz.zeroValue139 }
end Go.Proofs

namespace Go.Proofs.YtokfgoepnfjafaaGreat.N
open Go.RowKit Go.Maps
open Go.Proofs.YtokfgoepnfjafaaGreat.T
theorem sortI_any {w : World} {base n : Nat} {v : Value} {zs : List Int} (hn : n = zs.length) (hl : zs.length ≤ 1000000) (h : w.ownsRow base 3 1 v n (zs.map (Value.int .i64))) :
    Calls Tryz.prog 88 #[v] w fun e w' => e = .returned (.tuple #[]) ∧ w'.ownsRow base 3 1 v n ((zs.mergeSort fun x y => decide (x ≤ y)).map (Value.int .i64)) ∧ w.grownBy w' v.ownBlock := by
  subst hn
  rcases h.2 with ⟨rfl, h0⟩ | ⟨g, cap, cur, rfl, hb, hg, h1, h2, h3, h4⟩
  · have hz : zs = [] := List.eq_nil_of_length_eq_zero h0
    subst hz
    refine (Any.slices_Sort_int_none Tryz.lays189 none 0 w).mono ?_
    rintro e w' ⟨rfl, rfl⟩
    exact ⟨rfl, by rw [List.mergeSort_nil]; exact World.ownsRow_nil _ _ _ _, World.grownBy.refl _ _⟩
  · have hH := Go.holds_of_blockI hg (ss := zs) (by rw [← h4, Nat.mul_one])
    refine (calls_of_every_depth fun D => AnyS.slices_Sort_int_in Tryz.lays189 D g 0 cap zs w hH (Array.getElem?_eq_some_iff.1 hg).1 (by omega)).mono ?_
    rintro e w' ⟨rfl, k, os, rfl⟩
    exact ⟨rfl, ownsRow_sortedI (by rw [List.length_mergeSort]) hb hg h1 h2 h3, grownBy_sortedI _⟩
open U (nI own_get own_slice wpList_app1 below_grown)
/-- While the numbers of names are laid down. -/
structure ClS (w wr : World) (gs : GL) (ns : List ByteArray) (v u : Value) (l : List Nat) : Prop where
  b : Below w.heap.size w wr
  o : wr.ownsRow w.heap.size 9 1 v ns.length (stc ns)
  r : wr.ownsRow w.heap.size 3 1 u l.length (l.map nI)
  x : ∀ (j : Nat) s, j < l.length → ns[j]? = some s → ∃ i, l[j]? = some i ∧ fdG gs s = some i
theorem nI_map (l : List Nat) : l.map nI = (l.map fun (x : Nat) => (x : Int)).map (Value.int .i64) := by rw [List.map_map]; rfl
theorem ClS.push {w wr w5 : World} {gs : GL} {ns : List ByteArray} {v u u' : Value} {l : List Nat} {s : ByteArray} {i : Nat} (h : ClS w wr gs ns v u l) (hs : ns[l.length]? = some s) (hf : fdG gs s = some i) (ho : w5.ownsRow w.heap.size 3 1 u' (l.length + 1) (l.map nI ++ [nI i])) (hg : wr.grownBy w5 u.ownBlock) : ClS w w5 gs ns v u' (l ++ [i]) := by
  refine ⟨below_grown h.b hg (fun k e => (h.r.lt k e).1), U.own_kept h.o hg (fun k e => own_apart h.r h.o (by decide) e), ?_, fun j t hj ht => ?_⟩
  · rw [List.length_append, List.map_append]; exact ho
  · rw [List.length_append] at hj
    by_cases q : j < l.length
    · obtain ⟨a, a1, a2⟩ := h.x j t q ht
      exact ⟨a, by rw [List.getElem?_append_left q]; exact a1, a2⟩
    · have e : j = l.length := by simp at hj; omega
      subst e
      rw [hs] at ht
      cases ht
      exact ⟨i, by rw [List.getElem?_append_right (Nat.le_refl _), Nat.sub_self]; rfl, hf⟩
theorem ClS.sorted {w wr : World} {gs : GL} {ns : List ByteArray} {v u : Value} {l : List Nat} {r : Nat} (h : ClS w wr gs ns v u l) (hl : l.length = ns.length) (hn : ns.length ≤ 2048)
    (hF : ∀ l : List Nat, l.length = ns.length → (∀ (k : Nat) s, ns[k]? = some s → ∃ j, l[k]? = some j ∧ fdG gs s = some j) → (l.map fun (x : Nat) => (x : Int)).mergeSort (fun x y => decide (x ≤ y)) = (cL gs r).map fun (x : Nat) => (x : Int)) :
    Calls Tryz.prog 88 #[u] wr fun e w' => e = .returned (.tuple #[]) ∧ w'.ownsRow w.heap.size 3 1 u (cL gs r).length ((cL gs r).map nI) ∧ Below w.heap.size w w' := by
  have h1 := h.r
  rw [nI_map] at h1
  have hs := hF l hl (fun j s hs => h.x j s (by have := (List.getElem?_eq_some_iff.1 hs).1; omega) hs)
  have hlen : (cL gs r).length = l.length := by
    have := congrArg List.length hs
    rw [List.length_mergeSort, List.length_map, List.length_map] at this
    exact this.symm
  refine (sortI_any (zs := l.map fun (x : Nat) => (x : Int)) (by rw [List.length_map]) (by rw [List.length_map]; omega) h1).mono ?_
  rintro e w' ⟨rfl, h2, h3⟩
  rw [hs, ← nI_map] at h2
  rw [hlen]
  exact ⟨rfl, h2, below_grown h.b h3 (fun k e => (h.r.lt k e).1)⟩
set_option maxRecDepth 100000 in
set_option maxHeartbeats 8000000 in
theorem calledBy_any {gs : GL} (hR : RtG gs) {r : Nat} {g : ByteArray × List Nd} (hgr : gs[r]? = some g) (A : Option Addr) (c B : Nat) (hL : g.2.length ≤ 2048) (hT : ∀ n ∈ g.2, n.tx.size ≤ 140737488355328) (w : World) (hp : RdN w A g.2) (hm : NmM w B gs) :
    Calls Tryz.prog 83 #[.slice A g.2.length c, .map (some B)] w fun e w' => (∃ v, e = .returned v ∧ w'.ownsRow w.heap.size 3 1 v (cL gs r).length ((cL gs r).map nI)) ∧ Below w.heap.size w w' := by
  have hck : (ck g.2).2 = 0 := hR.ck g (List.mem_of_getElem? hgr)
  have hnE : nmE g.2 = nmL g.2 g.2.length := by unfold nmE; rw [if_pos hck]
  obtain ⟨ns, hns⟩ : ∃ ns, ns = nmL g.2 g.2.length := ⟨_, rfl⟩
  have HN : Hid (∀ _ : Unit, Calls Tryz.prog 22 #[.slice A g.2.length c] w fun e w' => (∃ v, e = .returned (.tuple #[v, .int .i64 (ck g.2).2]) ∧ w'.ownsRow w.heap.size 9 1 v ns.length (stc ns)) ∧ Below w.heap.size w w') := fun _ => by
    have h := names_any g.2 A c (by omega) hT w hp
    unfold NmV at h
    rw [hnE, ← hns] at h
    exact h
  have HKn := (show Hid (∀ k, k < ns.length → ∃ s i, ns[k]? = some s ∧ s.size ≤ 140737488355328 ∧ fdG gs s = some i ∧ i < gs.length) from fun k hk => by
    have hs : ns[k]? = some ns[k] := List.getElem?_eq_getElem hk
    have hmem : ns[k] ∈ nmL g.2 g.2.length := by rw [← hns]; exact List.getElem_mem hk
    obtain ⟨n, n1, n2, n3⟩ := nmL_all.1 hmem
    obtain ⟨i, hi⟩ := hR.dn.c g (List.mem_of_getElem? hgr) n n1 n2
    exact ⟨ns[k], i, hs, by rw [← n3]; exact hT n n1, by rw [← n3]; exact hi, fdG_lt hi⟩)
  have hnl : ns.length ≤ 2048 := by rw [hns]; have := nmL_len g.2 g.2.length; omega
  have hg200 : gs.length ≤ 200 := hR.n2
  have HFin := (show Hid (∀ l : List Nat, l.length = ns.length → (∀ (k : Nat) s, ns[k]? = some s → ∃ j, l[k]? = some j ∧ fdG gs s = some j) → (l.map fun (x : Nat) => (x : Int)).mergeSort (fun x y => decide (x ≤ y)) = (cL gs r).map fun (x : Nat) => (x : Int)) from fun l h1 h2 => called_sort hR hgr (by rw [← hns]; exact h1) (by rw [← hns]; exact h2))
  have HM := (show Hid (NmM w B gs) from hm)
  clear hp hm hT hck hnE hns hR hgr
  go_enter Tryz.func83, Tryz.ntmps83
  go_wp2_with fail
  refine (HN.out ()).mono ?_
  rintro e w1 ⟨⟨v, rfl, ho⟩, b1⟩
  obtain ⟨A1, c1, rfl⟩ := own_slice ho
  have HS := (show Hid (ClS w w1 gs ns (.slice A1 ns.length c1) (.slice none 0 0) []) from ⟨b1, ho, World.ownsRow_nil _ _ _ _, fun j s hj => by cases hj⟩)
  clear HN b1 ho
  generalize (ck g.2).2 = cd at *
  go_wp2_with fail
  go_loopw [7, 17] (fun u t wr => ∃ (k : Nat) (l : List Nat) (A2 : Option Addr) (c2 : Nat), k ≤ ns.length ∧ t = .int .i64 (k : Int) ∧ u = .slice A2 k c2 ∧ Hid (l.length = k) ∧ Hid (ClS w wr gs ns (.slice A1 ns.length c1) (.slice A2 k c2) l)) (fun _ t _ => ns.length - (intOf t).toNat)
  case atStart => exact ⟨0, [], none, 0, by omega, by go_num, rfl, rfl, HS⟩
  case round =>
    obtain ⟨k, l, A2, c2, hk, rfl, rfl, HLk, HW⟩ := hrel
    clear HS
    by_cases hlt : k < ns.length
    · obtain ⟨s, i, hs, hsz, hf, hi⟩ := HKn.out k hlt
      obtain ⟨g1, cap1, e1, lb1, l1, x1, _⟩ := own_get HW.out.o (j := k) (x := .string s) (by unfold stc; rw [List.getElem?_map, hs]; rfl)
      cases e1
      have hrun : (Instr.lookup 46 (.map (some B)) (.string s) false).run Tryz.prog wr = .ok (.int .i64 i) wr := NmM.look0 (HM.out.same (HW.out.b.block B HM.out.lt)) hsz hf
      have z0 : (0 : Int) ≤ (k : Int) := by omega
      have z1 : (k : Int) < (ns.length : Int) := by omega
      have HO := (show Hid (wr.ownsRow w.heap.size 3 1 (.slice A2 k c2) k (l.map nI)) from by have h := HW.out.r; rw [HLk.out] at h; exact h)
      have HBw := (show Hid (w.heap.size ≤ wr.heap.size) from HW.out.b.size)
      have HPu := (show Hid (∀ (u' : Value) (w5 : World), w5.ownsRow w.heap.size 3 1 u' (k + 1) (l.map nI ++ [nI i]) → wr.grownBy w5 (Value.slice A2 k c2).ownBlock → ClS w w5 gs ns (.slice (some ⟨g1, 0, none⟩) ns.length c1) u' (l ++ [i])) from fun u' w5 h1 h2 => HW.out.push (by rw [HLk.out]; exact hs) hf (by rw [HLk.out]; exact h1) h2)
      have HL2 := (show Hid ((l ++ [i]).length = k + 1) from by show _ = _; rw [List.length_append, HLk.out]; rfl)
      clear HW hs hf hsz lb1 l1 HLk
      go_wp2_with (at_builtin; refine wpList_app1 rfl _ _ 87 rfl (.int .i64 0) 8 Tryz.underlying87 Tryz.info3 rfl w.heap.size k _ (l.map nI) rfl rfl HO.out rfl (by omega) (by decide) HBw.out ?_; intro g3 cap3 w5 ho5 hg5 hat5 hl5; have HW5 := (show Hid (ClS w w5 gs ns (.slice (some ⟨g1, 0, none⟩) ns.length c1) (.slice (some ⟨g3, 0, none⟩) (k + 1) cap3) (l ++ [i])) from HPu.out _ _ ho5 hg5); clear ho5 hg5 hat5 hl5 HPu HO HBw hrun x1)
      go_roundw
      case rel => exact ⟨k + 1, l ++ [i], some ⟨g3, 0, none⟩, cap3, by omega, by go_num, rfl, HL2, HW5⟩
      case measure => simp [intOf]; omega
    · obtain rfl : k = ns.length := by omega
      have HC := (show Hid (∀ _ : Unit, Calls Tryz.prog 88 #[.slice A2 ns.length c2] wr fun e w' => e = .returned (.tuple #[]) ∧ w'.ownsRow w.heap.size 3 1 (.slice A2 ns.length c2) (cL gs r).length ((cL gs r).map nI) ∧ Below w.heap.size w w') from fun _ => HW.out.sorted HLk.out hnl HFin.out)
      clear HFin HW HKn HM HLk
      go_wp2_with fail
      refine (HC.out ()).mono ?_
      rintro e w6 ⟨rfl, ho6, hb6⟩
      have HB6 := (show Hid (Below w.heap.size w w6) from hb6)
      have HO6 := (show Hid (w6.ownsRow w.heap.size 3 1 (.slice A2 ns.length c2) (cL gs r).length ((cL gs r).map nI)) from ho6)
      clear HC ho6 hb6
      go_wp2_with fail
      go_ret
      exact ⟨⟨_, rfl, HO6.out⟩, HB6.out⟩
end Go.Proofs.YtokfgoepnfjafaaGreat.N

namespace Go.Proofs.YtokfgoepnfjafaaGreat.N
open Go.RowKit Go.Maps
open Go.Proofs.YtokfgoepnfjafaaGreat.T

open U (nI own_get own_slice wpList_app1 below_grown TT Out)
/-- A net: of each rule what it calls. -/
def ntM (gs : GL) : List (List Value) := (List.range gs.length).map fun i => (cL gs i).map nI
theorem ntM_len (gs : GL) : (ntM gs).length = gs.length := by unfold ntM; rw [List.length_map, List.length_range]
theorem ntM_get {gs : GL} {i : Nat} (h : i < gs.length) : (ntM gs)[i]? = some ((cL gs i).map nI) := by
  unfold ntM
  rw [List.getElem?_map, List.getElem?_range h]; rfl
theorem Tryz.info37 : (Tryz.prog.info? 87).map (fun i => (i.zero, i.size, i.bytes)) = some (some (.slice none 0 0), 1, 24) := by kernel_rfl
/-- What a step of the range tells: a name and its number. -/
theorem step_nm {gs : GL} {D : DataW Unit} (hD : NmD D gs) {key v : Value} {kl : Lit} {y : DataW Unit × List MemPlace} (hkey : keyOf Tryz.prog 9 key = some kl) (hv : plainElem Tryz.prog 3 v = some y) (hat : ∀ zd, D.atKey kl zd = y.1) : ∃ (s : ByteArray) (i : Nat), kl = .string s.data.toList ∧ v = .int .i64 i ∧ fdG gs s = some i := by
  obtain ⟨x, rfl, rfl, _⟩ := Maps.keyOf_str Tryz.underlying9 hkey
  obtain ⟨c, rfl, rfl, _⟩ := plainElem_int_inv Tryz.underlying3 hv
  have hh := has_true_of_atKey hat
  obtain ⟨h1, h2⟩ := hD ⟨x.toArray⟩
  have hx : (⟨x.toArray⟩ : ByteArray).data.toList = x := rfl
  rw [hx] at h1 h2
  rw [hh] at h1
  cases hf : fdG gs ⟨x.toArray⟩ with
  | none => rw [hf] at h1; cases h1
  | some i =>
    have e := h2 i hf (.lit (.int .i64 0))
    rw [hat] at e
    injection e with e
    injection e with _ e
    exact ⟨⟨x.toArray⟩, i, rfl, by rw [e], hf⟩
/-- While the net is made. -/
structure NtS (w wr : World) (gs : GL) (B r cnt : Nat) (D : DataW Unit) (left : Lit → Bool) (g : Nat) (M : List (List Value)) (xs : List Value) (u : Value) : Prop where
  b : Below w.heap.size w wr
  x : GX wr w.heap.size u
  rg : wr.ranges Tryz.prog 9 (plainElem Tryz.prog 3) B r gs.length D left cnt
  t : TT wr w.heap.size 87 3 (.slice (some ⟨g, 0, none⟩) gs.length gs.length) M xs
  ln : M.length = gs.length
  gr : w.heap.size < g ∧ g < r
  dn : ∀ (s : ByteArray) (i : Nat), fdG gs s = some i → left (.string s.data.toList) = false → M[i]? = some ((cL gs i).map nI)
theorem same_str {a b : ByteArray} : (Lit.string a.data.toList).sameKey (.string b.data.toList) = true ↔ a = b := by
  constructor
  · intro h
    have := WideAt.sameKey_eq h
    injection this with e
    exact ByteArray.ext (Array.ext' e)
  · rintro rfl
    simp [Lit.sameKey]
/-- One name is gone over. -/
theorem NtS.put {w wr wA w4 : World} {gs : GL} {B r cnt cnt1 g : Nat} {D : DataW Unit} {left : Lit → Bool} {M : List (List Value)} {xs : List Value} {u v4 : Value} {s : ByteArray} {i : Nat} (h : NtS w wr gs B r cnt D left g M xs u) (_hd : Dn gs) (hf : fdG gs s = some i)
    (hA : wr.grownBy wA (some r)) (hrg : wA.ranges Tryz.prog 9 (plainElem Tryz.prog 3) B r gs.length D (fun z => left z && !z.sameKey (.string s.data.toList)) cnt1)
    (hsz : wA.heap.size = wr.heap.size) (hB : B < w.heap.size) (hb : Below wA.heap.size wA w4) (ho : w4.ownsRow wA.heap.size 3 1 v4 (cL gs i).length ((cL gs i).map nI)) :
    ∃ M2 xs2, NtS w (w4.setCell ⟨g, i, none⟩ v4) gs B r cnt1 D (fun z => left z && !z.sameKey (.string s.data.toList)) g M2 xs2 u := by
  have hlx : xs.length = gs.length := h.t.len.trans h.ln
  have hr := h.rg.lt
  have hwr := h.b.size
  have ht : TT wr w.heap.size 87 3 (.slice (some ⟨g, 0, none⟩) xs.length gs.length) M xs := by rw [hlx]; exact h.t
  have hout : Out (.slice (some ⟨g, 0, none⟩) xs.length gs.length) xs r := by
    refine ⟨fun e => ?_, fun j x hj e => ?_⟩
    · have e : g = r := Option.some.inj e
      have := h.gr.2
      omega
    · obtain ⟨row, _, hrow⟩ := ht.both hj
      obtain ⟨cur, hc⟩ := own_ty hrow e
      obtain ⟨_, _, _, _, _, _, _, _, _, hh, _⟩ := h.rg
      rw [hc] at hh
      cases hh
  have hi : i < gs.length := fdG_lt hf
  have ht2 : TT w4 w.heap.size 87 3 (.slice (some ⟨g, 0, none⟩) xs.length gs.length) M xs := (ht.turn hout hA).below hb
  have hnew : ∀ k, v4.ownBlock = some k → Out (.slice (some ⟨g, 0, none⟩) xs.length gs.length) xs k := fun k hk => by
    have := (ho.lt k hk).1
    exact ht.new (by omega)
  have ht3 := ht2.put (y := v4) (s := (cL gs i).map nI) (by rw [List.length_map]; exact U.own_base ho (by omega)) hnew (i := i) (by omega)
  have hst := (ht2.o.stored i v4).2
  have hgw : Below w.heap.size w wA := below_grown h.b hA (fun k e => by cases e; have := h.gr; omega)
  have hg4 : Below w.heap.size w w4 := hgw.trans (hb.mono hgw.size)
  refine ⟨M.set i ((cL gs i).map nI), xs.set i v4, below_grown hg4 hst (fun k e => by cases e; have := h.gr; omega), ?_, ?_, ?_, by rw [List.length_set]; exact h.ln, h.gr, ?_⟩
  · refine ((h.x.same (hA.block _ h.x.lt (fun e => by injection e with e; have := h.gr; omega))).below hb).same (hst.block _ ?_ (fun e => by injection e with e; have := h.gr; omega))
    exact ((h.x.same (hA.block _ h.x.lt (fun e => by injection e with e; have := h.gr; omega))).below hb).lt
  · exact (hrg.kept (U.below_grow hb none) (by simp) (by simp)).kept hst (fun e => by injection e with e; have := h.gr; omega) (fun e => by injection e with e; have := h.gr; omega)
  · rw [hlx] at ht3; exact ht3
  · intro t j ht hl
    by_cases e : s = t
    · subst e
      rw [hf] at ht
      cases ht
      rw [List.getElem?_set_self (by rw [h.ln]; exact hi)]
    · have hij : i ≠ j := fun q => by
        subst q
        obtain ⟨x, x1, x2, _⟩ := fdG_some hf
        obtain ⟨y, y1, y2, _⟩ := fdG_some ht
        rw [x1] at y1
        cases y1
        exact e (x2.symm.trans y2)
      rw [List.getElem?_set_ne hij]
      refine h.dn t j ht ?_
      cases q : left (.string t.data.toList)
      · rfl
      · have hs : (Lit.string t.data.toList).sameKey (.string s.data.toList) = false := by
          cases q2 : (Lit.string t.data.toList).sameKey (.string s.data.toList)
          · rfl
          · exact absurd (same_str.1 q2).symm e
        simp only [q, hs] at hl
        cases hl
end Go.Proofs.YtokfgoepnfjafaaGreat.N

namespace Go.Proofs.YtokfgoepnfjafaaGreat.N
open Go.RowKit Go.Maps
open Go.Proofs.YtokfgoepnfjafaaGreat.T

open U (nI own_get own_slice wpList_app1 below_grown TT Out info_split)
theorem NtS.done {w wr : World} {gs : GL} {B r cnt : Nat} {D : DataW Unit} {left : Lit → Bool} {g : Nat} {M : List (List Value)} {xs : List Value} {u : Value} (h : NtS w wr gs B r cnt D left g M xs u) (hd : Dn gs) (hl : ∀ kl, left kl = false) : TT wr w.heap.size 87 3 (.slice (some ⟨g, 0, none⟩) gs.length gs.length) (ntM gs) xs := by
  have e : M = ntM gs := by
    refine List.ext_getElem? fun i => ?_
    by_cases hi : i < gs.length
    · rw [ntM_get hi]
      have hg : gs[i]? = some gs[i] := List.getElem?_eq_getElem hi
      exact h.dn gs[i].1 i (fdG_of hg rfl (fun j x hj hx e => by have := hd.d j i x _ hx hg e; omega)) (hl _)
    · rw [List.getElem?_eq_none (by rw [h.ln]; omega), List.getElem?_eq_none (by rw [ntM_len]; omega)]
  rw [← e]
  exact h.t
theorem NtS.start {w w1 w2 w3 : World} {gs : GL} {A : Option Addr} {c B : Nat} {D : DataW Unit} (hw1 : w1 = w.alloc (.cells #[.slice A gs.length c] 24)) (ho : w2.ownsRow w.heap.size 87 1 (.slice (some ⟨w1.heap.size, 0, none⟩) gs.length gs.length) gs.length (List.replicate gs.length (.slice none 0 0))) (hg2 : w1.grownBy w2 none)
    (hrg : w3.ranges Tryz.prog 9 (plainElem Tryz.prog 3) B w2.heap.size gs.length D (Maps.has D) (Maps.size D)) (hg3 : w2.grownBy w3 none) (hD : NmD D gs) : NtS w w3 gs B w2.heap.size (Maps.size D) D (Maps.has D) w1.heap.size (List.replicate gs.length []) (List.replicate gs.length (.slice none 0 0)) (.slice A gs.length c) := by
  have hs1 : w1.heap.size = w.heap.size + 1 := by rw [hw1, World.size_alloc]
  have hb1 : Below w.heap.size w w1 := by rw [hw1]; exact below_box _ _
  have hx1 : GX w1 w.heap.size (.slice A gs.length c) := by rw [hw1]; exact GX.mk (heap_alloc_new w _)
  have hx2 := hx1.same (hg2.block _ hx1.lt (by simp))
  have hlt := (ho.lt _ rfl).2
  refine ⟨below_grown (below_grown hb1 hg2 (fun k e => by cases e)) hg3 (fun k e => by cases e), hx2.same (hg3.block _ hx2.lt (by simp)), hrg, (TT.made ho).kept hg3 (fun k e => by cases e) (fun i x k _ e => by cases e), List.length_replicate, ⟨by omega, hlt⟩, fun s i hf hl => ?_⟩
  have := (hD s).1
  rw [hf, hl] at this
  cases this
set_option maxRecDepth 100000 in
set_option maxHeartbeats 16000000 in
theorem netBy_any {gs : GL} (hR : RtG gs) (A : Option Addr) (c B : Nat) (w : World) (hp : GI w A gs) (hm : NmM w B gs) :
    Calls Tryz.prog 60 #[.map (some B), .agg #[.slice A gs.length c]] w fun e w' => (∃ v xs, e = .returned v ∧ TT w' w.heap.size 87 3 v (ntM gs) xs) ∧ Below w.heap.size w w' := by
  have hB := hm.lt
  have hn := hR.n2
  obtain ⟨w1, hw1⟩ : ∃ w1, w1 = w.alloc (.cells #[.slice A gs.length c] 24) := ⟨_, rfl⟩
  have HE0 := (show Hid (w.alloc (.cells #[.slice A gs.length c] 24) = w1) from hw1.symm)
  have hb1 : Below w.heap.size w w1 := by rw [hw1]; exact below_box _ _
  have q1 : w1.cell? ⟨w.heap.size, 0, none⟩ = some (.slice A gs.length c) := by rw [hw1]; exact (GX.mk (heap_alloc_new w _)).cl
  obtain ⟨i0, hinf, hz0, hz1, hz2⟩ := info_split Tryz.info37
  obtain ⟨w2, hmk, ho2, hg2⟩ := run_make_full (P := Tryz.prog) w1 w.heap.size 91 87 i0 (.slice none 0 0) 1 Tryz.underlying91 hinf hz0 hz1 .i64 .i64 gs.length (by rw [hz2]; omega) (by unfold maxLen; omega) hb1.size
  have ho2' : w2.ownsRow w.heap.size 87 1 (.slice (some ⟨w1.heap.size, 0, none⟩) gs.length gs.length) gs.length (List.replicate gs.length (.slice none 0 0)) := by
    have e : (madeCells (Value.cells (.slice none 0 0)) (gs.length * 1)).toList = List.replicate gs.length (Value.slice none 0 0) := by rw [Nat.mul_one]; exact toList_madeCells_one _ _
    rw [e] at ho2
    exact ho2
  obtain ⟨D, hown, hD⟩ := hm.ex
  have hown2 : w2.ownsMap Tryz.prog 9 (plainElem Tryz.prog 3) B gs.length D := by
    have h1 : w1.ownsMap Tryz.prog 9 (plainElem Tryz.prog 3) B gs.length D := by rw [hw1]; exact hown.alloc _
    exact h1.kept hg2 (by simp)
  obtain ⟨w3, hrn, hrg3, hg3, _⟩ := hown2.range keyed Tryz.underlying46
  have HS := (show Hid (NtS w w3 gs B w2.heap.size (Maps.size D) D (Maps.has D) w1.heap.size (List.replicate gs.length []) (List.replicate gs.length (.slice none 0 0)) (.slice A gs.length c)) from NtS.start hw1 ho2' hg2 hrg3 hg3 hD)
  have HD := (show Hid (NmD D gs) from hD)
  have HM := (show Hid (NmM w B gs) from hm)
  have HP := (show Hid (GI w A gs) from hp)
  have HR := (show Hid (RtG gs) from hR)
  clear hown hown2 hrg3 hg3 hD hm hp hR ho2 ho2' hg2 hb1 hw1 hinf hz0 hz1 hz2 i0
  go_enter Tryz.func60, Tryz.ntmps60
  go_wp2_with (rw [HE0.out])
  clear hmk hrn q1 HE0
  generalize w2.heap.size = r0 at *
  generalize w1.heap.size = g0 at *
  go_loopw [7] (fun _ wr => ∃ (left : Lit → Bool) (cnt : Nat) (M : List (List Value)) (xs : List Value), Hid (NtS w wr gs B r0 cnt D left g0 M xs (.slice A gs.length c))) (fun _ wr => wr.rangeLeft B r0)
  case atStart => exact ⟨_, _, _, _, HS⟩
  case round =>
    obtain ⟨left, cnt, M, xs, HW⟩ := hrel
    clear HS
    rcases HW.out.rg.next keyed 0 with ⟨h0, hl, hrun⟩ | ⟨key, v, kl, y, wA, cnt1, hkey, hlk, hv, hat, hrun, hrg, hlt, hgr, hsz, hen⟩
    · have HT := (show Hid (TT wr w.heap.size 87 3 (.slice (some ⟨g0, 0, none⟩) gs.length gs.length) (ntM gs) xs) from HW.out.done HR.out.dn hl)
      have HB := (show Hid (Below w.heap.size w wr) from HW.out.b)
      clear h0 hl HW HR HM HP HD
      go_wp2_with fail
      go_ret
      exact ⟨⟨_, xs, rfl, HT.out⟩, HB.out⟩
    · obtain ⟨s, i, rfl, rfl, hf⟩ := step_nm HD.out hkey hv hat
      have hi : i < gs.length := fdG_lt hf
      have hgw : Below w.heap.size w wA := below_grown HW.out.b hgr (fun k e => by cases e; have := HW.out.gr; omega)
      obtain ⟨g, hg⟩ : ∃ g, gs[i]? = some g := ⟨_, List.getElem?_eq_getElem hi⟩
      obtain ⟨b, o, A2, c2, rfl, lb, _, x1, r2⟩ := HP.out.d i g hg
      have x1' := (hgw.cell (p := ⟨b, o + i * 2 + 1, none⟩) lb).trans x1
      have q1 := (HW.out.x.same (hgr.block _ HW.out.x.lt (fun e => by injection e with e; have := HW.out.gr; omega))).cl
      have hck := HR.out.ck g (List.mem_of_getElem? hg)
      have hL : g.2.length ≤ 2048 := by
        by_cases q : g.2.length ≤ 2048
        · exact q
        · have := ck_long (L := g.2) (by omega)
          rw [this] at hck
          exact absurd hck (by decide)
      have HC := (show Hid (∀ _ : Unit, Calls Tryz.prog 83 #[.slice A2 g.2.length c2, .map (some B)] wA fun e w' => (∃ v, e = .returned v ∧ w'.ownsRow wA.heap.size 3 1 v (cL gs i).length ((cL gs i).map nI)) ∧ Below wA.heap.size wA w') from fun _ => calledBy_any HR.out hg A2 c2 B hL (HP.out.t g (List.mem_of_getElem? hg)).2.2 wA (r2.below hgw (Nat.le_refl _)) (HM.out.same (hgw.block B hB)))
      have HPu := (show Hid (∀ (w4 : World) (v4 : Value), Below wA.heap.size wA w4 → w4.ownsRow wA.heap.size 3 1 v4 (cL gs i).length ((cL gs i).map nI) → ∃ M2 xs2, NtS w (w4.setCell ⟨g0, i, none⟩ v4) gs B r0 cnt1 D (fun z => left z && !z.sameKey (.string s.data.toList)) g0 M2 xs2 (.slice (some ⟨b, o, none⟩) gs.length c)) from fun w4 v4 h1 h2 => HW.out.put HR.out.dn hf hgr hrg hsz hB h1 h2)
      have hlx : xs.length = gs.length := HW.out.t.len.trans HW.out.ln
      obtain ⟨x, hx⟩ : ∃ x, xs[i]? = some x := ⟨_, List.getElem?_eq_getElem (by omega)⟩
      have hgl := (HW.out.t.o.lt g0 rfl).2
      have HCe := (show Hid (∀ w4, Below wA.heap.size wA w4 → w4.cell? ⟨g0, i, none⟩ = some x ∧ w4.frozen? ⟨g0, i, none⟩ = false) from fun w4 h1 => by
        have ho : wr.ownsRow w.heap.size 87 1 (.slice (some ⟨g0, 0, none⟩) gs.length gs.length) gs.length xs := by have h := HW.out.t.o; rw [hlx] at h; exact h
        have hoA := U.own_below (U.own_kept ho hgr (fun k e q => by cases e; have q : g0 = r0 := Option.some.inj q; have := HW.out.gr; omega)) h1
        exact ⟨(hoA.cellAt i (by omega)).trans hx, hoA.frozenAt i⟩)
      have HLf := (show Hid (wr.rangeLeft B r0 = cnt ∧ cnt1 < cnt) from ⟨HW.out.rg.left_eq, hlt⟩)
      have z0 : (0 : Int) ≤ (i : Int) := by omega
      have z1 : (i : Int) < (gs.length : Int) := by omega
      clear hkey hlk hv hat hrg hlt hgr hsz hf hi hgw hg x1 r2 lb hck hL HW hlx hx hgl HM HP HR HD hB hn
      go_wp2_with fail
      refine (HC.out ()).mono ?_
      rintro e w4 ⟨⟨v4, rfl, ho4⟩, b4⟩
      obtain ⟨k0, k1⟩ := HCe.out w4 b4
      obtain ⟨M2, xs2, h2⟩ := HPu.out w4 v4 b4 ho4
      have HN2 := (show Hid _ from h2)
      obtain ⟨A4, c4, rfl⟩ := own_slice ho4
      clear ho4 b4 HC HPu HCe h2 hrun hen q1 x1'
      go_wp2_with fail
      go_roundw
      case rel => exact ⟨_, _, _, _, HN2⟩
      case measure => rw [HN2.out.rg.left_eq, HLf.out.1]; exact HLf.out.2
end Go.Proofs.YtokfgoepnfjafaaGreat.N

namespace Go.Proofs.YtokfgoepnfjafaaGreat.N
open Go.RowKit Go.Maps
open Go.Proofs.YtokfgoepnfjafaaGreat.T

open U (nI own_get own_slice wpList_app1 below_grown TT Out info_split)
/-- What netWith answers. -/
def NwV (w w' : World) (gs : GL) (k : Int) (e : Ending) : Prop := ∃ v, e = .returned (.tuple #[v, .int .i64 k]) ∧ (k ≠ 0 → v = .slice none 0 0) ∧ (k = 0 → ∃ xs, TT w' w.heap.size 87 3 v (ntM gs) xs)
set_option maxRecDepth 100000 in
set_option maxHeartbeats 4000000 in
theorem netOf_any (gs : GL) (A : Option Addr) (c : Nat) (w : World) (hp : GI w A gs) :
    Calls Tryz.prog 43 #[.agg #[.slice A gs.length c]] w fun e w' => NwV w w' gs (ckG gs).2 e ∧ Below w.heap.size w w' := by
  obtain ⟨w1, hw1⟩ : ∃ w1, w1 = (w.alloc (.cells #[.slice A gs.length c] 24)) := ⟨_, rfl⟩
  have HB1 : Hid (Below w.heap.size w w1) := by show Below _ _ _; rw [hw1]; exact below_box _ _
  have HG1 : Hid (GX w1 w.heap.size (.slice A gs.length c)) := by show GX _ _ _; rw [hw1]; exact GX.mk (heap_alloc_new w _)
  have HN := (show Hid (∀ _ : Unit, Calls Tryz.prog 59 #[.agg #[.slice A gs.length c]] w1 fun e w' => NuV w1 w' gs e ∧ Below w1.heap.size w1 w') from fun _ => numb_any gs A c hp.l hp.t w1 (hp.d.later HB1.out))
  have HP := (show Hid (GI w A gs) from hp)
  clear hp
  go_enter Tryz.func43, Tryz.ntmps43
  go_wp2_with fail
  rw [← hw1]
  refine (HN.out ()).mono ?_
  rintro e w3 ⟨hv, b3⟩
  obtain ⟨mv, rfl, hm⟩ := hv.form
  obtain ⟨w4, hw4⟩ : ∃ w4, w4 = w3.alloc (.cells #[.int .i64 ((ckG gs).1.1 : Int), .int .i64 ((ckG gs).1.2 : Int)] 52) := ⟨_, rfl⟩
  have HE4 := (show Hid (w3.alloc (.cells #[.int .i64 ((ckG gs).1.1 : Int), .int .i64 ((ckG gs).1.2 : Int)] 52) = w4) from hw4.symm)
  have HB := (show Hid (Below w.heap.size w w4) from by show Below _ _ _; rw [hw4]; exact (HB1.out.trans (b3.mono HB1.out.size)).alloc (HB1.out.trans (b3.mono HB1.out.size)).size _)
  have q1 : w4.cell? ⟨w.heap.size, 0, none⟩ = some (.slice A gs.length c) := by rw [hw4]; exact ((HG1.out.below b3).below (below_box _ _)).cl
  clear HN b3 hw1 HB1 HG1 hv
  by_cases hz : (ckG gs).2 = 0
  · obtain ⟨B, _, rfl, hM⟩ := hm hz
    have tz : ((ckG gs).2 != 0) = false := by rw [hz]; rfl
    have HC := (show Hid (∀ _ : Unit, Calls Tryz.prog 60 #[.map (some B), .agg #[.slice A gs.length c]] w4 fun e w' => (∃ v xs, e = .returned v ∧ TT w' w4.heap.size 87 3 v (ntM gs) xs) ∧ Below w4.heap.size w4 w') from fun _ => netBy_any (ckG_ok.1 hz) A c B w4 (HP.out.later HB.out) (by rw [hw4]; exact hM.later (below_box _ _)))
    have HZ := (show Hid ((ckG gs).2 = 0) from hz)
    clear hM hm hz HP hw4
    generalize hcd : (ckG gs).2 = cd at *
    have HCD := (show Hid ((ckG gs).2 = cd) from hcd)
    clear hcd
    go_wp2_with (rw [HE4.out])
    refine (HC.out ()).mono ?_
    rintro e w5 ⟨⟨v, xs, rfl, hT⟩, b5⟩
    have HB4 := (show Hid (Below w.heap.size w w5) from HB.out.trans (b5.mono HB.out.size))
    have HT := (show Hid (TT w5 w.heap.size 87 3 v (ntM gs) xs) from hT.base HB.out.size)
    clear HC b5 hT HB
    go_wp2_with fail
    refine bodyPost_ret (v := .tuple #[v, .int .i64 0]) (by simp [results, Tryz.results43, go_sem]) rfl ⟨⟨v, by rw [HCD.out, HZ.out], fun q => absurd (HCD.out.trans HZ.out) q, fun _ => ⟨xs, HT.out⟩⟩, HB4.out⟩
  · have tz : ((ckG gs).2 != 0) = true := by rw [bne, beq_eq_false_iff_ne.2 hz]; rfl
    have HZ := (show Hid ((ckG gs).2 ≠ 0) from hz)
    clear hm hz HP hw4
    generalize hcd : (ckG gs).2 = cd at *
    have HCD := (show Hid ((ckG gs).2 = cd) from hcd)
    clear hcd
    go_wp2_with (rw [HE4.out])
    refine bodyPost_ret (v := .tuple #[.slice none 0 0, .int .i64 cd]) (by simp [results, Tryz.results43, go_sem]) rfl ⟨⟨_, by rw [HCD.out], fun _ => rfl, fun q => absurd (HCD.out.symm.trans q) HZ.out⟩, HB.out⟩
end Go.Proofs.YtokfgoepnfjafaaGreat.N

namespace Go.Proofs.YtokfgoepnfjafaaGreat.N
open Go.RowKit Go.Maps
open Go.Proofs.YtokfgoepnfjafaaGreat.T

open U (nI own_get own_slice wpList_app1 below_grown TT Out info_split)
theorem Tryz.info4 : (Tryz.prog.info? 4).map (fun i => (i.zero, i.size, i.bytes)) = some (some (.bool false), 1, 1) := by kernel_rfl
theorem own_take {W : World} {B e g n cap k : Nat} {xs : List Value} (h : W.ownsRow B e 1 (.slice (some ⟨g, 0, none⟩) n cap) n xs) (hk : k ≤ n) : W.ownsRow B e 1 (.slice (some ⟨g, 0, none⟩) k cap) k (xs.take k) := by
  have hl := h.1
  rcases h.2 with ⟨q, _⟩ | ⟨g', cap', cur, q, hb, hg, h1, h2, h3, h4⟩
  · cases q
  · cases q
    refine ⟨by rw [List.length_take]; omega, .inr ⟨g, cap, cur, rfl, hb, hg, by omega, h2, h3, ?_⟩⟩
    rw [← h4, List.take_take]
    congr 1
    omega
/-- While it is found out what a rule comes to. -/
structure CmS (w wr : World) (gs : GL) (r gb : Nat) (l : List Bool) (ah : List Nat) (x : Option Nat) (u : Value) : Prop where
  b : Below w.heap.size w wr
  m : wr.ownsRow w.heap.size 4 1 (.slice (some ⟨gb, 0, none⟩) gs.length gs.length) gs.length (l.map Value.bool)
  a : wr.ownsRow w.heap.size 3 1 u ah.length (ah.map nI)
  i : WlI gs.length (cG gs) r l ah x
theorem CmS.store {w wr : World} {gs : GL} {r gb : Nat} {l : List Bool} {ah : List Nat} {x : Option Nat} {u : Value} (h : CmS w wr gs r gb l ah x u) (j : Nat) : Below w.heap.size w (wr.setCell ⟨gb, j, none⟩ (.bool true)) ∧ (wr.setCell ⟨gb, j, none⟩ (.bool true)).ownsRow w.heap.size 4 1 (.slice (some ⟨gb, 0, none⟩) gs.length gs.length) gs.length ((l.set j true).map Value.bool) ∧ (wr.setCell ⟨gb, j, none⟩ (.bool true)).ownsRow w.heap.size 3 1 u ah.length (ah.map nI) := by
  obtain ⟨st1, st2⟩ := h.m.stored j (.bool true)
  refine ⟨below_grown h.b st2 (fun k e => by cases e; exact (h.m.lt gb rfl).1), ?_, U.own_kept h.a st2 (fun k e => by cases e; exact own_apart h.m h.a (by decide) rfl)⟩
  rw [List.map_set]
  exact st1
theorem CmS.mark {w wr w5 : World} {gs : GL} {r gb y j : Nat} {l : List Bool} {ah : List Nat} {u u' : Value} (h : CmS w wr gs r gb l ah (some y) u) (hy : y < gs.length ∧ (y = r ∨ l[y]? = some true)) (hc : cG gs y j = true) (hj : j < gs.length)
    (ho : w5.ownsRow w.heap.size 3 1 u' (ah.length + 1) (ah.map nI ++ [nI j])) (hg : (wr.setCell ⟨gb, j, none⟩ (.bool true)).grownBy w5 u.ownBlock) : CmS w w5 gs r gb (l.set j true) (ah ++ [j]) (some y) u' := by
  obtain ⟨s1, s2, s3⟩ := h.store j
  refine ⟨below_grown s1 hg (fun k e => (s3.lt k e).1), U.own_kept s2 hg (fun k e => own_apart s3 s2 (by decide) e), ?_, h.i.mark hy hc hj⟩
  rw [List.length_append, List.map_append]
  exact ho
theorem CmS.pop {w wr : World} {gs : GL} {r gb g cap k y : Nat} {l : List Bool} {ah : List Nat} (h : CmS w wr gs r gb l (ah ++ [y]) none (.slice (some ⟨g, 0, none⟩) (k + 1) cap)) (hk : ah.length = k) : CmS w wr gs r gb l ah (some y) (.slice (some ⟨g, 0, none⟩) k cap) ∧ y < gs.length ∧ (y = r ∨ l[y]? = some true) := by
  obtain ⟨i1, i2⟩ := h.i.pop
  refine ⟨⟨h.b, h.m, ?_, i1⟩, i2⟩
  have h1 := h.a
  rw [List.length_append, hk] at h1
  have h2 := own_take h1 (k := k) (by omega)
  rw [List.map_append, List.take_left' (by rw [List.length_map, hk])] at h2
  rw [hk]
  exact h2
theorem CmS.start {w w1 : World} {gs : GL} {r : Nat} (hr : r < gs.length) (ho : w1.ownsRow w.heap.size 4 1 (.slice (some ⟨w.heap.size, 0, none⟩) gs.length gs.length) gs.length (List.replicate gs.length (.bool false))) (hg : w.grownBy w1 none) :
    CmS w (w1.alloc (.cells #[.int .i64 (r : Int)] 3)) gs r w.heap.size (List.replicate gs.length false) [r] none (.slice (some ⟨w1.heap.size, 0, none⟩) 1 1) := by
  have hb : Below w.heap.size w w1 := below_grown (Below.refl _ _) hg (fun k e => by cases e)
  refine ⟨hb.alloc hb.size _, ?_, ?_, WlI.start hr⟩
  · rw [List.map_replicate]; exact ho.alloc _
  · exact World.ownsRow_lit w1 #[.int .i64 (r : Int)] 1 hb.size (by unfold maxLen; omega) rfl
/-- What comesTo answers. -/
def CmV (w w' : World) (gs : GL) (r : Nat) (e : Ending) : Prop := ∃ (u : Value) (l : List Bool), e = .returned u ∧ l.length = gs.length ∧ (∀ j, l[j]? = some true ↔ Rc gs.length (cG gs) r j) ∧ w'.ownsRow w.heap.size 4 1 u gs.length (l.map Value.bool) ∧ u.ownBlock = some w.heap.size
set_option maxRecDepth 100000 in
set_option maxHeartbeats 16000000 in
theorem comesTo_any {gs : GL} (hR : RtG gs) {N r : Nat} {v : Value} {xs : List Value} (hr : r < gs.length) (w : World) (hT : TT w N 87 3 v (ntM gs) xs) :
    Calls Tryz.prog 44 #[v, .int .i64 (r : Int)] w fun e w' => CmV w w' gs r e ∧ Below w.heap.size w w' := by
  have hn := hR.n2
  have hlx : xs.length = gs.length := hT.len.trans (ntM_len gs)
  obtain ⟨i0, hinf, hz0, hz1, hz2⟩ := info_split Tryz.info4
  obtain ⟨w1, hmk, ho1, hg1⟩ := run_make_full (P := Tryz.prog) w w.heap.size 71 4 i0 (.bool false) 1 Tryz.underlying71 hinf hz0 hz1 .i64 .i64 gs.length (by rw [hz2]; omega) (by unfold maxLen; omega) (Nat.le_refl _)
  have ho1' : w1.ownsRow w.heap.size 4 1 (.slice (some ⟨w.heap.size, 0, none⟩) gs.length gs.length) gs.length (List.replicate gs.length (.bool false)) := by
    have e : (madeCells (Value.cells (.bool false)) (gs.length * 1)).toList = List.replicate gs.length (Value.bool false) := by rw [Nat.mul_one]; exact toList_madeCells_one _ _
    rw [e] at ho1
    exact ho1
  have HS := (show Hid (CmS w (w1.alloc (.cells #[.int .i64 (r : Int)] 3)) gs r w.heap.size (List.replicate gs.length false) [r] none (.slice (some ⟨w1.heap.size, 0, none⟩) 1 1)) from CmS.start hr ho1' hg1)
  have HW0 := (show Hid (wlM (List.replicate gs.length false) [r] = 2 * gs.length + 1) from by show wlM _ _ = _; unfold wlM; rw [List.count_replicate_self]; rfl)
  have HT := (show Hid (TT w N 87 3 v (ntM gs) xs) from hT)
  have HR := (show Hid (RtG gs) from hR)
  obtain ⟨Av, cv, hv⟩ := own_slice hT.o
  rw [hlx] at hv
  subst hv
  have HNe := (show Hid (∀ (y : Nat) (wr : World), y < gs.length → Below w.heap.size w wr → ∃ g0 Ac cc, Av = some ⟨g0, 0, none⟩ ∧ wr.cell? ⟨g0, y, none⟩ = some (.slice Ac (cL gs y).length cc) ∧ ∀ (j z : Nat), (cL gs y)[j]? = some z → ∃ gc, Ac = some ⟨gc, 0, none⟩ ∧ gc < w.heap.size ∧ w.cell? ⟨gc, j, none⟩ = some (.int .i64 (z : Int))) from fun y wr hy hb => by
    obtain ⟨x, row, hx, hrow, hox⟩ := hT.at' (i := y) (by rw [ntM_len]; exact hy)
    rw [ntM_get hy] at hrow
    cases hrow
    rw [List.length_map] at hox
    obtain ⟨Ac, cc, rfl⟩ := own_slice hox
    obtain ⟨g0, cp, e, _, lt0, x0, _⟩ := own_get hT.o hx
    have e1 : Av = some ⟨g0, 0, none⟩ := by injection e
    clear e
    subst e1
    refine ⟨g0, Ac, cc, rfl, (hb.cell (p := ⟨g0, y, none⟩) lt0).trans x0, fun j z hz => ?_⟩
    obtain ⟨gc, cp2, e2, _, lt2, x2, _⟩ := own_get hox (j := j) (x := nI z) (by rw [List.getElem?_map, hz]; rfl)
    injection e2 with e3 _ _
    exact ⟨gc, e3, lt2, x2⟩)
  clear hT hR ho1 ho1' hg1 hinf hz0 hz1 hz2 i0 hlx HT
  go_enter Tryz.func44, Tryz.ntmps44
  go_wp2_with fail
  clear hmk
  generalize hwa : w1.alloc (.cells #[.int .i64 (r : Int)] 3) = wa at *
  generalize hka : w1.heap.size = ka at *
  clear hwa hka
  have HGb := (show Hid (w.heap.size = w.heap.size) from rfl)
  go_loopg [6] (2 * gs.length + 1) (fun gk u wr => ∃ (m : Nat) (ah : List Nat) (l : List Bool) (A2 : Option Addr) (c2 : Nat), u = .slice A2 m c2 ∧ m ≤ 401 ∧ Hid (ah.length = m ∧ wlM l ah = gk ∧ gk ≤ 401) ∧ Hid (CmS w wr gs r w.heap.size l ah none (.slice A2 m c2)))
  case atStart => exact ⟨1, [r], List.replicate gs.length false, some ⟨ka, 0, none⟩, 1, rfl, by omega, ⟨rfl, HW0.out, by omega⟩, HS⟩
  case round =>
    obtain ⟨m, ah, l, A2, c2, rfl, hm, HL, HW⟩ := hrel
    clear HS HW0
    cases m with
    | zero =>
      have hah : ah = [] := List.eq_nil_of_length_eq_zero HL.out.1
      subst hah
      have HD := (show Hid (∀ j, l[j]? = some true ↔ Rc gs.length (cG gs) r j) from fun j => HW.out.i.done j)
      have HLn := (show Hid (l.length = gs.length) from HW.out.i.ln)
      have HO := (show Hid (wr.ownsRow w.heap.size 4 1 (.slice (some ⟨w.heap.size, 0, none⟩) gs.length gs.length) gs.length (l.map Value.bool)) from HW.out.m)
      have HB := (show Hid (Below w.heap.size w wr) from HW.out.b)
      clear HW HL HNe HR
      go_wp2_with fail
      go_ret
      exact ⟨⟨_, l, rfl, HLn.out, HD.out, HO.out, rfl⟩, HB.out⟩
    | succ k =>
      obtain ⟨ah', y, rfl⟩ : ∃ ah' y, ah = ah' ++ [y] := by
        have hne : ah ≠ [] := fun q => by have := HL.out.1; rw [q] at this; cases this
        exact ⟨ah.dropLast, ah.getLast hne, (List.dropLast_concat_getLast hne).symm⟩
      have hak : ah'.length = k := by have := HL.out.1; rw [List.length_append] at this; simpa using this
      have HAk := (show Hid (ah'.length = k) from hak)
      obtain ⟨ga, ca, ea, _, _⟩ := HW.out.a.form (by rw [List.length_append, hak]; simp)
      obtain ⟨rfl, rfl⟩ : A2 = some ⟨ga, 0, none⟩ ∧ c2 = ca := by injection ea with ea1 ea0 ea2; exact ⟨ea1, ea2⟩
      clear ea
      obtain ⟨gx, cx, ex, _, _, xa, _⟩ := own_get HW.out.a (j := k) (x := nI y) (by rw [List.getElem?_map, List.getElem?_append_right (by omega), hak, Nat.sub_self]; rfl)
      have exg : ga = gx := by injection ex with ex1; injection ex1 with ex1; injection ex1
      clear ex
      subst exg
      have hc2 : k ≤ c2 := by
        rcases HW.out.a.2 with ⟨q, _⟩ | ⟨g', cap', cur, q, _, _, q1, _⟩
        · cases q
        · have e2 : c2 = cap' := by injection q
          rw [List.length_append, hak] at q1
          simp at q1
          omega
      have xa' : wr.cell? ⟨ga, k, none⟩ = some (.int .i64 (y : Int)) := xa
      obtain ⟨P1, P2, P3⟩ := HW.out.pop hak
      have HP1 := (show Hid (CmS w wr gs r w.heap.size l ah' (some y) (.slice (some ⟨ga, 0, none⟩) k c2)) from P1)
      have HP2 := (show Hid (y < gs.length ∧ (y = r ∨ l[y]? = some true)) from ⟨P2, P3⟩)
      have HM1 := (show Hid (wlM l ah' + 1 = gk ∧ gk ≤ 401) from ⟨by have h := HL.out.2.1; unfold wlM at h ⊢; rw [List.length_append] at h; simp at h; omega, HL.out.2.2⟩)
      obtain ⟨g0, Ac, cc, rfl, x0, hcs⟩ := HNe.out y wr P2 HW.out.b
      have HCs := (show Hid (∀ (j z : Nat), (cL gs y)[j]? = some z → ∃ gc, Ac = some ⟨gc, 0, none⟩ ∧ gc < w.heap.size ∧ w.cell? ⟨gc, j, none⟩ = some (.int .i64 (z : Int))) from hcs)
      have z0 : (0 : Int) ≤ (k : Int) := by omega
      have z1 : (0 : Int) ≤ (y : Int) := by omega
      have z2 : (y : Int) < (gs.length : Int) := by omega
      have hcl := cL_len gs y
      clear HW HL xa P1 P2 P3 hak hcs HNe
      go_wp2_with fail
      clear xa' x0
      go_loopw [6, 34] (fun u t wr => ∃ (j m : Nat) (ah : List Nat) (l : List Bool) (A2 : Option Addr) (c2 : Nat), j ≤ (cL gs y).length ∧ t = .int .i64 (j : Int) ∧ u = .slice A2 m c2 ∧ m ≤ 401 ∧ Hid (ah.length = m ∧ wlM l ah + 1 ≤ gk ∧ gk ≤ 401 ∧ (y = r ∨ l[y]? = some true)) ∧ Hid (∀ i z, i < j → (cL gs y)[i]? = some z → l[z]? = some true) ∧ Hid (CmS w wr gs r w.heap.size l ah (some y) (.slice A2 m c2))) (fun _ t _ => (cL gs y).length - (intOf t).toNat)
      case atStart => exact ⟨0, k, ah', l, some ⟨ga, 0, none⟩, c2, by omega, by go_num, rfl, by omega, ⟨HAk.out, by have := HM1.out.1; omega, HM1.out.2, HP2.out.2⟩, (fun i z hi => by omega), HP1⟩
      case round =>
        obtain ⟨j, m, ah, l, A2, c2, hj, rfl, rfl, hm, HL, HMk, HW⟩ := hrel
        have HP2y := (show Hid (y < gs.length) from HP2.out.1)
        clear HP1 HM1 HAk HP2
        by_cases hlt : j < (cL gs y).length
        · obtain ⟨z, hz⟩ : ∃ z, (cL gs y)[j]? = some z := ⟨_, List.getElem?_eq_getElem hlt⟩
          obtain ⟨gc, rfl, ltc, xc⟩ := HCs.out j z hz
          have xc' := (HW.out.b.cell (p := ⟨gc, j, none⟩) ltc).trans xc
          have hzm := cL_mem.1 (List.mem_of_getElem? hz)
          have hll := HW.out.i.ln
          obtain ⟨bz, hbz⟩ : ∃ bz, l[z]? = some bz := ⟨_, List.getElem?_eq_getElem (by omega)⟩
          obtain ⟨gm, cm, em, _, _, xm, fm⟩ := own_get HW.out.m (j := z) (x := .bool bz) (by rw [List.getElem?_map, hbz]; rfl)
          have emg : w.heap.size = gm := by injection em with e1; injection e1 with e1; injection e1
          clear em
          subst emg
          have y0 : (0 : Int) ≤ (j : Int) := by omega
          have y1 : (j : Int) < ((cL gs y).length : Int) := by omega
          have y2 : (0 : Int) ≤ (z : Int) := by omega
          have y3 : (z : Int) < (gs.length : Int) := by omega
          cases bz with
          | true =>
            have HMk2 := (show Hid (∀ i q, i < j + 1 → (cL gs y)[i]? = some q → l[q]? = some true) from fun i q hi hq => by
              by_cases e : i = j
              · subst e; rw [hz] at hq; cases hq; exact hbz
              · exact HMk.out i q (by omega) hq)
            clear HMk hz hzm hll hbz xc ltc HR fm
            go_wp2_with fail
            go_roundw
            case rel => exact ⟨j + 1, m, ah, l, A2, c2, by omega, by go_num, rfl, hm, HL, HMk2, HW⟩
            case measure => simp [intOf]; omega
          | false =>
            have HMk2 := (show Hid (∀ i q, i < j + 1 → (cL gs y)[i]? = some q → (l.set z true)[q]? = some true) from fun i q hi hq => get_set.2 (by
              by_cases e : i = j
              · subst e; rw [hz] at hq; cases hq; exact .inl ⟨rfl, by omega⟩
              · exact .inr (HMk.out i q (by omega) hq)))
            have hwl := wlM_mark (ah := ah) hbz
            have hm2 : m + 1 ≤ 401 := by
              have h1 := HL.out.2.1
              have h2 := HL.out.2.2.1
              have h3 := HL.out.1
              unfold wlM at hwl h1
              rw [List.length_append] at hwl
              simp at hwl
              omega
            have HL2 := (show Hid ((ah ++ [z]).length = m + 1 ∧ wlM (l.set z true) (ah ++ [z]) + 1 ≤ gk ∧ gk ≤ 401 ∧ (y = r ∨ (l.set z true)[y]? = some true)) from ⟨by rw [List.length_append, HL.out.1]; rfl, by have := HL.out.2.1; omega, HL.out.2.2.1, HL.out.2.2.2.imp id fun q => get_set.2 (.inr q)⟩)
            have HSt := (show Hid ((wr.setCell ⟨w.heap.size, z, none⟩ (.bool true)).ownsRow w.heap.size 3 1 (.slice A2 m c2) m (ah.map nI)) from by have h := (HW.out.store z).2.2; rw [HL.out.1] at h; exact h)
            have HSb := (show Hid (w.heap.size ≤ (wr.setCell ⟨w.heap.size, z, none⟩ (.bool true)).heap.size) from (HW.out.store z).1.size)
            have HSz := (show Hid ((wr.setCell ⟨w.heap.size, z, none⟩ (.bool true)).heap.size = wr.heap.size) from by show _ = _; simp)
            have HPu := (show Hid (∀ (u' : Value) (w5 : World), w5.ownsRow w.heap.size 3 1 u' (m + 1) (ah.map nI ++ [nI z]) → (wr.setCell ⟨w.heap.size, z, none⟩ (.bool true)).grownBy w5 (Value.slice A2 m c2).ownBlock → CmS w w5 gs r w.heap.size (l.set z true) (ah ++ [z]) (some y) u') from fun u' w5 h1 h2 => HW.out.mark ⟨HP2y.out, HL.out.2.2.2⟩ hzm.2 hzm.1 (by rw [HL.out.1]; exact h1) h2)
            clear HMk hz hzm hll hbz xc ltc HR HW HL hwl
            go_wp2_with (at_builtin; refine U.wpList_app1H wr.heap.size HSz.out rfl _ _ 87 rfl (.int .i64 0) 8 Tryz.underlying87 Tryz.info3 rfl w.heap.size m _ (ah.map nI) rfl rfl HSt.out rfl (by omega) (by decide) HSb.out ?_; intro g3 cap3 w5 ho5 hg5 hat5 hl5; have HW5 := (show Hid (CmS w w5 gs r w.heap.size (l.set z true) (ah ++ [z]) (some y) (.slice (some ⟨g3, 0, none⟩) (m + 1) cap3)) from HPu.out _ _ ho5 hg5); clear ho5 hg5 hat5 hl5 HPu HSt HSb HSz xm fm xc')
            go_roundw
            case rel => exact ⟨j + 1, m + 1, ah ++ [z], l.set z true, some ⟨g3, 0, none⟩, cap3, by omega, by go_num, rfl, hm2, HL2, HMk2, HW5⟩
            case measure => simp [intOf]; omega
        · obtain rfl : j = (cL gs y).length := by omega
          have HW2 := (show Hid (CmS w wr gs r w.heap.size l ah none (.slice A2 m c2)) from ⟨HW.out.b, HW.out.m, HW.out.a, HW.out.i.shut fun q hq => by
            have hlt2 : q < gs.length := by
              unfold cG at hq
              cases hg : gs[y]? with
              | none => rw [hg] at hq; cases hq
              | some g =>
                rw [hg] at hq
                simp only [List.any_eq_true, Bool.and_eq_true, decide_eq_true_eq] at hq
                obtain ⟨nd, _, _, h3⟩ := hq
                exact fdG_lt h3
            obtain ⟨i, hi, e⟩ := List.mem_iff_getElem.1 (cL_mem.2 ⟨hlt2, hq⟩)
            exact HMk.out i q hi (by rw [List.getElem?_eq_getElem hi, e])⟩)
          have HL2 := (show Hid (ah.length = m ∧ wlM l ah ≤ 401) from ⟨HL.out.1, by have := HL.out.2.1; have := HL.out.2.2.1; omega⟩)
          have HL3 := (show Hid (wlM l ah < gk) from by have := HL.out.2.1; show wlM l ah < gk; omega)
          clear HW HMk HL HCs HR HP2y
          go_wp2_with fail
          go_roundg (wlM l ah)
          case measure => exact HL3.out
          case rel => exact ⟨m, ah, l, A2, c2, rfl, hm, ⟨HL2.out.1, rfl, HL2.out.2⟩, HW2⟩
end Go.Proofs.YtokfgoepnfjafaaGreat.N

namespace Go.Proofs.YtokfgoepnfjafaaGreat.T
open Go.RowKit
theorem FrV.ok {w w' : World} {L : List Nd} {e : Ending} (h : FrV w w' L e) (hr : Rt L) : ∃ v1 v2, e = .returned (.tuple #[v1, v2, .int .i64 0, .int .i64 0]) ∧ AtF L w w' L.length v1 v2 := by
  rcases h with ⟨k, hk, _, h2, _⟩ | ⟨_, h⟩
  · exact absurd (hr.each k hk) h2
  · exact h
end Go.Proofs.YtokfgoepnfjafaaGreat.T

namespace Go.Proofs.YtokfgoepnfjafaaGreat.T
open Go.RowKit
theorem own_ints (w : World) (xs : List Int) (_h0 : xs ≠ []) (hl : xs.length ≤ 2) : (w.alloc (.cells (xs.map fun x => Value.int .i64 x).toArray 3)).ownsRow w.heap.size 3 1 (.slice (some ⟨w.heap.size, 0, none⟩) xs.length xs.length) xs.length (xs.map fun x => .int .i64 x) :=
  ⟨by simp, .inr ⟨w.heap.size, xs.length, _, rfl, Nat.le_refl _, heap_alloc_new w _, Nat.le_refl _, by unfold maxLen; omega, by simp, by rw [Nat.mul_one]; exact List.take_of_length_le (by simp)⟩⟩
set_option maxRecDepth 100000 in
set_option maxHeartbeats 4000000 in
theorem kids_any (L : List Nd) (gp op cp g1 c1 : Nat) (j : Nat) (hL : L.length ≤ 2048) (hj : j < L.length) (he : ∀ i, i < L.length → er L i = 0) (w : World) (hp : NdL w gp op L) (lp : gp < w.heap.size) (hb : ∀ i, i < L.length → w.cell? ⟨g1, i, none⟩ = some (.int .i64 (pt L i).1)) :
    Calls Tryz.prog 46 #[.slice (some ⟨gp, op, none⟩) L.length cp, .slice (some ⟨g1, 0, none⟩) L.length c1, .int .i64 j] w fun e w' => (∃ v, e = .returned v ∧ w'.ownsRow w.heap.size 3 1 v (arN (opAt L j)) (lastc ((run L j).take (arN (opAt L j))).reverse)) ∧ Below w.heap.size w w' := by
  obtain ⟨n, hn⟩ : ∃ n, L[j]? = some n := ⟨_, List.getElem?_eq_getElem hj⟩
  have hok := er_ok hn (he j hj)
  have HA : Hid (∀ w, Calls Tryz.prog 57 #[.int .i64 n.op] w fun e w' => e = .returned (.int .i64 (ar n.op)) ∧ w' = w) := fun w => arityR_any n.op w
  have e1 := (hp j n hn).c0
  have hop := op_of hn
  have hch := chn_run L j (by omega) (fun i hi => he i (by omega))
  have har := arN_of hok.al
  have ha2 := arN_le n.op
  have hal := hok.ar
  have z0 : (0 : Int) ≤ (j : Int) := by omega
  have z1 : (j : Int) < (L.length : Int) := by omega
  rw [hop]
  clear hok hp hn he hop
  rw [← har] at HA
  clear har
  by_cases a0 : arN n.op = 0
  · rw [a0] at HA ⊢
    clear a0 hal ha2 hch hb
    go_enter Tryz.func46, Tryz.ntmps46
    go_wp2_with fail
    refine (HA.out _).mono ?_
    rintro e w2 ⟨rfl, rfl⟩
    clear HA e1
    go_wp2_with fail
    go_ret
    exact ⟨⟨_, rfl, World.ownsRow_nil _ _ _ _⟩, Below.refl _ _⟩
  · cases hst : run L j with
    | nil => rw [hst] at hal; simp at hal; omega
    | cons y r =>
      rw [hst] at hch hal
      obtain ⟨q1, q2, q3, q4⟩ := hch
      by_cases a1 : arN n.op = 1
      · rw [a1] at HA ⊢
        have hR : lastc ((y :: r).take 1).reverse = [(.int .i64 ((j : Int) - 1) : Value)] := by
          show [Value.int .i64 (y.2.1 : Int)] = _
          rw [show (y.2.1 : Int) = (j : Int) - 1 from by omega]
        have HO := (show Hid ((w.alloc (.cells #[.int .i64 ((j : Int) - 1)] 3)).ownsRow w.heap.size 3 1 (.slice (some ⟨w.heap.size, 0, none⟩) 1 1) 1 (lastc ((y :: r).take 1).reverse)) from by rw [hR]; exact own_ints w [(j : Int) - 1] (by simp) (by simp))
        clear a0 a1 hal ha2 hb q1 q2 q3 q4 hst hR
        go_enter Tryz.func46, Tryz.ntmps46
        go_wp2_with fail
        refine (HA.out _).mono ?_
        rintro e w2 ⟨rfl, rfl⟩
        clear HA e1
        go_wp2_with fail
        go_ret
        exact ⟨⟨_, rfl, HO.out⟩, below_box _ _⟩
      · have a2 : arN n.op = 2 := by omega
        rw [a2] at HA hal ⊢
        cases hr : r with
        | nil => rw [hr] at hal; simp at hal
        | cons x r2 =>
          rw [hr] at q4
          obtain ⟨p1, p2, p3, p4⟩ := q4
          have e2 := hb y.2.1 (by omega)
          rw [← q2] at e2
          have hR : lastc ((y :: x :: r2).take 2).reverse = [(.int .i64 ((y.1 : Int) - 1) : Value), .int .i64 ((j : Int) - 1)] := by
            show [Value.int .i64 (x.2.1 : Int), .int .i64 (y.2.1 : Int)] = _
            rw [show (y.2.1 : Int) = (j : Int) - 1 from by omega, show (x.2.1 : Int) = (y.1 : Int) - 1 from by omega]
          have HO := (show Hid ((w.alloc (.cells #[.int .i64 ((y.1 : Int) - 1), .int .i64 ((j : Int) - 1)] 3)).ownsRow w.heap.size 3 1 (.slice (some ⟨w.heap.size, 0, none⟩) 2 2) 2 (lastc ((y :: x :: r2).take 2).reverse)) from by rw [hR]; exact own_ints w [(y.1 : Int) - 1, (j : Int) - 1] (by simp) (by simp))
          have hsub : (j : Int) - 1 = (y.2.1 : Int) := by omega
          have z4 : (0 : Int) ≤ (y.2.1 : Int) := by omega
          have z5 : (y.2.1 : Int) < (L.length : Int) := by omega
          have zy : y.1 ≤ 2048 := by omega
          rw [hsub] at HO
          clear a0 a1 a2 hal ha2 hb q1 q2 q3 p1 p2 p3 p4 hst hR hr
          obtain ⟨y1, y2, y3⟩ := y
          simp only at e2 hsub z4 z5 zy HO
          go_enter Tryz.func46, Tryz.ntmps46
          go_wp2_with fail
          refine (HA.out _).mono ?_
          rintro e w2 ⟨rfl, rfl⟩
          clear HA e1
          go_wp2_with fail
          go_ret
          exact ⟨⟨_, rfl, HO.out⟩, below_box _ _⟩
end Go.Proofs.YtokfgoepnfjafaaGreat.T

namespace Go.Proofs.YtokfgoepnfjafaaGreat.N
open Go.RowKit Go.Maps
open Go.Proofs.YtokfgoepnfjafaaGreat.T

open U (nI own_get own_slice wpList_app1 below_grown TT Out info_split)
theorem cG_lt {gs : GL} {i j : Nat} (q : cG gs i j = true) : i < gs.length ∧ j < gs.length := by
  unfold cG at q
  cases hg : gs[i]? with
  | none => rw [hg] at q; cases q
  | some g =>
    rw [hg] at q
    simp only [List.any_eq_true, Bool.and_eq_true, decide_eq_true_eq] at q
    obtain ⟨nd, _, _, h3⟩ := q
    exact ⟨(List.getElem?_eq_some_iff.1 hg).1, fdG_lt h3⟩
end Go.Proofs.YtokfgoepnfjafaaGreat.N

namespace Go.Proofs.YtokfgoepnfjafaaGreat.N
open Go.RowKit Go.Maps
open Go.Proofs.YtokfgoepnfjafaaGreat.T

open U (nI own_get own_slice wpList_app1 below_grown TT Out info_split)
/-- What Again answers. -/
def AgR (gs : GL) (l : List Bool) : Prop := ((ckG gs).2 = 0 → l.length = gs.length ∧ ∀ i, l[i]? = some true ↔ i < gs.length ∧ Rc gs.length (cG gs) i i) ∧ ((ckG gs).2 ≠ 0 → l = [])
/-- While it is told which rules come to themselves. -/
structure AgS (w wr : World) (gs : GL) (u : Value) (l : List Bool) : Prop where
  b : Below w.heap.size w wr
  o : wr.ownsRow w.heap.size 4 1 u l.length (l.map Value.bool)
  i : ∀ i, l[i]? = some true ↔ i < l.length ∧ Rc gs.length (cG gs) i i
theorem AgS.push {w wr w4 w5 : World} {gs : GL} {u u' : Value} {l : List Bool} {b : Bool} (h : AgS w wr gs u l) (b4 : Below wr.heap.size wr w4) (hb : b = true ↔ Rc gs.length (cG gs) l.length l.length) (ho : w5.ownsRow w.heap.size 4 1 u' (l.length + 1) (l.map Value.bool ++ [.bool b])) (hg : w4.grownBy w5 u.ownBlock) : AgS w w5 gs u' (l ++ [b]) := by
  have hb4 : Below w.heap.size w w4 := h.b.trans (b4.mono h.b.size)
  refine ⟨below_grown hb4 hg (fun j e => (h.o.lt j e).1), by rw [List.length_append, List.map_append]; exact ho, fun i => ?_⟩
  rw [List.length_append, List.length_singleton]
  by_cases q : i < l.length
  · rw [List.getElem?_append_left q, h.i i]
    constructor
    · rintro ⟨_, r⟩; exact ⟨by omega, r⟩
    · rintro ⟨_, r⟩; exact ⟨q, r⟩
  · rw [List.getElem?_append_right (by omega)]
    by_cases q2 : i = l.length
    · subst q2
      rw [Nat.sub_self]
      constructor
      · intro e
        have e : b = true := by simpa using e
        exact ⟨by omega, hb.1 e⟩
      · rintro ⟨_, r⟩
        rw [hb.2 r]; rfl
    · rw [List.getElem?_eq_none (by simp; omega)]
      constructor
      · intro e; cases e
      · rintro ⟨r, _⟩; omega
set_option maxRecDepth 100000 in
set_option maxHeartbeats 8000000 in
theorem againP_any (gs : GL) (A : Option Addr) (c : Nat) (w : World) (hp : GI w A gs) :
    Calls Tryz.prog 27 #[.agg #[.slice A gs.length c]] w fun e w' => (∃ v l, e = .returned (.tuple #[v, .int .i64 (ckG gs).2]) ∧ AgR gs l ∧ w'.ownsRow w.heap.size 4 1 v l.length (l.map Value.bool)) ∧ Below w.heap.size w w' := by
  obtain ⟨w1, hw1⟩ : ∃ w1, w1 = (w.alloc (.cells #[.slice A gs.length c] 24)) := ⟨_, rfl⟩
  have HB1 : Hid (Below w.heap.size w w1) := by show Below _ _ _; rw [hw1]; exact below_box _ _
  have HN := (show Hid (∀ _ : Unit, Calls Tryz.prog 43 #[.agg #[.slice A gs.length c]] w1 fun e w' => NwV w1 w' gs (ckG gs).2 e ∧ Below w1.heap.size w1 w') from fun _ => netOf_any gs A c w1 (hp.later HB1.out))
  clear hp
  go_enter Tryz.func27, Tryz.ntmps27
  go_wp2_with fail
  rw [← hw1]
  refine (HN.out ()).mono ?_
  rintro e w3 ⟨⟨v, rfl, h1, h2⟩, b3⟩
  have HB := (show Hid (Below w.heap.size w w3) from HB1.out.trans (b3.mono HB1.out.size))
  clear HN b3 hw1 HB1
  by_cases hz : (ckG gs).2 = 0
  · obtain ⟨xs, hT⟩ := h2 hz
    have tz : ((ckG gs).2 != 0) = false := by rw [hz]; rfl
    have hR := ckG_ok.1 hz
    have hn := hR.n2
    have HC := (show Hid (∀ (k : Nat) (wr : World), k < gs.length → Below w3.heap.size w3 wr → Calls Tryz.prog 44 #[v, .int .i64 (k : Int)] wr fun e w' => CmV wr w' gs k e ∧ Below wr.heap.size wr w') from fun k wr hk hb => comesTo_any hR hk wr (hT.below hb))
    have hlx : xs.length = gs.length := hT.len.trans (ntM_len gs)
    obtain ⟨Av, cv, hv⟩ := own_slice hT.o
    rw [hlx] at hv
    subst hv
    have HS := (show Hid (AgS w3 w3 gs (.slice none 0 0) []) from ⟨Below.refl _ _, World.ownsRow_nil _ _ _ _, fun i => by simp⟩)
    have HZ := (show Hid ((ckG gs).2 = 0) from hz)
    clear h1 h2 hT hz hR hlx
    generalize hcd : (ckG gs).2 = cd at *
    have HCD := (show Hid ((ckG gs).2 = cd) from hcd)
    clear hcd
    go_wp2_with fail
    go_loopw [6, 18] (fun u t wr => ∃ (k : Nat) (l : List Bool) (A2 : Option Addr) (c2 : Nat), k ≤ gs.length ∧ t = .int .i64 (k : Int) ∧ u = .slice A2 k c2 ∧ Hid (l.length = k) ∧ Hid (AgS w3 wr gs (.slice A2 k c2) l)) (fun _ t _ => gs.length - (intOf t).toNat)
    case atStart => exact ⟨0, [], none, 0, by omega, by go_num, rfl, rfl, HS⟩
    case round =>
      obtain ⟨k, l, A2, c2, hk, rfl, rfl, HL, HW⟩ := hrel
      clear HS
      by_cases hlt : k < gs.length
      · have HC2 := (show Hid (∀ _ : Unit, Calls Tryz.prog 44 #[.slice Av gs.length cv, .int .i64 (k : Int)] wr fun e w' => CmV wr w' gs k e ∧ Below wr.heap.size wr w') from fun _ => HC.out k wr hlt HW.out.b)
        clear HC
        go_wp2_with fail
        refine (HC2.out ()).mono ?_
        rintro e w4 ⟨⟨u, l4, rfl, hl4, hm4, ho4, _⟩, b4⟩
        obtain ⟨bk, hbk⟩ : ∃ bk, l4[k]? = some bk := ⟨_, List.getElem?_eq_getElem (by omega)⟩
        obtain ⟨g4, c4, rfl, _, _, x4, _⟩ := own_get ho4 (j := k) (x := .bool bk) (by rw [List.getElem?_map, hbk]; rfl)
        have hbR : bk = true ↔ Rc gs.length (cG gs) k k := by
          rw [← hm4 k, hbk]; simp
        have HO := (show Hid (w4.ownsRow w3.heap.size 4 1 (.slice A2 k c2) k (l.map Value.bool)) from by have h := U.own_below HW.out.o b4; rw [HL.out] at h; exact h)
        have HBw := (show Hid (w3.heap.size ≤ w4.heap.size) from Nat.le_trans HW.out.b.size b4.size)
        have HPu := (show Hid (∀ (u' : Value) (w5 : World), w5.ownsRow w3.heap.size 4 1 u' (k + 1) (l.map Value.bool ++ [.bool bk]) → w4.grownBy w5 (Value.slice A2 k c2).ownBlock → AgS w3 w5 gs u' (l ++ [bk])) from fun u' w5 h1 h2 => HW.out.push b4 (by rw [HL.out]; exact hbR) (by rw [HL.out]; exact h1) h2)
        have HL2 := (show Hid ((l ++ [bk]).length = k + 1) from by show _ = _; rw [List.length_append, HL.out]; rfl)
        have v0 : (0 : Int) ≤ (k : Int) := by omega
        have v1 : (k : Int) < (gs.length : Int) := by omega
        clear HC2 hl4 hm4 ho4 b4 HW HL hbk hbR
        go_wp2_with (at_builtin; refine wpList_app1 rfl _ _ 71 rfl (.bool false) 1 Tryz.underlying71 Tryz.info4 rfl w3.heap.size k _ (l.map Value.bool) rfl rfl HO.out rfl (by omega) (by decide) HBw.out ?_; intro g5 cap5 w5 ho5 hg5 hat5 hl5; have HW5 := (show Hid (AgS w3 w5 gs (.slice (some ⟨g5, 0, none⟩) (k + 1) cap5) (l ++ [bk])) from HPu.out _ _ ho5 hg5); clear ho5 hg5 hat5 hl5 HPu HO HBw x4)
        go_roundw
        case rel => exact ⟨k + 1, l ++ [bk], some ⟨g5, 0, none⟩, cap5, by omega, by go_num, rfl, HL2, HW5⟩
        case measure => simp [intOf]; omega
      · obtain rfl : k = gs.length := by omega
        have HO := (show Hid (wr.ownsRow w.heap.size 4 1 (.slice A2 gs.length c2) l.length (l.map Value.bool)) from U.own_base HW.out.o HB.out.size)
        have HA := (show Hid (AgR gs l) from ⟨fun _ => ⟨HL.out, fun i => by rw [HW.out.i i, HL.out]⟩, fun q => absurd (HCD.out.trans HZ.out) q⟩)
        have HB6 := (show Hid (Below w.heap.size w wr) from HB.out.trans (HW.out.b.mono HB.out.size))
        clear HW HL HC HB
        go_wp2_with fail
        refine bodyPost_ret (v := .tuple #[.slice A2 gs.length c2, .int .i64 0]) (by simp [results, Tryz.results27, go_sem]) rfl ⟨⟨_, l, by rw [HCD.out, HZ.out], HA.out, HO.out⟩, HB6.out⟩
  · obtain rfl := h1 hz
    have tz : ((ckG gs).2 != 0) = true := by rw [bne, beq_eq_false_iff_ne.2 hz]; rfl
    have HZ := (show Hid ((ckG gs).2 ≠ 0) from hz)
    clear h1 h2 hz
    generalize hcd : (ckG gs).2 = cd at *
    have HCD := (show Hid ((ckG gs).2 = cd) from hcd)
    clear hcd
    go_wp2_with fail
    refine bodyPost_ret (v := .tuple #[.slice none 0 0, .int .i64 cd]) (by simp [results, Tryz.results27, go_sem]) rfl ⟨⟨_, [], by rw [HCD.out], ⟨fun q => absurd (HCD.out.symm.trans q) HZ.out, fun _ => rfl⟩, World.ownsRow_nil _ _ _ _⟩, HB.out⟩
end Go.Proofs.YtokfgoepnfjafaaGreat.N
