/- DERIVED. Plain mathematics and walks, laid together (17). -/
import Derived.Deep.AppendLies
import Derived.WalkSpells
import Derived.Test.YtnpifgcgjgddoaaGreatDoorPb16
set_option maxRecDepth 100000
set_option maxHeartbeats 8000000
namespace Go.Proofs.YtnpifgcgjgddoaaGreatDoor.N
open Go.RowKit
def KdE (W : World) (B : Nat) (own : Option Nat) (u : Value) (ks : List Nat) : Prop := ∃ A c, u = .slice A ks.length c /\ (ks ≠ [] -> ∃ g cur, A = some ⟨g, 0, none⟩ /\ B <= g /\ own ≠ some g /\ W.heap[g]? = some (.cells cur 3 (0, 0)) /\ ∀ (i j : Nat), ks[i]? = some j -> cur[i]? = some (.int .i64 j))
theorem KdE.keep {W W' : World} {B : Nat} {own own' : Option Nat} {u : Value} {ks : List Nat} (h : KdE W B own u ks) (hb : ∀ g, B <= g -> g < W.heap.size -> own ≠ some g -> W'.heap[g]? = W.heap[g]? /\ own' ≠ some g) : KdE W' B own' u ks := by
 obtain ⟨A, c, e, h⟩ := h
 refine ⟨A, c, e, fun hne => ?_⟩
 obtain ⟨g, cur, h1, h2, h3, h4, h5⟩ := h hne
 obtain ⟨q1, q2⟩ := hb g h2 (Array.getElem?_eq_some_iff.1 h4).1 h3
 exact ⟨g, cur, h1, h2, q2, q1.trans h4, h5⟩
theorem KdE.mono {W : World} {B B' : Nat} {own : Option Nat} {u : Value} {ks : List Nat} (h : KdE W B none u ks) (hB : B' <= B) (ho : ∀ g, B <= g -> own ≠ some g) : KdE W B' own u ks := by
 obtain ⟨A, c, e, h⟩ := h
 refine ⟨A, c, e, fun hne => ?_⟩
 obtain ⟨g, cur, h1, h2, h3, h4, h5⟩ := h hne
 exact ⟨g, cur, h1, by omega, ho g h2, h4, h5⟩
def PtR (W : World) (B g : Nat) (L : List Nd) : Prop := B <= g /\ ∃ cur, W.heap[g]? = some (.cells cur 67 (0, 0)) /\ ∀ j, j < L.length -> ∃ u, cur[j]? = some u /\ KdE W B none u (kds L j)
theorem PtR.later {W W' : World} {B g : Nat} {L : List Nd} (h : PtR W B g L) (hb : Below W.heap.size W W') : PtR W' B g L := by
 obtain ⟨h1, cur, h2, h3⟩ := h
 refine ⟨h1, cur, (hb.block g (Array.getElem?_eq_some_iff.1 h2).1).trans h2, fun j hj => ?_⟩
 obtain ⟨u, q1, q2⟩ := h3 j hj
 exact ⟨u, q1, q2.keep fun g _ hl _ => ⟨hb.block g hl, by simp⟩⟩
structure AtP (L : List Nd) (w wr : World) (k m g : Nat) (v : Value) : Prop where
 o : wr.ownsRow w.heap.size 3 1 v (T.run L k).length (T.zgJ (T.run L k).reverse)
 p : ∃ cur, wr.heap[g]? = some (.cells cur 67 (0, 0)) /\ cur.size = L.length /\ ∀ j, j < m -> ∃ u, cur[j]? = some u /\ KdE wr w.heap.size v.ownBlock u (kds L j)
 n : v.ownBlock ≠ some g
 gg : w.heap.size <= g
 b : Below w.heap.size w wr
theorem AtP.later {L : List Nd} {w wr w2 : World} {k m g : Nat} {v : Value} (h : AtP L w wr k m g v) (hb : Below wr.heap.size wr w2) : AtP L w w2 k m g v := by
 obtain ⟨ho, ⟨cur, h2, h3, h4⟩, hn, hg, hbb⟩ := h
 refine ⟨T.zaX ho hb, ⟨cur, (hb.block g (Array.getElem?_eq_some_iff.1 h2).1).trans h2, h3, fun j hj => ?_⟩, hn, hg, hbb.trans (hb.mono hbb.size)⟩
 obtain ⟨u, q1, q2⟩ := h4 j hj
 exact ⟨u, q1, q2.keep fun g _ hl ho => ⟨hb.block g hl, ho⟩⟩
theorem AtP.lt {L : List Nd} {w wr : World} {k m g : Nat} {v : Value} (h : AtP L w wr k m g v) : g < wr.heap.size := by
 obtain ⟨cur, h2, _⟩ := h.p
 exact (Array.getElem?_eq_some_iff.1 h2).1
theorem AtP.put {L : List Nd} {w wr : World} {k g : Nat} {v u : Value} (h : AtP L w wr k k g v) (hk : k < L.length) (hu : KdE wr w.heap.size v.ownBlock u (kds L k)) (hug : KdE wr w.heap.size (some g) u (kds L k)) : AtP L w (wr.setCell ⟨g, k, none⟩ u) k (k + 1) g v := by
 have hlt := h.lt
 obtain ⟨ho, ⟨cur, h2, h3, h4⟩, hn, hg, hbb⟩ := h
 have hblk : ∀ b, b ≠ g -> (wr.setCell ⟨g, k, none⟩ u).heap[b]? = wr.heap[b]? := fun b hb => Below.heap_setCell _ _ _ _ hb
 refine ⟨?_, ⟨cur.setIfInBounds k u, by rw [heap_setCell_same _ g k _ 67 u h2], by rw [Array.size_setIfInBounds]; exact h3, fun j hj => ?_⟩, hn, hg, hbb.setCell (p := ⟨g, k, none⟩) hg _⟩
 ·refine ho.kept (row := some g) ⟨rfl, rfl, rfl, by simp [World.setCell], fun b _ hb => hblk b (fun e => hb (by rw [e]))⟩ (.inr hn)
 ·by_cases q : j = k
  ·subst q
   refine ⟨u, by rw [Array.getElem?_setIfInBounds, if_pos rfl, if_pos (by omega)], ?_⟩
   obtain ⟨A, c, e, f1⟩ := hu
   obtain ⟨A', c', e', f2⟩ := hug
   refine ⟨A, c, e, fun hne => ?_⟩
   obtain ⟨g1, cur1, p1, p2, p3, p4, p5⟩ := f1 hne
   obtain ⟨g2, cur2, r1, r2, r3, r4, r5⟩ := f2 hne
   rw [e] at e'
   injection e' with e1
   rw [p1, r1] at e1
   have e3 : g1 = g2 := by injection e1 with e1; injection e1
   subst e3
   exact ⟨g1, cur1, p1, p2, p3, (hblk g1 (fun e => r3 (by rw [e]))).trans p4, p5⟩
  ·obtain ⟨u', q1, q2⟩ := h4 j (by omega)
   refine ⟨u', by rw [Array.getElem?_setIfInBounds, if_neg (by omega)]; exact q1, ?_⟩
   obtain ⟨A, c, e, f1⟩ := q2
   refine ⟨A, c, e, fun hne => ?_⟩
   obtain ⟨g1, cur1, p1, p2, p3, p4, p5⟩ := f1 hne
   refine ⟨g1, cur1, p1, p2, p3, (hblk g1 ?_).trans p4, p5⟩
   rintro rfl
   rw [h2] at p4
   cases p4
theorem Tryz.info67 : (Tryz.prog.info? 67).map (fun i => (i.zero, i.size, i.bytes)) = some (some (.slice none 0 0), 1, 24) := by kernel_rfl
theorem make90 (n : Nat) (hn : n <= 2048) (w : World) : (Instr.makeSlice 90 (.int .i64 n) (.int .i64 n)).run Tryz.prog w = .ok (.slice (some ⟨w.heap.size, 0, none⟩) n n) (w.alloc (.cells (madeCells #[.slice none 0 0] n) 67)) := by
 obtain ⟨i0, hinf, hz0, hz1, hz2⟩ := T.info_parts Tryz.info67
 rw [run_make w 90 67 i0 (.slice none 0 0) Tryz.underlying90 hinf hz0 .i64 .i64 n n (by omega) (by omega) (by rw [hz2]; omega) (by omega), hz1]
 rw [Int.toNat_natCast, Nat.mul_one]
 rfl
theorem zjr (w : World) : (w.alloc (.cells #[] 3)).ownsRow w.heap.size 3 1 (.slice (some ⟨w.heap.size, 0, none⟩) 0 0) 0 [] :=
 ⟨rfl, .inr ⟨w.heap.size, 0, _, rfl, Nat.le_refl _, heap_alloc_new w _, Nat.le_refl _, by unfold maxLen; omega, rfl, rfl⟩⟩
def RdI (W : World) (A : Option Addr) (xs : List Nat) : Prop := xs ≠ [] -> ∃ g o, A = some ⟨g, o, none⟩ /\ g < W.heap.size /\ ∀ (j x : Nat), xs[j]? = some x -> W.cell? ⟨g, o + j, none⟩ = some (.int .i64 x)
theorem zq2 {W : World} {B : Nat} {v : Value} {ks : List Nat} (h : W.ownsRow B 3 1 v ks.length (ks.map fun (x : Nat) => Value.int .i64 x)) : KdE W B none v ks := by
 rcases h.2 with ⟨q1, q2⟩ | ⟨g, cap, cur, q1, q2, q3, q4, q5, q6, q7⟩
 ·have : ks = [] := List.eq_nil_of_length_eq_zero q2
  subst this
  exact ⟨none, 0, q1, fun h => absurd rfl h⟩
 ·refine ⟨_, cap, q1, fun _ => ⟨g, cur, rfl, q2, by simp, q3, fun i j hij => ?_⟩⟩
  have hi : i < ks.length := (List.getElem?_eq_some_iff.1 hij).1
  have : (cur.toList.take (ks.length * 1))[i]? = (ks.map fun (x : Nat) => Value.int .i64 x)[i]? := by rw [q7]
  rw [List.getElem?_take, if_pos (by omega), List.getElem?_map, hij] at this
  simpa using this
theorem zjs (ad : Addr) (c : Nat) (ks : List Nat) (hl : ks.length <= 2) (w : World) (hc : ∀ (j : Nat) u, (ks.map fun (x : Nat) => Value.int .i64 x)[j]? = some u -> w.cell? (ad.add j) = some u) :
  Calls Tryz.prog 70 #[.slice (some ad) ks.length c] w fun e w' => (∃ u, e = .returned u /\ KdE w' w.heap.size none u ks) /\ Below w.heap.size w w' := by
 obtain ⟨i0, hinf, hz0, hz1, hz2⟩ := T.info_parts T.Tryz.info3
 have hO := zjr w
 have HB : Hid (Below w.heap.size w (w.alloc (.cells #[] 3))) := zaa _ _
 have HC := (show Hid (∀ (j : Nat) u, (ks.map fun (x : Nat) => Value.int .i64 x)[j]? = some u -> (w.alloc (.cells #[] 3)).cell? (ad.add j) = some u) from fun j u hj => by
  have h1 := hc j u hj
  have h2 := World.block_lt_of_cell? w _ h1
  exact ((zaa w (.cells #[] 3)).cell (p := ad.add j) h2).trans h1)
 have HI := (show Hid ((ks.map fun (x : Nat) => Value.int .i64 x).length = ks.length * 1 /\ ∀ u ∈ (ks.map fun (x : Nat) => Value.int .i64 x), u.oneCell' = true) from ⟨by simp, fun u hu => by
  obtain ⟨x, _, rfl⟩ := List.mem_map.1 hu
  rfl⟩)
 have HK : Hid (∀ W v, W.ownsRow w.heap.size 3 1 v ks.length (ks.map fun (x : Nat) => Value.int .i64 x) -> KdE W w.heap.size none v ks) := fun W v h => zq2 h
 clear hc
 generalize (ks.map fun (x : Nat) => Value.int .i64 x) = xs at *
 generalize hn : ks.length = n at *
 have hnl : ∀ w : World, (binOp .eql 67 (.slice (some ad) n c) (.slice none 0 0)).run Tryz.prog w = .ok (.bool false) w := fun w => run_eql_nil_slice w 67 3 (some ad) n c 0 0 Tryz.underlying67
 go_enter Tryz.func70, Tryz.ntmps70
 go_wp2_with (at_builtin; refine wpList_append_own _ rfl _ _ 67 rfl w.heap.size 3 i0 (.int .i64 0) 1 8 Tryz.underlying67 hinf hz0 hz1 hz2 rfl (by decide) _ _ _ rfl hO ad n c xs rfl HI.out.1 HC.out HI.out.2 ?c3 ?c4 ?c5 ?_)
 case c3 => unfold maxLen; omega
 case c4 => omega
 case c5 => simp
 intro v1 w1 hown hgrow _
 have HB1 : Hid (Below w.heap.size w w1) := HB.out.grown hgrow (by simp) (fun k e => (hO.lt k e).1)
 have HKv : Hid (KdE w1 w.heap.size none v1 ks) := HK.out _ _ hown
 clear hgrow hO HB hown HK HC HI
 go_wp2_with fail
 go_ret
 exact ⟨⟨_, rfl, HKv.out⟩, HB1.out⟩
theorem zlM (c : Nat) (w : World) : Calls Tryz.prog 70 #[.slice none 0 c] w fun e w' => (∃ u, e = .returned u /\ KdE w' w.heap.size none u []) /\ Below w.heap.size w w' := by
 have hnl : ∀ w : World, (binOp .eql 67 (.slice none 0 c) (.slice none 0 0)).run Tryz.prog w = .ok (.bool true) w := fun w => run_eql_nil_slice w 67 3 none 0 c 0 0 Tryz.underlying67
 go_enter Tryz.func70, Tryz.ntmps70
 go_wp2_with fail
 go_ret
 exact ⟨⟨_, rfl, none, 0, rfl, fun h => absurd rfl h⟩, Below.refl _ _⟩
theorem zlN (A : Option Addr) (c : Nat) (ks : List Nat) (hl : ks.length <= 2) (w : World) (h : RdI w A ks) : Calls Tryz.prog 70 #[.slice A ks.length c] w fun e w' => (∃ u, e = .returned u /\ KdE w' w.heap.size none u ks) /\ Below w.heap.size w w' := by
 cases A with
 | none =>
  by_cases hk : ks = []
  ·subst hk
   exact zlM c w
  ·obtain ⟨g, o, e, _⟩ := h hk
   cases e
 | some ad =>
  refine zjs ad c ks hl w fun j u hj => ?_
  have hlt : j < ks.length := by have := (List.getElem?_eq_some_iff.1 hj).1; simpa using this
  obtain ⟨g, o, e, _, h2⟩ := h (by rintro rfl; simp at hlt)
  cases e
  rw [List.getElem?_map, List.getElem?_eq_getElem hlt] at hj
  cases hj
  rw [Addr.add_lit]
  exact h2 j _ (List.getElem?_eq_getElem hlt)
theorem zlO (L : List Nd) (gp op cp : Nat) (hL : L.length <= 2048) (he : ∀ j, j < L.length -> T.er L j = 0) (w : World) (hp : T.NdL w gp op L) (lp : gp < w.heap.size) :
  Calls Tryz.prog 47 #[.slice (some ⟨gp, op, none⟩) L.length cp] w fun e w' => (∃ g, e = .returned (.slice (some ⟨g, 0, none⟩) L.length L.length) /\ PtR w' w.heap.size g L) /\ Below w.heap.size w w' := by
 obtain ⟨i0, hinf, hz0, hz1, hz2⟩ := T.info_parts T.Tryz.info3
 have hmk := make90 L.length hL
 have HP : Hid (T.NdL w gp op L) := hp
 have HA : Hid (AtP L w (w.alloc (.cells (madeCells #[.slice none 0 0] L.length) 67)) 0 0 w.heap.size (.slice none 0 0)) := ⟨World.ownsRow_nil _ _ _ _, ⟨_, heap_alloc_new w _, size_madeCells _ _, fun j q => by omega⟩, by simp [Value.ownBlock], Nat.le_refl _, zaa _ _⟩
 have HG : Hid (∀ k, k < L.length -> ∃ n, L[k]? = some n /\ T.ErOk L k n) := fun k hk => ⟨_, List.getElem?_eq_getElem hk, T.zeM (List.getElem?_eq_getElem hk) (he k hk)⟩
 have HE : Hid (∀ j, j < L.length -> T.er L j = 0) := he
 clear hp he
 go_enter Tryz.func47, Tryz.ntmps47
 go_wp2_with fail
 clear hmk
 go_loopw [4, 13] (fun v t wr => ∃ k : Nat, k <= L.length /\ t = .int .i64 k /\ Hid (AtP L w wr k k w.heap.size v)) (fun _ t _ => L.length - (intOf t).toNat)
 case atStart => exact ⟨0, by omega, by go_num, HA⟩
 case round =>
  obtain ⟨k, hk, rfl, HW⟩ := hrel
  clear HA
  by_cases hlt : k < L.length
  ·obtain ⟨n, hn, hok⟩ := HG.out k hlt
   have HN : Hid (L[k]? = some n) := hn
   have HAr : Hid (∀ w, Calls Tryz.prog 68 #[.int .i64 n.op] w fun e w' => e = .returned (.int .i64 (T.arN n.op)) /\ w' = w) := fun w => by rw [T.zn8 hok.al]; exact T.zeq n.op w
   have har := hok.ar
   have h2 := T.zb5 n.op
   obtain ⟨c0, c1, c2, c3, c4, c5, c6⟩ := (HP.out.same (HW.out.b.block gp lp)) k n hn
   have z0 : (0 : Int) <= (k : Int) := by omega
   have z1 : (k : Int) < (L.length : Int) := by omega
   have HW1 : Hid (AtP L w (wr.alloc (T.ndO n)) k k w.heap.size _) := HW.out.later (zaa wr (T.ndO n))
   have HBox : Hid (T.NB (wr.alloc (T.ndO n)) wr.heap.size 0 n) := T.zge wr n
   have hKd := zq1 hn (fun j hj => HE.out j (by omega))
   have hop := T.zeo hn
   have hrun := T.zco L k
   rw [hop] at hrun
   have hrl := T.zjW L k
   obtain ⟨A, cA, hv, hAo⟩ : ∃ A c, u4 = .slice A (T.run L k).length c /\ (A = none /\ T.run L k = [] /\ c = 0 ∨ ∃ g, A = some ⟨g, 0, none⟩ /\ g < wr.heap.size /\ w.heap.size <= g /\ (T.run L k).length <= c) := by
    rcases HW.out.o.2 with ⟨q1, q2⟩ | ⟨g, cap, cur, q1, q2, q3, q4, _⟩
    ·exact ⟨none, 0, by rw [q1, q2], .inl ⟨rfl, List.eq_nil_of_length_eq_zero q2, rfl⟩⟩
    ·exact ⟨_, cap, q1, .inr ⟨g, rfl, (Array.getElem?_eq_some_iff.1 q3).1, q2, q4⟩⟩
   subst hv
   clear hn hok HW HG
   go_wp2_with fail
   refine (HAr.out _).mono ?_
   rintro e w1 ⟨rfl, rfl⟩
   clear HAr c0 c1 c2 c3 c4 c5 c6
   obtain ⟨r, hr⟩ : ∃ r, r + T.arN n.op = (T.run L k).length := ⟨_, Nat.sub_add_cancel har⟩
   have hsub : ((T.run L k).length : Int) - (T.arN n.op : Int) = (r : Int) := by omega
   have hmr : (T.run L k).length - r = T.arN n.op := by omega
   have zr : (r : Int) <= ((T.run L k).length : Int) := by omega
   have hR2 : RdI (wr.alloc (T.ndO n)) (if cA = r then A else Option.map (fun x => x.add r) A) (kds L k) := by
    intro hx0
    have ha0 : 0 < T.arN n.op := by
     have := zeG L k
     rw [hop] at this
     rw [<- this]
     exact List.length_pos_iff.2 hx0
    rcases hAo with ⟨q1, q2, q3⟩ | ⟨g, q1, q2, q3, q4⟩
    ·rw [q2] at hr; simp at hr; omega
    ·rw [if_neg (by omega), q1]
     refine ⟨g, r, by rw [Option.map_some, Addr.add_lit, Nat.zero_add], Nat.lt_of_lt_of_le q2 (zaa _ _).size, fun j x hj => ?_⟩
     have hcl := HW1.out.o.cells (g := g) (by rw [q1]; rfl)
     have := hcl (r + j) (.int .i64 x) (by
      unfold T.zgJ
      rw [hKd, List.getElem?_map] at hj
      have e := T.zhZ (T.run L k) (T.arN n.op) har
      rw [show (T.run L k).length - T.arN n.op = r from by omega] at e
      rw [<- e, List.getElem?_drop] at hj
      rw [List.getElem?_map]
      cases hz : (T.run L k).reverse[r + j]? with
      | none => rw [hz] at hj; cases hj
      | some p =>
       rw [hz] at hj
       simp only [Option.map_some, Option.some.injEq] at hj
       rw [Option.map_some, hj])
     rwa [Addr.add_lit, Nat.zero_add] at this
   obtain ⟨A2, hA2⟩ : ∃ A2, (if cA = r then A else Option.map (fun x => x.add r) A) = A2 := ⟨_, rfl⟩
   rw [hA2] at hR2
   have HCl : Hid (∀ _ : Unit, Calls Tryz.prog 70 #[.slice A2 (T.arN n.op) (cA - r)] (wr.alloc (T.ndO n)) fun e w' => (∃ u, e = .returned u /\ KdE w' (wr.alloc (T.ndO n)).heap.size none u (kds L k)) /\ Below (wr.alloc (T.ndO n)).heap.size (wr.alloc (T.ndO n)) w') := fun _ => by
    have h := zlN A2 (cA - r) (kds L k) (by rw [zeG, hop]; exact h2) _ hR2
    rw [zeG, hop] at h
    exact h
   clear hR2
   have HAo := hO hAo
   have HRl : Hid ((T.run L k).length <= 2048 /\ r + T.arN n.op = (T.run L k).length) := ⟨by omega, hr⟩
   have HRu : Hid (T.run L (k + 1) = T.pt L k :: (T.run L k).drop (T.arN n.op)) := hrun
   have hm2 : (T.run L k).length <= 2048 := by omega
   have hr2 : r <= 2048 := by omega
   have HPt : Hid ((T.pt L k).2.1 = k) := T.zfr _ _ _ _
   clear hAo hr har hKd hop hrun hrl
   generalize (T.run L k).length = m at *
   go_wp2_with fail
   refine (HCl.out ()).mono ?_
   rintro e w2 ⟨⟨u, rfl, hu⟩, b2⟩
   clear HCl hA2
   obtain ⟨A3, k3, c3, hu3⟩ : ∃ A m c, u = .slice A m c := by obtain ⟨A, c, e, _⟩ := hu; exact ⟨A, _, c, e⟩
   subst hu3
   have HW2 : Hid (AtP L w w2 k k w.heap.size (.slice A m cA)) := HW1.out.later b2
   have hfar : ∀ g, (Value.slice A m cA).ownBlock = some g -> g < wr.heap.size := fun g hg => by
    rcases HAo.out with ⟨q1, q2, q3⟩ | ⟨g', q1, q2, q3, q4⟩
    ·rw [q1] at hg; cases hg
    ·rw [q1] at hg; cases hg; exact q2
   have hsz1 : wr.heap.size <= (wr.alloc (T.ndO n)).heap.size := (zaa _ _).size
   have hwl := HW1.out.b.size
   have HW3 := (show Hid (AtP L w (w2.setCell ⟨w.heap.size, k, none⟩ (.slice A3 k3 c3)) k (k + 1) w.heap.size (.slice A m cA)) from HW2.out.put hlt
    (hu.mono hwl fun g hg e => by have := hfar g e; omega)
    (hu.mono hwl fun g hg e => by have e2 : w.heap.size = g := Option.some.inj e; have := HW1.out.lt; omega))
   obtain ⟨cur, d1, d2, _⟩ := HW2.out.p
   obtain ⟨x, hx⟩ : ∃ x, cur[k]? = some x := ⟨_, Array.getElem?_eq_getElem (by omega)⟩
   have e0 : w2.cell? ⟨w.heap.size, k, none⟩ = some x := (Lib.cell_of_heap d1 k).trans hx
   have e1 : w2.frozen? ⟨w.heap.size, k, none⟩ = false := Lib.frozen_of_heap d1 k
   have hs2 := HW2.out.b.size
   clear HW1 HW2 hu b2 hfar hsz1 hwl d1 d2 hx HBox
   have zc : (r : Int) <= (cA : Int) := by
    have := HRl.out
    rcases HAo.out with ⟨q1, q2, q3⟩ | ⟨g, q1, q2, q3, q4⟩
    ·have h3 := HW3.out.o.1
     rcases HW3.out.o.2 with ⟨p1, p2⟩ | ⟨g, cap, cur, p1, _⟩
     ·injection p1 with p1 p3 p4; omega
     ·rw [q1] at p1; injection p1 with p1; cases p1
    ·omega
   have HOc : Hid ((w2.setCell ⟨w.heap.size, k, none⟩ (.slice A3 k3 c3)).ownsRow w.heap.size 3 1 (.slice A r cA) r (T.zgJ ((T.run L k).drop (T.arN n.op)).reverse)) := by
    show (w2.setCell ⟨w.heap.size, k, none⟩ (.slice A3 k3 c3)).ownsRow _ _ _ _ _ _
    have ho := HW3.out.o
    have hrl := HRl.out
    have hml : (T.run L k).length = m := by
     rcases ho.2 with ⟨p1, p2⟩ | ⟨g, cap, cur, p1, _⟩
     ·injection p1 with _ p1; omega
     ·injection p1 with _ p1; exact p1.symm
    rw [hml] at ho
    have hre := T.zh0 (T.run L k) (T.arN n.op) (by omega)
    rw [hml, show m - T.arN n.op = r from by omega] at hre
    rcases HAo.out with ⟨q1, q2, q3⟩ | ⟨g, q1, q2, q3, q4⟩
    ·have hm0 : m = 0 := by rw [q2] at hml; simpa using hml.symm
     have hr0 : r = 0 := by omega
     rw [q1, q2, q3, hr0]
     exact ⟨by simp [T.zgJ], .inl ⟨rfl, rfl⟩⟩
    ·rw [q1] at ho ⊢
     have := T.zj0 ho (m := r) (by omega)
     rw [Nat.mul_one] at this
     unfold T.zgJ at this
     rw [<- List.map_take, hre] at this
     exact this
   have hO := HOc.out
   have hra : (if cA = 0 then A else Option.map (fun x => x.add 0) A) = A := by
    rcases HAo.out with ⟨q1, q2, q3⟩ | ⟨g, q1, q2, q3, q4⟩
    ·rw [q1]; split <;> rfl
    ·rw [q1]; split
     ·rfl
     ·rw [Option.map_some, Addr.add_lit]
   have hsS : (w2.setCell ⟨w.heap.size, k, none⟩ (.slice A3 k3 c3)).heap.size = w2.heap.size := World.size_setCell _ _ _
   go_wp2_with (at_builtin; refine wpList_append_lies _ rfl _ _ 67 rfl w.heap.size 3 i0 (.int .i64 0) 1 8 Tryz.underlying67 hinf hz0 hz1 hz2 rfl (by decide) _ _ _ rfl (hO.alloc _) ⟨w2.heap.size, 0, none⟩ 1 1 [.int .i64 k] rfl rfl ?c1 (fun u hu => by simp only [List.mem_singleton] at hu; subst hu; rfl) (by decide) ?c3 ?c4 ?c5 (w2.heap.size + 1) (by rw [World.size_alloc, hsS]) ?_)
   case c1 =>
    have h := heap_alloc_new (w2.setCell ⟨w.heap.size, k, none⟩ (.slice A3 k3 c3)) (.cells #[.int .i64 k] 3)
    rw [hsS] at h
    exact World.news_of_block (cs := #[.int .i64 k]) (t := 3) (fr := (0, 0)) h
   case c3 => unfold maxLen; omega
   case c4 => omega
   case c5 => rw [World.size_alloc, hsS]; omega
   intro g cap w5 hown1 hgrow hat hltg
   have HW5 := (show Hid (AtP L w w5 (k + 1) (k + 1) w.heap.size (.slice (some ⟨g, 0, none⟩) (r + 1) cap)) from by
    have hob : (Value.slice A r cA).ownBlock = (Value.slice A m cA).ownBlock := by cases A <;> rfl
    rw [hob] at hgrow hat
    have hrl := HRl.out
    have hw3 := HW3.out
    have hown3 : ∀ j, (Value.slice A m cA).ownBlock = some j -> w.heap.size <= j /\ j < w2.heap.size := fun j e => by have := hw3.o.lt j e; rw [hsS] at this; exact this
    have hblk : ∀ b, b < w2.heap.size -> (Value.slice A m cA).ownBlock ≠ some b -> w5.heap[b]? = (w2.setCell ⟨w.heap.size, k, none⟩ (.slice A3 k3 c3)).heap[b]? := fun b hb hne => by
     rw [hgrow.block b (by rw [World.size_alloc, hsS]; omega) (fun e => hne e.symm)]
     exact (zaa _ _).block b (by rw [hsS]; exact hb)
    obtain ⟨cur, h2, h3, h4⟩ := hw3.p
    have hgl := hw3.lt
    rw [hsS] at hgl
    have hml : (T.run L k).length = m := by
     rcases hw3.o.2 with ⟨p1, p2⟩ | ⟨g, cap, cur, p1, _⟩
     ·injection p1 with _ p1; omega
     ·injection p1 with _ p1; exact p1.symm
    refine ⟨?_, ⟨cur, (hblk _ hgl hw3.n).trans h2, h3, fun j hj => ?_⟩, ?_, Nat.le_refl _, ?_⟩
    ·have e1 : (T.run L (k + 1)).length = r + 1 := by rw [HRu.out, List.length_cons, List.length_drop]; omega
     have e2 : T.zgJ (T.run L (k + 1)).reverse = T.zgJ ((T.run L k).drop (T.arN n.op)).reverse ++ [.int .i64 k] := by
      rw [HRu.out, List.reverse_cons]
      unfold T.zgJ
      rw [List.map_append]
      simp [HPt.out]
     rw [e1, e2]
     exact hown1
    ·obtain ⟨u, p1, p2⟩ := h4 j hj
     refine ⟨u, p1, p2.keep fun b _ hbl hne => ⟨hblk b (by rw [hsS] at hbl; exact hbl) hne, fun e => ?_⟩⟩
     have e2 : g = b := Option.some.inj e
     subst e2
     rcases hat with q | q
     ·exact hne q
     ·rw [hsS] at hbl; omega
    ·intro e
     have e2 : g = w.heap.size := Option.some.inj e
     subst e2
     rcases hat with q | q
     ·exact hw3.n q
     ·omega
    ·exact (hw3.b.alloc hw3.b.size _).grown hgrow (by rw [World.size_alloc]; have := hw3.b.size; omega) (fun j e => (hown3 j e).1))
   clear hown1 hgrow hat hltg hO hra HOc HW3 HAo HRl HRu HPt e0 e1 zc
   go_wp2_with fail
   go_roundw
   case rel => exact ⟨k + 1, by omega, by go_num, HW5⟩
   case measure => simp [intOf]; omega
  ·obtain rfl : k = L.length := by omega
   clear HG
   have HQ := (show Hid (PtR wr w.heap.size w.heap.size L /\ Below w.heap.size w wr) from by
    obtain ⟨_, ⟨cur, h2, h3, h4⟩, _, _, hb⟩ := HW.out
    refine ⟨⟨Nat.le_refl _, cur, h2, fun j hj => ?_⟩, hb⟩
    obtain ⟨u, q1, q2⟩ := h4 j hj
    exact ⟨u, q1, q2.keep fun g _ _ _ => ⟨rfl, by simp⟩⟩)
   clear HW HP HE
   go_wp2_with fail
   go_ret
   exact ⟨⟨_, rfl, HQ.out.1⟩, HQ.out.2⟩
theorem zgK (op : Int) (w : World) : Calls Tryz.prog 72 #[.int .i64 op] w fun e w' => e = .returned (.int .i64 (hld op)) /\ w' = w := by
 by_cases h8 : op = 8
 ·subst h8
  go_enter Tryz.func72, Tryz.ntmps72
  go_wp2
  go_ret
  exact ⟨rfl, rfl⟩
 by_cases h7 : op = 7
 ·subst h7
  go_enter Tryz.func72, Tryz.ntmps72
  go_wp2
  go_ret
  exact ⟨rfl, rfl⟩
 by_cases h12 : op = 12
 ·subst h12
  go_enter Tryz.func72, Tryz.ntmps72
  go_wp2
  go_ret
  exact ⟨rfl, rfl⟩
 by_cases h13 : op = 13
 ·subst h13
  go_enter Tryz.func72, Tryz.ntmps72
  go_wp2
  go_ret
  exact ⟨rfl, rfl⟩
 by_cases h9 : op = 9
 ·subst h9
  go_enter Tryz.func72, Tryz.ntmps72
  go_wp2
  go_ret
  exact ⟨rfl, rfl⟩
 by_cases h10 : op = 10
 ·subst h10
  go_enter Tryz.func72, Tryz.ntmps72
  go_wp2
  go_ret
  exact ⟨rfl, rfl⟩
 by_cases h11 : op = 11
 ·subst h11
  go_enter Tryz.func72, Tryz.ntmps72
  go_wp2
  go_ret
  exact ⟨rfl, rfl⟩
 by_cases h14 : op = 14
 ·subst h14
  go_enter Tryz.func72, Tryz.ntmps72
  go_wp2
  go_ret
  exact ⟨rfl, rfl⟩
 by_cases h15 : op = 15
 ·subst h15
  go_enter Tryz.func72, Tryz.ntmps72
  go_wp2
  go_ret
  exact ⟨rfl, rfl⟩
 by_cases h16 : op = 16
 ·subst h16
  go_enter Tryz.func72, Tryz.ntmps72
  go_wp2
  go_ret
  exact ⟨rfl, rfl⟩
 by_cases h22 : op = 22
 ·subst h22
  go_enter Tryz.func72, Tryz.ntmps72
  go_wp2
  go_ret
  exact ⟨rfl, rfl⟩
 by_cases h23 : op = 23
 ·subst h23
  go_enter Tryz.func72, Tryz.ntmps72
  go_wp2
  go_ret
  exact ⟨rfl, rfl⟩
 have t8 : (op == 8) = false := bF h8
 have t7 : (op == 7) = false := bF h7
 have t12 : (op == 12) = false := bF h12
 have t13 : (op == 13) = false := bF h13
 have t9 : (op == 9) = false := bF h9
 have t10 : (op == 10) = false := bF h10
 have t11 : (op == 11) = false := bF h11
 have t14 : (op == 14) = false := bF h14
 have t15 : (op == 15) = false := bF h15
 have t16 : (op == 16) = false := bF h16
 have t22 : (op == 22) = false := bF h22
 have t23 : (op == 23) = false := bF h23
 have HE : Hid (((hld op : Nat) : Int) = 4) := by
  show ((hld op : Nat) : Int) = 4
  unfold hld
  rw [if_neg h8, if_neg h7, if_neg (by rintro (q | q); exact h12 q; exact h13 q), if_neg (by rintro (q | q | q | q | q | q | q | q); exact h9 q; exact h10 q; exact h11 q; exact h14 q; exact h15 q; exact h16 q; exact h22 q; exact h23 q)]
  rfl
 clear h8 h7 h12 h13 h9 h10 h11 h14 h15 h16 h22 h23
 go_enter Tryz.func72, Tryz.ntmps72
 go_wp2
 go_ret
 exact ⟨by rw [HE.out]; rfl, rfl⟩
theorem zlP (op : Int) : hld op <= 4 := by
 unfold hld
 split
 ·omega
 split
 ·omega
 split
 ·omega
 split <;> omega
theorem znI (op : Int) (i : Nat) (hi : i <= 2) (w : World) : Calls Tryz.prog 96 #[.int .i64 op, .int .i64 i] w fun e w' => e = .returned (.int .i64 (asK op i)) /\ w' = w := by
 have HH : Hid (∀ w, Calls Tryz.prog 72 #[.int .i64 op] w fun e w' => e = .returned (.int .i64 (hld op)) /\ w' = w) := fun w => zgK op w
 have hle := zlP op
 by_cases h : hld op = 4
 ·have t : (((hld op : Nat) : Int) == 4) = true := beq_iff_eq.2 (by omega)
  have HE : Hid (asK op i = 0) := by show asK op i = 0; unfold asK; rw [if_pos h]
  clear h hle
  go_enter Tryz.func96, Tryz.ntmps96
  go_wp2_with fail
  refine (HH.out _).mono ?_
  rintro e w1 ⟨rfl, rfl⟩
  go_wp2_with fail
  go_ret
  exact ⟨by rw [HE.out]; rfl, rfl⟩
 ·have t : (((hld op : Nat) : Int) == 4) = false := bF (by omega)
  have HE : Hid (asK op i = hld op + i) := by show asK op i = _; unfold asK; rw [if_neg h]
  clear h
  generalize hld op = m at *
  go_enter Tryz.func96, Tryz.ntmps96
  go_wp2_with fail
  refine (HH.out _).mono ?_
  rintro e w1 ⟨rfl, rfl⟩
  go_wp2_with fail
  refine (HH.out _).mono ?_
  rintro e w1 ⟨rfl, rfl⟩
  go_wp2_with fail
  go_ret
  exact ⟨by rw [HE.out]; go_num, rfl⟩
theorem fo_4 (nn : Int) (tx : ByteArray) (a b c d : Int) (hs : tx.size <= 255) (w : World) : Calls Tryz.prog 78 #[(.agg #[.int .i64 4, .int .i64 nn, .string tx, .int .u64 a, .int .u64 b, .int .u64 c, .int .u64 d])] w fun e w' => e = .returned (.string (Q.zae (Q.qT tx))) /\ Below w.heap.size w w' := by
 have HQ : Hid (∀ w, Calls Tryz.prog 100 #[.string tx] w fun e w' => e = .returned (.tuple #[.string (Q.zae (Q.qT tx)), .int .i64 0]) /\ Below w.heap.size w w') := fun w => by
  have h := Q.zgE tx w
  rw [Q.zfT (by have := zit tx; omega)] at h
  exact h
 have HB := hO ((zaa w (.cells #[.int .i64 4, .int .i64 nn, .string tx, .int .u64 a, .int .u64 b, .int .u64 c, .int .u64 d] 51)))
 clear hs
 go_enter Tryz.func78, Tryz.ntmps78
 go_wp2_with fail
 refine (HQ.out _).mono ?_
 rintro e w1 ⟨rfl, b1⟩
 have HB2 := hO (HB.out.trans (b1.mono HB.out.size))
 clear b1 HB
 go_wp2_with fail
 go_ret
 exact ⟨rfl, HB2.out⟩
theorem fo_22 (nn : Int) (tx : ByteArray) (a b c d : Int) (hs : tx.size <= 255) (w : World) : Calls Tryz.prog 78 #[(.agg #[.int .i64 22, .int .i64 nn, .string tx, .int .u64 a, .int .u64 b, .int .u64 c, .int .u64 d])] w fun e w' => e = .returned (.string (Q.zae (Q.qT tx))) /\ Below w.heap.size w w' := by
 have HQ : Hid (∀ w, Calls Tryz.prog 100 #[.string tx] w fun e w' => e = .returned (.tuple #[.string (Q.zae (Q.qT tx)), .int .i64 0]) /\ Below w.heap.size w w') := fun w => by
  have h := Q.zgE tx w
  rw [Q.zfT (by have := zit tx; omega)] at h
  exact h
 have HB := hO ((zaa w (.cells #[.int .i64 22, .int .i64 nn, .string tx, .int .u64 a, .int .u64 b, .int .u64 c, .int .u64 d] 51)))
 clear hs
 go_enter Tryz.func78, Tryz.ntmps78
 go_wp2_with fail
 refine (HQ.out _).mono ?_
 rintro e w1 ⟨rfl, b1⟩
 have HB2 := hO (HB.out.trans (b1.mono HB.out.size))
 clear b1 HB
 go_wp2_with fail
 go_ret
 exact ⟨rfl, HB2.out⟩
theorem fo_5 (nn : Int) (tx : ByteArray) (a b c d : Int) (ha : 0 <= a /\ a < 18446744073709551616) (hb : 0 <= b /\ b < 18446744073709551616) (hc : 0 <= c /\ c < 18446744073709551616) (hd : 0 <= d /\ d < 18446744073709551616) (w : World) : Calls Tryz.prog 78 #[(.agg #[.int .i64 5, .int .i64 nn, .string tx, .int .u64 a, .int .u64 b, .int .u64 c, .int .u64 d])] w fun e w' => e = .returned (.string (txO (shT (mkS a b c d)))) /\ Below w.heap.size w w' := by
 have HQ : Hid (∀ w, Calls Tryz.prog 101 #[.agg #[.int .u64 a, .int .u64 b, .int .u64 c, .int .u64 d]] w fun e w' => e = .returned (.string (txO (shT (mkS a b c d)))) /\ Below w.heap.size w w') := fun w => by
  have h := zb8 (mkS a b c d) w
  obtain ⟨e0, e1, e2, e3⟩ := zoj a b c d ha hb hc hd
  unfold sv at h
  rw [e0, e1, e2, e3] at h
  exact h
 have HB := hO ((zaa w (.cells #[.int .i64 5, .int .i64 nn, .string tx, .int .u64 a, .int .u64 b, .int .u64 c, .int .u64 d] 51)))
 clear ha hb hc hd
 go_enter Tryz.func78, Tryz.ntmps78
 go_wp2_with fail
 refine (HQ.out _).mono ?_
 rintro e w1 ⟨rfl, b1⟩
 have HB2 := hO (HB.out.trans (b1.mono HB.out.size))
 clear b1 HB
 go_wp2_with fail
 go_ret
 exact ⟨rfl, HB2.out⟩
theorem fo_6 (nn : Int) (tx : ByteArray) (a b c d : Int) (w : World) : Calls Tryz.prog 78 #[(.agg #[.int .i64 6, .int .i64 nn, .string tx, .int .u64 a, .int .u64 b, .int .u64 c, .int .u64 d])] w fun e w' => e = .returned (.string tx) /\ Below w.heap.size w w' := by
 have HB := hO ((zaa w (.cells #[.int .i64 6, .int .i64 nn, .string tx, .int .u64 a, .int .u64 b, .int .u64 c, .int .u64 d] 51)))
 go_enter Tryz.func78, Tryz.ntmps78
 go_wp2_with fail
 go_ret
 exact ⟨rfl, HB.out⟩
theorem fo_19 (nn : Int) (tx : ByteArray) (a b c d : Int) (w : World) : Calls Tryz.prog 78 #[(.agg #[.int .i64 19, .int .i64 nn, .string tx, .int .u64 a, .int .u64 b, .int .u64 c, .int .u64 d])] w fun e w' => e = .returned (.string tx) /\ Below w.heap.size w w' := by
 have HB := hO ((zaa w (.cells #[.int .i64 19, .int .i64 nn, .string tx, .int .u64 a, .int .u64 b, .int .u64 c, .int .u64 d] 51)))
 go_enter Tryz.func78, Tryz.ntmps78
 go_wp2_with fail
 go_ret
 exact ⟨rfl, HB.out⟩
theorem ziH : ∀ n : Nat, n < 100 -> (⟨(Lib.decDigits n).toArray⟩ : ByteArray) = txO (dgT 10 n) := by
 intro n hn
 have : ∀ k : Fin 100, Lib.decDigits k.val = dgT 10 k.val := by decide +kernel
 show (⟨(Lib.decDigits n).toArray⟩ : ByteArray) = ⟨(dgT 10 n).toArray⟩
 rw [this ⟨n, hn⟩]
theorem fo_14 (nn : Nat) (tx : ByteArray) (a b c d : Int) (hn : nn < 100) (w : World) : Calls Tryz.prog 78 #[(.agg #[.int .i64 14, .int .i64 nn, .string tx, .int .u64 a, .int .u64 b, .int .u64 c, .int .u64 d])] w fun e w' => e = .returned (.string (txO (dgT 10 nn))) /\ Below w.heap.size w w' := by
 have HQ : Hid (∀ w, Calls Tryz.prog 102 #[.int .i64 nn] w fun e w' => e = .returned (.string (txO (dgT 10 nn))) /\ w' = w) := fun w => by
  have h := Tryz.strconv_Itoa_small nn hn w
  rw [ziH nn hn] at h
  exact h
 have HB := hO ((zaa w (.cells #[.int .i64 14, .int .i64 nn, .string tx, .int .u64 a, .int .u64 b, .int .u64 c, .int .u64 d] 51)))
 clear hn
 go_enter Tryz.func78, Tryz.ntmps78
 go_wp2_with fail
 refine (HQ.out _).mono ?_
 rintro e w1 ⟨rfl, rfl⟩
 go_wp2_with fail
 go_ret
 exact ⟨rfl, HB.out⟩
theorem fo_15 (nn : Nat) (tx : ByteArray) (a b c d : Int) (hn : nn < 100) (w : World) : Calls Tryz.prog 78 #[(.agg #[.int .i64 15, .int .i64 nn, .string tx, .int .u64 a, .int .u64 b, .int .u64 c, .int .u64 d])] w fun e w' => e = .returned (.string (txO (dgT 10 nn))) /\ Below w.heap.size w w' := by
 have HQ : Hid (∀ w, Calls Tryz.prog 102 #[.int .i64 nn] w fun e w' => e = .returned (.string (txO (dgT 10 nn))) /\ w' = w) := fun w => by
  have h := Tryz.strconv_Itoa_small nn hn w
  rw [ziH nn hn] at h
  exact h
 have HB := hO ((zaa w (.cells #[.int .i64 15, .int .i64 nn, .string tx, .int .u64 a, .int .u64 b, .int .u64 c, .int .u64 d] 51)))
 clear hn
 go_enter Tryz.func78, Tryz.ntmps78
 go_wp2_with fail
 refine (HQ.out _).mono ?_
 rintro e w1 ⟨rfl, rfl⟩
 go_wp2_with fail
 go_ret
 exact ⟨rfl, HB.out⟩
theorem fo_16 (nn : Nat) (tx : ByteArray) (a b c d : Int) (hn : nn < 100) (w : World) : Calls Tryz.prog 78 #[(.agg #[.int .i64 16, .int .i64 nn, .string tx, .int .u64 a, .int .u64 b, .int .u64 c, .int .u64 d])] w fun e w' => e = .returned (.string (txO (dgT 10 nn))) /\ Below w.heap.size w w' := by
 have HQ : Hid (∀ w, Calls Tryz.prog 102 #[.int .i64 nn] w fun e w' => e = .returned (.string (txO (dgT 10 nn))) /\ w' = w) := fun w => by
  have h := Tryz.strconv_Itoa_small nn hn w
  rw [ziH nn hn] at h
  exact h
 have HB := hO ((zaa w (.cells #[.int .i64 16, .int .i64 nn, .string tx, .int .u64 a, .int .u64 b, .int .u64 c, .int .u64 d] 51)))
 clear hn
 go_enter Tryz.func78, Tryz.ntmps78
 go_wp2_with fail
 refine (HQ.out _).mono ?_
 rintro e w1 ⟨rfl, rfl⟩
 go_wp2_with fail
 go_ret
 exact ⟨rfl, HB.out⟩
theorem fo_23 (nn : Nat) (tx : ByteArray) (a b c d : Int) (hn : nn < 100) (w : World) : Calls Tryz.prog 78 #[(.agg #[.int .i64 23, .int .i64 nn, .string tx, .int .u64 a, .int .u64 b, .int .u64 c, .int .u64 d])] w fun e w' => e = .returned (.string (txO (dgT 10 nn))) /\ Below w.heap.size w w' := by
 have HQ : Hid (∀ w, Calls Tryz.prog 102 #[.int .i64 nn] w fun e w' => e = .returned (.string (txO (dgT 10 nn))) /\ w' = w) := fun w => by
  have h := Tryz.strconv_Itoa_small nn hn w
  rw [ziH nn hn] at h
  exact h
 have HB := hO ((zaa w (.cells #[.int .i64 23, .int .i64 nn, .string tx, .int .u64 a, .int .u64 b, .int .u64 c, .int .u64 d] 51)))
 clear hn
 go_enter Tryz.func78, Tryz.ntmps78
 go_wp2_with fail
 refine (HQ.out _).mono ?_
 rintro e w1 ⟨rfl, rfl⟩
 go_wp2_with fail
 go_ret
 exact ⟨rfl, HB.out⟩
theorem fo_no (op nn : Int) (tx : ByteArray) (a b c d : Int) (h4 : ¬ op = 4) (h22 : ¬ op = 22) (h5 : ¬ op = 5) (h6 : ¬ op = 6) (h19 : ¬ op = 19) (h14 : ¬ op = 14) (h15 : ¬ op = 15) (h16 : ¬ op = 16) (h23 : ¬ op = 23) (w : World) : Calls Tryz.prog 78 #[(.agg #[.int .i64 op, .int .i64 nn, .string tx, .int .u64 a, .int .u64 b, .int .u64 c, .int .u64 d])] w fun e w' => e = .returned (.string ⟨#[]⟩) /\ Below w.heap.size w w' := by
 have t4 : (op == 4) = false := bF h4
 have t22 : (op == 22) = false := bF h22
 have t5 : (op == 5) = false := bF h5
 have t6 : (op == 6) = false := bF h6
 have t19 : (op == 19) = false := bF h19
 have t14 : (op == 14) = false := bF h14
 have t15 : (op == 15) = false := bF h15
 have t16 : (op == 16) = false := bF h16
 have t23 : (op == 23) = false := bF h23
 have HB := hO ((zaa w (.cells #[.int .i64 op, .int .i64 nn, .string tx, .int .u64 a, .int .u64 b, .int .u64 c, .int .u64 d] 51)))
 clear h4 h22 h5 h6 h19 h14 h15 h16 h23
 go_enter Tryz.func78, Tryz.ntmps78
 go_wp2_with fail
 go_ret
 exact ⟨rfl, HB.out⟩
theorem zgL {n : Nd} (h : T.alE n = 0) (ho : n.op = 14 ∨ n.op = 15 ∨ n.op = 16 ∨ n.op = 23) : 0 <= n.nn /\ n.nn <= 50 := by
 have := (zd1 h).2.2.1
 unfold T.nuF at this
 rw [if_pos ho] at this
 exact of_decide_eq_true this
theorem zbF (n : Nd) (ha : T.alE n = 0) (hw : NdW n) (w : World) : Calls Tryz.prog 78 #[T.ndG n] w fun e w' => e = .returned (.string (za9 n)) /\ Below w.heap.size w w' := by
 by_cases o4 : n.op = 4
 ·have hs : n.tx.size <= 255 := (tx4 ha o4).2
  rw [fdx4 o4]
  have h := fo_4 n.nn n.tx n.s0 n.s1 n.s2 n.s3 hs w
  rw [<- o4] at h
  exact h
 by_cases o22 : n.op = 22
 ·have hs : n.tx.size <= 255 := tx22 ha o22
  rw [zqV o22]
  have h := fo_22 n.nn n.tx n.s0 n.s1 n.s2 n.s3 hs w
  rw [<- o22] at h
  exact h
 by_cases o5 : n.op = 5
 ·rw [fdx5 o5]
  have h := fo_5 n.nn n.tx n.s0 n.s1 n.s2 n.s3 hw.a hw.b hw.c hw.d w
  rw [<- o5] at h
  exact h
 by_cases o6 : n.op = 6
 ·rw [fdx6 o6]
  have h := fo_6 n.nn n.tx n.s0 n.s1 n.s2 n.s3 w
  rw [<- o6] at h
  exact h
 by_cases o19 : n.op = 19
 ·rw [fdx19 o19]
  have h := fo_19 n.nn n.tx n.s0 n.s1 n.s2 n.s3 w
  rw [<- o19] at h
  exact h
 by_cases o14 : n.op = 14
 ·rw [zqW o14]
  have hn := zgL ha (by omega)
  have h := fo_14 n.nn.toNat n.tx n.s0 n.s1 n.s2 n.s3 (by omega) w
  rw [<- o14, show ((n.nn.toNat : Nat) : Int) = n.nn from by omega] at h
  exact h
 by_cases o15 : n.op = 15
 ·rw [zqX o15]
  have hn := zgL ha (by omega)
  have h := fo_15 n.nn.toNat n.tx n.s0 n.s1 n.s2 n.s3 (by omega) w
  rw [<- o15, show ((n.nn.toNat : Nat) : Int) = n.nn from by omega] at h
  exact h
 by_cases o16 : n.op = 16
 ·rw [zqY o16]
  have hn := zgL ha (by omega)
  have h := fo_16 n.nn.toNat n.tx n.s0 n.s1 n.s2 n.s3 (by omega) w
  rw [<- o16, show ((n.nn.toNat : Nat) : Int) = n.nn from by omega] at h
  exact h
 by_cases o23 : n.op = 23
 ·rw [zqZ o23]
  have hn := zgL ha (by omega)
  have h := fo_23 n.nn.toNat n.tx n.s0 n.s1 n.s2 n.s3 (by omega) w
  rw [<- o23, show ((n.nn.toNat : Nat) : Int) = n.nn from by omega] at h
  exact h
 ·have e : za9 n = ⟨#[]⟩ := by
   have : agT n = none := by
    unfold agT
    rw [if_neg (by omega), if_neg o5, if_neg o6, if_neg o19, if_neg (by omega)]
   unfold za9
   rw [this]
  rw [e]
  exact fo_no n.op n.nn n.tx n.s0 n.s1 n.s2 n.s3 o4 o22 o5 o6 o19 o14 o15 o16 o23 w
abbrev frG (x y z : ByteArray) : Value := .agg #[.string x, .string y, .string z]
abbrev nbO (op nn : Int) (tx : ByteArray) (a b c d : Int) : Obj := .cells #[.int .i64 op, .int .i64 nn, .string tx, .int .u64 a, .int .u64 b, .int .u64 c, .int .u64 d] 51
structure FB (W : World) (b : Nat) (x y z : ByteArray) : Prop where
 heap : W.heap[b]? = some (.cells #[.string x, .string y, .string z] 143 (0, 0))
theorem FB.lt {W : World} {b : Nat} {x y z : ByteArray} (h : FB W b x y z) : b < W.heap.size := (Array.getElem?_eq_some_iff.1 h.heap).1
theorem FB.c {W : World} {b : Nat} {x y z : ByteArray} (h : FB W b x y z) (j : Nat) : W.cell? ⟨b, j, none⟩ = (#[.string x, .string y, .string z] : Array Value)[j]? := cell_of_row W b j _ 143 (0, 0) h.heap
theorem FB.c0 {W : World} {b : Nat} {x y z : ByteArray} (h : FB W b x y z) : W.cell? ⟨b, 0, none⟩ = some (.string x) := h.c 0
theorem FB.c1 {W : World} {b : Nat} {x y z : ByteArray} (h : FB W b x y z) : W.cell? ⟨b, 1, none⟩ = some (.string y) := h.c 1
theorem FB.c2 {W : World} {b : Nat} {x y z : ByteArray} (h : FB W b x y z) : W.cell? ⟨b, 2, none⟩ = some (.string z) := h.c 2
theorem FB.fz {W : World} {b : Nat} {x y z : ByteArray} (h : FB W b x y z) (j : Nat) : W.frozen? ⟨b, j, none⟩ = false := frozen_of_row W b j _ 143 h.heap
theorem FB.new (W : World) (x y z : ByteArray) : FB (W.alloc (.cells #[.string x, .string y, .string z] 143)) W.heap.size x y z := ⟨heap_alloc_new W _⟩
theorem FB.same {W W' : World} {b : Nat} {x y z : ByteArray} (h : FB W b x y z) (hb : W'.heap[b]? = W.heap[b]?) : FB W' b x y z := ⟨hb.trans h.heap⟩
abbrev stF (W : World) (b : Nat) (x y z : ByteArray) : World := ((W.setCell ⟨b, 0, none⟩ (.string x)).setCell ⟨b, 1, none⟩ (.string y)).setCell ⟨b, 2, none⟩ (.string z)
theorem FB.st {W : World} {b : Nat} {x y z x' y' z' : ByteArray} (h : FB W b x y z) : FB (stF W b x' y' z') b x' y' z' := by
 have h0 : FB (W.setCell ⟨b, 0, none⟩ (.string x')) b x' y z := ⟨by rw [heap_setCell_same W b 0 _ 143 _ h.heap]; rfl⟩
 have h1 : FB ((W.setCell ⟨b, 0, none⟩ (.string x')).setCell ⟨b, 1, none⟩ (.string y')) b x' y' z := ⟨by rw [heap_setCell_same _ b 1 _ 143 _ h0.heap]; rfl⟩
 exact ⟨by rw [heap_setCell_same _ b 2 _ 143 _ h1.heap]; rfl⟩
theorem zlQ {w W : World} {b : Nat} {x y z : ByteArray} {B : Nat} (h : Below B w W) (hb : B <= b) : Below B w (stF W b x y z) := ((h.setCell (p := ⟨b, 0, none⟩) hb _).setCell (p := ⟨b, 1, none⟩) hb _).setCell (p := ⟨b, 2, none⟩) hb _
theorem zba (w : World) (op nn : Int) (tx : ByteArray) (a b c d : Int) (x y z : ByteArray) : FB ((w.alloc (nbO op nn tx a b c d)).alloc (.cells #[.string x, .string y, .string z] 143)) (w.heap.size + 1) x y z /\ Below w.heap.size w ((w.alloc (nbO op nn tx a b c d)).alloc (.cells #[.string x, .string y, .string z] 143)) := by
 refine ⟨?_, (zaa w _).alloc (zaa w _).size _⟩
 have := FB.new (w.alloc (nbO op nn tx a b c d)) x y z
 rw [World.size_alloc] at this
 exact this
theorem zdW {w W : World} {x y z : ByteArray} (h : Below w.heap.size w W) (hf : FB W (w.heap.size + 1) ⟨#[]⟩ ⟨#[]⟩ ⟨#[]⟩) : FB (stF W (w.heap.size + 1) x y z) (w.heap.size + 1) x y z /\ Below w.heap.size w (stF W (w.heap.size + 1) x y z) := ⟨hf.st, zlQ h (by omega)⟩
theorem zlR (s : ByteArray) (hs : s.size <= 32) (w : World) : Calls Tryz.prog 122 #[.string s] w fun e w' => e = .returned (.string (grS s)) /\ w' = w := by
 by_cases h : s.size = 0
 ·have t : (s.toList == []) = true := by
   have e := T.zeL h
   rw [List.isEmpty_iff] at e
   rw [e]; rfl
  have HE : Hid (grS s = ⟨#[123, 58]⟩) := by show grS s = _; unfold grS; rw [if_pos h]
  have e0 := T.zeL h
  clear h hs
  go_enter Tryz.func122, Tryz.ntmps122
  go_wp2_with fail
  go_ret
  exact ⟨by rw [HE.out]; rfl, rfl⟩
 ·have t : (s.toList == []) = false := by
   have e := T.zel h
   cases hl : s.toList with
   | nil => rw [hl] at e; cases e
   | cons x r => rfl
  have HE : Hid (grS s = ⟨#[123, 58]⟩ ++ s ++ ⟨#[58]⟩) := by show grS s = _; unfold grS; rw [if_neg h]
  have e0 := T.zel h
  have q1 : ¬ 9223372036854775807 < 2 + s.size := by omega
  have q2 : ¬ 9223372036854775807 < 2 + s.size + 1 := by omega
  clear h hs
  go_enter Tryz.func122, Tryz.ntmps122
  go_wp2_with fail
  go_ret
  exact ⟨by rw [HE.out]; rfl, rfl⟩
theorem zlS (s : ByteArray) : (grS s).size <= s.size + 3 := by
 unfold grS
 split
 ·show 2 <= _; omega
 ·rw [ByteArray.size_append, ByteArray.size_append]; show 2 + s.size + 1 <= _; omega
theorem fw_19 (nn : Int) (tx : ByteArray) (a b c d : Int) (w : World) (hs : tx.size <= 32) : Calls Tryz.prog 95 #[(.agg #[.int .i64 19, .int .i64 nn, .string tx, .int .u64 a, .int .u64 b, .int .u64 c, .int .u64 d])] w fun e w' => e = .returned (frG (grS tx ++ ⟨#[32]⟩) ⟨#[]⟩ ⟨#[32, 58, 125]⟩) /\ Below w.heap.size w w' := by
 have HZ := hO (zba w 19 nn tx a b c d (grS tx ++ ⟨#[32]⟩) ⟨#[]⟩ ⟨#[32, 58, 125]⟩)
 have HG : Hid (∀ w, Calls Tryz.prog 122 #[.string tx] w fun e w' => e = .returned (.string (grS tx)) /\ w' = w) := fun w => zlR tx hs w
 have hl := zlS tx
 have hq : ¬ 9223372036854775807 < (grS tx).size + 1 := by omega
 clear hs hl
 go_enter Tryz.func95, Tryz.ntmps95
 go_wp2_with fail
 refine (HG.out _).mono ?_
 rintro e w1 ⟨rfl, rfl⟩
 go_wp2_with fail
 have r0 := HZ.out.1.c0
 have r1 := HZ.out.1.c1
 have r2 := HZ.out.1.c2
 refine bodyPost_ret (v := frG (grS tx ++ ⟨#[32]⟩) ⟨#[]⟩ ⟨#[32, 58, 125]⟩) ?_ rfl ⟨rfl, HZ.out.2⟩
 simp [results, Tryz.results95, go_sem, r0, r1, r2]
theorem fw_1 (nn : Int) (tx : ByteArray) (a b c d : Int) (w : World) : Calls Tryz.prog 95 #[(.agg #[.int .i64 1, .int .i64 nn, .string tx, .int .u64 a, .int .u64 b, .int .u64 c, .int .u64 d])] w fun e w' => e = .returned (frG ⟨#[37, 101]⟩ ⟨#[]⟩ ⟨#[]⟩) /\ Below w.heap.size w w' := by
 have HZ := hO (zba w 1 nn tx a b c d ⟨#[37, 101]⟩ ⟨#[]⟩ ⟨#[]⟩)
 go_enter Tryz.func95, Tryz.ntmps95
 go_wp2_with fail
 have r0 := HZ.out.1.c0
 have r1 := HZ.out.1.c1
 have r2 := HZ.out.1.c2
 refine bodyPost_ret (v := frG ⟨#[37, 101]⟩ ⟨#[]⟩ ⟨#[]⟩) ?_ rfl ⟨rfl, HZ.out.2⟩
 simp [results, Tryz.results95, go_sem, r0, r1, r2]
theorem fw_2 (nn : Int) (tx : ByteArray) (a b c d : Int) (w : World) : Calls Tryz.prog 95 #[(.agg #[.int .i64 2, .int .i64 nn, .string tx, .int .u64 a, .int .u64 b, .int .u64 c, .int .u64 d])] w fun e w' => e = .returned (frG ⟨#[37, 102]⟩ ⟨#[]⟩ ⟨#[]⟩) /\ Below w.heap.size w w' := by
 have HZ := hO (zba w 2 nn tx a b c d ⟨#[37, 102]⟩ ⟨#[]⟩ ⟨#[]⟩)
 go_enter Tryz.func95, Tryz.ntmps95
 go_wp2_with fail
 have r0 := HZ.out.1.c0
 have r1 := HZ.out.1.c1
 have r2 := HZ.out.1.c2
 refine bodyPost_ret (v := frG ⟨#[37, 102]⟩ ⟨#[]⟩ ⟨#[]⟩) ?_ rfl ⟨rfl, HZ.out.2⟩
 simp [results, Tryz.results95, go_sem, r0, r1, r2]
theorem fw_3 (nn : Int) (tx : ByteArray) (a b c d : Int) (w : World) : Calls Tryz.prog 95 #[(.agg #[.int .i64 3, .int .i64 nn, .string tx, .int .u64 a, .int .u64 b, .int .u64 c, .int .u64 d])] w fun e w' => e = .returned (frG ⟨#[46]⟩ ⟨#[]⟩ ⟨#[]⟩) /\ Below w.heap.size w w' := by
 have HZ := hO (zba w 3 nn tx a b c d ⟨#[46]⟩ ⟨#[]⟩ ⟨#[]⟩)
 go_enter Tryz.func95, Tryz.ntmps95
 go_wp2_with fail
 have r0 := HZ.out.1.c0
 have r1 := HZ.out.1.c1
 have r2 := HZ.out.1.c2
 refine bodyPost_ret (v := frG ⟨#[46]⟩ ⟨#[]⟩ ⟨#[]⟩) ?_ rfl ⟨rfl, HZ.out.2⟩
 simp [results, Tryz.results95, go_sem, r0, r1, r2]
theorem fw_17 (nn : Int) (tx : ByteArray) (a b c d : Int) (w : World) : Calls Tryz.prog 95 #[(.agg #[.int .i64 17, .int .i64 nn, .string tx, .int .u64 a, .int .u64 b, .int .u64 c, .int .u64 d])] w fun e w' => e = .returned (frG ⟨#[123, 125]⟩ ⟨#[]⟩ ⟨#[]⟩) /\ Below w.heap.size w w' := by
 have HZ := hO (zba w 17 nn tx a b c d ⟨#[123, 125]⟩ ⟨#[]⟩ ⟨#[]⟩)
 go_enter Tryz.func95, Tryz.ntmps95
 go_wp2_with fail
 have r0 := HZ.out.1.c0
 have r1 := HZ.out.1.c1
 have r2 := HZ.out.1.c2
 refine bodyPost_ret (v := frG ⟨#[123, 125]⟩ ⟨#[]⟩ ⟨#[]⟩) ?_ rfl ⟨rfl, HZ.out.2⟩
 simp [results, Tryz.results95, go_sem, r0, r1, r2]
theorem fw_7 (nn : Int) (tx : ByteArray) (a b c d : Int) (w : World) : Calls Tryz.prog 95 #[(.agg #[.int .i64 7, .int .i64 nn, .string tx, .int .u64 a, .int .u64 b, .int .u64 c, .int .u64 d])] w fun e w' => e = .returned (frG ⟨#[]⟩ ⟨#[32]⟩ ⟨#[]⟩) /\ Below w.heap.size w w' := by
 have HZ := hO (zba w 7 nn tx a b c d ⟨#[]⟩ ⟨#[32]⟩ ⟨#[]⟩)
 go_enter Tryz.func95, Tryz.ntmps95
 go_wp2_with fail
 have r0 := HZ.out.1.c0
 have r1 := HZ.out.1.c1
 have r2 := HZ.out.1.c2
 refine bodyPost_ret (v := frG ⟨#[]⟩ ⟨#[32]⟩ ⟨#[]⟩) ?_ rfl ⟨rfl, HZ.out.2⟩
 simp [results, Tryz.results95, go_sem, r0, r1, r2]
theorem fw_8 (nn : Int) (tx : ByteArray) (a b c d : Int) (w : World) : Calls Tryz.prog 95 #[(.agg #[.int .i64 8, .int .i64 nn, .string tx, .int .u64 a, .int .u64 b, .int .u64 c, .int .u64 d])] w fun e w' => e = .returned (frG ⟨#[]⟩ ⟨#[32, 47, 32]⟩ ⟨#[]⟩) /\ Below w.heap.size w w' := by
 have HZ := hO (zba w 8 nn tx a b c d ⟨#[]⟩ ⟨#[32, 47, 32]⟩ ⟨#[]⟩)
 go_enter Tryz.func95, Tryz.ntmps95
 go_wp2_with fail
 have r0 := HZ.out.1.c0
 have r1 := HZ.out.1.c1
 have r2 := HZ.out.1.c2
 refine bodyPost_ret (v := frG ⟨#[]⟩ ⟨#[32, 47, 32]⟩ ⟨#[]⟩) ?_ rfl ⟨rfl, HZ.out.2⟩
 simp [results, Tryz.results95, go_sem, r0, r1, r2]
theorem fw_9 (nn : Int) (tx : ByteArray) (a b c d : Int) (w : World) : Calls Tryz.prog 95 #[(.agg #[.int .i64 9, .int .i64 nn, .string tx, .int .u64 a, .int .u64 b, .int .u64 c, .int .u64 d])] w fun e w' => e = .returned (frG ⟨#[]⟩ ⟨#[]⟩ ⟨#[42]⟩) /\ Below w.heap.size w w' := by
 have HZ := hO (zba w 9 nn tx a b c d ⟨#[]⟩ ⟨#[]⟩ ⟨#[42]⟩)
 go_enter Tryz.func95, Tryz.ntmps95
 go_wp2_with fail
 have r0 := HZ.out.1.c0
 have r1 := HZ.out.1.c1
 have r2 := HZ.out.1.c2
 refine bodyPost_ret (v := frG ⟨#[]⟩ ⟨#[]⟩ ⟨#[42]⟩) ?_ rfl ⟨rfl, HZ.out.2⟩
 simp [results, Tryz.results95, go_sem, r0, r1, r2]
theorem fw_10 (nn : Int) (tx : ByteArray) (a b c d : Int) (w : World) : Calls Tryz.prog 95 #[(.agg #[.int .i64 10, .int .i64 nn, .string tx, .int .u64 a, .int .u64 b, .int .u64 c, .int .u64 d])] w fun e w' => e = .returned (frG ⟨#[]⟩ ⟨#[]⟩ ⟨#[43]⟩) /\ Below w.heap.size w w' := by
 have HZ := hO (zba w 10 nn tx a b c d ⟨#[]⟩ ⟨#[]⟩ ⟨#[43]⟩)
 go_enter Tryz.func95, Tryz.ntmps95
 go_wp2_with fail
 have r0 := HZ.out.1.c0
 have r1 := HZ.out.1.c1
 have r2 := HZ.out.1.c2
 refine bodyPost_ret (v := frG ⟨#[]⟩ ⟨#[]⟩ ⟨#[43]⟩) ?_ rfl ⟨rfl, HZ.out.2⟩
 simp [results, Tryz.results95, go_sem, r0, r1, r2]
theorem fw_11 (nn : Int) (tx : ByteArray) (a b c d : Int) (w : World) : Calls Tryz.prog 95 #[(.agg #[.int .i64 11, .int .i64 nn, .string tx, .int .u64 a, .int .u64 b, .int .u64 c, .int .u64 d])] w fun e w' => e = .returned (frG ⟨#[]⟩ ⟨#[]⟩ ⟨#[63]⟩) /\ Below w.heap.size w w' := by
 have HZ := hO (zba w 11 nn tx a b c d ⟨#[]⟩ ⟨#[]⟩ ⟨#[63]⟩)
 go_enter Tryz.func95, Tryz.ntmps95
 go_wp2_with fail
 have r0 := HZ.out.1.c0
 have r1 := HZ.out.1.c1
 have r2 := HZ.out.1.c2
 refine bodyPost_ret (v := frG ⟨#[]⟩ ⟨#[]⟩ ⟨#[63]⟩) ?_ rfl ⟨rfl, HZ.out.2⟩
 simp [results, Tryz.results95, go_sem, r0, r1, r2]
theorem fw_12 (nn : Int) (tx : ByteArray) (a b c d : Int) (w : World) : Calls Tryz.prog 95 #[(.agg #[.int .i64 12, .int .i64 nn, .string tx, .int .u64 a, .int .u64 b, .int .u64 c, .int .u64 d])] w fun e w' => e = .returned (frG ⟨#[38]⟩ ⟨#[]⟩ ⟨#[]⟩) /\ Below w.heap.size w w' := by
 have HZ := hO (zba w 12 nn tx a b c d ⟨#[38]⟩ ⟨#[]⟩ ⟨#[]⟩)
 go_enter Tryz.func95, Tryz.ntmps95
 go_wp2_with fail
 have r0 := HZ.out.1.c0
 have r1 := HZ.out.1.c1
 have r2 := HZ.out.1.c2
 refine bodyPost_ret (v := frG ⟨#[38]⟩ ⟨#[]⟩ ⟨#[]⟩) ?_ rfl ⟨rfl, HZ.out.2⟩
 simp [results, Tryz.results95, go_sem, r0, r1, r2]
theorem fw_13 (nn : Int) (tx : ByteArray) (a b c d : Int) (w : World) : Calls Tryz.prog 95 #[(.agg #[.int .i64 13, .int .i64 nn, .string tx, .int .u64 a, .int .u64 b, .int .u64 c, .int .u64 d])] w fun e w' => e = .returned (frG ⟨#[33]⟩ ⟨#[]⟩ ⟨#[]⟩) /\ Below w.heap.size w w' := by
 have HZ := hO (zba w 13 nn tx a b c d ⟨#[33]⟩ ⟨#[]⟩ ⟨#[]⟩)
 go_enter Tryz.func95, Tryz.ntmps95
 go_wp2_with fail
 have r0 := HZ.out.1.c0
 have r1 := HZ.out.1.c1
 have r2 := HZ.out.1.c2
 refine bodyPost_ret (v := frG ⟨#[33]⟩ ⟨#[]⟩ ⟨#[]⟩) ?_ rfl ⟨rfl, HZ.out.2⟩
 simp [results, Tryz.results95, go_sem, r0, r1, r2]
theorem fw_18 (nn : Int) (tx : ByteArray) (a b c d : Int) (w : World) : Calls Tryz.prog 95 #[(.agg #[.int .i64 18, .int .i64 nn, .string tx, .int .u64 a, .int .u64 b, .int .u64 c, .int .u64 d])] w fun e w' => e = .returned (frG ⟨#[123]⟩ ⟨#[]⟩ ⟨#[125]⟩) /\ Below w.heap.size w w' := by
 have HZ := hO (zba w 18 nn tx a b c d ⟨#[123]⟩ ⟨#[]⟩ ⟨#[125]⟩)
 go_enter Tryz.func95, Tryz.ntmps95
 go_wp2_with fail
 have r0 := HZ.out.1.c0
 have r1 := HZ.out.1.c1
 have r2 := HZ.out.1.c2
 refine bodyPost_ret (v := frG ⟨#[123]⟩ ⟨#[]⟩ ⟨#[125]⟩) ?_ rfl ⟨rfl, HZ.out.2⟩
 simp [results, Tryz.results95, go_sem, r0, r1, r2]
theorem fw_20 (nn : Int) (tx : ByteArray) (a b c d : Int) (w : World) : Calls Tryz.prog 95 #[(.agg #[.int .i64 20, .int .i64 nn, .string tx, .int .u64 a, .int .u64 b, .int .u64 c, .int .u64 d])] w fun e w' => e = .returned (frG ⟨#[123, 124, 32]⟩ ⟨#[]⟩ ⟨#[32, 124, 125]⟩) /\ Below w.heap.size w w' := by
 have HZ := hO (zba w 20 nn tx a b c d ⟨#[123, 124, 32]⟩ ⟨#[]⟩ ⟨#[32, 124, 125]⟩)
 go_enter Tryz.func95, Tryz.ntmps95
 go_wp2_with fail
 have r0 := HZ.out.1.c0
 have r1 := HZ.out.1.c1
 have r2 := HZ.out.1.c2
 refine bodyPost_ret (v := frG ⟨#[123, 124, 32]⟩ ⟨#[]⟩ ⟨#[32, 124, 125]⟩) ?_ rfl ⟨rfl, HZ.out.2⟩
 simp [results, Tryz.results95, go_sem, r0, r1, r2]
theorem fw_21 (nn : Int) (tx : ByteArray) (a b c d : Int) (w : World) : Calls Tryz.prog 95 #[(.agg #[.int .i64 21, .int .i64 nn, .string tx, .int .u64 a, .int .u64 b, .int .u64 c, .int .u64 d])] w fun e w' => e = .returned (frG ⟨#[123, 126, 32]⟩ ⟨#[]⟩ ⟨#[32, 126, 125]⟩) /\ Below w.heap.size w w' := by
 have HZ := hO (zba w 21 nn tx a b c d ⟨#[123, 126, 32]⟩ ⟨#[]⟩ ⟨#[32, 126, 125]⟩)
 go_enter Tryz.func95, Tryz.ntmps95
 go_wp2_with fail
 have r0 := HZ.out.1.c0
 have r1 := HZ.out.1.c1
 have r2 := HZ.out.1.c2
 refine bodyPost_ret (v := frG ⟨#[123, 126, 32]⟩ ⟨#[]⟩ ⟨#[32, 126, 125]⟩) ?_ rfl ⟨rfl, HZ.out.2⟩
 simp [results, Tryz.results95, go_sem, r0, r1, r2]
theorem fw_14 (nn : Int) (tx : ByteArray) (a b c d : Int) (w : World) (s : ByteArray) (hs : s.size <= 3000) (hc : ∀ w, Calls Tryz.prog 78 #[(.agg #[.int .i64 14, .int .i64 nn, .string tx, .int .u64 a, .int .u64 b, .int .u64 c, .int .u64 d])] w fun e w' => e = .returned (.string s) /\ Below w.heap.size w w') : Calls Tryz.prog 95 #[(.agg #[.int .i64 14, .int .i64 nn, .string tx, .int .u64 a, .int .u64 b, .int .u64 c, .int .u64 d])] w fun e w' => e = .returned (frG ⟨#[]⟩ ⟨#[]⟩ (⟨#[94]⟩ ++ s)) /\ Below w.heap.size w w' := by
 have HF := hO (zba w 14 nn tx a b c d ⟨#[]⟩ ⟨#[]⟩ ⟨#[]⟩)
 have HC := hO hc
 have hq : ¬ 9223372036854775807 < 1 + s.size := by omega
 clear hc hs
 go_enter Tryz.func95, Tryz.ntmps95
 go_wp2_with fail
 refine (HC.out _).mono ?_
 rintro e w1 ⟨rfl, b1⟩
 have HF1 : Hid (FB w1 (w.heap.size + 1) ⟨#[]⟩ ⟨#[]⟩ ⟨#[]⟩) := HF.out.1.same (b1.block _ HF.out.1.lt)
 have HB1 : Hid (Below w.heap.size w w1) := HF.out.2.trans (b1.mono HF.out.2.size)
 have HZ := hO (zdW (x := ⟨#[]⟩) (y := ⟨#[]⟩) (z := (⟨#[94]⟩ ++ s)) HB1.out HF1.out)
 have g0 := HF1.out.c0
 have g1 := HF1.out.c1
 have g2 := HF1.out.c2
 have f0 := HF1.out.fz 0
 have f1 := HF1.out.fz 1
 have f2 := HF1.out.fz 2
 clear b1 HF HB1 HC
 go_wp2_with fail
 have r0 := HZ.out.1.c0
 have r1 := HZ.out.1.c1
 have r2 := HZ.out.1.c2
 refine bodyPost_ret (v := frG ⟨#[]⟩ ⟨#[]⟩ (⟨#[94]⟩ ++ s)) ?_ rfl ⟨rfl, HZ.out.2⟩
 simp [results, Tryz.results95, go_sem, r0, r1, r2]
theorem fw_15 (nn : Int) (tx : ByteArray) (a b c d : Int) (w : World) (s : ByteArray) (hs : s.size <= 3000) (hc : ∀ w, Calls Tryz.prog 78 #[(.agg #[.int .i64 15, .int .i64 nn, .string tx, .int .u64 a, .int .u64 b, .int .u64 c, .int .u64 d])] w fun e w' => e = .returned (.string s) /\ Below w.heap.size w w') : Calls Tryz.prog 95 #[(.agg #[.int .i64 15, .int .i64 nn, .string tx, .int .u64 a, .int .u64 b, .int .u64 c, .int .u64 d])] w fun e w' => e = .returned (frG ⟨#[]⟩ ⟨#[]⟩ (⟨#[94, 43]⟩ ++ s)) /\ Below w.heap.size w w' := by
 have HF := hO (zba w 15 nn tx a b c d ⟨#[]⟩ ⟨#[]⟩ ⟨#[]⟩)
 have HC := hO hc
 have hq : ¬ 9223372036854775807 < 2 + s.size := by omega
 clear hc hs
 go_enter Tryz.func95, Tryz.ntmps95
 go_wp2_with fail
 refine (HC.out _).mono ?_
 rintro e w1 ⟨rfl, b1⟩
 have HF1 : Hid (FB w1 (w.heap.size + 1) ⟨#[]⟩ ⟨#[]⟩ ⟨#[]⟩) := HF.out.1.same (b1.block _ HF.out.1.lt)
 have HB1 : Hid (Below w.heap.size w w1) := HF.out.2.trans (b1.mono HF.out.2.size)
 have HZ := hO (zdW (x := ⟨#[]⟩) (y := ⟨#[]⟩) (z := (⟨#[94, 43]⟩ ++ s)) HB1.out HF1.out)
 have g0 := HF1.out.c0
 have g1 := HF1.out.c1
 have g2 := HF1.out.c2
 have f0 := HF1.out.fz 0
 have f1 := HF1.out.fz 1
 have f2 := HF1.out.fz 2
 clear b1 HF HB1 HC
 go_wp2_with fail
 have r0 := HZ.out.1.c0
 have r1 := HZ.out.1.c1
 have r2 := HZ.out.1.c2
 refine bodyPost_ret (v := frG ⟨#[]⟩ ⟨#[]⟩ (⟨#[94, 43]⟩ ++ s)) ?_ rfl ⟨rfl, HZ.out.2⟩
 simp [results, Tryz.results95, go_sem, r0, r1, r2]
theorem fw_16 (nn : Int) (tx : ByteArray) (a b c d : Int) (w : World) (s : ByteArray) (hs : s.size <= 3000) (hc : ∀ w, Calls Tryz.prog 78 #[(.agg #[.int .i64 16, .int .i64 nn, .string tx, .int .u64 a, .int .u64 b, .int .u64 c, .int .u64 d])] w fun e w' => e = .returned (.string s) /\ Below w.heap.size w w') : Calls Tryz.prog 95 #[(.agg #[.int .i64 16, .int .i64 nn, .string tx, .int .u64 a, .int .u64 b, .int .u64 c, .int .u64 d])] w fun e w' => e = .returned (frG ⟨#[]⟩ ⟨#[]⟩ (⟨#[94, 45]⟩ ++ s)) /\ Below w.heap.size w w' := by
 have HF := hO (zba w 16 nn tx a b c d ⟨#[]⟩ ⟨#[]⟩ ⟨#[]⟩)
 have HC := hO hc
 have hq : ¬ 9223372036854775807 < 2 + s.size := by omega
 clear hc hs
 go_enter Tryz.func95, Tryz.ntmps95
 go_wp2_with fail
 refine (HC.out _).mono ?_
 rintro e w1 ⟨rfl, b1⟩
 have HF1 : Hid (FB w1 (w.heap.size + 1) ⟨#[]⟩ ⟨#[]⟩ ⟨#[]⟩) := HF.out.1.same (b1.block _ HF.out.1.lt)
 have HB1 : Hid (Below w.heap.size w w1) := HF.out.2.trans (b1.mono HF.out.2.size)
 have HZ := hO (zdW (x := ⟨#[]⟩) (y := ⟨#[]⟩) (z := (⟨#[94, 45]⟩ ++ s)) HB1.out HF1.out)
 have g0 := HF1.out.c0
 have g1 := HF1.out.c1
 have g2 := HF1.out.c2
 have f0 := HF1.out.fz 0
 have f1 := HF1.out.fz 1
 have f2 := HF1.out.fz 2
 clear b1 HF HB1 HC
 go_wp2_with fail
 have r0 := HZ.out.1.c0
 have r1 := HZ.out.1.c1
 have r2 := HZ.out.1.c2
 refine bodyPost_ret (v := frG ⟨#[]⟩ ⟨#[]⟩ (⟨#[94, 45]⟩ ++ s)) ?_ rfl ⟨rfl, HZ.out.2⟩
 simp [results, Tryz.results95, go_sem, r0, r1, r2]
theorem fw_22 (nn : Int) (tx : ByteArray) (a b c d : Int) (w : World) (s : ByteArray) (hs : s.size <= 3000) (hc : ∀ w, Calls Tryz.prog 78 #[(.agg #[.int .i64 22, .int .i64 nn, .string tx, .int .u64 a, .int .u64 b, .int .u64 c, .int .u64 d])] w fun e w' => e = .returned (.string s) /\ Below w.heap.size w w') : Calls Tryz.prog 95 #[(.agg #[.int .i64 22, .int .i64 nn, .string tx, .int .u64 a, .int .u64 b, .int .u64 c, .int .u64 d])] w fun e w' => e = .returned (frG ⟨#[]⟩ ⟨#[]⟩ (⟨#[32, 45, 62, 32]⟩ ++ s)) /\ Below w.heap.size w w' := by
 have HF := hO (zba w 22 nn tx a b c d ⟨#[]⟩ ⟨#[]⟩ ⟨#[]⟩)
 have HC := hO hc
 have hq : ¬ 9223372036854775807 < 4 + s.size := by omega
 clear hc hs
 go_enter Tryz.func95, Tryz.ntmps95
 go_wp2_with fail
 refine (HC.out _).mono ?_
 rintro e w1 ⟨rfl, b1⟩
 have HF1 : Hid (FB w1 (w.heap.size + 1) ⟨#[]⟩ ⟨#[]⟩ ⟨#[]⟩) := HF.out.1.same (b1.block _ HF.out.1.lt)
 have HB1 : Hid (Below w.heap.size w w1) := HF.out.2.trans (b1.mono HF.out.2.size)
 have HZ := hO (zdW (x := ⟨#[]⟩) (y := ⟨#[]⟩) (z := (⟨#[32, 45, 62, 32]⟩ ++ s)) HB1.out HF1.out)
 have g0 := HF1.out.c0
 have g1 := HF1.out.c1
 have g2 := HF1.out.c2
 have f0 := HF1.out.fz 0
 have f1 := HF1.out.fz 1
 have f2 := HF1.out.fz 2
 clear b1 HF HB1 HC
 go_wp2_with fail
 have r0 := HZ.out.1.c0
 have r1 := HZ.out.1.c1
 have r2 := HZ.out.1.c2
 refine bodyPost_ret (v := frG ⟨#[]⟩ ⟨#[]⟩ (⟨#[32, 45, 62, 32]⟩ ++ s)) ?_ rfl ⟨rfl, HZ.out.2⟩
 simp [results, Tryz.results95, go_sem, r0, r1, r2]
theorem fw_23 (nn : Int) (tx : ByteArray) (a b c d : Int) (w : World) (s : ByteArray) (hs : s.size <= 3000) (hc : ∀ w, Calls Tryz.prog 78 #[(.agg #[.int .i64 23, .int .i64 nn, .string tx, .int .u64 a, .int .u64 b, .int .u64 c, .int .u64 d])] w fun e w' => e = .returned (.string s) /\ Below w.heap.size w w') : Calls Tryz.prog 95 #[(.agg #[.int .i64 23, .int .i64 nn, .string tx, .int .u64 a, .int .u64 b, .int .u64 c, .int .u64 d])] w fun e w' => e = .returned (frG ⟨#[]⟩ ⟨#[]⟩ (⟨#[32, 45, 62, 32]⟩ ++ s)) /\ Below w.heap.size w w' := by
 have HF := hO (zba w 23 nn tx a b c d ⟨#[]⟩ ⟨#[]⟩ ⟨#[]⟩)
 have HC := hO hc
 have hq : ¬ 9223372036854775807 < 4 + s.size := by omega
 clear hc hs
 go_enter Tryz.func95, Tryz.ntmps95
 go_wp2_with fail
 refine (HC.out _).mono ?_
 rintro e w1 ⟨rfl, b1⟩
 have HF1 : Hid (FB w1 (w.heap.size + 1) ⟨#[]⟩ ⟨#[]⟩ ⟨#[]⟩) := HF.out.1.same (b1.block _ HF.out.1.lt)
 have HB1 : Hid (Below w.heap.size w w1) := HF.out.2.trans (b1.mono HF.out.2.size)
 have HZ := hO (zdW (x := ⟨#[]⟩) (y := ⟨#[]⟩) (z := (⟨#[32, 45, 62, 32]⟩ ++ s)) HB1.out HF1.out)
 have g0 := HF1.out.c0
 have g1 := HF1.out.c1
 have g2 := HF1.out.c2
 have f0 := HF1.out.fz 0
 have f1 := HF1.out.fz 1
 have f2 := HF1.out.fz 2
 clear b1 HF HB1 HC
 go_wp2_with fail
 have r0 := HZ.out.1.c0
 have r1 := HZ.out.1.c1
 have r2 := HZ.out.1.c2
 refine bodyPost_ret (v := frG ⟨#[]⟩ ⟨#[]⟩ (⟨#[32, 45, 62, 32]⟩ ++ s)) ?_ rfl ⟨rfl, HZ.out.2⟩
 simp [results, Tryz.results95, go_sem, r0, r1, r2]
theorem fw_4 (nn : Int) (tx : ByteArray) (a b c d : Int) (w : World) (s : ByteArray) (_hs : s.size <= 3000) (hc : ∀ w, Calls Tryz.prog 78 #[(.agg #[.int .i64 4, .int .i64 nn, .string tx, .int .u64 a, .int .u64 b, .int .u64 c, .int .u64 d])] w fun e w' => e = .returned (.string s) /\ Below w.heap.size w w') : Calls Tryz.prog 95 #[(.agg #[.int .i64 4, .int .i64 nn, .string tx, .int .u64 a, .int .u64 b, .int .u64 c, .int .u64 d])] w fun e w' => e = .returned (frG s ⟨#[]⟩ ⟨#[]⟩) /\ Below w.heap.size w w' := by
 have HF := hO (zba w 4 nn tx a b c d ⟨#[]⟩ ⟨#[]⟩ ⟨#[]⟩)
 have HC := hO hc
 skip
 clear hc
 go_enter Tryz.func95, Tryz.ntmps95
 go_wp2_with fail
 refine (HC.out _).mono ?_
 rintro e w1 ⟨rfl, b1⟩
 have HF1 : Hid (FB w1 (w.heap.size + 1) ⟨#[]⟩ ⟨#[]⟩ ⟨#[]⟩) := HF.out.1.same (b1.block _ HF.out.1.lt)
 have HB1 : Hid (Below w.heap.size w w1) := HF.out.2.trans (b1.mono HF.out.2.size)
 have HZ := hO (zdW (x := s) (y := ⟨#[]⟩) (z := ⟨#[]⟩) HB1.out HF1.out)
 have g0 := HF1.out.c0
 have g1 := HF1.out.c1
 have g2 := HF1.out.c2
 have f0 := HF1.out.fz 0
 have f1 := HF1.out.fz 1
 have f2 := HF1.out.fz 2
 clear b1 HF HB1 HC
 go_wp2_with fail
 have r0 := HZ.out.1.c0
 have r1 := HZ.out.1.c1
 have r2 := HZ.out.1.c2
 refine bodyPost_ret (v := frG s ⟨#[]⟩ ⟨#[]⟩) ?_ rfl ⟨rfl, HZ.out.2⟩
 simp [results, Tryz.results95, go_sem, r0, r1, r2]
theorem fw_5 (nn : Int) (tx : ByteArray) (a b c d : Int) (w : World) (s : ByteArray) (_hs : s.size <= 3000) (hc : ∀ w, Calls Tryz.prog 78 #[(.agg #[.int .i64 5, .int .i64 nn, .string tx, .int .u64 a, .int .u64 b, .int .u64 c, .int .u64 d])] w fun e w' => e = .returned (.string s) /\ Below w.heap.size w w') : Calls Tryz.prog 95 #[(.agg #[.int .i64 5, .int .i64 nn, .string tx, .int .u64 a, .int .u64 b, .int .u64 c, .int .u64 d])] w fun e w' => e = .returned (frG s ⟨#[]⟩ ⟨#[]⟩) /\ Below w.heap.size w w' := by
 have HF := hO (zba w 5 nn tx a b c d ⟨#[]⟩ ⟨#[]⟩ ⟨#[]⟩)
 have HC := hO hc
 skip
 clear hc
 go_enter Tryz.func95, Tryz.ntmps95
 go_wp2_with fail
 refine (HC.out _).mono ?_
 rintro e w1 ⟨rfl, b1⟩
 have HF1 : Hid (FB w1 (w.heap.size + 1) ⟨#[]⟩ ⟨#[]⟩ ⟨#[]⟩) := HF.out.1.same (b1.block _ HF.out.1.lt)
 have HB1 : Hid (Below w.heap.size w w1) := HF.out.2.trans (b1.mono HF.out.2.size)
 have HZ := hO (zdW (x := s) (y := ⟨#[]⟩) (z := ⟨#[]⟩) HB1.out HF1.out)
 have g0 := HF1.out.c0
 have g1 := HF1.out.c1
 have g2 := HF1.out.c2
 have f0 := HF1.out.fz 0
 have f1 := HF1.out.fz 1
 have f2 := HF1.out.fz 2
 clear b1 HF HB1 HC
 go_wp2_with fail
 have r0 := HZ.out.1.c0
 have r1 := HZ.out.1.c1
 have r2 := HZ.out.1.c2
 refine bodyPost_ret (v := frG s ⟨#[]⟩ ⟨#[]⟩) ?_ rfl ⟨rfl, HZ.out.2⟩
 simp [results, Tryz.results95, go_sem, r0, r1, r2]
theorem fw_6 (nn : Int) (tx : ByteArray) (a b c d : Int) (w : World) (s : ByteArray) (_hs : s.size <= 3000) (hc : ∀ w, Calls Tryz.prog 78 #[(.agg #[.int .i64 6, .int .i64 nn, .string tx, .int .u64 a, .int .u64 b, .int .u64 c, .int .u64 d])] w fun e w' => e = .returned (.string s) /\ Below w.heap.size w w') : Calls Tryz.prog 95 #[(.agg #[.int .i64 6, .int .i64 nn, .string tx, .int .u64 a, .int .u64 b, .int .u64 c, .int .u64 d])] w fun e w' => e = .returned (frG s ⟨#[]⟩ ⟨#[]⟩) /\ Below w.heap.size w w' := by
 have HF := hO (zba w 6 nn tx a b c d ⟨#[]⟩ ⟨#[]⟩ ⟨#[]⟩)
 have HC := hO hc
 skip
 clear hc
 go_enter Tryz.func95, Tryz.ntmps95
 go_wp2_with fail
 refine (HC.out _).mono ?_
 rintro e w1 ⟨rfl, b1⟩
 have HF1 : Hid (FB w1 (w.heap.size + 1) ⟨#[]⟩ ⟨#[]⟩ ⟨#[]⟩) := HF.out.1.same (b1.block _ HF.out.1.lt)
 have HB1 : Hid (Below w.heap.size w w1) := HF.out.2.trans (b1.mono HF.out.2.size)
 have HZ := hO (zdW (x := s) (y := ⟨#[]⟩) (z := ⟨#[]⟩) HB1.out HF1.out)
 have g0 := HF1.out.c0
 have g1 := HF1.out.c1
 have g2 := HF1.out.c2
 have f0 := HF1.out.fz 0
 have f1 := HF1.out.fz 1
 have f2 := HF1.out.fz 2
 clear b1 HF HB1 HC
 go_wp2_with fail
 have r0 := HZ.out.1.c0
 have r1 := HZ.out.1.c1
 have r2 := HZ.out.1.c2
 refine bodyPost_ret (v := frG s ⟨#[]⟩ ⟨#[]⟩) ?_ rfl ⟨rfl, HZ.out.2⟩
 simp [results, Tryz.results95, go_sem, r0, r1, r2]
theorem zbf {n : Nd} (h : T.alE n = 0) : (za9 n).size <= 3000 := by
 rcases zdV h with ⟨z, o⟩ | ⟨z, o⟩ | ⟨z, o⟩
 ·rcases o with o | o | o | o | o | o | o
  ·rw [fdx1 o]; decide
  ·rw [fdx2 o]; decide
  ·rw [fdx3 o]; decide
  ·rw [fdx4 o, Q.zao]; have := zit n.tx; have := (tx4 h o).2; omega
  ·rw [fdx5 o, zdv]; have := zqe (mkS n.s0 n.s1 n.s2 n.s3); omega
  ·rw [fdx6 o]; have := zbs (tx6 h o); omega
  ·rw [fdx17 o]; decide
 ·rcases o with o | o
  ·rw [fdx7 o]; decide
  ·rw [fdx8 o]; decide
 ·rcases o with o | o | o | o | o | o | o | o | o | o | o | o | o | o
  ·rw [fdx9 o]; decide
  ·rw [fdx10 o]; decide
  ·rw [fdx11 o]; decide
  ·rw [fdx12 o]; decide
  ·rw [fdx13 o]; decide
  ·rw [zqW o, zdv]; have := zgL h (by omega); have := zdJ 10 (by omega) 5 n.nn.toNat (by omega); omega
  ·rw [zqX o, zdv]; have := zgL h (by omega); have := zdJ 10 (by omega) 5 n.nn.toNat (by omega); omega
  ·rw [zqY o, zdv]; have := zgL h (by omega); have := zdJ 10 (by omega) 5 n.nn.toNat (by omega); omega
  ·rw [fdx18 o]; decide
  ·rw [fdx19 o]
   rcases tx19 h o with q | q
   ·rw [q]; decide
   ·have := zbs q; omega
  ·rw [fdx20 o]; decide
  ·rw [fdx21 o]; decide
  ·rw [zqV o, Q.zao]; have := zit n.tx; have := tx22 h o; omega
  ·rw [zqZ o, zdv]; have := zgL h (by omega); have := zdJ 10 (by omega) 5 n.nn.toNat (by omega); omega
theorem zlT (n : Nd) (ha : T.alE n = 0) (hw : NdW n) (w : World) : Calls Tryz.prog 95 #[T.ndG n] w fun e w' => e = .returned (frG (frA n) (frB n) (frC n)) /\ Below w.heap.size w w' := by
 rcases zdV ha with ⟨z, o⟩ | ⟨z, o⟩ | ⟨z, o⟩
 ·rcases o with o | o | o | o | o | o | o
  ·obtain ⟨fa, fb, fc⟩ := fr1 o
   rw [fa, fb, fc]
   have h := fw_1 n.nn n.tx n.s0 n.s1 n.s2 n.s3 w
   rw [<- o] at h
   exact h
  ·obtain ⟨fa, fb, fc⟩ := fr2 o
   rw [fa, fb, fc]
   have h := fw_2 n.nn n.tx n.s0 n.s1 n.s2 n.s3 w
   rw [<- o] at h
   exact h
  ·obtain ⟨fa, fb, fc⟩ := fr3 o
   rw [fa, fb, fc]
   have h := fw_3 n.nn n.tx n.s0 n.s1 n.s2 n.s3 w
   rw [<- o] at h
   exact h
  ·obtain ⟨fa, fb, fc⟩ := fr4 o
   rw [fa, fb, fc]
   have h := fw_4 n.nn n.tx n.s0 n.s1 n.s2 n.s3 w (za9 n) (zbf ha) (fun w => by have := zbF n ha hw w; unfold T.ndG at this; rw [o] at this; exact this)
   rw [<- o] at h
   exact h
  ·obtain ⟨fa, fb, fc⟩ := fr5 o
   rw [fa, fb, fc]
   have h := fw_5 n.nn n.tx n.s0 n.s1 n.s2 n.s3 w (za9 n) (zbf ha) (fun w => by have := zbF n ha hw w; unfold T.ndG at this; rw [o] at this; exact this)
   rw [<- o] at h
   exact h
  ·obtain ⟨fa, fb, fc⟩ := fr6 o
   rw [fa, fb, fc]
   have h := fw_6 n.nn n.tx n.s0 n.s1 n.s2 n.s3 w (za9 n) (zbf ha) (fun w => by have := zbF n ha hw w; unfold T.ndG at this; rw [o] at this; exact this)
   rw [<- o] at h
   exact h
  ·obtain ⟨fa, fb, fc⟩ := fr17 o
   rw [fa, fb, fc]
   have h := fw_17 n.nn n.tx n.s0 n.s1 n.s2 n.s3 w
   rw [<- o] at h
   exact h
 ·rcases o with o | o
  ·obtain ⟨fa, fb, fc⟩ := fr7 o
   rw [fa, fb, fc]
   have h := fw_7 n.nn n.tx n.s0 n.s1 n.s2 n.s3 w
   rw [<- o] at h
   exact h
  ·obtain ⟨fa, fb, fc⟩ := fr8 o
   rw [fa, fb, fc]
   have h := fw_8 n.nn n.tx n.s0 n.s1 n.s2 n.s3 w
   rw [<- o] at h
   exact h
 ·rcases o with o | o | o | o | o | o | o | o | o | o | o | o | o | o
  ·obtain ⟨fa, fb, fc⟩ := fr9 o
   rw [fa, fb, fc]
   have h := fw_9 n.nn n.tx n.s0 n.s1 n.s2 n.s3 w
   rw [<- o] at h
   exact h
  ·obtain ⟨fa, fb, fc⟩ := fr10 o
   rw [fa, fb, fc]
   have h := fw_10 n.nn n.tx n.s0 n.s1 n.s2 n.s3 w
   rw [<- o] at h
   exact h
  ·obtain ⟨fa, fb, fc⟩ := fr11 o
   rw [fa, fb, fc]
   have h := fw_11 n.nn n.tx n.s0 n.s1 n.s2 n.s3 w
   rw [<- o] at h
   exact h
  ·obtain ⟨fa, fb, fc⟩ := fr12 o
   rw [fa, fb, fc]
   have h := fw_12 n.nn n.tx n.s0 n.s1 n.s2 n.s3 w
   rw [<- o] at h
   exact h
  ·obtain ⟨fa, fb, fc⟩ := fr13 o
   rw [fa, fb, fc]
   have h := fw_13 n.nn n.tx n.s0 n.s1 n.s2 n.s3 w
   rw [<- o] at h
   exact h
  ·obtain ⟨fa, fb, fc⟩ := fr14 o
   rw [fa, fb, fc]
   have h := fw_14 n.nn n.tx n.s0 n.s1 n.s2 n.s3 w (za9 n) (zbf ha) (fun w => by have := zbF n ha hw w; unfold T.ndG at this; rw [o] at this; exact this)
   rw [<- o] at h
   exact h
  ·obtain ⟨fa, fb, fc⟩ := fr15 o
   rw [fa, fb, fc]
   have h := fw_15 n.nn n.tx n.s0 n.s1 n.s2 n.s3 w (za9 n) (zbf ha) (fun w => by have := zbF n ha hw w; unfold T.ndG at this; rw [o] at this; exact this)
   rw [<- o] at h
   exact h
  ·obtain ⟨fa, fb, fc⟩ := fr16 o
   rw [fa, fb, fc]
   have h := fw_16 n.nn n.tx n.s0 n.s1 n.s2 n.s3 w (za9 n) (zbf ha) (fun w => by have := zbF n ha hw w; unfold T.ndG at this; rw [o] at this; exact this)
   rw [<- o] at h
   exact h
  ·obtain ⟨fa, fb, fc⟩ := fr18 o
   rw [fa, fb, fc]
   have h := fw_18 n.nn n.tx n.s0 n.s1 n.s2 n.s3 w
   rw [<- o] at h
   exact h
  ·obtain ⟨fa, fb, fc⟩ := fr19 o
   rw [fa, fb, fc]
   have hs : n.tx.size <= 32 := by
    rcases tx19 ha o with q | q
    ·rw [q]; decide
    ·exact (zbs q).2
   have h := fw_19 n.nn n.tx n.s0 n.s1 n.s2 n.s3 w hs
   rw [<- o] at h
   exact h
  ·obtain ⟨fa, fb, fc⟩ := fr20 o
   rw [fa, fb, fc]
   have h := fw_20 n.nn n.tx n.s0 n.s1 n.s2 n.s3 w
   rw [<- o] at h
   exact h
  ·obtain ⟨fa, fb, fc⟩ := fr21 o
   rw [fa, fb, fc]
   have h := fw_21 n.nn n.tx n.s0 n.s1 n.s2 n.s3 w
   rw [<- o] at h
   exact h
  ·obtain ⟨fa, fb, fc⟩ := fr22 o
   rw [fa, fb, fc]
   have h := fw_22 n.nn n.tx n.s0 n.s1 n.s2 n.s3 w (za9 n) (zbf ha) (fun w => by have := zbF n ha hw w; unfold T.ndG at this; rw [o] at this; exact this)
   rw [<- o] at h
   exact h
  ·obtain ⟨fa, fb, fc⟩ := fr23 o
   rw [fa, fb, fc]
   have h := fw_23 n.nn n.tx n.s0 n.s1 n.s2 n.s3 w (za9 n) (zbf ha) (fun w => by have := zbF n ha hw w; unfold T.ndG at this; rw [o] at this; exact this)
   rw [<- o] at h
   exact h
end Go.Proofs.YtnpifgcgjgddoaaGreatDoor.N
