/- DERIVED. Plain mathematics and walks, laid together (15). -/
import Derived.BigQuiet
import Derived.Deep.RegionLaw
import Derived.Test.YtbipjdgholdhcabGreatFs14
namespace Go.Proofs.YtbipjdgholdhcabGreat.N
open Go.RowKit Go.Maps
open Go.Proofs.YtbipjdgholdhcabGreat.T

open U (below_grown own_get own_slice)
set_option maxRecDepth 100000 in
set_option maxHeartbeats 8000000 in
theorem repeats_any (n : Nd) (w : World) : Calls Tryz.prog 55 #[ndG n] w fun e w' => e = .returned (.bool (rpB n)) ∧ Below w.heap.size w w' := by
  obtain ⟨w1, hw1⟩ : ∃ w1, w1 = w.alloc (.cells #[.int .i64 n.op, .int .i64 n.nn, .string n.tx, .int .u64 n.s0, .int .u64 n.s1, .int .u64 n.s2, .int .u64 n.s3] 57) := ⟨_, rfl⟩
  have HE1 := (show Hid (w.alloc (.cells #[.int .i64 n.op, .int .i64 n.nn, .string n.tx, .int .u64 n.s0, .int .u64 n.s1, .int .u64 n.s2, .int .u64 n.s3] 57) = w1) from hw1.symm)
  have HN := (show Hid (NX w1 w.heap.size n) from by rw [hw1]; exact ⟨heap_alloc_new w _⟩)
  have HB := (show Hid (Below w.heap.size w w1) from by rw [hw1]; exact below_box _ _)
  have q0 : w1.cell? ⟨w.heap.size, 0, none⟩ = some (.int .i64 n.op) := HN.out.nb.c0
  have HR := (show Hid (rpB n = (n.op == 9 || (n.op == 10 || n.op == 15))) from rfl)
  clear hw1
  by_cases h9 : n.op = 9
  · have t9 : (n.op == 9) = true := by rw [h9]; rfl
    have e : rpB n = true := by rw [HR.out, t9]; rfl
    rw [e]
    clear h9 e
    go_enter Tryz.func55, Tryz.ntmps55
    go_wp2_with (rw [HE1.out])
    go_ret
    exact ⟨rfl, HB.out⟩
  by_cases h10 : n.op = 10
  · have t9 : (n.op == 9) = false := by rw [h10]; rfl
    have t10 : (n.op == 10) = true := by rw [h10]; rfl
    have e : rpB n = true := by rw [HR.out, t9, t10]; rfl
    rw [e]
    clear h9 h10 e
    go_enter Tryz.func55, Tryz.ntmps55
    go_wp2_with (rw [HE1.out])
    go_ret
    exact ⟨rfl, HB.out⟩
  by_cases h15 : n.op = 15
  · have t9 : (n.op == 9) = false := by rw [h15]; rfl
    have t10 : (n.op == 10) = false := by rw [h15]; rfl
    have t15 : (n.op == 15) = true := by rw [h15]; rfl
    have e : rpB n = true := by rw [HR.out, t9, t10, t15]; rfl
    rw [e]
    clear h9 h10 h15 e
    go_enter Tryz.func55, Tryz.ntmps55
    go_wp2_with (rw [HE1.out])
    go_ret
    exact ⟨rfl, HB.out⟩
  · have t9 : (n.op == 9) = false := by rw [beq_eq_false_iff_ne]; omega
    have t10 : (n.op == 10) = false := by rw [beq_eq_false_iff_ne]; omega
    have t15 : (n.op == 15) = false := by rw [beq_eq_false_iff_ne]; omega
    have e : rpB n = false := by rw [HR.out, t9, t10, t15]; rfl
    rw [e]
    clear h9 h10 h15 e
    go_enter Tryz.func55, Tryz.ntmps55
    go_wp2_with (rw [HE1.out])
    go_ret
    exact ⟨rfl, HB.out⟩

theorem Tryz.infoSp : (Tryz.prog.info? 31).map (fun i => (i.zero, i.size, i.bytes)) = some (some (.agg #[.int .i64 0, .int .i64 0]), 2, 16) := by kernel_rfl
/-- One more behind a row of spots. -/
theorem wpList_appS {ops : Array Oper} {rest : List Oper} {o : Oper} {a : Act} {Q : Exit → Act → World → Prop} {W : World} {p1 p2 : Nat} (hgd : o.guard = none) (s x : Operand)
    (ho : o.op = .call { callee := .builtin .append, args := #[s, x], argTypes := #[71, 71] })
    (base n : Nat) (v : Value) (l : List (Nat × Nat)) (hs : a.eval s = v) (hx : a.eval x = .slice (some ⟨W.heap.size, 0, none⟩) 1 1) (hown : W.ownsRow base 31 2 v n (spc l)) (hn : n ≤ 1000000) (hbase : base ≤ W.heap.size)
    (h : ∀ g cap w', w'.ownsRow base 31 2 (.slice (some ⟨g, 0, none⟩) (n + 1) cap) (n + 1) (spc (l ++ [(p1, p2)])) → W.grownBy w' v.ownBlock → wpList Tryz.prog ops Q rest (a.put o.dst (.slice (some ⟨g, 0, none⟩) (n + 1) cap)) w') :
    wpList Tryz.prog ops Q (o :: rest) a (W.alloc (.cells #[.int .i64 (p1 : Int), .int .i64 (p2 : Int)] 31)) := by
  obtain ⟨i0, hinf, hz0, hz1, hz2⟩ := info_parts Tryz.infoSp
  refine wpList_append_lies (W.alloc (.cells #[.int .i64 (p1 : Int), .int .i64 (p2 : Int)] 31)) hgd s x 71 ho base 31 i0 _ 2 16 Tryz.underlying71 hinf hz0 hz1 hz2 rfl (by decide) v n (spc l) hs (hown.alloc _) ⟨W.heap.size, 0, none⟩ 1 1 (spV (p1, p2)) hx rfl (World.news_of_block (cs := #[.int .i64 (p1 : Int), .int .i64 (p2 : Int)]) (t := 31) (fr := (0, 0)) (heap_alloc_new W _)) (sp_one _) (by decide) (by unfold maxLen; omega) (by omega) (by rw [World.size_alloc]; omega) (W.heap.size + 1) (by rw [World.size_alloc]) ?_
  intro g cap w' h2 h3 _ _
  refine h g cap w' ?_ (U.grow_alloc h3)
  rw [spc_app, spc_one]
  exact h2
theorem own_fs {W : World} {B n : Nat} {v : Value} {xs : List Value} (h : W.ownsRow B 31 2 v n xs) : ∃ A c, v = .slice A n c := by
  rcases h.2 with ⟨rfl, rfl⟩ | ⟨g, cap, cur, rfl, _⟩
  · exact ⟨_, _, rfl⟩
  · exact ⟨_, _, rfl⟩
/-- While loops are told. -/
structure LoS (w wr : World) (r m kv : Value) (N n : Nat) (l : List (Nat × Nat)) (v : Value) : Prop where
  b : Below w.heap.size w wr
  x : VX wr w.heap.size r m kv
  o : wr.ownsRow N 31 2 v n (spc l)
  l : n = l.length
  n : w.heap.size + 1 ≤ N ∧ N ≤ wr.heap.size
theorem LoS.later {w wr w2 : World} {r m kv : Value} {N n : Nat} {l : List (Nat × Nat)} {v : Value} (h : LoS w wr r m kv N n l v) (hb : Below wr.heap.size wr w2) : LoS w w2 r m kv N n l v :=
  ⟨h.b.trans (hb.mono h.b.size), h.x.below hb, U.own_below h.o hb, h.l, h.n.1, Nat.le_trans h.n.2 hb.size⟩
theorem LoS.push {w wr w2 : World} {r m kv : Value} {N n : Nat} {l : List (Nat × Nat)} {v v2 : Value} {p : Nat × Nat} (h : LoS w wr r m kv N n l v) (ho : w2.ownsRow N 31 2 v2 (n + 1) (spc (l ++ [p]))) (hg : wr.grownBy w2 v.ownBlock) : LoS w w2 r m kv N (n + 1) (l ++ [p]) v2 := by
  have hlow : ∀ q, v.ownBlock = some q → N ≤ q := fun q hq => (h.o.lt q hq).1
  have hn := h.n
  refine ⟨below_grown h.b hg (fun q e => by have := hlow q e; omega), h.x.same (hg.block _ h.x.lt (fun e => by have := hlow _ e.symm; omega)), ho, by rw [List.length_append, h.l]; rfl, hn.1, Nat.le_trans hn.2 hg.size⟩
/-- Besides: which parts of the rule may match nothing. -/
structure LpS (w wr : World) (r m kv : Value) (N n : Nat) (l : List (Nat × Nat)) (v : Value) (gN cN ln : Nat) (E : Nat → Bool) : Prop where
  s : LoS w wr r m kv N n l v
  o : wr.ownsRow w.heap.size 4 1 (.slice (some ⟨gN, 0, none⟩) ln cN) ln ((List.range ln).map fun j => Value.bool (E j))
theorem LpS.later {w wr w2 : World} {r m kv : Value} {N n : Nat} {l : List (Nat × Nat)} {v : Value} {gN cN ln : Nat} {E : Nat → Bool} (h : LpS w wr r m kv N n l v gN cN ln E) (hb : Below wr.heap.size wr w2) : LpS w w2 r m kv N n l v gN cN ln E := ⟨h.s.later hb, U.own_below h.o hb⟩
theorem LpS.push {w wr w2 : World} {r m kv : Value} {N n : Nat} {l : List (Nat × Nat)} {v v2 : Value} {gN cN ln : Nat} {E : Nat → Bool} {p : Nat × Nat} (h : LpS w wr r m kv N n l v gN cN ln E) (ho : w2.ownsRow N 31 2 v2 (n + 1) (spc (l ++ [p]))) (hg : wr.grownBy w2 v.ownBlock) : LpS w w2 r m kv N (n + 1) (l ++ [p]) v2 gN cN ln E :=
  ⟨h.s.push ho hg, U.own_kept h.o hg (fun k e => own_apart h.s.o h.o (by decide) e)⟩
theorem LpS.at' {w wr : World} {r m kv : Value} {N n : Nat} {l : List (Nat × Nat)} {v : Value} {gN cN ln : Nat} {E : Nat → Bool} (h : LpS w wr r m kv N n l v gN cN ln E) {j : Nat} (hj : j < ln) : wr.cell? ⟨gN, j, none⟩ = some (.bool (E j)) := by
  obtain ⟨g5, c5, e5, _, _, x5, _⟩ := own_get h.o (j := j) (x := .bool (E j)) (by rw [List.getElem?_map, List.getElem?_range hj]; rfl)
  injection e5 with e6 _ _
  obtain ⟨rfl, _⟩ := Addr.mk.inj (Option.some.inj e6)
  exact x5
set_option maxRecDepth 100000 in
set_option maxHeartbeats 32000000 in
theorem vloops_any {gs : GL} {now : List Em} (mb : Nat) (A Ak : Option Addr) (c ck : Nat) (w : World) (hv : VwO w gs A mb Ak now) :
    Calls Tryz.prog 38 #[.agg #[.slice A gs.length c, .map (some mb), .slice Ak gs.length ck]] w fun e w' => (∃ v, e = .returned v ∧ w'.ownsRow w.heap.size 31 2 v (lpG gs (nbE now) gs.length).length (spc (lpG gs (nbE now) gs.length))) ∧ Below w.heap.size w w' := by
  have hn2 := hv.R.n2
  obtain ⟨w1, hw1⟩ : ∃ w1, w1 = w.alloc (.cells #[.slice A gs.length c, .map (some mb), .slice Ak gs.length ck] 66) := ⟨_, rfl⟩
  have HE1 := (show Hid (w.alloc (.cells #[.slice A gs.length c, .map (some mb), .slice Ak gs.length ck] 66) = w1) from hw1.symm)
  have hb1 : Below w.heap.size w w1 := by rw [hw1]; exact below_box _ _
  have hs1 : w1.heap.size = w.heap.size + 1 := by rw [hw1, World.size_alloc]
  have hx1 : VX w1 w.heap.size (.slice A gs.length c) (.map (some mb)) (.slice Ak gs.length ck) := by rw [hw1]; exact VX.new w _ _ _
  have HS := (show Hid (LoS w w1 (.slice A gs.length c) (.map (some mb)) (.slice Ak gs.length ck) (w.heap.size + 1) 0 (lpG gs (nbE now) 0) (.slice none 0 0)) from ⟨hb1, hx1, World.ownsRow_nil _ _ _ _, rfl, Nat.le_refl _, by omega⟩)
  have HV := (show Hid (VwO w gs A mb Ak now) from hv)
  have HLe := (show Hid (∀ i, i ≤ gs.length → (lpG gs (nbE now) i).length ≤ 409600) from fun i hi => by
    have h := lpG_len (nb := nbE now) (fun g hg => (rt_facts hv.R hg).2.2.2.2) i
    have : i * 2048 ≤ 200 * 2048 := Nat.mul_le_mul_right _ (by omega)
    omega)
  have y0 : w1.cell? ⟨w.heap.size, 0, none⟩ = _ := hx1.c0
  clear hw1 hb1 hs1 hx1 hv
  go_enter Tryz.func38, Tryz.ntmps38
  go_wp2_with (rw [HE1.out])
  clear HE1 y0
  go_loopw [3, 12] (fun v t wr => ∃ (k n : Nat), k ≤ gs.length ∧ n ≤ 409600 ∧ t = .int .i64 (k : Int) ∧ Hid (LoS w wr (.slice A gs.length c) (.map (some mb)) (.slice Ak gs.length ck) (w.heap.size + 1) n (lpG gs (nbE now) k) v)) (fun _ t _ => gs.length - (intOf t).toNat)
  case atStart => exact ⟨0, 0, Nat.zero_le _, by omega, by go_num, HS⟩
  case round =>
    obtain ⟨k, n, hk, hn, rfl, HW⟩ := hrel
    clear HS
    by_cases hlt : k < gs.length
    · obtain ⟨⟨gn, L⟩, hg⟩ : ∃ g, gs[k]? = some g := ⟨_, List.getElem?_eq_getElem hlt⟩
      have hm := List.mem_of_getElem? hg
      obtain ⟨hrt, _, _, hpos, hlen⟩ := rt_facts HV.out.R hm
      have hrt : Rt L := hrt
      have hpos : 0 < L.length := hpos
      have hlen : L.length ≤ 2048 := hlen
      obtain ⟨b, o, A3, c3, rfl, lb, x0, x1, r2⟩ := HV.out.g.d k _ hg
      have hLn : L ≠ [] := by rintro rfl; simp at hpos
      obtain ⟨gp, op, rfl, lp, cl⟩ := r2 hLn
      have x0' := (HW.out.b.cell (p := ⟨b, o + k * 2, none⟩) lb).trans x0
      have x1' := (HW.out.b.cell (p := ⟨b, o + k * 2 + 1, none⟩) lb).trans x1
      have z0 : (0 : Int) ≤ (k : Int) := by omega
      have z1 : (k : Int) < (gs.length : Int) := by omega
      obtain ⟨w4, hw4⟩ : ∃ w4, w4 = wr.alloc (.cells #[.string gn, .slice (some ⟨gp, op, none⟩) L.length c3] 52) := ⟨_, rfl⟩
      have HE4 := (show Hid (wr.alloc (.cells #[.string gn, .slice (some ⟨gp, op, none⟩) L.length c3] 52) = w4) from hw4.symm)
      have hb4 : Below wr.heap.size wr w4 := by rw [hw4]; exact below_box _ _
      have HR4 := (show Hid (RB w4 wr.heap.size gn (.slice (some ⟨gp, op, none⟩) L.length c3)) from by rw [hw4]; exact ⟨heap_alloc_new wr _⟩)
      have HW4 := (show Hid (LoS w w4 (.slice (some ⟨b, o, none⟩) gs.length c) (.map (some mb)) (.slice Ak gs.length ck) (w.heap.size + 1) n (lpG gs (nbE now) k) u3) from HW.out.later hb4)
      have y0 := HW4.out.x.c0
      have y1 := HW4.out.x.c1
      have y2 := HW4.out.x.c2
      have HNu := (show Hid (∀ _ : Unit, Calls Tryz.prog 40 #[.agg #[.slice (some ⟨b, o, none⟩) gs.length c, .map (some mb), .slice Ak gs.length ck], .int .i64 (k : Int)] w4 fun e w' => (∃ v, e = .returned v ∧ w'.ownsRow w4.heap.size 4 1 v L.length ((List.range L.length).map fun j => Value.bool (nuR gs now L j))) ∧ Below w4.heap.size w4 w') from fun _ => nullable_any mb (some ⟨b, o, none⟩) Ak c ck hg w4 (HV.out.later HW4.out.b))
      have HCl := (show Hid (NdL w gp op L ∧ gp < w.heap.size) from ⟨cl, lp⟩)
      have HLk := (show Hid (∀ j, j ≤ L.length → (lpG gs (nbE now) k ++ lpK k L (nuR gs now L) j).length ≤ 409600) from fun j hj => by
        have h1 := lpG_len (nb := nbE now) (fun g hg => (rt_facts HV.out.R hg).2.2.2.2) k
        have h2 := lpK_len (i := k) (L := L) (nu := nuR gs now L) j
        have : k * 2048 ≤ 199 * 2048 := Nat.mul_le_mul_right _ (by omega)
        rw [List.length_append]
        omega)
      have HSuc := (show Hid (∀ (j : Nat) n, L[j]? = some n → lpG gs (nbE now) k ++ lpK k L (nuR gs now L) (j + 1) = if rpB n && nuR gs now L (j - 1) then (lpG gs (nbE now) k ++ lpK k L (nuR gs now L) j) ++ [(k, j)] else lpG gs (nbE now) k ++ lpK k L (nuR gs now L) j) from fun j n hn => by
        rw [lpK_succ hn]
        split
        · rw [List.append_assoc]
        · rfl)
      have HFin := (show Hid (lpG gs (nbE now) k ++ lpK k L (nuR gs now L) L.length = lpG gs (nbE now) (k + 1)) from (lpG_succ hg).symm)
      have HRt := (show Hid (Rt L) from hrt)
      clear hg hm hrt lb x0 x1 r2 hLn lp cl hw4 hb4 HW
      go_wp2_with (rw [HE4.out])
      refine (HNu.out ()).mono ?_
      rintro e w5 ⟨⟨v5, rfl, ho5⟩, b5⟩
      obtain ⟨gN, cN, rfl, _, _, _, _⟩ := own_get ho5 (j := 0) (x := .bool (nuR gs now L 0)) (by rw [List.getElem?_map, List.getElem?_range hpos]; rfl)
      have HW5 := (show Hid (LpS w w5 (.slice (some ⟨b, o, none⟩) gs.length c) (.map (some mb)) (.slice Ak gs.length ck) (w.heap.size + 1) n (lpG gs (nbE now) k ++ lpK k L (nuR gs now L) 0) u3 gN cN L.length (nuR gs now L)) from ⟨by have h := HW4.out.later b5; rw [show lpK k L (nuR gs now L) 0 = [] from rfl, List.append_nil]; exact h, U.own_base ho5 HW4.out.b.size⟩)
      have r1 := (HR4.out.later b5).c1
      clear ho5 b5 HNu HE4 HR4 HW4 y0 y1 y2 x0' x1' hpos
      go_wp2_with fail
      clear r1
      go_loopw [3, 23] (fun v t wr => ∃ (j n2 : Nat), j ≤ L.length ∧ n2 ≤ 409600 ∧ t = .int .i64 (j : Int) ∧ Hid (LpS w wr (.slice (some ⟨b, o, none⟩) gs.length c) (.map (some mb)) (.slice Ak gs.length ck) (w.heap.size + 1) n2 (lpG gs (nbE now) k ++ lpK k L (nuR gs now L) j) v gN cN L.length (nuR gs now L))) (fun _ t _ => L.length - (intOf t).toNat)
      case atStart => exact ⟨0, n, Nat.zero_le _, by omega, by go_num, HW5⟩
      case round =>
        obtain ⟨j, n2, hj, hn2', rfl, HX⟩ := hrel
        clear HW5
        by_cases hjl : j < L.length
        · obtain ⟨nd, hnd⟩ : ∃ nd, L[j]? = some nd := ⟨_, List.getElem?_eq_getElem hjl⟩
          obtain ⟨c0, c1, c2, c3', c4, c5, c6⟩ := (HCl.out.1.same (HX.out.s.b.block gp HCl.out.2)) j nd hnd
          have z2 : (0 : Int) ≤ (j : Int) := by omega
          have z3 : (j : Int) < (L.length : Int) := by omega
          have HSj := hid_of (HSuc.out j nd hnd)
          have HPj := (show Hid (rpB nd = true → 0 < j) from fun h => rp_pos HRt.out hnd h)
          obtain ⟨w7, hw7⟩ : ∃ w7, w7 = wr.alloc (ndO nd) := ⟨_, rfl⟩
          have HE7 := (show Hid (wr.alloc (.cells #[.int .i64 nd.op, .int .i64 nd.nn, .string nd.tx, .int .u64 nd.s0, .int .u64 nd.s1, .int .u64 nd.s2, .int .u64 nd.s3] 57) = w7) from hw7.symm)
          have HN7 := (show Hid (NX w7 wr.heap.size nd) from by rw [hw7]; exact ⟨heap_alloc_new wr _⟩)
          have hb7 : Below wr.heap.size wr w7 := by rw [hw7]; exact below_box _ _
          have HX7 := (show Hid (LpS w w7 (.slice (some ⟨b, o, none⟩) gs.length c) (.map (some mb)) (.slice Ak gs.length ck) (w.heap.size + 1) n2 (lpG gs (nbE now) k ++ lpK k L (nuR gs now L) j) u3 gN cN L.length (nuR gs now L)) from HX.out.later hb7)
          have q0 : w7.cell? ⟨wr.heap.size, 0, none⟩ = some (.int .i64 nd.op) := HN7.out.nb.c0
          have q1 : w7.cell? ⟨wr.heap.size, 1, none⟩ = some (.int .i64 nd.nn) := HN7.out.nb.c1
          have q2 : w7.cell? ⟨wr.heap.size, 2, none⟩ = some (.string nd.tx) := HN7.out.nb.c2
          have q3 : w7.cell? ⟨wr.heap.size, 3, none⟩ = some (.int .u64 nd.s0) := HN7.out.nb.c3
          have q4 : w7.cell? ⟨wr.heap.size, 4, none⟩ = some (.int .u64 nd.s1) := HN7.out.nb.c4
          have q5 : w7.cell? ⟨wr.heap.size, 5, none⟩ = some (.int .u64 nd.s2) := HN7.out.nb.c5
          have q6 : w7.cell? ⟨wr.heap.size, 6, none⟩ = some (.int .u64 nd.s3) := HN7.out.nb.c6
          have HRp := (show Hid (∀ _ : Unit, Calls Tryz.prog 55 #[ndG nd] w7 fun e w' => e = .returned (.bool (rpB nd)) ∧ Below w7.heap.size w7 w') from fun _ => repeats_any nd w7)
          clear hnd hw7 hb7 HX HN7
          go_wp2_with (rw [HE7.out])
          refine (HRp.out ()).mono ?_
          rintro e w8 ⟨rfl, b8⟩
          have HX8 := (show Hid (LpS w w8 (.slice (some ⟨b, o, none⟩) gs.length c) (.map (some mb)) (.slice Ak gs.length ck) (w.heap.size + 1) n2 (lpG gs (nbE now) k ++ lpK k L (nuR gs now L) j) u3 gN cN L.length (nuR gs now L)) from HX7.out.later b8)
          clear HRp HE7 HX7 b8 c0 c1 c2 c3' c4 c5 c6 q0 q1 q2 q3 q4 q5 q6
          cases hrp : rpB nd with
          | false =>
            have HN := (show Hid (LpS w w8 (.slice (some ⟨b, o, none⟩) gs.length c) (.map (some mb)) (.slice Ak gs.length ck) (w.heap.size + 1) n2 (lpG gs (nbE now) k ++ lpK k L (nuR gs now L) (j + 1)) u3 gN cN L.length (nuR gs now L)) from by rw [HSj.out, hrp, Bool.false_and, if_neg Bool.noConfusion]; exact HX8.out)
            clear HX8 HSj HPj hrp
            go_wp2_with fail
            go_roundw
            case rel => exact ⟨j + 1, n2, by omega, by omega, by go_num, HN⟩
            case measure => simp [intOf]; omega
          | true =>
            obtain ⟨j0, hj0⟩ : ∃ j0, j = j0 + 1 := ⟨j - 1, by have := HPj.out hrp; omega⟩
            have hsub : (j : Int) - 1 = (j0 : Int) := by omega
            have z4 : (0 : Int) ≤ (j0 : Int) := by omega
            have z5 : (j0 : Int) < (L.length : Int) := by omega
            have m0 := HX8.out.at' (j := j0) (by omega)
            cases hnu : nuR gs now L j0 with
            | false =>
              rw [hnu] at m0
              have HN := (show Hid (LpS w w8 (.slice (some ⟨b, o, none⟩) gs.length c) (.map (some mb)) (.slice Ak gs.length ck) (w.heap.size + 1) n2 (lpG gs (nbE now) k ++ lpK k L (nuR gs now L) (j + 1)) u3 gN cN L.length (nuR gs now L)) from by rw [HSj.out, hrp, Bool.true_and, show j - 1 = j0 from by omega, hnu, if_neg Bool.noConfusion]; exact HX8.out)
              have hj1 : j + 1 ≤ L.length := by omega
              have HJ := (show Hid (j = j0 + 1) from hj0)
              clear HX8 HSj HPj hrp hnu hj0
              go_wp2_with fail
              go_roundw
              case rel => exact ⟨j + 1, n2, by omega, by omega, by go_num, HN⟩
              case measure => simp [intOf]; omega
            | true =>
              rw [hnu] at m0
              obtain ⟨A2, c2, hA2⟩ := own_fs HX8.out.s.o
              have HO8 := (show Hid (w8.ownsRow (w.heap.size + 1) 31 2 u3 n2 (spc (lpG gs (nbE now) k ++ lpK k L (nuR gs now L) j))) from HX8.out.s.o)
              have HN8 := (show Hid (w.heap.size + 1 ≤ w8.heap.size) from HX8.out.s.n.2)
              have HPu := (show Hid (∀ (g9 cap9 : Nat) (w9 : World), w9.ownsRow (w.heap.size + 1) 31 2 (.slice (some ⟨g9, 0, none⟩) (n2 + 1) cap9) (n2 + 1) (spc ((lpG gs (nbE now) k ++ lpK k L (nuR gs now L) j) ++ [(k, j)])) → w8.grownBy w9 u3.ownBlock → Hid (LpS w w9 (.slice (some ⟨b, o, none⟩) gs.length c) (.map (some mb)) (.slice Ak gs.length ck) (w.heap.size + 1) (n2 + 1) (lpG gs (nbE now) k ++ lpK k L (nuR gs now L) (j + 1)) (.slice (some ⟨g9, 0, none⟩) (n2 + 1) cap9) gN cN L.length (nuR gs now L)) ∧ n2 + 1 ≤ 409600) from fun g9 cap9 w9 h1 h2 => by
                have e : lpG gs (nbE now) k ++ lpK k L (nuR gs now L) (j + 1) = (lpG gs (nbE now) k ++ lpK k L (nuR gs now L) j) ++ [(k, j)] := by rw [HSj.out, hrp, Bool.true_and, show j - 1 = j0 from by omega, hnu, if_pos rfl]
                have hl := HX8.out.s.l
                have hb := HLk.out (j + 1) (by omega)
                rw [e, List.length_append, ← hl] at hb
                refine ⟨?_, hb⟩
                show LpS _ _ _ _ _ _ _ _ _ _ _ _ _
                rw [e]
                exact HX8.out.push h1 h2)
              have hj1 : j + 1 ≤ L.length := by omega
              have HJ := (show Hid (j = j0 + 1) from hj0)
              subst hA2
              clear HX8 HSj HPj hrp hnu hj0
              go_wp2_with (at_builtin; refine wpList_appS rfl _ _ rfl (w.heap.size + 1) n2 _ _ rfl rfl HO8.out (by omega) HN8.out ?_; intro g9 cap9 w9 ho9 hg9; obtain ⟨HV9, hn9⟩ := HPu.out g9 cap9 w9 ho9 hg9; clear ho9 hg9 HPu HO8 HN8 m0)
              go_roundw
              case rel => exact ⟨j + 1, n2 + 1, by omega, hn9, by go_num, HV9⟩
              case measure => simp [intOf]; omega
        · obtain rfl : j = L.length := by omega
          have HN := (show Hid (LoS w wr (.slice (some ⟨b, o, none⟩) gs.length c) (.map (some mb)) (.slice Ak gs.length ck) (w.heap.size + 1) n2 (lpG gs (nbE now) (k + 1)) u3) from by rw [← HFin.out]; exact HX.out.s)
          clear HX HSuc HFin HRt HLk HCl
          go_wp2_with fail
          go_roundw
          case rel => exact ⟨k + 1, n2, by omega, by omega, by go_num, HN⟩
          case measure => simp [intOf]; omega
    · obtain rfl : k = gs.length := by omega
      have HO := (show Hid (wr.ownsRow w.heap.size 31 2 u3 (lpG gs (nbE now) gs.length).length (spc (lpG gs (nbE now) gs.length)) ∧ Below w.heap.size w wr) from ⟨by have h := own_base HW.out.o (Nat.le_succ w.heap.size); rw [HW.out.l] at h; exact h, HW.out.b⟩)
      clear HW HV HLe
      go_wp2_with fail
      go_ret
      exact ⟨⟨_, rfl, HO.out.1⟩, HO.out.2⟩
end Go.Proofs.YtbipjdgholdhcabGreat.N

namespace Go.Proofs.YtbipjdgholdhcabGreat.N
open Go.RowKit Go.Maps
open Go.Proofs.YtbipjdgholdhcabGreat.T
set_option maxRecDepth 100000 in
set_option maxHeartbeats 4000000 in
theorem checkP_any (gs : GL) (A : Option Addr) (c : Nat) (w : World) (hp : GI w A gs) :
    Calls Tryz.prog 35 #[.agg #[.slice A gs.length c]] w fun e w' => e = .returned (.tuple #[.agg #[.int .i64 (ckG gs).1.1, .int .i64 (ckG gs).1.2], .int .i64 (ckG gs).2]) ∧ Below w.heap.size w w' := by
  obtain ⟨w1, hw1⟩ : ∃ w1, w1 = (w.alloc (.cells #[.slice A gs.length c] 24)).alloc (.cells #[.int .i64 0, .int .i64 0] 31) := ⟨_, rfl⟩
  have HS : Hid (Below w.heap.size w w1 ∧ GX w1 w.heap.size (.slice A gs.length c) ∧ SX w1 (w.heap.size + 1) 0 0) := by
    show _ ∧ _ ∧ _
    rw [hw1]
    exact ⟨((Below.refl _ _).alloc (Nat.le_refl _) _).alloc (by rw [World.size_alloc]; omega) _, (GX.mk (heap_alloc_new w _)).below (below_box _ _), ⟨by have h := heap_alloc_new (w.alloc (.cells #[.slice A gs.length c] 24)) (.cells #[.int .i64 0, .int .i64 0] 31); rw [World.size_alloc] at h; exact h⟩⟩
  have HN := (show Hid (∀ _ : Unit, Calls Tryz.prog 53 #[.agg #[.slice A gs.length c]] w1 fun e w' => NuV w1 w' gs e ∧ Below w1.heap.size w1 w') from fun _ => numb_any gs A c hp.l hp.t w1 (hp.d.later (by rw [hw1]; exact ((Below.refl _ _).alloc (Nat.le_refl _) _).alloc (by rw [World.size_alloc]; omega) _)))
  have q1 := HS.out.2.1.cl
  clear hp
  go_enter Tryz.func35, Tryz.ntmps35
  go_wp2_with fail
  rw [← hw1]
  refine (HN.out ()).mono ?_
  rintro e w3 ⟨hv, b3⟩
  obtain ⟨mv, rfl, _⟩ := hv.form
  have HB := (show Hid (Below w.heap.size w w3) from HS.out.1.trans (b3.mono HS.out.1.size))
  have HX := (show Hid (SX w3 (w.heap.size + 1) 0 0) from HS.out.2.2.below b3)
  clear HN HS b3 q1 hw1 hv
  obtain ⟨ca, cb, cd, hcc⟩ : ∃ (ca cb : Nat) (cd : Int), ckG gs = ((ca, cb), cd) := ⟨_, _, _, rfl⟩
  have HCC := (show Hid (ckG gs = ((ca, cb), cd)) from hcc)
  rw [hcc]
  clear hcc
  have c0 := HX.out.c0
  have c1 := HX.out.c1
  have f0 := HX.out.fz 0
  have f1 := HX.out.fz 1
  have HX2 := (show Hid (SX ((w3.setCell ⟨w.heap.size + 1, 0, none⟩ (.int .i64 (ca : Int))).setCell ⟨w.heap.size + 1, 1, none⟩ (.int .i64 (cb : Int))) (w.heap.size + 1) ca cb) from HX.out.set _ _)
  have HX3 := (show Hid (SX ((((w3.setCell ⟨w.heap.size + 1, 0, none⟩ (.int .i64 (ca : Int))).setCell ⟨w.heap.size + 1, 1, none⟩ (.int .i64 (cb : Int))).setCell ⟨w.heap.size + 1, 0, none⟩ (.int .i64 (ca : Int))).setCell ⟨w.heap.size + 1, 1, none⟩ (.int .i64 (cb : Int))) (w.heap.size + 1) ca cb) from HX2.out.set _ _)
  have HB3 := (show Hid (Below w.heap.size w ((((w3.setCell ⟨w.heap.size + 1, 0, none⟩ (.int .i64 (ca : Int))).setCell ⟨w.heap.size + 1, 1, none⟩ (.int .i64 (cb : Int))).setCell ⟨w.heap.size + 1, 0, none⟩ (.int .i64 (ca : Int))).setCell ⟨w.heap.size + 1, 1, none⟩ (.int .i64 (cb : Int)))) from set_below (set_below (set_below (set_below HB.out (Nat.le_succ _)) (Nat.le_succ _)) (Nat.le_succ _)) (Nat.le_succ _))
  have HBz := (show Hid (Below w.heap.size w ((w3.setCell ⟨w.heap.size + 1, 0, none⟩ (.int .i64 (ca : Int))).setCell ⟨w.heap.size + 1, 1, none⟩ (.int .i64 (cb : Int)))) from set_below (set_below HB.out (Nat.le_succ _)) (Nat.le_succ _))
  clear HX HB
  go_wp2_with fail
  have d0 := HX3.out.c0
  have d1 := HX3.out.c1
  clear c0 c1 f0 f1 HX2 HBz
  generalize (((w3.setCell ⟨w.heap.size + 1, 0, none⟩ (.int .i64 (ca : Int))).setCell ⟨w.heap.size + 1, 1, none⟩ (.int .i64 (cb : Int))).setCell ⟨w.heap.size + 1, 0, none⟩ (.int .i64 (ca : Int))).setCell ⟨w.heap.size + 1, 1, none⟩ (.int .i64 (cb : Int)) = wZ at *
  refine bodyPost_ret (v := .tuple #[.agg #[.int .i64 (ca : Int), .int .i64 (cb : Int)], .int .i64 cd]) (by simp [results, Tryz.results35, go_sem, d0, d1]) rfl ⟨by rw [HCC.out], HB3.out⟩
end Go.Proofs.YtbipjdgholdhcabGreat.N

namespace Go.Proofs.YtbipjdgholdhcabGreat.N
open Go.RowKit Go.Maps
open Go.Proofs.YtbipjdgholdhcabGreat.T

open U (below_grown own_get own_slice TT)
/-- The rows of heads, read. -/
theorem tt_rdl {W : World} {B n : Nat} {cx : Mx} {A : Option Addr} {c : Nat} {xs : List Value} (h : TT W B 29 3 (.slice A n c) (hdT n cx n) xs) (_hl : xs.length = n) (_hn : 0 < n) : RdL W A ((List.range n).map (hdl n cx)) := fun i l hi => by
  have hin : i < n := by have := (List.getElem?_eq_some_iff.1 hi).1; rwa [List.length_map, List.length_range] at this
  rw [List.getElem?_map, List.getElem?_range hin] at hi
  have hi : hdl n cx i = l := Option.some.inj hi
  obtain ⟨x, row, h1, h2, h3⟩ := h.at' (i := i) (by unfold hdT; rw [List.length_map, List.length_range]; exact hin)
  have h2 : (hdT n cx n)[i]? = some row := h2
  unfold hdT at h2
  rw [List.getElem?_map, List.getElem?_range hin] at h2
  have h2 : (hdl n cx i).map U.nI = row := Option.some.inj h2
  rw [hi] at h2
  subst h2
  obtain ⟨b, cb, e1, _, hb, hcell, _⟩ := own_get h.o h1
  have eA : A = some ⟨b, 0, none⟩ := by injection e1
  obtain ⟨A2, c2, rfl⟩ := own_slice h3
  rw [List.length_map] at h3 hcell
  refine ⟨b, 0, A2, c2, eA, hb, by rw [Nat.zero_add]; exact hcell, fun q x hq => ?_⟩
  obtain ⟨g2, c3, e3, _, hg2, hx, _⟩ := own_get h3 (j := q) (x := U.nI x) (by rw [List.getElem?_map, hq]; rfl)
  have e4 : A2 = some ⟨g2, 0, none⟩ := by injection e3
  exact ⟨g2, 0, e4, hg2, by rw [Nat.zero_add]; exact hx⟩
/-- A verdict in a box: the cycle, and the spot. -/
structure DX (W : World) (b : Nat) (v : Value) (p q : Int) : Prop where
  heap : W.heap[b]? = some (.cells #[v, .int .i64 p, .int .i64 q] 33 (0, 0))
theorem DX.lt {W : World} {b : Nat} {v : Value} {p q : Int} (h : DX W b v p q) : b < W.heap.size := (Array.getElem?_eq_some_iff.1 h.heap).1
theorem DX.same {W W' : World} {b : Nat} {v : Value} {p q : Int} (h : DX W b v p q) (hb : W'.heap[b]? = W.heap[b]?) : DX W' b v p q := ⟨hb.trans h.heap⟩
theorem DX.below {W W' : World} {b : Nat} {v : Value} {p q : Int} (h : DX W b v p q) (hb : Below W.heap.size W W') : DX W' b v p q := h.same (hb.block b h.lt)
theorem DX.c0 {W : World} {b : Nat} {v : Value} {p q : Int} (h : DX W b v p q) : W.cell? ⟨b, 0, none⟩ = some v := by rw [cell_of_row W b 0 _ 33 (0, 0) h.heap]; rfl
theorem DX.c1 {W : World} {b : Nat} {v : Value} {p q : Int} (h : DX W b v p q) : W.cell? ⟨b, 1, none⟩ = some (.int .i64 p) := by rw [cell_of_row W b 1 _ 33 (0, 0) h.heap]; rfl
theorem DX.c2 {W : World} {b : Nat} {v : Value} {p q : Int} (h : DX W b v p q) : W.cell? ⟨b, 2, none⟩ = some (.int .i64 q) := by rw [cell_of_row W b 2 _ 33 (0, 0) h.heap]; rfl
theorem DX.fz {W : World} {b : Nat} {v : Value} {p q : Int} (h : DX W b v p q) (j : Nat) : W.frozen? ⟨b, j, none⟩ = false := frozen_of_row W b j _ 33 h.heap
theorem DX.all {W : World} {b : Nat} {v : Value} {p q : Int} (h : DX W b v p q) (v2 : Value) (p2 q2 : Int) : DX (((W.setCell ⟨b, 0, none⟩ v2).setCell ⟨b, 1, none⟩ (.int .i64 p2)).setCell ⟨b, 2, none⟩ (.int .i64 q2)) b v2 p2 q2 := by
  have h1 : DX (W.setCell ⟨b, 0, none⟩ v2) b v2 p q := ⟨by rw [heap_setCell_same W b 0 _ 33 _ h.heap]; rfl⟩
  have h2 : DX ((W.setCell ⟨b, 0, none⟩ v2).setCell ⟨b, 1, none⟩ (.int .i64 p2)) b v2 p2 q := ⟨by rw [heap_setCell_same _ b 1 _ 33 _ h1.heap]; rfl⟩
  exact ⟨by rw [heap_setCell_same _ b 2 _ 33 _ h2.heap]; rfl⟩
theorem DX.new (W : World) (v : Value) (p q : Int) : DX (W.alloc (.cells #[v, .int .i64 p, .int .i64 q] 33)) W.heap.size v p q := ⟨heap_alloc_new W _⟩
/-- What Check says: the cycle, the spot, the number. -/
def VdR (gs : GL) (l : List Nat) (p q : Nat) (e : Int) : Prop := ((ckG gs).2 ≠ 0 → l = [] ∧ (p, q) = (ckG gs).1 ∧ e = (ckG gs).2) ∧ ((ckG gs).2 = 0 → ∃ now, KnF gs now ∧ now.length = gs.length ∧ ∃ cy, CyR gs.length (hdM gs (nbE now)) cy ∧ ((cy ≠ [] ∧ l = cy ∧ p = 0 ∧ q = 0 ∧ e = 100) ∨ (cy = [] ∧ l = [] ∧ ((∃ s r, lpG gs (nbE now) gs.length = s :: r ∧ p = s.1 ∧ q = s.2 ∧ e = 101) ∨ (lpG gs (nbE now) gs.length = [] ∧ p = 0 ∧ q = 0 ∧ e = 0)))))
theorem tt_same {W W' : World} {B E I : Nat} {v : Value} {M : List (List Value)} {xs : List Value} (h : TT W B E I v M xs) (hk : ∀ k, B ≤ k → W'.heap[k]? = W.heap[k]?) : TT W' B E I v M xs :=
  ⟨own_same h.o fun k e => hk k (h.o.lt k e).1, h.len, fun i x r q1 q2 => own_same (h.each i x r q1 q2) fun k e => hk k ((h.each i x r q1 q2).lt k e).1, h.off, h.apart⟩
theorem ret_jd {fn : Func} {R : Ending → World → Prop} {act : Act} {W : World} {b : Nat} {hv v : Value} {p q cd : Int} (hF : fn.results = #[.tmp 2, .cell 3 33, .tmp 4]) (hd : act.defers = []) (h2 : act.tmps.getD 2 undef = hv) (h3 : act.tmps.getD 3 undef = .pointer (some ⟨b, 0, none⟩)) (h4 : act.tmps.getD 4 undef = .int .i64 cd) (hT : DX W b v p q) (hR : R (.returned (.tuple #[hv, .agg #[v, .int .i64 p, .int .i64 q], .int .i64 cd])) W) : bodyPost Tryz.prog fn R .ret act W := by
  have c0 : W.cell? ⟨b, 0, none⟩ = _ := hT.c0
  have c1 : W.cell? ⟨b, 1, none⟩ = _ := hT.c1
  have c2 : W.cell? ⟨b, 2, none⟩ = _ := hT.c2
  refine bodyPost_ret (v := .tuple #[hv, .agg #[v, .int .i64 p, .int .i64 q], .int .i64 cd]) ?_ hd hR
  simp only [Array.getD_eq_getD_getElem?] at h2 h3 h4
  simp [results, hF, go_sem, h2, h3, h4, c0, c1, c2]
theorem DX.drew {W : World} {b : Nat} {v : Value} {p q : Int} (h : DX W b v p q) : DX W.drew b v p q := ⟨h.heap⟩
/-- A verdict is written. -/
def sV (W : World) (b : Nat) (v : Value) (p q : Int) : World := ((W.setCell ⟨b, 0, none⟩ v).setCell ⟨b, 1, none⟩ (.int .i64 p)).setCell ⟨b, 2, none⟩ (.int .i64 q)
theorem sV_other (W : World) (b : Nat) (v : Value) (p q : Int) {k : Nat} (h : k ≠ b) : (sV W b v p q).heap[k]? = W.heap[k]? := by
  unfold sV
  rw [heap_setCell_other _ _ _ _ h, heap_setCell_other _ _ _ _ h, heap_setCell_other _ _ _ _ h]
theorem sV_dx {W : World} {b : Nat} {v : Value} {p q : Int} (h : DX W b v p q) (v2 : Value) (p2 q2 : Int) : DX (sV W b v2 p2 q2) b v2 p2 q2 := h.all v2 p2 q2
theorem sV_below {w W : World} {b : Nat} (v : Value) (p q : Int) (h : Below w.heap.size w W) (hb : w.heap.size ≤ b) : Below w.heap.size w (sV W b v p q) := ((h.setCell (p := ⟨b, 0, none⟩) hb _).setCell (p := ⟨b, 1, none⟩) hb _).setCell (p := ⟨b, 2, none⟩) hb _
/-- The head of a list of spots. -/
theorem fs_head {W : World} {B n : Nat} {A : Option Addr} {c : Nat} {s : Nat × Nat} {l : List (Nat × Nat)} (h : W.ownsRow B 31 2 (.slice A n c) n (spc (s :: l))) (hn : n = (s :: l).length) : ∃ g, A = some ⟨g, 0, none⟩ ∧ W.cell? ⟨g, 0, none⟩ = some (.int .i64 (s.1 : Int)) ∧ W.cell? ⟨g, 1, none⟩ = some (.int .i64 (s.2 : Int)) := by
  obtain ⟨g, cap, e, _⟩ := h.form (by rw [hn]; exact Nat.succ_pos _)
  injection e with e1 _ e3
  subst e1
  have hh := h.cells (g := g) rfl
  have h0 := hh 0 (.int .i64 (s.1 : Int)) rfl
  have h1 := hh 1 (.int .i64 (s.2 : Int)) rfl
  exact ⟨g, rfl, h0, h1⟩
set_option maxRecDepth 100000 in
set_option maxHeartbeats 32000000 in
theorem judged_any (gs : GL) (A : Option Addr) (c : Nat) (w : World) (hp : GI w A gs) :
    Calls Tryz.prog 21 #[.agg #[.slice A gs.length c]] w fun e w' => (∃ (hv vc : Value) (l : List Nat) (p q : Nat) (cd : Int), e = .returned (.tuple #[hv, .agg #[vc, .int .i64 (p : Int), .int .i64 (q : Int)], .int .i64 cd]) ∧ VdR gs l p q cd ∧ w'.ownsRow w.heap.size 3 1 vc l.length (l.map U.nI) ∧ (cd = 0 → ∃ now xs, KnF gs now ∧ now.length = gs.length ∧ xs.length = gs.length ∧ TT w' w.heap.size 29 3 hv (hdT gs.length (hdM gs (nbE now)) gs.length) xs)) ∧ Below w.heap.size w w' := by
  obtain ⟨w1, hw1⟩ : ∃ w1, w1 = (w.alloc (.cells #[.slice A gs.length c] 24)).alloc (.cells #[.slice none 0 0, .int .i64 0, .int .i64 0] 33) := ⟨_, rfl⟩
  have HE1 := (show Hid ((w.alloc (.cells #[.slice A gs.length c] 24)).alloc (.cells #[.slice none 0 0, .int .i64 0, .int .i64 0] 33) = w1) from hw1.symm)
  have s0 := World.size_alloc w (.cells #[.slice A gs.length c] 24)
  have HS := (show Hid (Below w.heap.size w w1 ∧ GX w1 w.heap.size (.slice A gs.length c) ∧ DX w1 (w.heap.size + 1) (.slice none 0 0) 0 0 ∧ w1.heap.size = w.heap.size + 2) from by
    refine ⟨by rw [hw1]; exact ((Below.refl _ _).alloc (Nat.le_refl _) _).alloc (by omega) _, by rw [hw1]; exact (GX.mk (heap_alloc_new w _)).below (below_box _ _), ?_, by rw [hw1, World.size_alloc, s0]⟩
    have h := DX.new (w.alloc (.cells #[.slice A gs.length c] 24)) (.slice none 0 0) 0 0
    rw [s0, ← hw1] at h
    exact h)
  have HVw := (show Hid (∀ _ : Unit, Calls Tryz.prog 23 #[.agg #[.slice A gs.length c]] w1 fun e w' => VwR w1 w' gs A c e ∧ Below w1.heap.size w1 w') from fun _ => viewOf_any gs A c w1 (hp.later HS.out.1))
  have HP := (show Hid (GI w A gs) from hp)
  have q1 := HS.out.2.1.cl
  clear hw1 s0 hp
  go_enter Tryz.func21, Tryz.ntmps21
  go_wp2_with (rw [HE1.out])
  refine (HVw.out ()).mono ?_
  rintro e w2 ⟨hvw, b2⟩
  have HS2 := (show Hid (Below w.heap.size w w2 ∧ GX w2 w.heap.size (.slice A gs.length c) ∧ DX w2 (w.heap.size + 1) (.slice none 0 0) 0 0 ∧ w.heap.size + 2 ≤ w2.heap.size) from by
    obtain ⟨h1, h2, h3, h4⟩ := HS.out
    exact ⟨h1.trans (b2.mono h1.size), h2.below b2, h3.below b2, by have := b2.size; omega⟩)
  clear HVw HE1 q1 HS b2
  by_cases hz : (ckG gs).2 = 0
  · obtain ⟨mb, Ak, ck, now, rfl, hm, hk, hkf, hnl, hok, _⟩ := hvw.2 hz
    have hR := ckG_ok.1 hz
    have hn2 := hR.n2
    have hn1 := hR.n1
    obtain ⟨w3, hw3⟩ : ∃ w3, w3 = w2.alloc (.cells #[.slice A gs.length c, .map (some mb), .slice Ak gs.length ck] 66) := ⟨_, rfl⟩
    have HE3 := (show Hid (w2.alloc (.cells #[.slice A gs.length c, .map (some mb), .slice Ak gs.length ck] 66) = w3) from hw3.symm)
    have hb3 : Below w2.heap.size w2 w3 := by rw [hw3]; exact below_box _ _
    have b3s := (show Hid (w2.heap.size ≤ w3.heap.size) from hb3.size)
    have HX3 := (show Hid (VX w3 w2.heap.size (.slice A gs.length c) (.map (some mb)) (.slice Ak gs.length ck)) from by rw [hw3]; exact VX.new w2 _ _ _)
    have HB3 := (show Hid (Below w.heap.size w w3) from HS2.out.1.trans (hb3.mono HS2.out.1.size))
    have HD3 := (show Hid (DX w3 (w.heap.size + 1) (.slice none 0 0) 0 0) from HS2.out.2.2.1.below hb3)
    have HV := (show Hid (VwO w3 gs A mb Ak now) from ⟨hR, HP.out.later HB3.out, hm.later hb3, hk.later hb3, hnl⟩)
    have HKn := (show Hid (KnF gs now ∧ now.length = gs.length ∧ (ckG gs).2 = 0) from ⟨hkf, hnl, hz⟩)
    have y0 := HX3.out.c0
    have y1 := HX3.out.c1
    have y2 := HX3.out.c2
    have HHe := (show Hid (∀ _ : Unit, Calls Tryz.prog 36 #[.agg #[.slice A gs.length c, .map (some mb), .slice Ak gs.length ck]] w3 fun e w' => (∃ v xs, e = .returned v ∧ xs.length = gs.length ∧ TT w' w3.heap.size 29 3 v (hdT gs.length (hdM gs (nbE now)) gs.length) xs) ∧ Below w3.heap.size w3 w') from fun _ => vheads_any mb A Ak c ck w3 HV.out)
    have HR := (show Hid (RtG gs) from hR)
    clear hvw hm hk hkf hnl hok hz hR hw3 hb3
    go_wp2_with (rw [HE3.out])
    refine (HHe.out ()).mono ?_
    rintro e w4 ⟨⟨vh, xs, rfl, hxl, hT⟩, b4⟩
    obtain ⟨Ah, ch, hAh⟩ := own_slice hT.o
    rw [hxl] at hAh
    subst hAh
    have HT4 := (show Hid (TT w4 w3.heap.size 29 3 (.slice Ah gs.length ch) (hdT gs.length (hdM gs (nbE now)) gs.length) xs ∧ xs.length = gs.length) from ⟨hT, hxl⟩)
    have HS3 := (show Hid (w.heap.size + 2 ≤ w3.heap.size) from Nat.le_trans HS2.out.2.2.2 b3s.out)
    have HS4 := (show Hid (w.heap.size + 2 ≤ w4.heap.size) from Nat.le_trans HS3.out b4.size)
    have HB4 := (show Hid (Below w.heap.size w w4) from HB3.out.trans (b4.mono HB3.out.size))
    have HCy := (show Hid (∀ _ : Unit, Calls Tryz.prog 37 #[.slice Ah gs.length ch] w4 fun e w' => (∃ v l, e = .returned v ∧ CyR gs.length (hdM gs (nbE now)) l ∧ w'.ownsRow w4.heap.size 3 1 v l.length (l.map U.nI)) ∧ Below w4.heap.size w4 w') from fun _ => cycle_any (hdM_lt HR.out) hn2 Ah ch w4 (tt_rdl hT hxl hn1))
    have HX4 := (show Hid (VX w4 w2.heap.size (.slice A gs.length c) (.map (some mb)) (.slice Ak gs.length ck) ∧ DX w4 (w.heap.size + 1) (.slice none 0 0) 0 0 ∧ VwO w4 gs A mb Ak now ∧ w3.heap.size ≤ w4.heap.size) from ⟨HX3.out.below b4, HD3.out.below b4, HV.out.later b4, b4.size⟩)
    clear hxl hT b4 HHe HE3 y0 y1 y2 HX3 HD3 HV
    go_wp2_with fail
    refine (HCy.out ()).mono ?_
    rintro e w5 ⟨⟨vc, cy, rfl, hcy, hoc⟩, b5⟩
    obtain ⟨Ac, cc, rfl⟩ := own_slice hoc
    have HB5 := (show Hid (Below w.heap.size w w5) from HB4.out.trans (b5.mono HB4.out.size))
    have HX5 := (show Hid (VX w5 w2.heap.size (.slice A gs.length c) (.map (some mb)) (.slice Ak gs.length ck) ∧ DX w5 (w.heap.size + 1) (.slice none 0 0) 0 0 ∧ VwO w5 gs A mb Ak now) from ⟨HX4.out.1.below b5, HX4.out.2.1.below b5, HX4.out.2.2.1.later b5⟩)
    have HT5 := (show Hid (TT w5 w3.heap.size 29 3 (.slice Ah gs.length ch) (hdT gs.length (hdM gs (nbE now)) gs.length) xs ∧ xs.length = gs.length) from ⟨HT4.out.1.below b5, HT4.out.2⟩)
    have HC5 := (show Hid (CyR gs.length (hdM gs (nbE now)) cy ∧ w5.ownsRow w4.heap.size 3 1 (.slice Ac cy.length cc) cy.length (cy.map U.nI)) from ⟨hcy, hoc⟩)
    clear hcy hoc b5 HCy HX4 HT4
    by_cases hc0 : cy = []
    · have hcz : (.slice Ac cy.length cc : Value) = .slice Ac 0 cc := by rw [hc0]; rfl
      rw [hcz]
      clear hcz
      have HC0 := (show Hid (cy = []) from hc0)
      clear hc0
      have y0 := HX5.out.1.c0
      have y1 := HX5.out.1.c1
      have y2 := HX5.out.1.c2
      have HLo := (show Hid (∀ _ : Unit, Calls Tryz.prog 38 #[.agg #[.slice A gs.length c, .map (some mb), .slice Ak gs.length ck]] w5 fun e w' => (∃ v, e = .returned v ∧ w'.ownsRow w5.heap.size 31 2 v (lpG gs (nbE now) gs.length).length (spc (lpG gs (nbE now) gs.length))) ∧ Below w5.heap.size w5 w') from fun _ => vloops_any mb A Ak c ck w5 HX5.out.2.2)
      go_wp2_with fail
      refine (HLo.out ()).mono ?_
      rintro e w6 ⟨⟨vl, rfl, hol⟩, b6⟩
      obtain ⟨Al, cl, rfl⟩ := own_fs hol
      have HB6 := (show Hid (Below w.heap.size w w6) from HB5.out.trans (b6.mono HB5.out.size))
      have HD6 := (show Hid (DX w6 (w.heap.size + 1) (.slice none 0 0) 0 0) from HX5.out.2.1.below b6)
      have HT6 := (show Hid (TT w6 w3.heap.size 29 3 (.slice Ah gs.length ch) (hdT gs.length (hdM gs (nbE now)) gs.length) xs ∧ xs.length = gs.length) from ⟨HT5.out.1.below b6, HT5.out.2⟩)
      have d0 := HD6.out.c0
      have d1 := HD6.out.c1
      have d2 := HD6.out.c2
      have f0 := HD6.out.fz 0
      have f1 := HD6.out.fz 1
      have f2 := HD6.out.fz 2
      obtain ⟨ls, hls⟩ : ∃ ls, ls = lpG gs (nbE now) gs.length := ⟨_, rfl⟩
      have HLs := (show Hid (ls = lpG gs (nbE now) gs.length ∧ w6.ownsRow w5.heap.size 31 2 (.slice Al ls.length cl) ls.length (spc ls)) from ⟨hls, by rw [hls]; exact hol⟩)
      rw [← hls]
      clear hol hls b6 HLo y0 y1 y2 HX5 HT5
      cases ls with
      | nil =>
        have HVd := (show Hid (VdR gs [] 0 0 0) from ⟨fun q => absurd HKn.out.2.2 q, fun _ => ⟨now, HKn.out.1, HKn.out.2.1, cy, HC5.out.1, .inr ⟨HC0.out, rfl, .inr ⟨HLs.out.1.symm, rfl, rfl, rfl⟩⟩⟩⟩)
        obtain ⟨w7, hw7⟩ : ∃ w7, w7 = sV w6 (w.heap.size + 1) (.slice none 0 0) 0 0 := ⟨_, rfl⟩
        have HE7 := (show Hid (((w6.setCell ⟨w.heap.size + 1, 0, none⟩ (.slice none 0 0)).setCell ⟨w.heap.size + 1, 1, none⟩ (.int .i64 0)).setCell ⟨w.heap.size + 1, 2, none⟩ (.int .i64 0) = w7) from hw7.symm)
        have HT7 := (show Hid (TT w7 w3.heap.size 29 3 (.slice Ah gs.length ch) (hdT gs.length (hdM gs (nbE now)) gs.length) xs ∧ xs.length = gs.length) from ⟨tt_same HT6.out.1 fun k hk => by rw [hw7]; exact sV_other _ _ _ _ _ (by have := HS3.out; omega), HT6.out.2⟩)
        have HB7 := (show Hid (Below w.heap.size w w7 ∧ DX w7 (w.heap.size + 1) (.slice none 0 0) 0 0) from by rw [hw7]; exact ⟨sV_below _ _ _ HB6.out (Nat.le_succ _), sV_dx HD6.out _ _ _⟩)
        clear hw7
        go_wp2_with (rw [HE7.out])
        refine ret_jd (b := w.heap.size + 1) (by rfl) (by rfl) (by rfl) (by rfl) (by rfl) HB7.out.2 ⟨⟨_, _, [], 0, 0, 0, rfl, HVd.out, World.ownsRow_nil _ _ _ _, fun _ => ⟨now, xs, HKn.out.1, HKn.out.2.1, HT7.out.2, HT7.out.1.base (by have := HS3.out; omega)⟩⟩, HB7.out.1⟩
      | cons s ls =>
        obtain ⟨sp, sr⟩ := s
        obtain ⟨g, rfl, hc1⟩ := fs_head HLs.out.2 rfl
        have HVd := (show Hid (VdR gs [] sp sr 101) from ⟨fun q => absurd HKn.out.2.2 q, fun _ => ⟨now, HKn.out.1, HKn.out.2.1, cy, HC5.out.1, .inr ⟨HC0.out, rfl, .inl ⟨(sp, sr), ls, HLs.out.1.symm, rfl, rfl, rfl⟩⟩⟩⟩)
        have l0 := hc1.1
        have l1 := hc1.2
        have HB7 := (show Hid (Below w.heap.size w (sV w6 (w.heap.size + 1) (.slice none 0 0) sp sr).drew ∧ DX (sV w6 (w.heap.size + 1) (.slice none 0 0) sp sr).drew (w.heap.size + 1) (.slice none 0 0) sp sr) from ⟨(sV_below _ _ _ HB6.out (Nat.le_succ _)).drew, (sV_dx HD6.out _ _ _).drew⟩)
        clear HT6 hc1
        have hlen : ((sp, sr) :: ls).length = ls.length + 1 := rfl
        rw [hlen]
        clear hlen
        generalize ls.length = m
        have hm : (0 : Int) < (m + 1 : Nat) := by omega
        have hm2 : 0 < m + 1 := by omega
        go_wp2_with fail
        go_region
        all_goals (go_wp2_with fail)
        refine ret_jd (b := w.heap.size + 1) (by rfl) (by rfl) (by rfl) (by rfl) (by rfl) HB7.out.2 ⟨⟨_, _, [], sp, sr, 101, rfl, HVd.out, World.ownsRow_nil _ _ _ _, fun q => absurd q (by decide)⟩, HB7.out.1⟩
    · have HVd := (show Hid (VdR gs cy 0 0 100) from ⟨fun q => absurd HKn.out.2.2 q, fun _ => ⟨now, HKn.out.1, HKn.out.2.1, cy, HC5.out.1, .inl ⟨hc0, rfl, rfl, rfl, rfl⟩⟩⟩)
      have hm2 : 0 < cy.length := List.length_pos_iff.2 hc0
      obtain ⟨m, hm⟩ : ∃ m, m = cy.length := ⟨_, rfl⟩
      have HO5 := (show Hid (w5.ownsRow w4.heap.size 3 1 (.slice Ac m cc) cy.length (cy.map U.nI)) from by rw [hm]; exact HC5.out.2)
      have HD5 := (show Hid (DX w5 (w.heap.size + 1) (.slice none 0 0) 0 0) from HX5.out.2.1)
      rw [← hm] at hm2 ⊢
      clear hm hc0
      have hm3 : (0 : Int) < (m : Nat) := by omega
      have d0 := HD5.out.c0
      have d1 := HD5.out.c1
      have d2 := HD5.out.c2
      have f0 := HD5.out.fz 0
      have f1 := HD5.out.fz 1
      have f2 := HD5.out.fz 2
      obtain ⟨w7, hw7⟩ : ∃ w7, w7 = sV w5 (w.heap.size + 1) (.slice Ac m cc) 0 0 := ⟨_, rfl⟩
      have HE7 := (show Hid (((w5.setCell ⟨w.heap.size + 1, 0, none⟩ (.slice Ac m cc)).setCell ⟨w.heap.size + 1, 1, none⟩ (.int .i64 0)).setCell ⟨w.heap.size + 1, 2, none⟩ (.int .i64 0) = w7) from hw7.symm)
      have HO7 := (show Hid (w7.ownsRow w4.heap.size 3 1 (.slice Ac m cc) cy.length (cy.map U.nI)) from own_same HO5.out fun k e => by
        have h1 := (HO5.out.lt k e).1
        rw [hw7]
        exact sV_other _ _ _ _ _ (by have := HS4.out; omega))
      have HB7 := (show Hid (Below w.heap.size w w7 ∧ DX w7 (w.heap.size + 1) (.slice Ac m cc) 0 0) from by rw [hw7]; exact ⟨sV_below _ _ _ HB5.out (Nat.le_succ _), sV_dx HD5.out _ _ _⟩)
      clear hw7
      go_wp2_with (rw [HE7.out])
      refine ret_jd (b := w.heap.size + 1) (by rfl) (by rfl) (by rfl) (by rfl) (by rfl) HB7.out.2 ⟨⟨_, _, cy, 0, 0, 100, rfl, HVd.out, own_base HO7.out (by have := HS4.out; omega), fun q => absurd q (by decide)⟩, HB7.out.1⟩
  · have e1 := hvw.1 hz
    subst e1
    have tz : ((ckG gs).2 != 0) = true := by rw [bne, beq_eq_false_iff_ne.2 hz]; rfl
    obtain ⟨ca, cb, cd, hcc⟩ : ∃ (ca cb : Nat) (cd : Int), ckG gs = ((ca, cb), cd) := ⟨_, _, _, rfl⟩
    have HVd := (show Hid (VdR gs [] ca cb cd) from ⟨fun _ => ⟨rfl, by rw [hcc], by rw [hcc]⟩, fun q => absurd q hz⟩)
    have HCd := (show Hid (cd ≠ 0) from by rw [hcc] at hz; exact hz)
    rw [hcc] at tz ⊢
    have tz : (cd != 0) = true := tz
    obtain ⟨w3, hw3⟩ : ∃ w3, w3 = w2.alloc (.cells #[.slice none 0 0, .map none, .slice none 0 0] 66) := ⟨_, rfl⟩
    have HE3 := (show Hid (w2.alloc (.cells #[.slice none 0 0, .map none, .slice none 0 0] 66) = w3) from hw3.symm)
    have hb3 : Below w2.heap.size w2 w3 := by rw [hw3]; exact below_box _ _
    have HB3 := (show Hid (Below w.heap.size w w3 ∧ DX w3 (w.heap.size + 1) (.slice none 0 0) 0 0) from ⟨HS2.out.1.trans (hb3.mono HS2.out.1.size), HS2.out.2.2.1.below hb3⟩)
    have q3 : (w2.alloc (.cells #[.slice none 0 0, .map none, .slice none 0 0] 66)).cell? ⟨w.heap.size, 0, none⟩ = some (.slice A gs.length c) := by rw [← hw3]; exact (HS2.out.2.1.below hb3).cl
    have HCk := (show Hid (∀ _ : Unit, Calls Tryz.prog 35 #[.agg #[.slice A gs.length c]] w3 fun e w' => e = .returned (.tuple #[.agg #[.int .i64 (ca : Int), .int .i64 (cb : Int)], .int .i64 cd]) ∧ Below w3.heap.size w3 w') from fun _ => by
      have h := checkP_any gs A c w3 (HP.out.later HB3.out.1)
      rw [hcc] at h
      exact h)
    clear hvw hz hcc hw3 hb3 HS2 HP
    go_wp2_with fail
    rw [HE3.out]
    refine (HCk.out ()).mono ?_
    rintro e w4 ⟨rfl, b4⟩
    obtain ⟨w5, hw5⟩ : ∃ w5, w5 = w4.alloc (.cells #[.int .i64 (ca : Int), .int .i64 (cb : Int)] 31) := ⟨_, rfl⟩
    have HE5 := (show Hid (w4.alloc (.cells #[.int .i64 (ca : Int), .int .i64 (cb : Int)] 31) = w5) from hw5.symm)
    have hb5 : Below w4.heap.size w4 w5 := by rw [hw5]; exact below_box _ _
    have hs5 : SX w5 w4.heap.size ca cb := by rw [hw5]; exact ⟨heap_alloc_new w4 _⟩
    have s0 := hs5.c0
    have s1 := hs5.c1
    have HD5 := (show Hid (DX w5 (w.heap.size + 1) (.slice none 0 0) 0 0 ∧ Below w.heap.size w w5) from ⟨(HB3.out.2.below b4).below hb5, (HB3.out.1.trans (b4.mono HB3.out.1.size)).trans (hb5.mono (HB3.out.1.trans (b4.mono HB3.out.1.size)).size)⟩)
    have d0 := HD5.out.1.c0
    have d1 := HD5.out.1.c1
    have d2 := HD5.out.1.c2
    have f0 := HD5.out.1.fz 0
    have f1 := HD5.out.1.fz 1
    have f2 := HD5.out.1.fz 2
    clear b4 HCk HE3 q3 HB3 hb5 hs5 hw5
    go_wp2_with (rw [HE5.out])
    go_region
    all_goals (go_wp2_with fail)
    have HB7 := (show Hid (Below w.heap.size w (sV w5 (w.heap.size + 1) (.slice none 0 0) ca cb).drew ∧ DX (sV w5 (w.heap.size + 1) (.slice none 0 0) ca cb).drew (w.heap.size + 1) (.slice none 0 0) ca cb) from ⟨(sV_below _ _ _ HD5.out.2 (Nat.le_succ _)).drew, (sV_dx HD5.out.1 _ _ _).drew⟩)
    refine ret_jd (b := w.heap.size + 1) (by rfl) (by rfl) (by rfl) (by rfl) (by rfl) HB7.out.2 ⟨⟨_, _, [], ca, cb, cd, rfl, HVd.out, World.ownsRow_nil _ _ _ _, fun q => absurd q HCd.out⟩, HB7.out.1⟩
end Go.Proofs.YtbipjdgholdhcabGreat.N

namespace Go.Proofs.YtbipjdgholdhcabGreat.N
open Go.RowKit Go.Maps
open Go.Proofs.YtbipjdgholdhcabGreat.T

open U (below_grown own_get own_slice TT)
theorem ret_ck {fn : Func} {R : Ending → World → Prop} {act : Act} {W : World} {b : Nat} {v : Value} {p q cd : Int} (hF : fn.results = #[.cell 2 33, .tmp 3]) (hd : act.defers = []) (h3 : act.tmps.getD 2 undef = .pointer (some ⟨b, 0, none⟩)) (h4 : act.tmps.getD 3 undef = .int .i64 cd) (hT : DX W b v p q) (hR : R (.returned (.tuple #[.agg #[v, .int .i64 p, .int .i64 q], .int .i64 cd])) W) : bodyPost Tryz.prog fn R .ret act W := by
  have c0 : W.cell? ⟨b, 0, none⟩ = _ := hT.c0
  have c1 : W.cell? ⟨b, 1, none⟩ = _ := hT.c1
  have c2 : W.cell? ⟨b, 2, none⟩ = _ := hT.c2
  refine bodyPost_ret (v := .tuple #[.agg #[v, .int .i64 p, .int .i64 q], .int .i64 cd]) ?_ hd hR
  simp only [Array.getD_eq_getD_getElem?] at h3 h4
  simp [results, hF, go_sem, h3, h4, c0, c1, c2]
set_option maxRecDepth 100000 in
set_option maxHeartbeats 16000000 in
/-- Check, by the program. -/
theorem fcheck_any (gs : GL) (A : Option Addr) (c : Nat) (w : World) (hp : GI w A gs) :
    Calls Tryz.prog 7 #[.agg #[.slice A gs.length c]] w fun e w' => (∃ (vc : Value) (l : List Nat) (p q : Nat) (cd : Int), e = .returned (.tuple #[.agg #[vc, .int .i64 (p : Int), .int .i64 (q : Int)], .int .i64 cd]) ∧ VdR gs l p q cd ∧ w'.ownsRow w.heap.size 3 1 vc l.length (l.map U.nI)) ∧ Below w.heap.size w w' := by
  obtain ⟨w1, hw1⟩ : ∃ w1, w1 = (w.alloc (.cells #[.slice A gs.length c] 24)).alloc (.cells #[.slice none 0 0, .int .i64 0, .int .i64 0] 33) := ⟨_, rfl⟩
  have HE1 := (show Hid ((w.alloc (.cells #[.slice A gs.length c] 24)).alloc (.cells #[.slice none 0 0, .int .i64 0, .int .i64 0] 33) = w1) from hw1.symm)
  have s0 := World.size_alloc w (.cells #[.slice A gs.length c] 24)
  have HS := (show Hid (Below w.heap.size w w1 ∧ GX w1 w.heap.size (.slice A gs.length c) ∧ DX w1 (w.heap.size + 1) (.slice none 0 0) 0 0 ∧ w1.heap.size = w.heap.size + 2) from by
    refine ⟨by rw [hw1]; exact ((Below.refl _ _).alloc (Nat.le_refl _) _).alloc (by omega) _, by rw [hw1]; exact (GX.mk (heap_alloc_new w _)).below (below_box _ _), ?_, by rw [hw1, World.size_alloc, s0]⟩
    have h := DX.new (w.alloc (.cells #[.slice A gs.length c] 24)) (.slice none 0 0) 0 0
    rw [s0, ← hw1] at h
    exact h)
  have HJ := (show Hid (∀ _ : Unit, Calls Tryz.prog 21 #[.agg #[.slice A gs.length c]] w1 fun e w' => (∃ (hv vc : Value) (l : List Nat) (p q : Nat) (cd : Int), e = .returned (.tuple #[hv, .agg #[vc, .int .i64 (p : Int), .int .i64 (q : Int)], .int .i64 cd]) ∧ VdR gs l p q cd ∧ w'.ownsRow w1.heap.size 3 1 vc l.length (l.map U.nI) ∧ (cd = 0 → ∃ now xs, KnF gs now ∧ now.length = gs.length ∧ xs.length = gs.length ∧ TT w' w1.heap.size 29 3 hv (hdT gs.length (hdM gs (nbE now)) gs.length) xs)) ∧ Below w1.heap.size w1 w') from fun _ => judged_any gs A c w1 (hp.later HS.out.1))
  have q1 := HS.out.2.1.cl
  clear hw1 s0 hp
  go_enter Tryz.func7, Tryz.ntmps7
  go_wp2_with (rw [HE1.out])
  refine (HJ.out ()).mono ?_
  rintro e w2 ⟨⟨hv, vc, l, p, q, cd, rfl, hvd, ho, _⟩, b2⟩
  obtain ⟨Ac, cc, rfl⟩ := own_slice ho
  have HV := (show Hid (VdR gs l p q cd) from hvd)
  obtain ⟨w3, hw3⟩ : ∃ w3, w3 = w2.alloc (.cells #[(.slice Ac l.length cc), .int .i64 (p : Int), .int .i64 (q : Int)] 33) := ⟨_, rfl⟩
  have HE3 := (show Hid (w2.alloc (.cells #[(.slice Ac l.length cc), .int .i64 (p : Int), .int .i64 (q : Int)] 33) = w3) from hw3.symm)
  have hb3 : Below w2.heap.size w2 w3 := by rw [hw3]; exact below_box _ _
  have hd3 : DX w3 w2.heap.size (.slice Ac l.length cc) p q := by rw [hw3]; exact DX.new w2 _ _ _
  have c0 := hd3.c0
  have c1 := hd3.c1
  have c2 := hd3.c2
  have HD3 := (show Hid (DX w3 (w.heap.size + 1) (.slice none 0 0) 0 0) from (HS.out.2.2.1.below b2).below hb3)
  have d0 := HD3.out.c0
  have d1 := HD3.out.c1
  have d2 := HD3.out.c2
  have f0 := HD3.out.fz 0
  have f1 := HD3.out.fz 1
  have f2 := HD3.out.fz 2
  obtain ⟨w4, hw4⟩ : ∃ w4, w4 = sV w3 (w.heap.size + 1) (.slice Ac l.length cc) p q := ⟨_, rfl⟩
  have HE4 := (show Hid (((w3.setCell ⟨w.heap.size + 1, 0, none⟩ (.slice Ac l.length cc)).setCell ⟨w.heap.size + 1, 1, none⟩ (.int .i64 (p : Int))).setCell ⟨w.heap.size + 1, 2, none⟩ (.int .i64 (q : Int)) = w4) from hw4.symm)
  have hbb : Below w.heap.size w w3 := (HS.out.1.trans (b2.mono HS.out.1.size)).trans (hb3.mono (HS.out.1.trans (b2.mono HS.out.1.size)).size)
  have HB4 := (show Hid (Below w.heap.size w w4 ∧ DX w4 (w.heap.size + 1) (.slice Ac l.length cc) p q) from by rw [hw4]; exact ⟨sV_below _ _ _ hbb (Nat.le_succ _), sV_dx HD3.out _ _ _⟩)
  have HO := (show Hid (w4.ownsRow w.heap.size 3 1 (.slice Ac l.length cc) l.length (l.map U.nI)) from by
    have h3 := own_below ho hb3
    have h4 : w4.ownsRow w1.heap.size 3 1 (.slice Ac l.length cc) l.length (l.map U.nI) := own_same h3 fun k e => by
      have h1 := (h3.lt k e).1
      have h2 := HS.out.2.2.2
      rw [hw4]
      exact sV_other _ _ _ _ _ (by omega)
    have h2 := HS.out.2.2.2
    exact own_base h4 (by omega))
  clear hvd ho b2 hw3 hb3 hd3 hw4 hbb HS HE1 HJ q1 HD3
  go_wp2_with (first | rw [HE3.out] | rw [HE4.out])
  refine ret_ck (b := w.heap.size + 1) (by rfl) (by rfl) (by rfl) (by rfl) HB4.out.2 ⟨⟨_, l, p, q, cd, rfl, HV.out, HO.out⟩, HB4.out.1⟩
end Go.Proofs.YtbipjdgholdhcabGreat.N

namespace Go.Proofs.YtbipjdgholdhcabGreat.N
open Go.RowKit Go.Maps
open Go.Proofs.YtbipjdgholdhcabGreat.T

open U (below_grown own_get own_slice TT)
/-- What Check says, by the document. -/
def VdD (gs : GL) (now : List Em) (l : List Nat) (p q : Nat) (e : Int) : Prop := ((ckG gs).2 ≠ 0 → l = [] ∧ (p, q) = (ckG gs).1 ∧ e = (ckG gs).2) ∧ ((ckG gs).2 = 0 → ∃ cy, CyR gs.length (hdM gs (nbE now)) cy ∧ ((cy ≠ [] ∧ l = cy ∧ p = 0 ∧ q = 0 ∧ e = 100) ∨ (cy = [] ∧ l = [] ∧ ((∃ s r, lpG gs (nbE now) gs.length = s :: r ∧ p = s.1 ∧ q = s.2 ∧ e = 101) ∨ (lpG gs (nbE now) gs.length = [] ∧ p = 0 ∧ q = 0 ∧ e = 0)))))
end Go.Proofs.YtbipjdgholdhcabGreat.N

namespace Go.Proofs.YtbipjdgholdhcabGreat.N
open Go.RowKit Go.Maps
open Go.Proofs.YtbipjdgholdhcabGreat.T

open U (own_get own_slice below_grown)
theorem sp_eq (a b : Nat) (W : World) : (binOp .eql 31 (.agg #[.int .i64 (a : Int), .int .i64 (b : Int)]) (.agg #[.int .i64 (a : Int), .int .i64 (b : Int)])).run Tryz.prog W = .ok (.bool true) W := by
  have hp : Tryz.prog.stoodInHeld 31 = false := by kernel_rfl
  simp [go_sem, Tryz.underlying31, Tryz.underlying3, Tryz.isAgg3, hp]

set_option maxRecDepth 100000 in
set_option maxHeartbeats 8000000 in
theorem SameInts_any (l : List Nat) (hl : l.length ≤ 1000000) {A1 A2 : Option Addr} {c1 c2 B1 B2 : Nat} (w : World) (h1 : w.ownsRow B1 3 1 (.slice A1 l.length c1) l.length (l.map U.nI)) (h2 : w.ownsRow B2 3 1 (.slice A2 l.length c2) l.length (l.map U.nI)) :
    Calls Tryz.prog 8 #[.slice A1 l.length c1, .slice A2 l.length c2] w fun e w' => e = .returned (.bool true) ∧ Below w.heap.size w w' := by
  have H1 := (show Hid (w.ownsRow B1 3 1 (.slice A1 l.length c1) l.length (l.map U.nI) ∧ w.ownsRow B2 3 1 (.slice A2 l.length c2) l.length (l.map U.nI)) from ⟨h1, h2⟩)
  have HS := (show Hid (Below w.heap.size w w) from Below.refl _ _)
  clear h1 h2
  go_enter Tryz.func8, Tryz.ntmps8
  go_wp2_with fail
  go_loopw [5] (fun t wr => ∃ k : Nat, k ≤ l.length ∧ t = .int .i64 (k : Int) ∧ Hid (Below w.heap.size w wr)) (fun t _ => l.length - (intOf t).toNat)
  case atStart => exact ⟨0, Nat.zero_le _, by go_num, HS⟩
  case round =>
    obtain ⟨k, hk, rfl, HW⟩ := hrel
    clear HS
    by_cases hlt : k < l.length
    · obtain ⟨x, hx⟩ : ∃ x, l[k]? = some x := ⟨_, List.getElem?_eq_getElem hlt⟩
      obtain ⟨g1, k1, e1, _, l1, p1, _⟩ := own_get H1.out.1 (j := k) (x := U.nI x) (by rw [List.getElem?_map, hx]; rfl)
      obtain ⟨g2, k2, e2, _, l2, p2, _⟩ := own_get H1.out.2 (j := k) (x := U.nI x) (by rw [List.getElem?_map, hx]; rfl)
      have e1 : A1 = some ⟨g1, 0, none⟩ := by injection e1
      have e2 : A2 = some ⟨g2, 0, none⟩ := by injection e2
      subst e1
      subst e2
      have y1 : wr.cell? ⟨g1, k, none⟩ = some (.int .i64 (x : Int)) := (HW.out.cell (p := ⟨g1, k, none⟩) l1).trans p1
      have y2 : wr.cell? ⟨g2, k, none⟩ = some (.int .i64 (x : Int)) := (HW.out.cell (p := ⟨g2, k, none⟩) l2).trans p2
      clear p1 p2 l1 l2 hx
      have z0 : (0 : Int) ≤ (k : Int) := by omega
      have z1 : (k : Int) < (l.length : Int) := by omega
      go_wp2_with fail
      go_big_quiet (fail)
      have HB := (show Hid (Below w.heap.size w (wr.drewN nq)) from HW.out.trans ((below_dn _).mono HW.out.size))
      generalize wr.drewN nq = w9 at *
      clear HW
      go_wp2_with fail
      go_roundw
      case rel => exact ⟨k + 1, by omega, by go_num, HB⟩
      case measure => simp [intOf]; omega
    · obtain rfl : k = l.length := by omega
      have HB := (show Hid (Below w.heap.size w wr) from HW.out)
      clear HW
      go_wp2_with fail
      go_ret
      exact ⟨rfl, HB.out⟩
end Go.Proofs.YtbipjdgholdhcabGreat.N

namespace Go.Proofs.YtbipjdgholdhcabGreat.N
open Go.RowKit Go.Maps
open Go.Proofs.YtbipjdgholdhcabGreat.T

open U (own_get own_slice below_grown)
def lvA : Nd := ⟨3, 0, ⟨#[]⟩, 0, 0, 0, 0⟩
def lvB : Nd := ⟨6, 0, ⟨#[115]⟩, 0, 0, 0, 0⟩
def lvG (n : Nd) : GL := [(⟨#[115]⟩, [n])]
theorem lv_a : ckG (lvG lvA) = ((0, 0), 0) := by kernel_rfl
theorem lv_b : ckG (lvG lvB) = ((0, 0), 0) := by kernel_rfl
theorem rc_some {n : Nat} {c : Mx} {x y : Nat} (h : Rc n c x y) : ∃ k, c x k = true :=
  Rc.least (d := fun i _ => ∃ k, c i k = true) (fun _i j hc => ⟨j, hc⟩) (fun _i _k _j _ h1 _ => h1) h
theorem lv_ha (nb : List Bool) (i q : Nat) : hdM (lvG lvA) nb i q = false := by
  cases i with
  | zero => rfl
  | succ i => rfl
theorem lv_la (nb : List Bool) : lpG (lvG lvA) nb 1 = [] := rfl
theorem lv_hb (nb : List Bool) : hdM (lvG lvB) nb 0 0 = true := by
  rfl
theorem lv_va {l : List Nat} {p q : Nat} {cd : Int} (h : VdR (lvG lvA) l p q cd) : cd = 0 := by
  have hz : (ckG (lvG lvA)).2 = 0 := by rw [lv_a]
  obtain ⟨now, _, _, cy, hcy, h3⟩ := h.2 hz
  have hno : cy = [] := (hcy.nil (hdM_lt (ckG_ok.1 hz))).2 fun r hr => by
    obtain ⟨k, hk⟩ := rc_some hr
    rw [lv_ha] at hk
    cases hk
  rcases h3 with ⟨q1, _⟩ | ⟨_, _, ⟨s, r, q1, _⟩ | ⟨_, _, _, q1⟩⟩
  · exact absurd hno q1
  · have e : lpG (lvG lvA) (nbE now) (lvG lvA).length = [] := lv_la _
    rw [e] at q1
    cases q1
  · exact q1
theorem lv_vb {l : List Nat} {p q : Nat} {cd : Int} (h : VdR (lvG lvB) l p q cd) : cd = 100 ∧ l.length = 1 := by
  have hz : (ckG (lvG lvB)).2 = 0 := by rw [lv_b]
  obtain ⟨now, _, _, cy, hcy, h3⟩ := h.2 hz
  have hlt := hdM_lt (nb := nbE now) (ckG_ok.1 hz)
  have hc : hdM (lvG lvB) (nbE now) 0 0 = true := lv_hb _
  have hne : cy ≠ [] := fun e => (hcy.nil hlt).1 e 0 (Rc.of hc)
  rcases h3 with ⟨_, rfl, _, _, q1⟩ | ⟨q1, _⟩
  · refine ⟨q1, ?_⟩
    rcases hcy with ⟨q2, _⟩ | ⟨r, m, hd, _, hp⟩
    · exact absurd q2 hne
    · have hr : r < 1 := (Ds.lt hlt hd).1
      obtain rfl : r = 0 := by omega
      rw [hp.n]
      exact hd.one (Ds.first.2 hc)
  · exact absurd q1 hne
/-- Nodes that were just laid are read. -/
theorem rd_lit (w : World) (L : List Nd) (cs : Array Value) (hn : L.length ≤ 100) (hc : cs.toList = ndc L) : RdN (w.alloc (.cells cs 57)) (some ⟨w.heap.size, 0, none⟩) L := fun _ => by
  have hs : cs.size = L.length * 7 := by rw [← Array.length_toList, hc, ndc_len]
  have ho : (w.alloc (.cells cs 57)).ownsRow w.heap.size 57 7 (.slice (some ⟨w.heap.size, 0, none⟩) L.length L.length) L.length (ndc L ++ []) := by
    rw [List.append_nil, ← hc]
    exact World.ownsRow_lit w cs L.length (Nat.le_refl _) (by unfold maxLen; omega) hs
  exact ⟨w.heap.size, 0, rfl, by rw [World.size_alloc]; omega, own_ndl ho⟩
theorem lv_gi (w : World) (n : Nd) (cs : Array Value) (hc : cs.toList = ndc [n]) (ht : n.tx.size ≤ 140737488355328) : GI ((w.alloc (.cells cs 57)).alloc (.cells #[.string ⟨#[115]⟩, .slice (some ⟨w.heap.size, 0, none⟩) 1 1] 52)) (some ⟨w.heap.size + 1, 0, none⟩) (lvG n) ∧ Below w.heap.size w ((w.alloc (.cells cs 57)).alloc (.cells #[.string ⟨#[115]⟩, .slice (some ⟨w.heap.size, 0, none⟩) 1 1] 52)) := by
  have r1 := rd_lit w [n] cs (by show 1 ≤ 100; omega) hc
  have s1 := World.size_alloc w (.cells cs 57)
  have b1 := below_box w (.cells cs 57)
  obtain ⟨w1, h1⟩ : ∃ w1, w1 = w.alloc (.cells cs 57) := ⟨_, rfl⟩
  rw [← h1] at s1 r1 b1 ⊢
  have hnew := heap_alloc_new w1 (.cells #[.string ⟨#[115]⟩, .slice (some ⟨w.heap.size, 0, none⟩) 1 1] 52)
  have b2 := below_box w1 (.cells #[.string ⟨#[115]⟩, .slice (some ⟨w.heap.size, 0, none⟩) 1 1] 52)
  have s2 := World.size_alloc w1 (.cells #[.string ⟨#[115]⟩, .slice (some ⟨w.heap.size, 0, none⟩) 1 1] 52)
  rw [s1] at hnew
  have key := fun j => cell_of_row (w1.alloc (.cells #[.string ⟨#[115]⟩, .slice (some ⟨w.heap.size, 0, none⟩) 1 1] 52)) (w.heap.size + 1) j _ 52 (0, 0) hnew
  refine ⟨⟨fun k g hg => ?_, by show 1 ≤ _; omega, fun g hg => ?_⟩, b1.trans (b2.mono b1.size)⟩
  · match k, hg with
    | 0, hg =>
      cases hg
      exact ⟨_, 0, _, 1, rfl, by omega, key 0, key 1, r1.below b2 (Nat.le_refl _)⟩
    | k + 1, hg => simp [lvG] at hg
  · simp only [lvG, List.mem_cons, List.not_mem_nil, or_false] at hg
    subst hg
    refine ⟨by show 1 ≤ _; omega, by show 1 ≤ _; omega, fun m hm => ?_⟩
    simp only [List.mem_cons, List.not_mem_nil, or_false] at hm
    subst hm
    exact ht
set_option maxRecDepth 100000 in
set_option maxHeartbeats 16000000 in
theorem lives_any (w : World) : Calls Tryz.prog 6 #[] w fun e w' => e = .returned (.bool true) ∧ Below w.heap.size w w' := by
  obtain ⟨w1, hw1⟩ : ∃ w1, w1 = ((w.alloc (.cells #[.int .i64 3, .int .i64 0, .string ⟨#[]⟩, .int .u64 0, .int .u64 0, .int .u64 0, .int .u64 0] 57)).alloc (.cells #[.string ⟨#[115]⟩, .slice (some ⟨w.heap.size, 0, none⟩) 1 1] 52)) := ⟨_, rfl⟩
  have HE1 := (show Hid (((w.alloc (.cells #[.int .i64 3, .int .i64 0, .string ⟨#[]⟩, .int .u64 0, .int .u64 0, .int .u64 0, .int .u64 0] 57)).alloc (.cells #[.string ⟨#[115]⟩, .slice (some ⟨w.heap.size, 0, none⟩) 1 1] 52)) = w1) from hw1.symm)
  have h1 := lv_gi w lvA #[.int .i64 3, .int .i64 0, .string ⟨#[]⟩, .int .u64 0, .int .u64 0, .int .u64 0, .int .u64 0] rfl (by show 0 ≤ _; omega)
  rw [← hw1] at h1
  have HB1 := (show Hid (Below w.heap.size w w1) from h1.2)
  have HC1 := (show Hid (∀ _ : Unit, Calls Tryz.prog 7 #[.agg #[.slice (some ⟨w.heap.size + 1, 0, none⟩) 1 1]] w1 fun e w' => (∃ (A : Option Addr) (n c p q : Nat), e = .returned (.tuple #[.agg #[.slice A n c, .int .i64 (p : Int), .int .i64 (q : Int)], .int .i64 0])) ∧ Below w1.heap.size w1 w') from fun _ => by
    refine (fcheck_any (lvG lvA) (some ⟨w.heap.size + 1, 0, none⟩) 1 w1 h1.1).mono ?_
    rintro e w' ⟨⟨vc, l, p, q, cd, rfl, hv, ho⟩, b⟩
    obtain ⟨A, c, rfl⟩ := own_slice ho
    rw [lv_va hv]
    exact ⟨⟨A, _, c, p, q, rfl⟩, b⟩)
  have HC2 := (show Hid (∀ W : World, Calls Tryz.prog 7 #[.agg #[.slice (some ⟨W.heap.size + 1, 0, none⟩) 1 1]] ((W.alloc (.cells #[.int .i64 6, .int .i64 0, .string ⟨#[115]⟩, .int .u64 0, .int .u64 0, .int .u64 0, .int .u64 0] 57)).alloc (.cells #[.string ⟨#[115]⟩, .slice (some ⟨W.heap.size, 0, none⟩) 1 1] 52)) fun e w' => (∃ (A : Option Addr) (c p q : Nat), e = .returned (.tuple #[.agg #[.slice A 1 c, .int .i64 (p : Int), .int .i64 (q : Int)], .int .i64 100])) ∧ Below W.heap.size W w') from fun W => by
    have h2 := lv_gi W lvB #[.int .i64 6, .int .i64 0, .string ⟨#[115]⟩, .int .u64 0, .int .u64 0, .int .u64 0, .int .u64 0] rfl (by show 1 ≤ _; omega)
    refine (fcheck_any (lvG lvB) (some ⟨W.heap.size + 1, 0, none⟩) 1 _ h2.1).mono ?_
    rintro e w' ⟨⟨vc, l, p, q, cd, rfl, hv, ho⟩, b⟩
    obtain ⟨A, c, rfl⟩ := own_slice ho
    obtain ⟨e1, e2⟩ := lv_vb hv
    rw [e1, e2]
    exact ⟨⟨A, c, p, q, rfl⟩, h2.2.trans (b.mono h2.2.size)⟩)
  clear h1 hw1
  go_enter Tryz.func6, Tryz.ntmps6
  go_wp2_with (rw [HE1.out])
  refine (HC1.out ()).mono ?_
  rintro e w2 ⟨⟨A, n, c, p, q, rfl⟩, b2⟩
  have HB2 := (show Hid (Below w.heap.size w w2) from HB1.out.trans (b2.mono HB1.out.size))
  clear HC1 HE1 b2 HB1
  obtain ⟨w3, hw3⟩ : ∃ w3, w3 = w2.alloc (.cells #[.slice A n c, .int .i64 (p : Int), .int .i64 (q : Int)] 33) := ⟨_, rfl⟩
  have HE3 := (show Hid (w2.alloc (.cells #[.slice A n c, .int .i64 (p : Int), .int .i64 (q : Int)] 33) = w3) from hw3.symm)
  have HB3 := (show Hid (Below w.heap.size w w3) from by rw [hw3]; exact HB2.out.trans ((below_box _ _).mono HB2.out.size))
  clear hw3 HB2
  go_wp2_with (rw [HE3.out])
  refine (HC2.out w3).mono ?_
  rintro e w4 ⟨⟨A4, c4, p4, q4, rfl⟩, b4⟩
  have HB4 := (show Hid (Below w.heap.size w w4) from HB3.out.trans (b4.mono HB3.out.size))
  clear HC2 HE3 b4 HB3
  obtain ⟨w5, hw5⟩ : ∃ w5, w5 = w4.alloc (.cells #[.slice A4 1 c4, .int .i64 (p4 : Int), .int .i64 (q4 : Int)] 33) := ⟨_, rfl⟩
  have HE5 := (show Hid (w4.alloc (.cells #[.slice A4 1 c4, .int .i64 (p4 : Int), .int .i64 (q4 : Int)] 33) = w5) from hw5.symm)
  have HB5 := (show Hid (Below w.heap.size w w5) from by rw [hw5]; exact HB4.out.trans ((below_box _ _).mono HB4.out.size))
  have hd5 : DX w5 w4.heap.size (.slice A4 1 c4) (p4 : Int) (q4 : Int) := by rw [hw5]; exact DX.new w4 _ _ _
  have c0 := hd5.c0
  clear hw5 HB4 hd5
  go_wp2_with (rw [HE5.out])
  go_ret
  exact ⟨rfl, HB5.out⟩
end Go.Proofs.YtbipjdgholdhcabGreat.N

namespace Go.Proofs.YtbipjdgholdhcabGreat.N
open Go.RowKit
open Go.Proofs.YtbipjdgholdhcabGreat.T (RdN below_drewN below_box)
/-- A slice reads as a grammar's rules. -/
def GrR (W : World) (u : Value) (gs : List (ByteArray × List Nd)) : Prop := ∃ A c, u = .slice A gs.length c ∧ ∀ (k : Nat) g, gs[k]? = some g → ∃ b o A2 c2, A = some ⟨b, o, none⟩ ∧ b < W.heap.size ∧ W.cell? ⟨b, o + k * 2, none⟩ = some (.string g.1) ∧ W.cell? ⟨b, o + k * 2 + 1, none⟩ = some (.slice A2 g.2.length c2) ∧ RdN W A2 g.2
end Go.Proofs.YtbipjdgholdhcabGreat.N

namespace Go.Proofs.YtbipjdgholdhcabGreat.N
open Go.RowKit
open Go.Proofs.YtbipjdgholdhcabGreat.T (below_box)
theorem ret_gx {fn : Func} {R : Ending → World → Prop} {act : Act} {W : World} {k : Nat} {a : Value} (hF : fn.results = #[.cell 2 24]) (hd : act.defers = []) (h2 : act.tmps.getD 2 undef = .pointer (some ⟨k, 0, none⟩)) (hT : GX W k a) (hR : R (.returned (.agg #[a])) W) : bodyPost Tryz.prog fn R .ret act W := by
  have c0 := hT.cl
  refine bodyPost_ret (v := .agg #[a]) ?_ hd hR
  simp only [Array.getD_eq_getD_getElem?] at h2
  simp [results, hF, go_sem, h2, c0]
/-- A call with one argument as a step of a region that draws its order. -/
theorem step_call1 {F : Nat} (hen : ∀ args w, (callFunc F args).run Tryz.prog w = .ok (.enter F args) w) {ops : Array Oper} {o : Oper} {a : Act} {w : World} {K : Act → World → Prop} {Q : Exit → Act → World → Prop} {E : Prop} (hgd : o.guard = none) (x : Operand) (T : TypeId) (ho : o.op = .call { callee := .value (.func F), args := #[x], argTypes := #[T] }) (v : Value) (hx : a.eval x = v)
    (hc : Calls Tryz.prog F #[v] w fun e w' => ∃ r, e = .returned r ∧ K (a.put o.dst r) w') :
    if Region.wanted o (yielded ops a.tmps) = true then Oper.wp Tryz.prog o a w K Q else E := by
  have hw : Region.wanted o (yielded ops a.tmps) = true := by simp [Region.wanted, hgd]
  rw [if_pos hw]
  have he : (execOp a.eval o).run Tryz.prog w = .ok (.enter F #[v]) w := by
    unfold execOp
    simp [ho, go_sem, invoke, hen]
    rw [← hx]
    cases x <;> simp [Act.eval]
  unfold Oper.wp
  rw [he, Oper.upon_enter]
  refine hc.mono ?_
  rintro e w' ⟨r, rfl, hk⟩
  exact hk
end Go.Proofs.YtbipjdgholdhcabGreat.N

namespace Go.Proofs.YtbipjdgholdhcabGreat.N
open Go.RowKit Go.Maps
open Go.Proofs.YtbipjdgholdhcabGreat.T
theorem vd_doc {gs : GL} {l : List Nat} {p q : Nat} {cd : Int} (h : VdR gs l p q cd) : ∃ now, ((ckG gs).2 = 0 → KnF gs now ∧ now.length = gs.length) ∧ VdD gs now l p q cd := by
  by_cases hz : (ckG gs).2 = 0
  · obtain ⟨now, h1, h2, h3⟩ := h.2 hz
    exact ⟨now, fun _ => ⟨h1, h2⟩, fun q => absurd hz q, fun _ => h3⟩
  · exact ⟨[], fun q => absurd q hz, h.1, fun q => absurd q hz⟩
theorem vd_one {gs : GL} {now : List Em} {l l2 : List Nat} {p q p2 q2 : Nat} {cd cd2 : Int} (h : VdD gs now l p q cd) (g : VdD gs now l2 p2 q2 cd2) : l2 = l ∧ p2 = p ∧ q2 = q ∧ cd2 = cd := by
  by_cases hz : (ckG gs).2 = 0
  · have hc := hdM_lt (nb := nbE now) (ckG_ok.1 hz)
    obtain ⟨cy, h1, h2⟩ := h.2 hz
    obtain ⟨cy2, g1, g2⟩ := g.2 hz
    obtain rfl := h1.one hc g1
    rcases h2 with ⟨a1, rfl, rfl, rfl, rfl⟩ | ⟨a1, rfl, h2⟩
    · rcases g2 with ⟨_, rfl, rfl, rfl, rfl⟩ | ⟨b1, _⟩
      · exact ⟨rfl, rfl, rfl, rfl⟩
      · exact absurd b1 a1
    · rcases g2 with ⟨b1, _⟩ | ⟨_, rfl, g2⟩
      · exact absurd a1 b1
      · rcases h2 with ⟨s, r, e1, rfl, rfl, rfl⟩ | ⟨e1, rfl, rfl, rfl⟩
        · rcases g2 with ⟨s2, r2, e2, rfl, rfl, rfl⟩ | ⟨e2, _⟩
          · rw [e1] at e2
            obtain ⟨rfl, _⟩ := List.cons.inj e2
            exact ⟨rfl, rfl, rfl, rfl⟩
          · rw [e1] at e2; cases e2
        · rcases g2 with ⟨s2, r2, e2, _⟩ | ⟨_, rfl, rfl, rfl⟩
          · rw [e1] at e2; cases e2
          · exact ⟨rfl, rfl, rfl, rfl⟩
  · obtain ⟨rfl, h1, rfl⟩ := h.1 hz
    obtain ⟨rfl, g1, rfl⟩ := g.1 hz
    rw [← g1] at h1
    obtain ⟨rfl, rfl⟩ := Prod.mk.inj h1
    exact ⟨rfl, rfl, rfl, rfl⟩
theorem vd_len {gs : GL} {now : List Em} {l : List Nat} {p q : Nat} {cd : Int} (h : VdD gs now l p q cd) : l.length ≤ 200 := by
  by_cases hz : (ckG gs).2 = 0
  · have hR := ckG_ok.1 hz
    obtain ⟨cy, h1, h2⟩ := h.2 hz
    rcases h2 with ⟨_, rfl, _⟩ | ⟨_, rfl, _⟩
    · rcases h1 with ⟨rfl, _⟩ | ⟨r, m, hd, _, hp⟩
      · exact Nat.zero_le _
      · rw [hp.n]
        exact Nat.le_trans (Ds.few (hdM_lt hR) hd) hR.n2
    · exact Nat.zero_le _
  · rw [(h.1 hz).1]; exact Nat.zero_le _
end Go.Proofs.YtbipjdgholdhcabGreat.N

namespace Go.Proofs.YtbipjdgholdhcabGreat.N
open Go.RowKit Go.Maps
open Go.Proofs.YtbipjdgholdhcabGreat.T

open U (own_get own_slice below_grown TT)
theorem pgS_bd {gs : GL} {bd bd2 : Nat → Bool} (h : ∀ i, i < gs.length → bd i = bd2 i) : pgS gs bd = pgS gs bd2 := by
  unfold pgS
  refine List.map_congr_left fun i hi => ?_
  rw [h i (List.mem_range.1 hi)]
theorem rdE_bd0 {gs : GL} {kd : List Nd → Nat → List Nat} {bd bd2 : Nat → Bool} (h : ∀ i, i < gs.length → bd i = bd2 i) (now : List Em) : rdE gs kd bd now = rdE gs kd bd2 now := by
  apply List.ext_getElem?
  intro i
  by_cases hi : i < gs.length
  · have hg : gs[i]? = some gs[i] := List.getElem?_eq_getElem hi
    rw [rdE_get hg, rdE_get hg, h i hi]
  · rw [List.getElem?_eq_none (by rw [rdE_len]; omega), List.getElem?_eq_none (by rw [rdE_len]; omega)]
theorem pgE_bd {gs : GL} {kd : List Nd → Nat → List Nat} {bd bd2 : Nat → Bool} (h : ∀ i, i < gs.length → bd i = bd2 i) : ∀ m, pgE gs kd bd m = pgE gs kd bd2 m := by
  intro m
  induction m with
  | zero => exact pgS_bd h
  | succ m ih =>
    show rdE gs kd bd (pgE gs kd bd m) = rdE gs kd bd2 (pgE gs kd bd2 m)
    rw [ih, rdE_bd0 h]
theorem kf_same {gs : GL} {a b : List Em} (h1 : KnF gs a) (h2 : KnF gs b) : a = b := by
  obtain ⟨R, bd, m, hI, hbd, rfl, he⟩ := h1
  obtain ⟨R2, bd2, m2, hI2, hbd2, rfl, he2⟩ := h2
  have hs : ∀ i, i < gs.length → bd2 i = bd i := fun i hi => by
    rw [hbd2 i, hbd i]
    congr 1
    rw [Bool.eq_iff_iff, hI2.rl i i hi hi, hI.rl i i hi hi]
  rw [pgE_bd hs] at he2 ⊢
  rw [pgE_bd hs] at he2
  have e1 := pg_fix he m2
  have e2 := pg_fix he2 m
  rw [← e1, ← e2, Nat.add_comm]
end Go.Proofs.YtbipjdgholdhcabGreat.N
