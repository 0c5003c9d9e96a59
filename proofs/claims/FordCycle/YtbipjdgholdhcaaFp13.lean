/- DERIVED. Plain mathematics and walks, laid together (13). -/
import Derived.Test.YtbipjdgholdhcaaFp12
namespace Go.Proofs.Ytbipjdgholdhcaa.N
open Go.RowKit Go.Maps
open Go.Proofs.Ytbipjdgholdhcaa.T

open U (below_grown own_get own_slice)
set_option maxRecDepth 100000 in
set_option maxHeartbeats 8000000 in
theorem repeats_any (n : Nd) (w : World) : Calls Try.prog 22 #[ndG n] w fun e w' => e = .returned (.bool (rpB n)) ∧ Below w.heap.size w w' := by
  obtain ⟨w1, hw1⟩ : ∃ w1, w1 = w.alloc (.cells #[.int .i64 n.op, .int .i64 n.nn, .string n.tx, .int .u64 n.s0, .int .u64 n.s1, .int .u64 n.s2, .int .u64 n.s3] 51) := ⟨_, rfl⟩
  have HE1 := (show Hid (w.alloc (.cells #[.int .i64 n.op, .int .i64 n.nn, .string n.tx, .int .u64 n.s0, .int .u64 n.s1, .int .u64 n.s2, .int .u64 n.s3] 51) = w1) from hw1.symm)
  have HN := (show Hid (NX w1 w.heap.size n) from by rw [hw1]; exact ⟨heap_alloc_new w _⟩)
  have HB := (show Hid (Below w.heap.size w w1) from by rw [hw1]; exact below_box _ _)
  have q0 : w1.cell? ⟨w.heap.size, 0, none⟩ = some (.int .i64 n.op) := HN.out.nb.c0
  have HR := (show Hid (rpB n = (n.op == 9 || (n.op == 10 || n.op == 15))) from rfl)
  clear hw1
  by_cases h9 : n.op = 9
  · have t9 : (n.op == 9) = true := by rw [h9]; rfl
    have e : rpB n = true := by rw [HR.out, t9]; rfl
    rw [e]
    clear h9 e
    go_enter Try.func22, Try.ntmps22
    go_wp2_with (rw [HE1.out])
    go_ret
    exact ⟨rfl, HB.out⟩
  by_cases h10 : n.op = 10
  · have t9 : (n.op == 9) = false := by rw [h10]; rfl
    have t10 : (n.op == 10) = true := by rw [h10]; rfl
    have e : rpB n = true := by rw [HR.out, t9, t10]; rfl
    rw [e]
    clear h9 h10 e
    go_enter Try.func22, Try.ntmps22
    go_wp2_with (rw [HE1.out])
    go_ret
    exact ⟨rfl, HB.out⟩
  by_cases h15 : n.op = 15
  · have t9 : (n.op == 9) = false := by rw [h15]; rfl
    have t10 : (n.op == 10) = false := by rw [h15]; rfl
    have t15 : (n.op == 15) = true := by rw [h15]; rfl
    have e : rpB n = true := by rw [HR.out, t9, t10, t15]; rfl
    rw [e]
    clear h9 h10 h15 e
    go_enter Try.func22, Try.ntmps22
    go_wp2_with (rw [HE1.out])
    go_ret
    exact ⟨rfl, HB.out⟩
  · have t9 : (n.op == 9) = false := by rw [beq_eq_false_iff_ne]; omega
    have t10 : (n.op == 10) = false := by rw [beq_eq_false_iff_ne]; omega
    have t15 : (n.op == 15) = false := by rw [beq_eq_false_iff_ne]; omega
    have e : rpB n = false := by rw [HR.out, t9, t10, t15]; rfl
    rw [e]
    clear h9 h10 h15 e
    go_enter Try.func22, Try.ntmps22
    go_wp2_with (rw [HE1.out])
    go_ret
    exact ⟨rfl, HB.out⟩

theorem Try.infoSp : (Try.prog.info? 27).map (fun i => (i.zero, i.size, i.bytes)) = some (some (.agg #[.int .i64 0, .int .i64 0]), 2, 16) := by kernel_rfl
/-- One more behind a row of spots. -/
theorem wpList_appS {ops : Array Oper} {rest : List Oper} {o : Oper} {a : Act} {Q : Exit → Act → World → Prop} {W : World} {p1 p2 : Nat} (hgd : o.guard = none) (s x : Operand)
    (ho : o.op = .call { callee := .builtin .append, args := #[s, x], argTypes := #[36, 36] })
    (base n : Nat) (v : Value) (l : List (Nat × Nat)) (hs : a.eval s = v) (hx : a.eval x = .slice (some ⟨W.heap.size, 0, none⟩) 1 1) (hown : W.ownsRow base 27 2 v n (spc l)) (hn : n ≤ 1000000) (hbase : base ≤ W.heap.size)
    (h : ∀ g cap w', w'.ownsRow base 27 2 (.slice (some ⟨g, 0, none⟩) (n + 1) cap) (n + 1) (spc (l ++ [(p1, p2)])) → W.grownBy w' v.ownBlock → wpList Try.prog ops Q rest (a.put o.dst (.slice (some ⟨g, 0, none⟩) (n + 1) cap)) w') :
    wpList Try.prog ops Q (o :: rest) a (W.alloc (.cells #[.int .i64 (p1 : Int), .int .i64 (p2 : Int)] 27)) := by
  obtain ⟨i0, hinf, hz0, hz1, hz2⟩ := info_parts Try.infoSp
  refine wpList_append_lies (W.alloc (.cells #[.int .i64 (p1 : Int), .int .i64 (p2 : Int)] 27)) hgd s x 36 ho base 27 i0 _ 2 16 Try.underlying36 hinf hz0 hz1 hz2 rfl (by decide) v n (spc l) hs (hown.alloc _) ⟨W.heap.size, 0, none⟩ 1 1 (spV (p1, p2)) hx rfl (World.news_of_block (cs := #[.int .i64 (p1 : Int), .int .i64 (p2 : Int)]) (t := 27) (fr := (0, 0)) (heap_alloc_new W _)) (sp_one _) (by decide) (by unfold maxLen; omega) (by omega) (by rw [World.size_alloc]; omega) (W.heap.size + 1) (by rw [World.size_alloc]) ?_
  intro g cap w' h2 h3 _ _
  refine h g cap w' ?_ (U.grow_alloc h3)
  rw [spc_app, spc_one]
  exact h2
theorem own_fs {W : World} {B n : Nat} {v : Value} {xs : List Value} (h : W.ownsRow B 27 2 v n xs) : ∃ A c, v = .slice A n c := by
  rcases h.2 with ⟨rfl, rfl⟩ | ⟨g, cap, cur, rfl, _⟩
  · exact ⟨_, _, rfl⟩
  · exact ⟨_, _, rfl⟩
/-- While loops are told. -/
structure LoS (w wr : World) (r m kv : Value) (N n : Nat) (l : List (Nat × Nat)) (v : Value) : Prop where
  b : Below w.heap.size w wr
  x : VX wr w.heap.size r m kv
  o : wr.ownsRow N 27 2 v n (spc l)
  l : n = l.length
  n : w.heap.size + 1 ≤ N ∧ N ≤ wr.heap.size
theorem LoS.later {w wr w2 : World} {r m kv : Value} {N n : Nat} {l : List (Nat × Nat)} {v : Value} (h : LoS w wr r m kv N n l v) (hb : Below wr.heap.size wr w2) : LoS w w2 r m kv N n l v :=
  ⟨h.b.trans (hb.mono h.b.size), h.x.below hb, U.own_below h.o hb, h.l, h.n.1, Nat.le_trans h.n.2 hb.size⟩
theorem LoS.push {w wr w2 : World} {r m kv : Value} {N n : Nat} {l : List (Nat × Nat)} {v v2 : Value} {p : Nat × Nat} (h : LoS w wr r m kv N n l v) (ho : w2.ownsRow N 27 2 v2 (n + 1) (spc (l ++ [p]))) (hg : wr.grownBy w2 v.ownBlock) : LoS w w2 r m kv N (n + 1) (l ++ [p]) v2 := by
  have hlow : ∀ q, v.ownBlock = some q → N ≤ q := fun q hq => (h.o.lt q hq).1
  have hn := h.n
  refine ⟨below_grown h.b hg (fun q e => by have := hlow q e; omega), h.x.same (hg.block _ h.x.lt (fun e => by have := hlow _ e.symm; omega)), ho, by rw [List.length_append, h.l]; rfl, hn.1, Nat.le_trans hn.2 hg.size⟩
/-- Besides: which parts of the rule may match nothing. -/
structure LpS (w wr : World) (r m kv : Value) (N n : Nat) (l : List (Nat × Nat)) (v : Value) (gN cN ln : Nat) (E : Nat → Bool) : Prop where
  s : LoS w wr r m kv N n l v
  o : wr.ownsRow w.heap.size 4 1 (.slice (some ⟨gN, 0, none⟩) ln cN) ln ((List.range ln).map fun j => Value.bool (E j))
theorem LpS.later {w wr w2 : World} {r m kv : Value} {N n : Nat} {l : List (Nat × Nat)} {v : Value} {gN cN ln : Nat} {E : Nat → Bool} (h : LpS w wr r m kv N n l v gN cN ln E) (hb : Below wr.heap.size wr w2) : LpS w w2 r m kv N n l v gN cN ln E := ⟨h.s.later hb, U.own_below h.o hb⟩
theorem LpS.push {w wr w2 : World} {r m kv : Value} {N n : Nat} {l : List (Nat × Nat)} {v v2 : Value} {gN cN ln : Nat} {E : Nat → Bool} {p : Nat × Nat} (h : LpS w wr r m kv N n l v gN cN ln E) (ho : w2.ownsRow N 27 2 v2 (n + 1) (spc (l ++ [p]))) (hg : wr.grownBy w2 v.ownBlock) : LpS w w2 r m kv N (n + 1) (l ++ [p]) v2 gN cN ln E :=
  ⟨h.s.push ho hg, U.own_kept h.o hg (fun k e => own_apart h.s.o h.o (by decide) e)⟩
theorem LpS.at' {w wr : World} {r m kv : Value} {N n : Nat} {l : List (Nat × Nat)} {v : Value} {gN cN ln : Nat} {E : Nat → Bool} (h : LpS w wr r m kv N n l v gN cN ln E) {j : Nat} (hj : j < ln) : wr.cell? ⟨gN, j, none⟩ = some (.bool (E j)) := by
  obtain ⟨g5, c5, e5, _, _, x5, _⟩ := own_get h.o (j := j) (x := .bool (E j)) (by rw [List.getElem?_map, List.getElem?_range hj]; rfl)
  injection e5 with e6 _ _
  obtain ⟨rfl, _⟩ := Addr.mk.inj (Option.some.inj e6)
  exact x5
set_option maxRecDepth 100000 in
set_option maxHeartbeats 32000000 in
theorem vloops_any {gs : GL} {now : List Em} (mb : Nat) (A Ak : Option Addr) (c ck : Nat) (w : World) (hv : VwO w gs A mb Ak now) :
    Calls Try.prog 14 #[.agg #[.slice A gs.length c, .map (some mb), .slice Ak gs.length ck]] w fun e w' => (∃ v, e = .returned v ∧ w'.ownsRow w.heap.size 27 2 v (lpG gs (nbE now) gs.length).length (spc (lpG gs (nbE now) gs.length))) ∧ Below w.heap.size w w' := by
  have hn2 := hv.R.n2
  obtain ⟨w1, hw1⟩ : ∃ w1, w1 = w.alloc (.cells #[.slice A gs.length c, .map (some mb), .slice Ak gs.length ck] 59) := ⟨_, rfl⟩
  have HE1 := (show Hid (w.alloc (.cells #[.slice A gs.length c, .map (some mb), .slice Ak gs.length ck] 59) = w1) from hw1.symm)
  have hb1 : Below w.heap.size w w1 := by rw [hw1]; exact below_box _ _
  have hs1 : w1.heap.size = w.heap.size + 1 := by rw [hw1, World.size_alloc]
  have hx1 : VX w1 w.heap.size (.slice A gs.length c) (.map (some mb)) (.slice Ak gs.length ck) := by rw [hw1]; exact VX.new w _ _ _
  have HS := (show Hid (LoS w w1 (.slice A gs.length c) (.map (some mb)) (.slice Ak gs.length ck) (w.heap.size + 1) 0 (lpG gs (nbE now) 0) (.slice none 0 0)) from ⟨hb1, hx1, World.ownsRow_nil _ _ _ _, rfl, Nat.le_refl _, by omega⟩)
  have HV := (show Hid (VwO w gs A mb Ak now) from hv)
  have HLe := (show Hid (∀ i, i ≤ gs.length → (lpG gs (nbE now) i).length ≤ 409600) from fun i hi => by
    have h := lpG_len (nb := nbE now) (fun g hg => (rt_facts hv.R hg).2.2.2.2) i
    have : i * 2048 ≤ 200 * 2048 := Nat.mul_le_mul_right _ (by omega)
    omega)
  have y0 : w1.cell? ⟨w.heap.size, 0, none⟩ = _ := hx1.c0
  clear hw1 hb1 hs1 hx1 hv
  go_enter Try.func14, Try.ntmps14
  go_wp2_with (rw [HE1.out])
  clear HE1 y0
  go_loopw [3, 12] (fun v t wr => ∃ (k n : Nat), k ≤ gs.length ∧ n ≤ 409600 ∧ t = .int .i64 (k : Int) ∧ Hid (LoS w wr (.slice A gs.length c) (.map (some mb)) (.slice Ak gs.length ck) (w.heap.size + 1) n (lpG gs (nbE now) k) v)) (fun _ t _ => gs.length - (intOf t).toNat)
  case atStart => exact ⟨0, 0, Nat.zero_le _, by omega, by go_num, HS⟩
  case round =>
    obtain ⟨k, n, hk, hn, rfl, HW⟩ := hrel
    clear HS
    by_cases hlt : k < gs.length
    · obtain ⟨⟨gn, L⟩, hg⟩ : ∃ g, gs[k]? = some g := ⟨_, List.getElem?_eq_getElem hlt⟩
      have hm := List.mem_of_getElem? hg
      obtain ⟨hrt, _, _, hpos, hlen⟩ := rt_facts HV.out.R hm
      have hrt : Rt L := hrt
      have hpos : 0 < L.length := hpos
      have hlen : L.length ≤ 2048 := hlen
      obtain ⟨b, o, A3, c3, rfl, lb, x0, x1, r2⟩ := HV.out.g.d k _ hg
      have hLn : L ≠ [] := by rintro rfl; simp at hpos
      obtain ⟨gp, op, rfl, lp, cl⟩ := r2 hLn
      have x0' := (HW.out.b.cell (p := ⟨b, o + k * 2, none⟩) lb).trans x0
      have x1' := (HW.out.b.cell (p := ⟨b, o + k * 2 + 1, none⟩) lb).trans x1
      have z0 : (0 : Int) ≤ (k : Int) := by omega
      have z1 : (k : Int) < (gs.length : Int) := by omega
      obtain ⟨w4, hw4⟩ : ∃ w4, w4 = wr.alloc (.cells #[.string gn, .slice (some ⟨gp, op, none⟩) L.length c3] 55) := ⟨_, rfl⟩
      have HE4 := (show Hid (wr.alloc (.cells #[.string gn, .slice (some ⟨gp, op, none⟩) L.length c3] 55) = w4) from hw4.symm)
      have hb4 : Below wr.heap.size wr w4 := by rw [hw4]; exact below_box _ _
      have HR4 := (show Hid (RB w4 wr.heap.size gn (.slice (some ⟨gp, op, none⟩) L.length c3)) from by rw [hw4]; exact ⟨heap_alloc_new wr _⟩)
      have HW4 := (show Hid (LoS w w4 (.slice (some ⟨b, o, none⟩) gs.length c) (.map (some mb)) (.slice Ak gs.length ck) (w.heap.size + 1) n (lpG gs (nbE now) k) u3) from HW.out.later hb4)
      have y0 := HW4.out.x.c0
      have y1 := HW4.out.x.c1
      have y2 := HW4.out.x.c2
      have HNu := (show Hid (∀ _ : Unit, Calls Try.prog 21 #[.agg #[.slice (some ⟨b, o, none⟩) gs.length c, .map (some mb), .slice Ak gs.length ck], .int .i64 (k : Int)] w4 fun e w' => (∃ v, e = .returned v ∧ w'.ownsRow w4.heap.size 4 1 v L.length ((List.range L.length).map fun j => Value.bool (nuR gs now L j))) ∧ Below w4.heap.size w4 w') from fun _ => nullable_any mb (some ⟨b, o, none⟩) Ak c ck hg w4 (HV.out.later HW4.out.b))
      have HCl := (show Hid (NdL w gp op L ∧ gp < w.heap.size) from ⟨cl, lp⟩)
      have HLk := (show Hid (∀ j, j ≤ L.length → (lpG gs (nbE now) k ++ lpK k L (nuR gs now L) j).length ≤ 409600) from fun j hj => by
        have h1 := lpG_len (nb := nbE now) (fun g hg => (rt_facts HV.out.R hg).2.2.2.2) k
        have h2 := lpK_len (i := k) (L := L) (nu := nuR gs now L) j
        have : k * 2048 ≤ 199 * 2048 := Nat.mul_le_mul_right _ (by omega)
        rw [List.length_append]
        omega)
      have HSuc := (show Hid (∀ (j : Nat) n, L[j]? = some n → lpG gs (nbE now) k ++ lpK k L (nuR gs now L) (j + 1) = if rpB n && nuR gs now L (j - 1) then (lpG gs (nbE now) k ++ lpK k L (nuR gs now L) j) ++ [(k, j)] else lpG gs (nbE now) k ++ lpK k L (nuR gs now L) j) from fun j n hn => by
        rw [lpK_succ hn]
        split
        · rw [List.append_assoc]
        · rfl)
      have HFin := (show Hid (lpG gs (nbE now) k ++ lpK k L (nuR gs now L) L.length = lpG gs (nbE now) (k + 1)) from (lpG_succ hg).symm)
      have HRt := (show Hid (Rt L) from hrt)
      clear hg hm hrt lb x0 x1 r2 hLn lp cl hw4 hb4 HW
      go_wp2_with (rw [HE4.out])
      refine (HNu.out ()).mono ?_
      rintro e w5 ⟨⟨v5, rfl, ho5⟩, b5⟩
      obtain ⟨gN, cN, rfl, _, _, _, _⟩ := own_get ho5 (j := 0) (x := .bool (nuR gs now L 0)) (by rw [List.getElem?_map, List.getElem?_range hpos]; rfl)
      have HW5 := (show Hid (LpS w w5 (.slice (some ⟨b, o, none⟩) gs.length c) (.map (some mb)) (.slice Ak gs.length ck) (w.heap.size + 1) n (lpG gs (nbE now) k ++ lpK k L (nuR gs now L) 0) u3 gN cN L.length (nuR gs now L)) from ⟨by have h := HW4.out.later b5; rw [show lpK k L (nuR gs now L) 0 = [] from rfl, List.append_nil]; exact h, U.own_base ho5 HW4.out.b.size⟩)
      have r1 := (HR4.out.later b5).c1
      clear ho5 b5 HNu HE4 HR4 HW4 y0 y1 y2 x0' x1' hpos
      go_wp2_with fail
      clear r1
      go_loopw [3, 23] (fun v t wr => ∃ (j n2 : Nat), j ≤ L.length ∧ n2 ≤ 409600 ∧ t = .int .i64 (j : Int) ∧ Hid (LpS w wr (.slice (some ⟨b, o, none⟩) gs.length c) (.map (some mb)) (.slice Ak gs.length ck) (w.heap.size + 1) n2 (lpG gs (nbE now) k ++ lpK k L (nuR gs now L) j) v gN cN L.length (nuR gs now L))) (fun _ t _ => L.length - (intOf t).toNat)
      case atStart => exact ⟨0, n, Nat.zero_le _, by omega, by go_num, HW5⟩
      case round =>
        obtain ⟨j, n2, hj, hn2', rfl, HX⟩ := hrel
        clear HW5
        by_cases hjl : j < L.length
        · obtain ⟨nd, hnd⟩ : ∃ nd, L[j]? = some nd := ⟨_, List.getElem?_eq_getElem hjl⟩
          obtain ⟨c0, c1, c2, c3', c4, c5, c6⟩ := (HCl.out.1.same (HX.out.s.b.block gp HCl.out.2)) j nd hnd
          have z2 : (0 : Int) ≤ (j : Int) := by omega
          have z3 : (j : Int) < (L.length : Int) := by omega
          have HSj := hid_of (HSuc.out j nd hnd)
          have HPj := (show Hid (rpB nd = true → 0 < j) from fun h => rp_pos HRt.out hnd h)
          obtain ⟨w7, hw7⟩ : ∃ w7, w7 = wr.alloc (ndO nd) := ⟨_, rfl⟩
          have HE7 := (show Hid (wr.alloc (.cells #[.int .i64 nd.op, .int .i64 nd.nn, .string nd.tx, .int .u64 nd.s0, .int .u64 nd.s1, .int .u64 nd.s2, .int .u64 nd.s3] 51) = w7) from hw7.symm)
          have HN7 := (show Hid (NX w7 wr.heap.size nd) from by rw [hw7]; exact ⟨heap_alloc_new wr _⟩)
          have hb7 : Below wr.heap.size wr w7 := by rw [hw7]; exact below_box _ _
          have HX7 := (show Hid (LpS w w7 (.slice (some ⟨b, o, none⟩) gs.length c) (.map (some mb)) (.slice Ak gs.length ck) (w.heap.size + 1) n2 (lpG gs (nbE now) k ++ lpK k L (nuR gs now L) j) u3 gN cN L.length (nuR gs now L)) from HX.out.later hb7)
          have q0 : w7.cell? ⟨wr.heap.size, 0, none⟩ = some (.int .i64 nd.op) := HN7.out.nb.c0
          have q1 : w7.cell? ⟨wr.heap.size, 1, none⟩ = some (.int .i64 nd.nn) := HN7.out.nb.c1
          have q2 : w7.cell? ⟨wr.heap.size, 2, none⟩ = some (.string nd.tx) := HN7.out.nb.c2
          have q3 : w7.cell? ⟨wr.heap.size, 3, none⟩ = some (.int .u64 nd.s0) := HN7.out.nb.c3
          have q4 : w7.cell? ⟨wr.heap.size, 4, none⟩ = some (.int .u64 nd.s1) := HN7.out.nb.c4
          have q5 : w7.cell? ⟨wr.heap.size, 5, none⟩ = some (.int .u64 nd.s2) := HN7.out.nb.c5
          have q6 : w7.cell? ⟨wr.heap.size, 6, none⟩ = some (.int .u64 nd.s3) := HN7.out.nb.c6
          have HRp := (show Hid (∀ _ : Unit, Calls Try.prog 22 #[ndG nd] w7 fun e w' => e = .returned (.bool (rpB nd)) ∧ Below w7.heap.size w7 w') from fun _ => repeats_any nd w7)
          clear hnd hw7 hb7 HX HN7
          go_wp2_with (rw [HE7.out])
          refine (HRp.out ()).mono ?_
          rintro e w8 ⟨rfl, b8⟩
          have HX8 := (show Hid (LpS w w8 (.slice (some ⟨b, o, none⟩) gs.length c) (.map (some mb)) (.slice Ak gs.length ck) (w.heap.size + 1) n2 (lpG gs (nbE now) k ++ lpK k L (nuR gs now L) j) u3 gN cN L.length (nuR gs now L)) from HX7.out.later b8)
          clear HRp HE7 HX7 b8 c0 c1 c2 c3' c4 c5 c6 q0 q1 q2 q3 q4 q5 q6
          cases hrp : rpB nd with
          | false =>
            have HN := (show Hid (LpS w w8 (.slice (some ⟨b, o, none⟩) gs.length c) (.map (some mb)) (.slice Ak gs.length ck) (w.heap.size + 1) n2 (lpG gs (nbE now) k ++ lpK k L (nuR gs now L) (j + 1)) u3 gN cN L.length (nuR gs now L)) from by rw [HSj.out, hrp, Bool.false_and, if_neg Bool.noConfusion]; exact HX8.out)
            clear HX8 HSj HPj hrp
            go_wp2_with fail
            go_roundw
            case rel => exact ⟨j + 1, n2, by omega, by omega, by go_num, HN⟩
            case measure => simp [intOf]; omega
          | true =>
            obtain ⟨j0, hj0⟩ : ∃ j0, j = j0 + 1 := ⟨j - 1, by have := HPj.out hrp; omega⟩
            have hsub : (j : Int) - 1 = (j0 : Int) := by omega
            have z4 : (0 : Int) ≤ (j0 : Int) := by omega
            have z5 : (j0 : Int) < (L.length : Int) := by omega
            have m0 := HX8.out.at' (j := j0) (by omega)
            cases hnu : nuR gs now L j0 with
            | false =>
              rw [hnu] at m0
              have HN := (show Hid (LpS w w8 (.slice (some ⟨b, o, none⟩) gs.length c) (.map (some mb)) (.slice Ak gs.length ck) (w.heap.size + 1) n2 (lpG gs (nbE now) k ++ lpK k L (nuR gs now L) (j + 1)) u3 gN cN L.length (nuR gs now L)) from by rw [HSj.out, hrp, Bool.true_and, show j - 1 = j0 from by omega, hnu, if_neg Bool.noConfusion]; exact HX8.out)
              have hj1 : j + 1 ≤ L.length := by omega
              have HJ := (show Hid (j = j0 + 1) from hj0)
              clear HX8 HSj HPj hrp hnu hj0
              go_wp2_with fail
              go_roundw
              case rel => exact ⟨j + 1, n2, by omega, by omega, by go_num, HN⟩
              case measure => simp [intOf]; omega
            | true =>
              rw [hnu] at m0
              obtain ⟨A2, c2, hA2⟩ := own_fs HX8.out.s.o
              have HO8 := (show Hid (w8.ownsRow (w.heap.size + 1) 27 2 u3 n2 (spc (lpG gs (nbE now) k ++ lpK k L (nuR gs now L) j))) from HX8.out.s.o)
              have HN8 := (show Hid (w.heap.size + 1 ≤ w8.heap.size) from HX8.out.s.n.2)
              have HPu := (show Hid (∀ (g9 cap9 : Nat) (w9 : World), w9.ownsRow (w.heap.size + 1) 27 2 (.slice (some ⟨g9, 0, none⟩) (n2 + 1) cap9) (n2 + 1) (spc ((lpG gs (nbE now) k ++ lpK k L (nuR gs now L) j) ++ [(k, j)])) → w8.grownBy w9 u3.ownBlock → Hid (LpS w w9 (.slice (some ⟨b, o, none⟩) gs.length c) (.map (some mb)) (.slice Ak gs.length ck) (w.heap.size + 1) (n2 + 1) (lpG gs (nbE now) k ++ lpK k L (nuR gs now L) (j + 1)) (.slice (some ⟨g9, 0, none⟩) (n2 + 1) cap9) gN cN L.length (nuR gs now L)) ∧ n2 + 1 ≤ 409600) from fun g9 cap9 w9 h1 h2 => by
                have e : lpG gs (nbE now) k ++ lpK k L (nuR gs now L) (j + 1) = (lpG gs (nbE now) k ++ lpK k L (nuR gs now L) j) ++ [(k, j)] := by rw [HSj.out, hrp, Bool.true_and, show j - 1 = j0 from by omega, hnu, if_pos rfl]
                have hl := HX8.out.s.l
                have hb := HLk.out (j + 1) (by omega)
                rw [e, List.length_append, ← hl] at hb
                refine ⟨?_, hb⟩
                show LpS _ _ _ _ _ _ _ _ _ _ _ _ _
                rw [e]
                exact HX8.out.push h1 h2)
              have hj1 : j + 1 ≤ L.length := by omega
              have HJ := (show Hid (j = j0 + 1) from hj0)
              subst hA2
              clear HX8 HSj HPj hrp hnu hj0
              go_wp2_with (at_builtin; refine wpList_appS rfl _ _ rfl (w.heap.size + 1) n2 _ _ rfl rfl HO8.out (by omega) HN8.out ?_; intro g9 cap9 w9 ho9 hg9; obtain ⟨HV9, hn9⟩ := HPu.out g9 cap9 w9 ho9 hg9; clear ho9 hg9 HPu HO8 HN8 m0)
              go_roundw
              case rel => exact ⟨j + 1, n2 + 1, by omega, hn9, by go_num, HV9⟩
              case measure => simp [intOf]; omega
        · obtain rfl : j = L.length := by omega
          have HN := (show Hid (LoS w wr (.slice (some ⟨b, o, none⟩) gs.length c) (.map (some mb)) (.slice Ak gs.length ck) (w.heap.size + 1) n2 (lpG gs (nbE now) (k + 1)) u3) from by rw [← HFin.out]; exact HX.out.s)
          clear HX HSuc HFin HRt HLk HCl
          go_wp2_with fail
          go_roundw
          case rel => exact ⟨k + 1, n2, by omega, by omega, by go_num, HN⟩
          case measure => simp [intOf]; omega
    · obtain rfl : k = gs.length := by omega
      have HO := (show Hid (wr.ownsRow w.heap.size 27 2 u3 (lpG gs (nbE now) gs.length).length (spc (lpG gs (nbE now) gs.length)) ∧ Below w.heap.size w wr) from ⟨by have h := own_base HW.out.o (Nat.le_succ w.heap.size); rw [HW.out.l] at h; exact h, HW.out.b⟩)
      clear HW HV HLe
      go_wp2_with fail
      go_ret
      exact ⟨⟨_, rfl, HO.out.1⟩, HO.out.2⟩
end Go.Proofs.Ytbipjdgholdhcaa.N

namespace Go.Proofs.Ytbipjdgholdhcaa.N
open Go.RowKit Go.Maps
open Go.Proofs.Ytbipjdgholdhcaa.T
set_option maxRecDepth 100000 in
set_option maxHeartbeats 4000000 in
theorem checkP_any (gs : GL) (A : Option Addr) (c : Nat) (w : World) (hp : GI w A gs) :
    Calls Try.prog 16 #[.agg #[.slice A gs.length c]] w fun e w' => e = .returned (.tuple #[.agg #[.int .i64 (ckG gs).1.1, .int .i64 (ckG gs).1.2], .int .i64 (ckG gs).2]) ∧ Below w.heap.size w w' := by
  obtain ⟨w1, hw1⟩ : ∃ w1, w1 = (w.alloc (.cells #[.slice A gs.length c] 24)).alloc (.cells #[.int .i64 0, .int .i64 0] 27) := ⟨_, rfl⟩
  have HS : Hid (Below w.heap.size w w1 ∧ GX w1 w.heap.size (.slice A gs.length c) ∧ SX w1 (w.heap.size + 1) 0 0) := by
    show _ ∧ _ ∧ _
    rw [hw1]
    exact ⟨((Below.refl _ _).alloc (Nat.le_refl _) _).alloc (by rw [World.size_alloc]; omega) _, (GX.mk (heap_alloc_new w _)).below (below_box _ _), ⟨by have h := heap_alloc_new (w.alloc (.cells #[.slice A gs.length c] 24)) (.cells #[.int .i64 0, .int .i64 0] 27); rw [World.size_alloc] at h; exact h⟩⟩
  have HN := (show Hid (∀ _ : Unit, Calls Try.prog 26 #[.agg #[.slice A gs.length c]] w1 fun e w' => NuV w1 w' gs e ∧ Below w1.heap.size w1 w') from fun _ => numb_any gs A c hp.l hp.t w1 (hp.d.later (by rw [hw1]; exact ((Below.refl _ _).alloc (Nat.le_refl _) _).alloc (by rw [World.size_alloc]; omega) _)))
  have q1 := HS.out.2.1.cl
  clear hp
  go_enter Try.func16, Try.ntmps16
  go_wp2_with fail
  rw [← hw1]
  refine (HN.out ()).mono ?_
  rintro e w3 ⟨hv, b3⟩
  obtain ⟨mv, rfl, _⟩ := hv.form
  have HB := (show Hid (Below w.heap.size w w3) from HS.out.1.trans (b3.mono HS.out.1.size))
  have HX := (show Hid (SX w3 (w.heap.size + 1) 0 0) from HS.out.2.2.below b3)
  clear HN HS b3 q1 hw1 hv
  obtain ⟨ca, cb, cd, hcc⟩ : ∃ (ca cb : Nat) (cd : Int), ckG gs = ((ca, cb), cd) := ⟨_, _, _, rfl⟩
  have HCC := (show Hid (ckG gs = ((ca, cb), cd)) from hcc)
  rw [hcc]
  clear hcc
  have c0 := HX.out.c0
  have c1 := HX.out.c1
  have f0 := HX.out.fz 0
  have f1 := HX.out.fz 1
  have HX2 := (show Hid (SX ((w3.setCell ⟨w.heap.size + 1, 0, none⟩ (.int .i64 (ca : Int))).setCell ⟨w.heap.size + 1, 1, none⟩ (.int .i64 (cb : Int))) (w.heap.size + 1) ca cb) from HX.out.set _ _)
  have HX3 := (show Hid (SX ((((w3.setCell ⟨w.heap.size + 1, 0, none⟩ (.int .i64 (ca : Int))).setCell ⟨w.heap.size + 1, 1, none⟩ (.int .i64 (cb : Int))).setCell ⟨w.heap.size + 1, 0, none⟩ (.int .i64 (ca : Int))).setCell ⟨w.heap.size + 1, 1, none⟩ (.int .i64 (cb : Int))) (w.heap.size + 1) ca cb) from HX2.out.set _ _)
  have HB3 := (show Hid (Below w.heap.size w ((((w3.setCell ⟨w.heap.size + 1, 0, none⟩ (.int .i64 (ca : Int))).setCell ⟨w.heap.size + 1, 1, none⟩ (.int .i64 (cb : Int))).setCell ⟨w.heap.size + 1, 0, none⟩ (.int .i64 (ca : Int))).setCell ⟨w.heap.size + 1, 1, none⟩ (.int .i64 (cb : Int)))) from set_below (set_below (set_below (set_below HB.out (Nat.le_succ _)) (Nat.le_succ _)) (Nat.le_succ _)) (Nat.le_succ _))
  have HBz := (show Hid (Below w.heap.size w ((w3.setCell ⟨w.heap.size + 1, 0, none⟩ (.int .i64 (ca : Int))).setCell ⟨w.heap.size + 1, 1, none⟩ (.int .i64 (cb : Int)))) from set_below (set_below HB.out (Nat.le_succ _)) (Nat.le_succ _))
  clear HX HB
  go_wp2_with fail
  have d0 := HX3.out.c0
  have d1 := HX3.out.c1
  clear c0 c1 f0 f1 HX2 HBz
  generalize (((w3.setCell ⟨w.heap.size + 1, 0, none⟩ (.int .i64 (ca : Int))).setCell ⟨w.heap.size + 1, 1, none⟩ (.int .i64 (cb : Int))).setCell ⟨w.heap.size + 1, 0, none⟩ (.int .i64 (ca : Int))).setCell ⟨w.heap.size + 1, 1, none⟩ (.int .i64 (cb : Int)) = wZ at *
  refine bodyPost_ret (v := .tuple #[.agg #[.int .i64 (ca : Int), .int .i64 (cb : Int)], .int .i64 cd]) (by simp [results, Try.results16, go_sem, d0, d1]) rfl ⟨by rw [HCC.out], HB3.out⟩
end Go.Proofs.Ytbipjdgholdhcaa.N

namespace Go.Proofs.Ytbipjdgholdhcaa.N
open Go.RowKit Go.Maps
open Go.Proofs.Ytbipjdgholdhcaa.T

open U (below_grown own_get own_slice TT)
/-- The rows of heads, read. -/
theorem tt_rdl {W : World} {B n : Nat} {cx : Mx} {A : Option Addr} {c : Nat} {xs : List Value} (h : TT W B 25 3 (.slice A n c) (hdT n cx n) xs) (_hl : xs.length = n) (_hn : 0 < n) : RdL W A ((List.range n).map (hdl n cx)) := fun i l hi => by
  have hin : i < n := by have := (List.getElem?_eq_some_iff.1 hi).1; rwa [List.length_map, List.length_range] at this
  rw [List.getElem?_map, List.getElem?_range hin] at hi
  have hi : hdl n cx i = l := Option.some.inj hi
  obtain ⟨x, row, h1, h2, h3⟩ := h.at' (i := i) (by unfold hdT; rw [List.length_map, List.length_range]; exact hin)
  have h2 : (hdT n cx n)[i]? = some row := h2
  unfold hdT at h2
  rw [List.getElem?_map, List.getElem?_range hin] at h2
  have h2 : (hdl n cx i).map U.nI = row := Option.some.inj h2
  rw [hi] at h2
  subst h2
  obtain ⟨b, cb, e1, _, hb, hcell, _⟩ := own_get h.o h1
  have eA : A = some ⟨b, 0, none⟩ := by injection e1
  obtain ⟨A2, c2, rfl⟩ := own_slice h3
  rw [List.length_map] at h3 hcell
  refine ⟨b, 0, A2, c2, eA, hb, by rw [Nat.zero_add]; exact hcell, fun q x hq => ?_⟩
  obtain ⟨g2, c3, e3, _, hg2, hx, _⟩ := own_get h3 (j := q) (x := U.nI x) (by rw [List.getElem?_map, hq]; rfl)
  have e4 : A2 = some ⟨g2, 0, none⟩ := by injection e3
  exact ⟨g2, 0, e4, hg2, by rw [Nat.zero_add]; exact hx⟩
/-- A verdict in a box: the cycle, and the spot. -/
structure DX (W : World) (b : Nat) (v : Value) (p q : Int) : Prop where
  heap : W.heap[b]? = some (.cells #[v, .int .i64 p, .int .i64 q] 29 (0, 0))
theorem DX.lt {W : World} {b : Nat} {v : Value} {p q : Int} (h : DX W b v p q) : b < W.heap.size := (Array.getElem?_eq_some_iff.1 h.heap).1
theorem DX.same {W W' : World} {b : Nat} {v : Value} {p q : Int} (h : DX W b v p q) (hb : W'.heap[b]? = W.heap[b]?) : DX W' b v p q := ⟨hb.trans h.heap⟩
theorem DX.below {W W' : World} {b : Nat} {v : Value} {p q : Int} (h : DX W b v p q) (hb : Below W.heap.size W W') : DX W' b v p q := h.same (hb.block b h.lt)
theorem DX.c0 {W : World} {b : Nat} {v : Value} {p q : Int} (h : DX W b v p q) : W.cell? ⟨b, 0, none⟩ = some v := by rw [cell_of_row W b 0 _ 29 (0, 0) h.heap]; rfl
theorem DX.c1 {W : World} {b : Nat} {v : Value} {p q : Int} (h : DX W b v p q) : W.cell? ⟨b, 1, none⟩ = some (.int .i64 p) := by rw [cell_of_row W b 1 _ 29 (0, 0) h.heap]; rfl
theorem DX.c2 {W : World} {b : Nat} {v : Value} {p q : Int} (h : DX W b v p q) : W.cell? ⟨b, 2, none⟩ = some (.int .i64 q) := by rw [cell_of_row W b 2 _ 29 (0, 0) h.heap]; rfl
theorem DX.fz {W : World} {b : Nat} {v : Value} {p q : Int} (h : DX W b v p q) (j : Nat) : W.frozen? ⟨b, j, none⟩ = false := frozen_of_row W b j _ 29 h.heap
theorem DX.all {W : World} {b : Nat} {v : Value} {p q : Int} (h : DX W b v p q) (v2 : Value) (p2 q2 : Int) : DX (((W.setCell ⟨b, 0, none⟩ v2).setCell ⟨b, 1, none⟩ (.int .i64 p2)).setCell ⟨b, 2, none⟩ (.int .i64 q2)) b v2 p2 q2 := by
  have h1 : DX (W.setCell ⟨b, 0, none⟩ v2) b v2 p q := ⟨by rw [heap_setCell_same W b 0 _ 29 _ h.heap]; rfl⟩
  have h2 : DX ((W.setCell ⟨b, 0, none⟩ v2).setCell ⟨b, 1, none⟩ (.int .i64 p2)) b v2 p2 q := ⟨by rw [heap_setCell_same _ b 1 _ 29 _ h1.heap]; rfl⟩
  exact ⟨by rw [heap_setCell_same _ b 2 _ 29 _ h2.heap]; rfl⟩
theorem DX.new (W : World) (v : Value) (p q : Int) : DX (W.alloc (.cells #[v, .int .i64 p, .int .i64 q] 29)) W.heap.size v p q := ⟨heap_alloc_new W _⟩
/-- What Check says: the cycle, the spot, the number. -/
def VdR (gs : GL) (l : List Nat) (p q : Nat) (e : Int) : Prop := ((ckG gs).2 ≠ 0 → l = [] ∧ (p, q) = (ckG gs).1 ∧ e = (ckG gs).2) ∧ ((ckG gs).2 = 0 → ∃ now, KnF gs now ∧ now.length = gs.length ∧ ∃ cy, CyR gs.length (hdM gs (nbE now)) cy ∧ ((cy ≠ [] ∧ l = cy ∧ p = 0 ∧ q = 0 ∧ e = 100) ∨ (cy = [] ∧ l = [] ∧ ((∃ s r, lpG gs (nbE now) gs.length = s :: r ∧ p = s.1 ∧ q = s.2 ∧ e = 101) ∨ (lpG gs (nbE now) gs.length = [] ∧ p = 0 ∧ q = 0 ∧ e = 0)))))
theorem tt_same {W W' : World} {B E I : Nat} {v : Value} {M : List (List Value)} {xs : List Value} (h : TT W B E I v M xs) (hk : ∀ k, B ≤ k → W'.heap[k]? = W.heap[k]?) : TT W' B E I v M xs :=
  ⟨own_same h.o fun k e => hk k (h.o.lt k e).1, h.len, fun i x r q1 q2 => own_same (h.each i x r q1 q2) fun k e => hk k ((h.each i x r q1 q2).lt k e).1, h.off, h.apart⟩
theorem ret_jd {fn : Func} {R : Ending → World → Prop} {act : Act} {W : World} {b : Nat} {hv v : Value} {p q cd : Int} (hF : fn.results = #[.tmp 2, .cell 3 29, .tmp 4]) (hd : act.defers = []) (h2 : act.tmps.getD 2 undef = hv) (h3 : act.tmps.getD 3 undef = .pointer (some ⟨b, 0, none⟩)) (h4 : act.tmps.getD 4 undef = .int .i64 cd) (hT : DX W b v p q) (hR : R (.returned (.tuple #[hv, .agg #[v, .int .i64 p, .int .i64 q], .int .i64 cd])) W) : bodyPost Try.prog fn R .ret act W := by
  have c0 : W.cell? ⟨b, 0, none⟩ = _ := hT.c0
  have c1 : W.cell? ⟨b, 1, none⟩ = _ := hT.c1
  have c2 : W.cell? ⟨b, 2, none⟩ = _ := hT.c2
  refine bodyPost_ret (v := .tuple #[hv, .agg #[v, .int .i64 p, .int .i64 q], .int .i64 cd]) ?_ hd hR
  simp only [Array.getD_eq_getD_getElem?] at h2 h3 h4
  simp [results, hF, go_sem, h2, h3, h4, c0, c1, c2]
theorem DX.drew {W : World} {b : Nat} {v : Value} {p q : Int} (h : DX W b v p q) : DX W.drew b v p q := ⟨h.heap⟩
/-- A verdict is written. -/
def sV (W : World) (b : Nat) (v : Value) (p q : Int) : World := ((W.setCell ⟨b, 0, none⟩ v).setCell ⟨b, 1, none⟩ (.int .i64 p)).setCell ⟨b, 2, none⟩ (.int .i64 q)
theorem sV_other (W : World) (b : Nat) (v : Value) (p q : Int) {k : Nat} (h : k ≠ b) : (sV W b v p q).heap[k]? = W.heap[k]? := by
  unfold sV
  rw [heap_setCell_other _ _ _ _ h, heap_setCell_other _ _ _ _ h, heap_setCell_other _ _ _ _ h]
theorem sV_dx {W : World} {b : Nat} {v : Value} {p q : Int} (h : DX W b v p q) (v2 : Value) (p2 q2 : Int) : DX (sV W b v2 p2 q2) b v2 p2 q2 := h.all v2 p2 q2
theorem sV_below {w W : World} {b : Nat} (v : Value) (p q : Int) (h : Below w.heap.size w W) (hb : w.heap.size ≤ b) : Below w.heap.size w (sV W b v p q) := ((h.setCell (p := ⟨b, 0, none⟩) hb _).setCell (p := ⟨b, 1, none⟩) hb _).setCell (p := ⟨b, 2, none⟩) hb _
/-- The head of a list of spots. -/
theorem fs_head {W : World} {B n : Nat} {A : Option Addr} {c : Nat} {s : Nat × Nat} {l : List (Nat × Nat)} (h : W.ownsRow B 27 2 (.slice A n c) n (spc (s :: l))) (hn : n = (s :: l).length) : ∃ g, A = some ⟨g, 0, none⟩ ∧ W.cell? ⟨g, 0, none⟩ = some (.int .i64 (s.1 : Int)) ∧ W.cell? ⟨g, 1, none⟩ = some (.int .i64 (s.2 : Int)) := by
  obtain ⟨g, cap, e, _⟩ := h.form (by rw [hn]; exact Nat.succ_pos _)
  injection e with e1 _ e3
  subst e1
  have hh := h.cells (g := g) rfl
  have h0 := hh 0 (.int .i64 (s.1 : Int)) rfl
  have h1 := hh 1 (.int .i64 (s.2 : Int)) rfl
  exact ⟨g, rfl, h0, h1⟩
set_option maxRecDepth 100000 in
set_option maxHeartbeats 32000000 in
theorem judged_any (gs : GL) (A : Option Addr) (c : Nat) (w : World) (hp : GI w A gs) :
    Calls Try.prog 11 #[.agg #[.slice A gs.length c]] w fun e w' => (∃ (hv vc : Value) (l : List Nat) (p q : Nat) (cd : Int), e = .returned (.tuple #[hv, .agg #[vc, .int .i64 (p : Int), .int .i64 (q : Int)], .int .i64 cd]) ∧ VdR gs l p q cd ∧ w'.ownsRow w.heap.size 3 1 vc l.length (l.map U.nI) ∧ (cd = 0 → ∃ now xs, KnF gs now ∧ now.length = gs.length ∧ xs.length = gs.length ∧ TT w' w.heap.size 25 3 hv (hdT gs.length (hdM gs (nbE now)) gs.length) xs)) ∧ Below w.heap.size w w' := by
  obtain ⟨w1, hw1⟩ : ∃ w1, w1 = (w.alloc (.cells #[.slice A gs.length c] 24)).alloc (.cells #[.slice none 0 0, .int .i64 0, .int .i64 0] 29) := ⟨_, rfl⟩
  have HE1 := (show Hid ((w.alloc (.cells #[.slice A gs.length c] 24)).alloc (.cells #[.slice none 0 0, .int .i64 0, .int .i64 0] 29) = w1) from hw1.symm)
  have s0 := World.size_alloc w (.cells #[.slice A gs.length c] 24)
  have HS := (show Hid (Below w.heap.size w w1 ∧ GX w1 w.heap.size (.slice A gs.length c) ∧ DX w1 (w.heap.size + 1) (.slice none 0 0) 0 0 ∧ w1.heap.size = w.heap.size + 2) from by
    refine ⟨by rw [hw1]; exact ((Below.refl _ _).alloc (Nat.le_refl _) _).alloc (by omega) _, by rw [hw1]; exact (GX.mk (heap_alloc_new w _)).below (below_box _ _), ?_, by rw [hw1, World.size_alloc, s0]⟩
    have h := DX.new (w.alloc (.cells #[.slice A gs.length c] 24)) (.slice none 0 0) 0 0
    rw [s0, ← hw1] at h
    exact h)
  have HVw := (show Hid (∀ _ : Unit, Calls Try.prog 13 #[.agg #[.slice A gs.length c]] w1 fun e w' => VwR w1 w' gs A c e ∧ Below w1.heap.size w1 w') from fun _ => viewOf_any gs A c w1 (hp.later HS.out.1))
  have HP := (show Hid (GI w A gs) from hp)
  have q1 := HS.out.2.1.cl
  clear hw1 s0 hp
  go_enter Try.func11, Try.ntmps11
  go_wp2_with (rw [HE1.out])
  refine (HVw.out ()).mono ?_
  rintro e w2 ⟨hvw, b2⟩
  have HS2 := (show Hid (Below w.heap.size w w2 ∧ GX w2 w.heap.size (.slice A gs.length c) ∧ DX w2 (w.heap.size + 1) (.slice none 0 0) 0 0 ∧ w.heap.size + 2 ≤ w2.heap.size) from by
    obtain ⟨h1, h2, h3, h4⟩ := HS.out
    exact ⟨h1.trans (b2.mono h1.size), h2.below b2, h3.below b2, by have := b2.size; omega⟩)
  clear HVw HE1 q1 HS b2
  by_cases hz : (ckG gs).2 = 0
  · obtain ⟨mb, Ak, ck, now, rfl, hm, hk, hkf, hnl, hok, _⟩ := hvw.2 hz
    have hR := ckG_ok.1 hz
    have hn2 := hR.n2
    have hn1 := hR.n1
    obtain ⟨w3, hw3⟩ : ∃ w3, w3 = w2.alloc (.cells #[.slice A gs.length c, .map (some mb), .slice Ak gs.length ck] 59) := ⟨_, rfl⟩
    have HE3 := (show Hid (w2.alloc (.cells #[.slice A gs.length c, .map (some mb), .slice Ak gs.length ck] 59) = w3) from hw3.symm)
    have hb3 : Below w2.heap.size w2 w3 := by rw [hw3]; exact below_box _ _
    have b3s := (show Hid (w2.heap.size ≤ w3.heap.size) from hb3.size)
    have HX3 := (show Hid (VX w3 w2.heap.size (.slice A gs.length c) (.map (some mb)) (.slice Ak gs.length ck)) from by rw [hw3]; exact VX.new w2 _ _ _)
    have HB3 := (show Hid (Below w.heap.size w w3) from HS2.out.1.trans (hb3.mono HS2.out.1.size))
    have HD3 := (show Hid (DX w3 (w.heap.size + 1) (.slice none 0 0) 0 0) from HS2.out.2.2.1.below hb3)
    have HV := (show Hid (VwO w3 gs A mb Ak now) from ⟨hR, HP.out.later HB3.out, hm.later hb3, hk.later hb3, hnl⟩)
    have HKn := (show Hid (KnF gs now ∧ now.length = gs.length ∧ (ckG gs).2 = 0) from ⟨hkf, hnl, hz⟩)
    have y0 := HX3.out.c0
    have y1 := HX3.out.c1
    have y2 := HX3.out.c2
    have HHe := (show Hid (∀ _ : Unit, Calls Try.prog 17 #[.agg #[.slice A gs.length c, .map (some mb), .slice Ak gs.length ck]] w3 fun e w' => (∃ v xs, e = .returned v ∧ xs.length = gs.length ∧ TT w' w3.heap.size 25 3 v (hdT gs.length (hdM gs (nbE now)) gs.length) xs) ∧ Below w3.heap.size w3 w') from fun _ => vheads_any mb A Ak c ck w3 HV.out)
    have HR := (show Hid (RtG gs) from hR)
    clear hvw hm hk hkf hnl hok hz hR hw3 hb3
    go_wp2_with (rw [HE3.out])
    refine (HHe.out ()).mono ?_
    rintro e w4 ⟨⟨vh, xs, rfl, hxl, hT⟩, b4⟩
    obtain ⟨Ah, ch, hAh⟩ := own_slice hT.o
    rw [hxl] at hAh
    subst hAh
    have HT4 := (show Hid (TT w4 w3.heap.size 25 3 (.slice Ah gs.length ch) (hdT gs.length (hdM gs (nbE now)) gs.length) xs ∧ xs.length = gs.length) from ⟨hT, hxl⟩)
    have HS3 := (show Hid (w.heap.size + 2 ≤ w3.heap.size) from Nat.le_trans HS2.out.2.2.2 b3s.out)
    have HS4 := (show Hid (w.heap.size + 2 ≤ w4.heap.size) from Nat.le_trans HS3.out b4.size)
    have HB4 := (show Hid (Below w.heap.size w w4) from HB3.out.trans (b4.mono HB3.out.size))
    have HCy := (show Hid (∀ _ : Unit, Calls Try.prog 18 #[.slice Ah gs.length ch] w4 fun e w' => (∃ v l, e = .returned v ∧ CyR gs.length (hdM gs (nbE now)) l ∧ w'.ownsRow w4.heap.size 3 1 v l.length (l.map U.nI)) ∧ Below w4.heap.size w4 w') from fun _ => cycle_any (hdM_lt HR.out) hn2 Ah ch w4 (tt_rdl hT hxl hn1))
    have HX4 := (show Hid (VX w4 w2.heap.size (.slice A gs.length c) (.map (some mb)) (.slice Ak gs.length ck) ∧ DX w4 (w.heap.size + 1) (.slice none 0 0) 0 0 ∧ VwO w4 gs A mb Ak now ∧ w3.heap.size ≤ w4.heap.size) from ⟨HX3.out.below b4, HD3.out.below b4, HV.out.later b4, b4.size⟩)
    clear hxl hT b4 HHe HE3 y0 y1 y2 HX3 HD3 HV
    go_wp2_with fail
    refine (HCy.out ()).mono ?_
    rintro e w5 ⟨⟨vc, cy, rfl, hcy, hoc⟩, b5⟩
    obtain ⟨Ac, cc, rfl⟩ := own_slice hoc
    have HB5 := (show Hid (Below w.heap.size w w5) from HB4.out.trans (b5.mono HB4.out.size))
    have HX5 := (show Hid (VX w5 w2.heap.size (.slice A gs.length c) (.map (some mb)) (.slice Ak gs.length ck) ∧ DX w5 (w.heap.size + 1) (.slice none 0 0) 0 0 ∧ VwO w5 gs A mb Ak now) from ⟨HX4.out.1.below b5, HX4.out.2.1.below b5, HX4.out.2.2.1.later b5⟩)
    have HT5 := (show Hid (TT w5 w3.heap.size 25 3 (.slice Ah gs.length ch) (hdT gs.length (hdM gs (nbE now)) gs.length) xs ∧ xs.length = gs.length) from ⟨HT4.out.1.below b5, HT4.out.2⟩)
    have HC5 := (show Hid (CyR gs.length (hdM gs (nbE now)) cy ∧ w5.ownsRow w4.heap.size 3 1 (.slice Ac cy.length cc) cy.length (cy.map U.nI)) from ⟨hcy, hoc⟩)
    clear hcy hoc b5 HCy HX4 HT4
    by_cases hc0 : cy = []
    · have hcz : (.slice Ac cy.length cc : Value) = .slice Ac 0 cc := by rw [hc0]; rfl
      rw [hcz]
      clear hcz
      have HC0 := (show Hid (cy = []) from hc0)
      clear hc0
      have y0 := HX5.out.1.c0
      have y1 := HX5.out.1.c1
      have y2 := HX5.out.1.c2
      have HLo := (show Hid (∀ _ : Unit, Calls Try.prog 14 #[.agg #[.slice A gs.length c, .map (some mb), .slice Ak gs.length ck]] w5 fun e w' => (∃ v, e = .returned v ∧ w'.ownsRow w5.heap.size 27 2 v (lpG gs (nbE now) gs.length).length (spc (lpG gs (nbE now) gs.length))) ∧ Below w5.heap.size w5 w') from fun _ => vloops_any mb A Ak c ck w5 HX5.out.2.2)
      go_wp2_with fail
      refine (HLo.out ()).mono ?_
      rintro e w6 ⟨⟨vl, rfl, hol⟩, b6⟩
      obtain ⟨Al, cl, rfl⟩ := own_fs hol
      have HB6 := (show Hid (Below w.heap.size w w6) from HB5.out.trans (b6.mono HB5.out.size))
      have HD6 := (show Hid (DX w6 (w.heap.size + 1) (.slice none 0 0) 0 0) from HX5.out.2.1.below b6)
      have HT6 := (show Hid (TT w6 w3.heap.size 25 3 (.slice Ah gs.length ch) (hdT gs.length (hdM gs (nbE now)) gs.length) xs ∧ xs.length = gs.length) from ⟨HT5.out.1.below b6, HT5.out.2⟩)
      have d0 := HD6.out.c0
      have d1 := HD6.out.c1
      have d2 := HD6.out.c2
      have f0 := HD6.out.fz 0
      have f1 := HD6.out.fz 1
      have f2 := HD6.out.fz 2
      obtain ⟨ls, hls⟩ : ∃ ls, ls = lpG gs (nbE now) gs.length := ⟨_, rfl⟩
      have HLs := (show Hid (ls = lpG gs (nbE now) gs.length ∧ w6.ownsRow w5.heap.size 27 2 (.slice Al ls.length cl) ls.length (spc ls)) from ⟨hls, by rw [hls]; exact hol⟩)
      rw [← hls]
      clear hol hls b6 HLo y0 y1 y2 HX5 HT5
      cases ls with
      | nil =>
        have HVd := (show Hid (VdR gs [] 0 0 0) from ⟨fun q => absurd HKn.out.2.2 q, fun _ => ⟨now, HKn.out.1, HKn.out.2.1, cy, HC5.out.1, .inr ⟨HC0.out, rfl, .inr ⟨HLs.out.1.symm, rfl, rfl, rfl⟩⟩⟩⟩)
        obtain ⟨w7, hw7⟩ : ∃ w7, w7 = sV w6 (w.heap.size + 1) (.slice none 0 0) 0 0 := ⟨_, rfl⟩
        have HE7 := (show Hid (((w6.setCell ⟨w.heap.size + 1, 0, none⟩ (.slice none 0 0)).setCell ⟨w.heap.size + 1, 1, none⟩ (.int .i64 0)).setCell ⟨w.heap.size + 1, 2, none⟩ (.int .i64 0) = w7) from hw7.symm)
        have HT7 := (show Hid (TT w7 w3.heap.size 25 3 (.slice Ah gs.length ch) (hdT gs.length (hdM gs (nbE now)) gs.length) xs ∧ xs.length = gs.length) from ⟨tt_same HT6.out.1 fun k hk => by rw [hw7]; exact sV_other _ _ _ _ _ (by have := HS3.out; omega), HT6.out.2⟩)
        have HB7 := (show Hid (Below w.heap.size w w7 ∧ DX w7 (w.heap.size + 1) (.slice none 0 0) 0 0) from by rw [hw7]; exact ⟨sV_below _ _ _ HB6.out (Nat.le_succ _), sV_dx HD6.out _ _ _⟩)
        clear hw7
        go_wp2_with (rw [HE7.out])
        refine ret_jd (b := w.heap.size + 1) (by rfl) (by rfl) (by rfl) (by rfl) (by rfl) HB7.out.2 ⟨⟨_, _, [], 0, 0, 0, rfl, HVd.out, World.ownsRow_nil _ _ _ _, fun _ => ⟨now, xs, HKn.out.1, HKn.out.2.1, HT7.out.2, HT7.out.1.base (by have := HS3.out; omega)⟩⟩, HB7.out.1⟩
      | cons s ls =>
        obtain ⟨sp, sr⟩ := s
        obtain ⟨g, rfl, hc1⟩ := fs_head HLs.out.2 rfl
        have HVd := (show Hid (VdR gs [] sp sr 101) from ⟨fun q => absurd HKn.out.2.2 q, fun _ => ⟨now, HKn.out.1, HKn.out.2.1, cy, HC5.out.1, .inr ⟨HC0.out, rfl, .inl ⟨(sp, sr), ls, HLs.out.1.symm, rfl, rfl, rfl⟩⟩⟩⟩)
        have l0 := hc1.1
        have l1 := hc1.2
        have HB7 := (show Hid (Below w.heap.size w (sV w6 (w.heap.size + 1) (.slice none 0 0) sp sr).drew ∧ DX (sV w6 (w.heap.size + 1) (.slice none 0 0) sp sr).drew (w.heap.size + 1) (.slice none 0 0) sp sr) from ⟨(sV_below _ _ _ HB6.out (Nat.le_succ _)).drew, (sV_dx HD6.out _ _ _).drew⟩)
        clear HT6 hc1
        have hlen : ((sp, sr) :: ls).length = ls.length + 1 := rfl
        rw [hlen]
        clear hlen
        generalize ls.length = m
        have hm : (0 : Int) < (m + 1 : Nat) := by omega
        have hm2 : 0 < m + 1 := by omega
        go_wp2_with fail
        go_region
        all_goals (go_wp2_with fail)
        refine ret_jd (b := w.heap.size + 1) (by rfl) (by rfl) (by rfl) (by rfl) (by rfl) HB7.out.2 ⟨⟨_, _, [], sp, sr, 101, rfl, HVd.out, World.ownsRow_nil _ _ _ _, fun q => absurd q (by decide)⟩, HB7.out.1⟩
    · have HVd := (show Hid (VdR gs cy 0 0 100) from ⟨fun q => absurd HKn.out.2.2 q, fun _ => ⟨now, HKn.out.1, HKn.out.2.1, cy, HC5.out.1, .inl ⟨hc0, rfl, rfl, rfl, rfl⟩⟩⟩)
      have hm2 : 0 < cy.length := List.length_pos_iff.2 hc0
      obtain ⟨m, hm⟩ : ∃ m, m = cy.length := ⟨_, rfl⟩
      have HO5 := (show Hid (w5.ownsRow w4.heap.size 3 1 (.slice Ac m cc) cy.length (cy.map U.nI)) from by rw [hm]; exact HC5.out.2)
      have HD5 := (show Hid (DX w5 (w.heap.size + 1) (.slice none 0 0) 0 0) from HX5.out.2.1)
      rw [← hm] at hm2 ⊢
      clear hm hc0
      have hm3 : (0 : Int) < (m : Nat) := by omega
      have d0 := HD5.out.c0
      have d1 := HD5.out.c1
      have d2 := HD5.out.c2
      have f0 := HD5.out.fz 0
      have f1 := HD5.out.fz 1
      have f2 := HD5.out.fz 2
      obtain ⟨w7, hw7⟩ : ∃ w7, w7 = sV w5 (w.heap.size + 1) (.slice Ac m cc) 0 0 := ⟨_, rfl⟩
      have HE7 := (show Hid (((w5.setCell ⟨w.heap.size + 1, 0, none⟩ (.slice Ac m cc)).setCell ⟨w.heap.size + 1, 1, none⟩ (.int .i64 0)).setCell ⟨w.heap.size + 1, 2, none⟩ (.int .i64 0) = w7) from hw7.symm)
      have HO7 := (show Hid (w7.ownsRow w4.heap.size 3 1 (.slice Ac m cc) cy.length (cy.map U.nI)) from own_same HO5.out fun k e => by
        have h1 := (HO5.out.lt k e).1
        rw [hw7]
        exact sV_other _ _ _ _ _ (by have := HS4.out; omega))
      have HB7 := (show Hid (Below w.heap.size w w7 ∧ DX w7 (w.heap.size + 1) (.slice Ac m cc) 0 0) from by rw [hw7]; exact ⟨sV_below _ _ _ HB5.out (Nat.le_succ _), sV_dx HD5.out _ _ _⟩)
      clear hw7
      go_wp2_with (rw [HE7.out])
      refine ret_jd (b := w.heap.size + 1) (by rfl) (by rfl) (by rfl) (by rfl) (by rfl) HB7.out.2 ⟨⟨_, _, cy, 0, 0, 100, rfl, HVd.out, own_base HO7.out (by have := HS4.out; omega), fun q => absurd q (by decide)⟩, HB7.out.1⟩
  · have e1 := hvw.1 hz
    subst e1
    have tz : ((ckG gs).2 != 0) = true := by rw [bne, beq_eq_false_iff_ne.2 hz]; rfl
    obtain ⟨ca, cb, cd, hcc⟩ : ∃ (ca cb : Nat) (cd : Int), ckG gs = ((ca, cb), cd) := ⟨_, _, _, rfl⟩
    have HVd := (show Hid (VdR gs [] ca cb cd) from ⟨fun _ => ⟨rfl, by rw [hcc], by rw [hcc]⟩, fun q => absurd q hz⟩)
    have HCd := (show Hid (cd ≠ 0) from by rw [hcc] at hz; exact hz)
    rw [hcc] at tz ⊢
    have tz : (cd != 0) = true := tz
    obtain ⟨w3, hw3⟩ : ∃ w3, w3 = w2.alloc (.cells #[.slice none 0 0, .map none, .slice none 0 0] 59) := ⟨_, rfl⟩
    have HE3 := (show Hid (w2.alloc (.cells #[.slice none 0 0, .map none, .slice none 0 0] 59) = w3) from hw3.symm)
    have hb3 : Below w2.heap.size w2 w3 := by rw [hw3]; exact below_box _ _
    have HB3 := (show Hid (Below w.heap.size w w3 ∧ DX w3 (w.heap.size + 1) (.slice none 0 0) 0 0) from ⟨HS2.out.1.trans (hb3.mono HS2.out.1.size), HS2.out.2.2.1.below hb3⟩)
    have q3 : (w2.alloc (.cells #[.slice none 0 0, .map none, .slice none 0 0] 59)).cell? ⟨w.heap.size, 0, none⟩ = some (.slice A gs.length c) := by rw [← hw3]; exact (HS2.out.2.1.below hb3).cl
    have HCk := (show Hid (∀ _ : Unit, Calls Try.prog 16 #[.agg #[.slice A gs.length c]] w3 fun e w' => e = .returned (.tuple #[.agg #[.int .i64 (ca : Int), .int .i64 (cb : Int)], .int .i64 cd]) ∧ Below w3.heap.size w3 w') from fun _ => by
      have h := checkP_any gs A c w3 (HP.out.later HB3.out.1)
      rw [hcc] at h
      exact h)
    clear hvw hz hcc hw3 hb3 HS2 HP
    go_wp2_with fail
    rw [HE3.out]
    refine (HCk.out ()).mono ?_
    rintro e w4 ⟨rfl, b4⟩
    obtain ⟨w5, hw5⟩ : ∃ w5, w5 = w4.alloc (.cells #[.int .i64 (ca : Int), .int .i64 (cb : Int)] 27) := ⟨_, rfl⟩
    have HE5 := (show Hid (w4.alloc (.cells #[.int .i64 (ca : Int), .int .i64 (cb : Int)] 27) = w5) from hw5.symm)
    have hb5 : Below w4.heap.size w4 w5 := by rw [hw5]; exact below_box _ _
    have hs5 : SX w5 w4.heap.size ca cb := by rw [hw5]; exact ⟨heap_alloc_new w4 _⟩
    have s0 := hs5.c0
    have s1 := hs5.c1
    have HD5 := (show Hid (DX w5 (w.heap.size + 1) (.slice none 0 0) 0 0 ∧ Below w.heap.size w w5) from ⟨(HB3.out.2.below b4).below hb5, (HB3.out.1.trans (b4.mono HB3.out.1.size)).trans (hb5.mono (HB3.out.1.trans (b4.mono HB3.out.1.size)).size)⟩)
    have d0 := HD5.out.1.c0
    have d1 := HD5.out.1.c1
    have d2 := HD5.out.1.c2
    have f0 := HD5.out.1.fz 0
    have f1 := HD5.out.1.fz 1
    have f2 := HD5.out.1.fz 2
    clear b4 HCk HE3 q3 HB3 hb5 hs5 hw5
    go_wp2_with (rw [HE5.out])
    go_region
    all_goals (go_wp2_with fail)
    have HB7 := (show Hid (Below w.heap.size w (sV w5 (w.heap.size + 1) (.slice none 0 0) ca cb).drew ∧ DX (sV w5 (w.heap.size + 1) (.slice none 0 0) ca cb).drew (w.heap.size + 1) (.slice none 0 0) ca cb) from ⟨(sV_below _ _ _ HD5.out.2 (Nat.le_succ _)).drew, (sV_dx HD5.out.1 _ _ _).drew⟩)
    refine ret_jd (b := w.heap.size + 1) (by rfl) (by rfl) (by rfl) (by rfl) (by rfl) HB7.out.2 ⟨⟨_, _, [], ca, cb, cd, rfl, HVd.out, World.ownsRow_nil _ _ _ _, fun q => absurd q HCd.out⟩, HB7.out.1⟩
end Go.Proofs.Ytbipjdgholdhcaa.N

namespace Go.Proofs.Ytbipjdgholdhcaa.N
open Go.RowKit Go.Maps
open Go.Proofs.Ytbipjdgholdhcaa.T

open U (below_grown own_get own_slice TT)
theorem ret_ck {fn : Func} {R : Ending → World → Prop} {act : Act} {W : World} {b : Nat} {v : Value} {p q cd : Int} (hF : fn.results = #[.cell 2 29, .tmp 3]) (hd : act.defers = []) (h3 : act.tmps.getD 2 undef = .pointer (some ⟨b, 0, none⟩)) (h4 : act.tmps.getD 3 undef = .int .i64 cd) (hT : DX W b v p q) (hR : R (.returned (.tuple #[.agg #[v, .int .i64 p, .int .i64 q], .int .i64 cd])) W) : bodyPost Try.prog fn R .ret act W := by
  have c0 : W.cell? ⟨b, 0, none⟩ = _ := hT.c0
  have c1 : W.cell? ⟨b, 1, none⟩ = _ := hT.c1
  have c2 : W.cell? ⟨b, 2, none⟩ = _ := hT.c2
  refine bodyPost_ret (v := .tuple #[.agg #[v, .int .i64 p, .int .i64 q], .int .i64 cd]) ?_ hd hR
  simp only [Array.getD_eq_getD_getElem?] at h3 h4
  simp [results, hF, go_sem, h3, h4, c0, c1, c2]
/-- What Heads says, by the program. -/
def HdR (gs : GL) (w w' : World) (i : Int) (e : Ending) : Prop := ((ckG gs).2 ≠ 0 → e = .returned (.tuple #[.slice none 0 0, .int .i64 (ckG gs).2])) ∧ ((ckG gs).2 = 0 → (i < 0 ∨ (gs.length : Int) ≤ i → e = .returned (.tuple #[.slice none 0 0, .int .i64 1])) ∧ (∀ r : Nat, i = (r : Int) → r < gs.length → ∃ now v, KnF gs now ∧ now.length = gs.length ∧ e = .returned (.tuple #[v, .int .i64 0]) ∧ w'.ownsRow w.heap.size 3 1 v (hdl gs.length (hdM gs (nbE now)) r).length ((hdl gs.length (hdM gs (nbE now)) r).map U.nI)))
/-- What Loops says, by the program. -/
def LoR (gs : GL) (w w' : World) (e : Ending) : Prop := ((ckG gs).2 ≠ 0 → e = .returned (.tuple #[.slice none 0 0, .int .i64 (ckG gs).2])) ∧ ((ckG gs).2 = 0 → ∃ now v, KnF gs now ∧ now.length = gs.length ∧ e = .returned (.tuple #[v, .int .i64 0]) ∧ w'.ownsRow w.heap.size 27 2 v (lpG gs (nbE now) gs.length).length (spc (lpG gs (nbE now) gs.length)))

set_option maxRecDepth 100000 in
set_option maxHeartbeats 16000000 in
/-- Check, by the program. -/
theorem fcheck_any (gs : GL) (A : Option Addr) (c : Nat) (w : World) (hp : GI w A gs) :
    Calls Try.prog 5 #[.agg #[.slice A gs.length c]] w fun e w' => (∃ (vc : Value) (l : List Nat) (p q : Nat) (cd : Int), e = .returned (.tuple #[.agg #[vc, .int .i64 (p : Int), .int .i64 (q : Int)], .int .i64 cd]) ∧ VdR gs l p q cd ∧ w'.ownsRow w.heap.size 3 1 vc l.length (l.map U.nI)) ∧ Below w.heap.size w w' := by
  obtain ⟨w1, hw1⟩ : ∃ w1, w1 = (w.alloc (.cells #[.slice A gs.length c] 24)).alloc (.cells #[.slice none 0 0, .int .i64 0, .int .i64 0] 29) := ⟨_, rfl⟩
  have HE1 := (show Hid ((w.alloc (.cells #[.slice A gs.length c] 24)).alloc (.cells #[.slice none 0 0, .int .i64 0, .int .i64 0] 29) = w1) from hw1.symm)
  have s0 := World.size_alloc w (.cells #[.slice A gs.length c] 24)
  have HS := (show Hid (Below w.heap.size w w1 ∧ GX w1 w.heap.size (.slice A gs.length c) ∧ DX w1 (w.heap.size + 1) (.slice none 0 0) 0 0 ∧ w1.heap.size = w.heap.size + 2) from by
    refine ⟨by rw [hw1]; exact ((Below.refl _ _).alloc (Nat.le_refl _) _).alloc (by omega) _, by rw [hw1]; exact (GX.mk (heap_alloc_new w _)).below (below_box _ _), ?_, by rw [hw1, World.size_alloc, s0]⟩
    have h := DX.new (w.alloc (.cells #[.slice A gs.length c] 24)) (.slice none 0 0) 0 0
    rw [s0, ← hw1] at h
    exact h)
  have HJ := (show Hid (∀ _ : Unit, Calls Try.prog 11 #[.agg #[.slice A gs.length c]] w1 fun e w' => (∃ (hv vc : Value) (l : List Nat) (p q : Nat) (cd : Int), e = .returned (.tuple #[hv, .agg #[vc, .int .i64 (p : Int), .int .i64 (q : Int)], .int .i64 cd]) ∧ VdR gs l p q cd ∧ w'.ownsRow w1.heap.size 3 1 vc l.length (l.map U.nI) ∧ (cd = 0 → ∃ now xs, KnF gs now ∧ now.length = gs.length ∧ xs.length = gs.length ∧ TT w' w1.heap.size 25 3 hv (hdT gs.length (hdM gs (nbE now)) gs.length) xs)) ∧ Below w1.heap.size w1 w') from fun _ => judged_any gs A c w1 (hp.later HS.out.1))
  have q1 := HS.out.2.1.cl
  clear hw1 s0 hp
  go_enter Try.func5, Try.ntmps5
  go_wp2_with (rw [HE1.out])
  refine (HJ.out ()).mono ?_
  rintro e w2 ⟨⟨hv, vc, l, p, q, cd, rfl, hvd, ho, _⟩, b2⟩
  obtain ⟨Ac, cc, rfl⟩ := own_slice ho
  have HV := (show Hid (VdR gs l p q cd) from hvd)
  obtain ⟨w3, hw3⟩ : ∃ w3, w3 = w2.alloc (.cells #[(.slice Ac l.length cc), .int .i64 (p : Int), .int .i64 (q : Int)] 29) := ⟨_, rfl⟩
  have HE3 := (show Hid (w2.alloc (.cells #[(.slice Ac l.length cc), .int .i64 (p : Int), .int .i64 (q : Int)] 29) = w3) from hw3.symm)
  have hb3 : Below w2.heap.size w2 w3 := by rw [hw3]; exact below_box _ _
  have hd3 : DX w3 w2.heap.size (.slice Ac l.length cc) p q := by rw [hw3]; exact DX.new w2 _ _ _
  have c0 := hd3.c0
  have c1 := hd3.c1
  have c2 := hd3.c2
  have HD3 := (show Hid (DX w3 (w.heap.size + 1) (.slice none 0 0) 0 0) from (HS.out.2.2.1.below b2).below hb3)
  have d0 := HD3.out.c0
  have d1 := HD3.out.c1
  have d2 := HD3.out.c2
  have f0 := HD3.out.fz 0
  have f1 := HD3.out.fz 1
  have f2 := HD3.out.fz 2
  obtain ⟨w4, hw4⟩ : ∃ w4, w4 = sV w3 (w.heap.size + 1) (.slice Ac l.length cc) p q := ⟨_, rfl⟩
  have HE4 := (show Hid (((w3.setCell ⟨w.heap.size + 1, 0, none⟩ (.slice Ac l.length cc)).setCell ⟨w.heap.size + 1, 1, none⟩ (.int .i64 (p : Int))).setCell ⟨w.heap.size + 1, 2, none⟩ (.int .i64 (q : Int)) = w4) from hw4.symm)
  have hbb : Below w.heap.size w w3 := (HS.out.1.trans (b2.mono HS.out.1.size)).trans (hb3.mono (HS.out.1.trans (b2.mono HS.out.1.size)).size)
  have HB4 := (show Hid (Below w.heap.size w w4 ∧ DX w4 (w.heap.size + 1) (.slice Ac l.length cc) p q) from by rw [hw4]; exact ⟨sV_below _ _ _ hbb (Nat.le_succ _), sV_dx HD3.out _ _ _⟩)
  have HO := (show Hid (w4.ownsRow w.heap.size 3 1 (.slice Ac l.length cc) l.length (l.map U.nI)) from by
    have h3 := own_below ho hb3
    have h4 : w4.ownsRow w1.heap.size 3 1 (.slice Ac l.length cc) l.length (l.map U.nI) := own_same h3 fun k e => by
      have h1 := (h3.lt k e).1
      have h2 := HS.out.2.2.2
      rw [hw4]
      exact sV_other _ _ _ _ _ (by omega)
    have h2 := HS.out.2.2.2
    exact own_base h4 (by omega))
  clear hvd ho b2 hw3 hb3 hd3 hw4 hbb HS HE1 HJ q1 HD3
  go_wp2_with (first | rw [HE3.out] | rw [HE4.out])
  refine ret_ck (b := w.heap.size + 1) (by rfl) (by rfl) (by rfl) (by rfl) HB4.out.2 ⟨⟨_, l, p, q, cd, rfl, HV.out, HO.out⟩, HB4.out.1⟩

set_option maxRecDepth 100000 in
set_option maxHeartbeats 16000000 in
/-- Loops, by the program. -/
theorem floops_any (gs : GL) (A : Option Addr) (c : Nat) (w : World) (hp : GI w A gs) :
    Calls Try.prog 8 #[.agg #[.slice A gs.length c]] w fun e w' => LoR gs w w' e ∧ Below w.heap.size w w' := by
  obtain ⟨w1, hw1⟩ : ∃ w1, w1 = w.alloc (.cells #[.slice A gs.length c] 24) := ⟨_, rfl⟩
  have HE1 := (show Hid (w.alloc (.cells #[.slice A gs.length c] 24) = w1) from hw1.symm)
  have HS := (show Hid (Below w.heap.size w w1 ∧ GX w1 w.heap.size (.slice A gs.length c)) from by rw [hw1]; exact ⟨below_box _ _, GX.mk (heap_alloc_new w _)⟩)
  have HVw := (show Hid (∀ _ : Unit, Calls Try.prog 13 #[.agg #[.slice A gs.length c]] w1 fun e w' => VwR w1 w' gs A c e ∧ Below w1.heap.size w1 w') from fun _ => viewOf_any gs A c w1 (hp.later HS.out.1))
  have HP := (show Hid (GI w A gs) from hp)
  have q1 := HS.out.2.cl
  clear hw1 hp
  go_enter Try.func8, Try.ntmps8
  go_wp2_with (rw [HE1.out])
  refine (HVw.out ()).mono ?_
  rintro e w2 ⟨hvw, b2⟩
  have HS2 := (show Hid (Below w.heap.size w w2 ∧ GX w2 w.heap.size (.slice A gs.length c)) from ⟨HS.out.1.trans (b2.mono HS.out.1.size), HS.out.2.below b2⟩)
  clear HVw HE1 q1 HS b2
  by_cases hz : (ckG gs).2 = 0
  · obtain ⟨mb, Ak, ck, now, rfl, hm, hk, hkf, hnl, hok, _⟩ := hvw.2 hz
    have hR := ckG_ok.1 hz
    have hn2 := hR.n2
    obtain ⟨w3, hw3⟩ : ∃ w3, w3 = w2.alloc (.cells #[.slice A gs.length c, .map (some mb), .slice Ak gs.length ck] 59) := ⟨_, rfl⟩
    have HE3 := (show Hid (w2.alloc (.cells #[.slice A gs.length c, .map (some mb), .slice Ak gs.length ck] 59) = w3) from hw3.symm)
    have hb3 : Below w2.heap.size w2 w3 := by rw [hw3]; exact below_box _ _
    have HX3 := (show Hid (VX w3 w2.heap.size (.slice A gs.length c) (.map (some mb)) (.slice Ak gs.length ck)) from by rw [hw3]; exact VX.new w2 _ _ _)
    have HB3 := (show Hid (Below w.heap.size w w3) from HS2.out.1.trans (hb3.mono HS2.out.1.size))
    have HV := (show Hid (VwO w3 gs A mb Ak now) from ⟨hR, HP.out.later HB3.out, hm.later hb3, hk.later hb3, hnl⟩)
    have HKn := (show Hid (KnF gs now ∧ now.length = gs.length ∧ (ckG gs).2 = 0) from ⟨hkf, hnl, hz⟩)
    have y0 := HX3.out.c0
    have y1 := HX3.out.c1
    have y2 := HX3.out.c2
    have q3 := (HS2.out.2.below hb3).cl
    clear hvw hm hk hkf hnl hok hz hR hw3 hb3 HX3 HS2 HP
    have HLo := (show Hid (∀ _ : Unit, Calls Try.prog 14 #[.agg #[.slice A gs.length c, .map (some mb), .slice Ak gs.length ck]] w3 fun e w' => (∃ v, e = .returned v ∧ w'.ownsRow w3.heap.size 27 2 v (lpG gs (nbE now) gs.length).length (spc (lpG gs (nbE now) gs.length))) ∧ Below w3.heap.size w3 w') from fun _ => vloops_any mb A Ak c ck w3 HV.out)
    go_wp2_with (rw [HE3.out])
    refine (HLo.out ()).mono ?_
    rintro e w4 ⟨⟨v, rfl, ho⟩, b4⟩
    have HF := (show Hid (w4.ownsRow w.heap.size 27 2 v (lpG gs (nbE now) gs.length).length (spc (lpG gs (nbE now) gs.length)) ∧ Below w.heap.size w w4) from ⟨own_base ho HB3.out.size, HB3.out.trans (b4.mono HB3.out.size)⟩)
    clear ho b4 HLo HE3 y0 y1 y2 q3
    go_wp2_with fail
    refine bodyPost_ret (v := .tuple #[v, .int .i64 0]) (by simp [results, Try.results8, go_sem]) rfl ?_
    exact ⟨⟨fun q => absurd HKn.out.2.2 q, fun _ => ⟨now, v, HKn.out.1, HKn.out.2.1, rfl, HF.out.1⟩⟩, HF.out.2⟩
  · have e1 := hvw.1 hz
    subst e1
    have tz : ((ckG gs).2 != 0) = true := by rw [bne, beq_eq_false_iff_ne.2 hz]; rfl
    have HZ := (show Hid ((ckG gs).2 ≠ 0) from hz)
    obtain ⟨w3, hw3⟩ : ∃ w3, w3 = w2.alloc (.cells #[.slice none 0 0, .map none, .slice none 0 0] 59) := ⟨_, rfl⟩
    have HE3 := (show Hid (w2.alloc (.cells #[.slice none 0 0, .map none, .slice none 0 0] 59) = w3) from hw3.symm)
    have HB3 := (show Hid (Below w.heap.size w w3) from by rw [hw3]; exact HS2.out.1.trans ((below_box _ _).mono HS2.out.1.size))
    clear hvw hz hw3 HS2 HP
    go_wp2_with fail
    rw [HE3.out]
    refine bodyPost_ret (v := .tuple #[.slice none 0 0, .int .i64 (ckG gs).2]) (by simp [results, Try.results8, go_sem]) rfl ?_
    exact ⟨⟨fun _ => rfl, fun q => absurd q HZ.out⟩, HB3.out⟩

set_option maxRecDepth 100000 in
set_option maxHeartbeats 16000000 in
/-- Heads, by the program. -/
theorem fheads_any (gs : GL) (A : Option Addr) (c : Nat) (i : Int) (w : World) (hp : GI w A gs) :
    Calls Try.prog 9 #[.agg #[.slice A gs.length c], .int .i64 i] w fun e w' => HdR gs w w' i e ∧ Below w.heap.size w w' := by
  obtain ⟨w1, hw1⟩ : ∃ w1, w1 = w.alloc (.cells #[.slice A gs.length c] 24) := ⟨_, rfl⟩
  have HE1 := (show Hid (w.alloc (.cells #[.slice A gs.length c] 24) = w1) from hw1.symm)
  have HS := (show Hid (Below w.heap.size w w1 ∧ GX w1 w.heap.size (.slice A gs.length c)) from by rw [hw1]; exact ⟨below_box _ _, GX.mk (heap_alloc_new w _)⟩)
  have HVw := (show Hid (∀ _ : Unit, Calls Try.prog 13 #[.agg #[.slice A gs.length c]] w1 fun e w' => VwR w1 w' gs A c e ∧ Below w1.heap.size w1 w') from fun _ => viewOf_any gs A c w1 (hp.later HS.out.1))
  have HP := (show Hid (GI w A gs) from hp)
  have q1 := HS.out.2.cl
  clear hw1 hp
  go_enter Try.func9, Try.ntmps9
  go_wp2_with (rw [HE1.out])
  refine (HVw.out ()).mono ?_
  rintro e w2 ⟨hvw, b2⟩
  have HS2 := (show Hid (Below w.heap.size w w2 ∧ GX w2 w.heap.size (.slice A gs.length c)) from ⟨HS.out.1.trans (b2.mono HS.out.1.size), HS.out.2.below b2⟩)
  clear HVw HE1 q1 HS b2
  by_cases hz : (ckG gs).2 = 0
  · obtain ⟨mb, Ak, ck, now, rfl, hm, hk, hkf, hnl, hok, _⟩ := hvw.2 hz
    have hR := ckG_ok.1 hz
    have hn2 := hR.n2
    obtain ⟨w3, hw3⟩ : ∃ w3, w3 = w2.alloc (.cells #[.slice A gs.length c, .map (some mb), .slice Ak gs.length ck] 59) := ⟨_, rfl⟩
    have HE3 := (show Hid (w2.alloc (.cells #[.slice A gs.length c, .map (some mb), .slice Ak gs.length ck] 59) = w3) from hw3.symm)
    have hb3 : Below w2.heap.size w2 w3 := by rw [hw3]; exact below_box _ _
    have HX3 := (show Hid (VX w3 w2.heap.size (.slice A gs.length c) (.map (some mb)) (.slice Ak gs.length ck)) from by rw [hw3]; exact VX.new w2 _ _ _)
    have HB3 := (show Hid (Below w.heap.size w w3) from HS2.out.1.trans (hb3.mono HS2.out.1.size))
    have HV := (show Hid (VwO w3 gs A mb Ak now) from ⟨hR, HP.out.later HB3.out, hm.later hb3, hk.later hb3, hnl⟩)
    have HKn := (show Hid (KnF gs now ∧ now.length = gs.length ∧ (ckG gs).2 = 0) from ⟨hkf, hnl, hz⟩)
    have y0 := HX3.out.c0
    have y1 := HX3.out.c1
    have y2 := HX3.out.c2
    have q3 := (HS2.out.2.below hb3).cl
    clear hvw hm hk hkf hnl hok hz hR hw3 hb3 HX3 HS2 HP
    by_cases h0 : i < 0
    · have HI := (show Hid (i < 0) from h0)
      go_wp2_with (rw [HE3.out])
      refine bodyPost_ret (v := .tuple #[.slice none 0 0, .int .i64 1]) (by simp [results, Try.results9, go_sem]) rfl ?_
      exact ⟨⟨fun q => absurd HKn.out.2.2 q, fun _ => ⟨fun _ => rfl, fun r e1 _ => by have := HI.out; omega⟩⟩, HB3.out⟩
    · obtain ⟨r, rfl⟩ : ∃ r : Nat, i = (r : Int) := ⟨i.toNat, by omega⟩
      by_cases h1 : r < gs.length
      · have h2 : ¬ (gs.length : Int) ≤ (r : Int) := by omega
        obtain ⟨g, hg⟩ : ∃ g, gs[r]? = some g := ⟨_, List.getElem?_eq_getElem h1⟩
        have HI := (show Hid (r < gs.length) from h1)
        have HHe := (show Hid (∀ _ : Unit, Calls Try.prog 15 #[.agg #[.slice A gs.length c, .map (some mb), .slice Ak gs.length ck], .int .i64 (r : Int)] w3 fun e w' => (∃ v, e = .returned v ∧ w'.ownsRow w3.heap.size 3 1 v (hdl gs.length (hdM gs (nbE now)) r).length ((hdl gs.length (hdM gs (nbE now)) r).map U.nI)) ∧ Below w3.heap.size w3 w') from fun _ => headsOf_any mb A Ak c ck hg w3 HV.out)
        clear hg
        go_wp2_with (rw [HE3.out])
        refine (HHe.out ()).mono ?_
        rintro e w4 ⟨⟨v, rfl, ho⟩, b4⟩
        have HF := (show Hid (w4.ownsRow w.heap.size 3 1 v (hdl gs.length (hdM gs (nbE now)) r).length ((hdl gs.length (hdM gs (nbE now)) r).map U.nI) ∧ Below w.heap.size w w4) from ⟨own_base ho HB3.out.size, HB3.out.trans (b4.mono HB3.out.size)⟩)
        clear ho b4 HHe HE3 y0 y1 y2 q3
        go_wp2_with fail
        refine bodyPost_ret (v := .tuple #[v, .int .i64 0]) (by simp [results, Try.results9, go_sem]) rfl ?_
        exact ⟨⟨fun q => absurd HKn.out.2.2 q, fun _ => ⟨fun q => by have := HI.out; omega, fun r2 e1 _ => by
          have e2 : r = r2 := by omega
          subst e2
          exact ⟨now, v, HKn.out.1, HKn.out.2.1, rfl, HF.out.1⟩⟩⟩, HF.out.2⟩
      · have h2 : (gs.length : Int) ≤ (r : Int) := by omega
        have HI := (show Hid (¬ r < gs.length) from h1)
        go_wp2_with (rw [HE3.out])
        refine bodyPost_ret (v := .tuple #[.slice none 0 0, .int .i64 1]) (by simp [results, Try.results9, go_sem]) rfl ?_
        exact ⟨⟨fun q => absurd HKn.out.2.2 q, fun _ => ⟨fun _ => rfl, fun r2 e1 h3 => by have := HI.out; omega⟩⟩, HB3.out⟩
  · have e1 := hvw.1 hz
    subst e1
    have tz : ((ckG gs).2 != 0) = true := by rw [bne, beq_eq_false_iff_ne.2 hz]; rfl
    have HZ := (show Hid ((ckG gs).2 ≠ 0) from hz)
    obtain ⟨w3, hw3⟩ : ∃ w3, w3 = w2.alloc (.cells #[.slice none 0 0, .map none, .slice none 0 0] 59) := ⟨_, rfl⟩
    have HE3 := (show Hid (w2.alloc (.cells #[.slice none 0 0, .map none, .slice none 0 0] 59) = w3) from hw3.symm)
    have HB3 := (show Hid (Below w.heap.size w w3) from by rw [hw3]; exact HS2.out.1.trans ((below_box _ _).mono HS2.out.1.size))
    clear hvw hz hw3 HS2 HP
    go_wp2_with fail
    rw [HE3.out]
    refine bodyPost_ret (v := .tuple #[.slice none 0 0, .int .i64 (ckG gs).2]) (by simp [results, Try.results9, go_sem]) rfl ?_
    exact ⟨⟨fun _ => rfl, fun q => absurd q HZ.out⟩, HB3.out⟩
end Go.Proofs.Ytbipjdgholdhcaa.N

namespace Go.Proofs.Ytbipjdgholdhcaa.N
open Go.RowKit Go.Maps
open Go.Proofs.Ytbipjdgholdhcaa.T
/-- A rule that is free: not told yet, all its heads told. -/
def frO (n : Nat) (c : Mx) (l : List Nat) (r : Nat) : Bool := !l.contains r && (hdl n c r).all fun q => l.contains q
/-- The first free rule. -/
def nxO (n : Nat) (c : Mx) (l : List Nat) : Option Nat := (List.range n).find? (frO n c l)
/-- The order after so many rounds. -/
def ordK (n : Nat) (c : Mx) : Nat → List Nat
  | 0 => []
  | k + 1 => match nxO n c (ordK n c k) with
    | none => ordK n c k
    | some r => ordK n c k ++ [r]
theorem nxO_some {n : Nat} {c : Mx} {l : List Nat} {r : Nat} (hr : r < n) (h : frO n c l r = true) (hb : ∀ q, q < r → frO n c l q = false) : nxO n c l = some r := by
  unfold nxO
  rw [List.find?_eq_some_iff_append]
  refine ⟨h, List.range r, (List.range (n - r - 1)).map (· + (r + 1)), ?_, fun q hq => by rw [hb q (List.mem_range.1 hq)]; rfl⟩
  apply List.ext_getElem?
  intro i
  by_cases hi : i < r
  · rw [List.getElem?_append_left (by rw [List.length_range]; exact hi), List.getElem?_range (by omega), List.getElem?_range hi]
  · rw [List.getElem?_append_right (by rw [List.length_range]; omega), List.length_range]
    by_cases he : i = r
    · rw [he, Nat.sub_self, List.getElem?_range hr]; rfl
    · obtain ⟨d, rfl⟩ : ∃ d, i = r + 1 + d := ⟨i - (r + 1), by omega⟩
      rw [show r + 1 + d - r = d + 1 from by omega, List.getElem?_cons_succ, List.getElem?_map]
      by_cases hd : r + 1 + d < n
      · rw [List.getElem?_range hd, List.getElem?_range (by omega)]
        show some _ = some _
        rw [show r + 1 + d = d + (r + 1) from by omega]
      · rw [List.getElem?_eq_none (by rw [List.length_range]; omega), List.getElem?_eq_none (by rw [List.length_range]; omega)]
        rfl
theorem nxO_none {n : Nat} {c : Mx} {l : List Nat} (h : ∀ q, q < n → frO n c l q = false) : nxO n c l = none := by
  unfold nxO
  rw [List.find?_eq_none]
  intro q hq
  rw [h q (List.mem_range.1 hq)]
  decide
theorem nxO_lt {n : Nat} {c : Mx} {l : List Nat} {r : Nat} (h : nxO n c l = some r) : r < n ∧ r ∉ l := by
  unfold nxO at h
  have h1 := List.mem_of_find?_eq_some h
  have h2 := List.find?_some h
  refine ⟨List.mem_range.1 h1, fun q => ?_⟩
  unfold frO at h2
  rw [Bool.and_eq_true] at h2
  have h3 := h2.1
  rw [List.contains_iff_mem.2 q] at h3
  cases h3
theorem ordK_none {n : Nat} {c : Mx} {k : Nat} (h : nxO n c (ordK n c k) = none) : ∀ d, ordK n c (k + d) = ordK n c k := by
  intro d
  induction d with
  | zero => rfl
  | succ d ih =>
    show (match nxO n c (ordK n c (k + d)) with | none => ordK n c (k + d) | some r => ordK n c (k + d) ++ [r]) = _
    rw [ih, h]
theorem ordK_some {n : Nat} {c : Mx} {k r : Nat} (h : nxO n c (ordK n c k) = some r) : ordK n c (k + 1) = ordK n c k ++ [r] := by
  show (match nxO n c (ordK n c k) with | none => ordK n c k | some r => ordK n c k ++ [r]) = _
  rw [h]
theorem ordK_nd {n : Nat} {c : Mx} : ∀ k, (ordK n c k).Nodup ∧ ∀ x ∈ ordK n c k, x < n := by
  intro k
  induction k with
  | zero => exact ⟨List.nodup_nil, fun x h => by cases h⟩
  | succ k ih =>
    cases h : nxO n c (ordK n c k) with
    | none => have e := ordK_none h 1; rw [e]; exact ih
    | some r =>
      rw [ordK_some h]
      obtain ⟨h1, h2⟩ := nxO_lt h
      refine ⟨List.nodup_append.2 ⟨ih.1, List.pairwise_singleton _ r, fun a ha b hb e => h2 ?_⟩, fun x hx => ?_⟩
      · rw [List.mem_singleton] at hb
        rw [← hb, ← e]; exact ha
      · rcases List.mem_append.1 hx with h | h
        · exact ih.2 x h
        · rw [List.mem_singleton.1 h]; exact h1
theorem ordK_few {n : Nat} {c : Mx} (k : Nat) : (ordK n c k).length ≤ n := few_below n _ (ordK_nd k).1 (ordK_nd k).2
end Go.Proofs.Ytbipjdgholdhcaa.N

namespace Go.Proofs.Ytbipjdgholdhcaa.N
open Go.RowKit Go.Maps
open Go.Proofs.Ytbipjdgholdhcaa.T

open U (below_grown own_get own_slice)
/-- Numbers, read. -/
def RdI (W : World) (A : Option Addr) (l : List Nat) : Prop := ∀ (j : Nat) x, l[j]? = some x → ∃ g o, A = some ⟨g, o, none⟩ ∧ g < W.heap.size ∧ W.cell? ⟨g, o + j, none⟩ = some (.int .i64 (x : Int))
theorem RdI.later {W W' : World} {A : Option Addr} {l : List Nat} (h : RdI W A l) (hb : Below W.heap.size W W') : RdI W' A l := fun j x hx => by
  obtain ⟨g, o, rfl, lg, y⟩ := h j x hx
  exact ⟨g, o, rfl, Nat.lt_of_lt_of_le lg hb.size, (hb.cell (p := ⟨g, o + j, none⟩) lg).trans y⟩
set_option maxRecDepth 100000 in
set_option maxHeartbeats 8000000 in
theorem hasAll_any (f : Nat → Bool) (l : List Nat) (hl : l.length ≤ 200) (hx : ∀ x ∈ l, x < 200) (A : Option Addr) (c : Nat) (w : World) (hp : RdI w A l) :
    Calls Try.prog 19 #[.agg (mkA f), .slice A l.length c] w fun e w' => e = .returned (.bool (l.all f)) ∧ Below w.heap.size w w' := by
  obtain ⟨w1, hw1⟩ : ∃ w1, w1 = w.alloc (.cells (mkA f) 68) := ⟨_, rfl⟩
  have HE1 := (show Hid (w.alloc (.cells (mkA f) 68) = w1) from hw1.symm)
  have HS := (show Hid (Below w.heap.size w w1 ∧ MX w1 w.heap.size f) from by rw [hw1]; exact ⟨below_box _ _, MX.new w f⟩)
  have HX := (show Hid (RdI w A l ∧ ∀ x ∈ l, x < 200) from ⟨hp, hx⟩)
  have HA0 := (show Hid (∀ j x, j < 0 → l[j]? = some x → f x = true) from fun j x h => absurd h (Nat.not_lt_zero _))
  clear hp hx hw1
  go_enter Try.func19, Try.ntmps19
  go_wp2_with (rw [HE1.out])
  clear HE1
  go_loopw [9] (fun t wr => ∃ k : Nat, k ≤ l.length ∧ t = .int .i64 (k : Int) ∧ wr = w1 ∧ Hid (∀ j x, j < k → l[j]? = some x → f x = true)) (fun t _ => l.length - (intOf t).toNat)
  case atStart => exact ⟨0, Nat.zero_le _, by go_num, by first | rfl | trivial, HA0⟩
  case round =>
    obtain ⟨k, hk, rfl, rfl, HA⟩ := hrel
    clear HA0
    by_cases hlt : k < l.length
    · obtain ⟨x, hx⟩ : ∃ x, l[k]? = some x := ⟨_, List.getElem?_eq_getElem hlt⟩
      obtain ⟨g, o, rfl, lg, y⟩ := HX.out.1 k x hx
      have hx2 := HX.out.2 x (List.mem_of_getElem? hx)
      have y1 := (HS.out.1.cell (p := ⟨g, o + k, none⟩) lg).trans y
      have m1 := HS.out.2.cl hx2
      have z0 : (0 : Int) ≤ (k : Int) := by omega
      have z1 : (k : Int) < (l.length : Int) := by omega
      have z2 : (0 : Int) ≤ (x : Int) := by omega
      have z3 : (x : Int) < 200 := by omega
      have HXk := (show Hid (l[k]? = some x) from hx)
      clear lg y hx
      cases hf : f x with
      | true =>
        rw [hf] at m1
        have HN := (show Hid (∀ j x, j < k + 1 → l[j]? = some x → f x = true) from fun j x2 hj h2 => by
          by_cases e : j = k
          · subst e
            rw [HXk.out] at h2
            cases h2
            exact hf
          · exact HA.out j x2 (by omega) h2)
        clear HXk HA hf
        go_wp2_with fail
        go_roundw
        case rel => exact ⟨k + 1, by omega, by go_num, by first | rfl | trivial, HN⟩
        case measure => simp [intOf]; omega
      | false =>
        rw [hf] at m1
        have HV := (show Hid (l.all f = false) from by
          cases e : l.all f with
          | false => rfl
          | true =>
            have := List.all_eq_true.1 e x (List.mem_of_getElem? HXk.out)
            rw [hf] at this
            cases this)
        have HB := (show Hid (Below w.heap.size w wr) from HS.out.1)
        clear HXk HA hf HS HX
        go_wp2_with fail
        go_ret
        exact ⟨by rw [HV.out]; rfl, HB.out⟩
    · obtain rfl : k = l.length := by omega
      have HV := (show Hid (l.all f = true) from List.all_eq_true.2 fun x hx => by
        obtain ⟨j, hj⟩ := List.getElem?_of_mem hx
        exact HA.out j x (List.getElem?_eq_some_iff.1 hj).1 hj)
      have HB := (show Hid (Below w.heap.size w wr) from HS.out.1)
      clear HA HS HX
      go_wp2_with fail
      go_ret
      exact ⟨by rw [HV.out]; rfl, HB.out⟩
end Go.Proofs.Ytbipjdgholdhcaa.N
