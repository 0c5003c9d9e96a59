/- DERIVED. Plain mathematics and walks, laid together (19). -/
import Derived.Recover
import Derived.Defers
import Derived.Test.YtnpifgcgjgddoaaGreatDoorPw18
set_option maxRecDepth 100000
set_option maxHeartbeats 8000000
namespace Go.Proofs.YtnpifgcgjgddoaaGreatDoor.N
open Go.RowKit
structure GX (W : World) (k : Nat) (a : Value) : Prop where
 heap : W.heap[k]? = some (.cells #[a] 33 (0, 0))
theorem GX.lt {W : World} {k : Nat} {a : Value} (h : GX W k a) : k < W.heap.size := (Array.getElem?_eq_some_iff.1 h.heap).1
theorem GX.same {W W' : World} {k : Nat} {a : Value} (h : GX W k a) (hb : W'.heap[k]? = W.heap[k]?) : GX W' k a := ⟨hb.trans h.heap⟩
theorem GX.below {W W' : World} {k : Nat} {a : Value} (h : GX W k a) (hb : Below W.heap.size W W') : GX W' k a := h.same (hb.block k h.lt)
theorem GX.cl {W : World} {k : Nat} {a : Value} (h : GX W k a) : W.cell? ⟨k, 0, none⟩ = some a := by
 rw [cell_of_row W k 0 _ 33 (0, 0) h.heap]; rfl
theorem GX.fz {W : World} {k : Nat} {a : Value} (h : GX W k a) : W.frozen? ⟨k, 0, none⟩ = false := frozen_of_row W k 0 _ 33 h.heap
theorem GX.set {W : World} {k : Nat} {a : Value} (h : GX W k a) (u : Value) : GX (W.setCell ⟨k, 0, none⟩ u) k u := ⟨by
 rw [heap_setCell_same _ k 0 _ 33 u h.heap]; simp⟩
theorem GX.ne {W : World} {k B e s n : Nat} {u a : Value} {xs : List Value} (h : GX W k a) (ho : W.ownsRow B e s u n xs) (he : e ≠ 33) {j : Nat} (hj : u.ownBlock = some j) : j ≠ k := fun q => by
 subst q
 obtain ⟨cs, hc⟩ := zfh ho hj
 rw [h.heap] at hc
 injection hc with h4
 injection h4 with _ h5
 exact he h5.symm
theorem Tryz.info41 : (Tryz.prog.info? 73).map (fun i => (i.zero, i.size, i.bytes)) = some (some (.agg #[.string ⟨#[]⟩, .slice none 0 0]), 2, 40) := by kernel_rfl
def grV (x : Rl × Value) : List Value := [.string x.1.2.1, x.2]
def grc (l : List (Rl × Value)) : List Value := l.flatMap grV
theorem zjB (a b : List (Rl × Value)) : grc (a ++ b) = grc a ++ grc b := List.flatMap_append
theorem zq1 (x : Rl × Value) : grc [x] = grV x := by unfold grc; rw [List.flatMap_cons, List.flatMap_nil, List.append_nil]
theorem zq2 (E : PE) (z : Nat) (L : List (Rl × Value)) : ∀ (k j : Nat) (x : Rl × Value) (u : Value), L[k]? = some x -> (plV E z x)[j]? = some u -> (plc E z L)[k * 3 + j]? = some u := by
 induction L with
 | nil => intro k j t u h; simp at h
 | cons a L ih =>
  intro k j t u h hj
  have e : plc E z (a :: L) = plV E z a ++ plc E z L := by unfold plc; rw [List.flatMap_cons]
  have hl : (plV E z a).length = 3 := rfl
  rw [e]
  cases k with
  | zero =>
   have h : a = t := by simpa using h
   subst h
   rw [Nat.zero_mul, Nat.zero_add, List.getElem?_append_left (by have := (List.getElem?_eq_some_iff.1 hj).1; omega)]
   exact hj
  | succ k =>
   rw [List.getElem?_append_right (by omega), hl, show (k + 1) * 3 + j - 3 = k * 3 + j from by omega]
   exact ih k j t u (by simpa using h) hj
theorem zoG {E : PE} {z : Nat} {W : World} {B : Nat} {u : Value} {ov : List (Rl × Value)} (h : W.ownsRow B 79 3 u ov.length (plc E z ov)) : ∃ A c, u = .slice A ov.length c /\ ∀ (k : Nat) x, ov[k]? = some x -> ∃ g, A = some ⟨g, 0, none⟩ /\ g < W.heap.size /\ W.cell? ⟨g, k * 3, none⟩ = some (.int .i64 (plA E z x.1.1)) /\ W.cell? ⟨g, k * 3 + 1, none⟩ = some (.string x.1.2.1) /\ W.cell? ⟨g, k * 3 + 2, none⟩ = some x.2 := by
 have hc := h
 rcases h.2 with ⟨rfl, h0⟩ | ⟨g, cap, cur, rfl, _⟩
 ·refine ⟨none, 0, by rw [h0], fun k x hk => ?_⟩
  rw [List.eq_nil_of_length_eq_zero h0] at hk
  simp at hk
 ·refine ⟨_, cap, rfl, fun k x hk => ⟨g, rfl, (hc.lt g rfl).2, ?_⟩⟩
  have key : ∀ j u, (plV E z x)[j]? = some u -> W.cell? ⟨g, k * 3 + j, none⟩ = some u := fun j u hj => by
   have := (hc.cells (g := g) rfl) (k * 3 + j) u (zq2 E z ov k j x u hk hj)
   rwa [Addr.add_lit, Nat.zero_add] at this
  exact ⟨key 0 _ rfl, key 1 _ rfl, key 2 _ rfl⟩
def smN (ov : List (Rl × Value)) (k : Nat) : Nat := ((ov.take k).map fun x => x.1.2.2.length).sum
theorem ziM {ov : List (Rl × Value)} {k : Nat} {x : Rl × Value} (h : ov[k]? = some x) : smN ov (k + 1) = smN ov k + x.1.2.2.length := by
 unfold smN
 rw [List.take_add_one, h, List.map_append, List.sum_append]
 simp
structure AtO (w0 W wr : World) (gv : Value) (ov : List (Rl × Value)) (k : Nat) : Prop where
 b : Below W.heap.size W wr
 r : GX wr W.heap.size (.slice none 0 0)
 x : GX wr (W.heap.size + 1) gv
 o : wr.ownsRow W.heap.size 73 2 gv k (grc (ov.take k))
theorem AtO.later {w0 W wr W' : World} {gv : Value} {ov : List (Rl × Value)} {k : Nat} (h : AtO w0 W wr gv ov k) (hb : Below wr.heap.size wr W') : AtO w0 W W' gv ov k :=
 ⟨h.b.trans (hb.mono h.b.size), h.r.below hb, h.x.below hb, ownB h.o hb⟩
def GrV (_w0 W : World) (ov : List (Rl × Value)) (r : Option (Int × Int)) (e : Ending) (W' : World) : Prop := match r with
 | some p => e = pnc p.1 p.2 /\ Below W.heap.size W W'
 | none => ∃ u, e = .returned (.agg #[u]) /\ W'.ownsRow W.heap.size 73 2 u ov.length (grc ov) /\ Below W.heap.size W W'
theorem ret_gx {fn : Func} {R : Ending -> World -> Prop} {act : Act} {W : World} {k : Nat} {a : Value} (hF : fn.results = #[.cell 2 33]) (hd : act.defers = []) (h2 : act.tmps.getD 2 undef = .pointer (some ⟨k, 0, none⟩)) (hT : GX W k a) (hR : R (.returned (.agg #[a])) W) : bodyPost Tryz.prog fn R .ret act W := by
 have c0 := hT.cl
 refine bodyPost_ret (v := .agg #[a]) ?_ hd hR
 simp only [Array.getD_eq_getD_getElem?] at h2
 simp [results, hF, go_sem, h2, c0]
theorem ze9 {E : PE} {z : Nat} {w0 W : World} {u : Value} {ov : List (Rl × Value)} (ho : W.ownsRow w0.heap.size 79 3 u ov.length (plc E z ov)) (x : Rl × Value) (hx : ov[200]? = some x) (hn : ov.length <= 65536) : Calls Tryz.prog 39 #[u] W fun e W' => e = pnc (plA E z x.1.1) 2 /\ Below W.heap.size W W' := by
 obtain ⟨A, c, rfl, hc⟩ := zoG ho
 obtain ⟨g, rfl, hlt, e0, e1, e2⟩ := hc 200 x hx
 have hl : 200 < ov.length := (List.getElem?_eq_some_iff.1 hx).1
 have HU : Hid (∀ a c W, Calls Tryz.prog 60 #[.int .i64 a, .int .i64 c] W fun e W' => e = pnc a c /\ W' = W) := fun a c W => zcR a c W
 have z1 : (200 : Int) < (ov.length : Int) := by omega
 have HB : Hid (Below W.heap.size W (W.alloc (.cells #[.slice none 0 0] 33))) := zaa _ _
 have e0' := (HB.out.cell (p := ⟨g, 200 * 3, none⟩) hlt).trans e0
 clear ho hc hx e0 e1 e2 hl
 generalize plA E z x.1.1 = p0 at *
 generalize ov.length = n at *
 go_enter Tryz.func39, Tryz.ntmps39
 go_wp2_with fail
 generalize W.alloc (.cells #[.slice none 0 0] 33) = w1 at *
 go_wp2_with fail
 refine (HU.out _ _ _).mono ?_
 rintro e w2 ⟨rfl, rfl⟩
 exact zae rfl ⟨rfl, HB.out⟩
theorem zgb {E : PE} {z : Nat} {w0 W : World} {u : Value} {ov : List (Rl × Value)} (ho : W.ownsRow w0.heap.size 79 3 u ov.length (plc E z ov)) (hb : Bds w0 W ov) (htx : ∀ x ∈ ov, ∀ n ∈ x.1.2.2, n.tx.size <= 65536) (hln : ∀ x ∈ ov, x.1.2.2.length <= 2000000000000) (hn : ov.length <= 200) : Calls Tryz.prog 39 #[u] W fun e W' => GrV w0 W ov (zhG E z 0 (ov.map (·.1))) e W' := by
 obtain ⟨i0, hinf, hz0, hz1, hz2⟩ := info_parts Tryz.info41
 obtain ⟨A, c, rfl, hc⟩ := zoG ho
 have HC := hO hc
 have HBd := hO hb
 have HTx := hO htx
 have HLn := hO hln
 have HG : Hid (∀ k, k < ov.length -> ∃ x, ov[k]? = some x /\ x ∈ ov) := fun k hk => ⟨_, List.getElem?_eq_getElem hk, List.getElem_mem hk⟩
 have HU : Hid (∀ a c W, Calls Tryz.prog 60 #[.int .i64 a, .int .i64 c] W fun e W' => e = pnc a c /\ W' = W) := fun a c W => zcR a c W
 have HA := (show Hid (AtO w0 W ((W.alloc (.cells #[.slice none 0 0] 33)).alloc (.cells #[.slice none 0 0] 33)) (.slice none 0 0) ov 0) from
  ⟨((Below.refl _ _).alloc (Nat.le_refl _) _).alloc (by rw [World.size_alloc]; omega) _, (GX.mk (heap_alloc_new W _)).below (zaa _ _), ⟨by have h := heap_alloc_new (W.alloc (.cells #[.slice none 0 0] 33)) (.cells #[.slice none 0 0] 33); rw [World.size_alloc] at h; exact h⟩, World.ownsRow_nil _ _ _ _⟩)
 have z2 : ¬ (200 : Int) < (ov.length : Int) := by omega
 have HZ0 : Hid (zhG E z 0 (ov.map (·.1)) = zhG E z (smN ov 0) ((ov.drop 0).map (·.1))) := rfl
 generalize zhG E z 0 (ov.map (·.1)) = R0 at *
 clear ho hb htx hln hc
 go_enter Tryz.func39, Tryz.ntmps39
 go_wp2_with fail
 generalize (W.alloc (.cells #[.slice none 0 0] 33)).alloc (.cells #[.slice none 0 0] 33) = w1 at *
 go_loopw [4, 19] (fun s t wr => ∃ (k : Nat) (gv : Value), k <= ov.length /\ smN ov k <= 2048 /\ s = .int .i64 (smN ov k : Nat) /\ t = .int .i64 k /\ Hid (AtO w0 W wr gv ov k) /\ Hid (R0 = zhG E z (smN ov k) ((ov.drop k).map (·.1)))) (fun _ t _ => ov.length - (intOf t).toNat)
 case atStart => exact ⟨0, _, Nat.zero_le _, Nat.zero_le _, rfl, rfl, HA, HZ0⟩
 case round =>
  obtain ⟨k, gv, hk, hsm, rfl, rfl, HW, HR⟩ := hrel
  clear HA HZ0
  by_cases hlt : k < ov.length
  ·obtain ⟨x, hx, hxm⟩ := HG.out k hlt
   obtain ⟨g, rfl, hglt, e0, e1, e2⟩ := HC.out k x hx
   have hb1 := HBd.out.e x hxm
   obtain ⟨A2, n2, hv2⟩ := zdX hb1
   have HSz : Hid (R0 = if (T.ck x.1.2.2).2 ≠ 0 then some (plA E z x.1.1, (T.ck x.1.2.2).2) else if 2048 < smN ov k + x.1.2.2.length then some (plA E z x.1.1, 2) else zhG E z (smN ov (k + 1)) ((ov.drop (k + 1)).map (·.1))) := by
    show R0 = _
    rw [HR.out, List.drop_eq_getElem_cons hlt, show ov[k] = x from (List.getElem?_eq_some_iff.1 hx).2, List.map_cons, zhG, ziM hx]
   have hsm1 := ziM hx
   obtain ⟨m1, hm1⟩ : ∃ m, m = smN ov (k + 1) := ⟨_, rfl⟩
   rw [<- hm1] at hsm1 HSz
   have HTk : Hid (grc (ov.take (k + 1)) = grc (ov.take k) ++ [.string x.1.2.1, x.2]) := by show grc _ = _; rw [List.take_add_one, hx, zjB]; show _ ++ grc [x] = _; rw [zq1]; rfl
   have HCk : Hid (∀ W2, Below W.heap.size W W2 -> Calls Tryz.prog 25 #[.slice A2 x.1.2.2.length n2] W2 fun e w' => e = .returned (.tuple #[.int .i64 (T.ck x.1.2.2).1, .int .i64 (T.ck x.1.2.2).2]) /\ Below W2.heap.size W2 w') := fun W2 hW2 => by
    have hrow := za1 (W' := W2) hb1 fun j hj => hW2.block j (hb1.lt j hj).2
    rw [hv2] at hrow
    obtain ⟨A3, c3, e3, hrd⟩ := T.zoE hrow rfl
    cases e3
    exact T.zbb _ _ _ (by have := HLn.out x hxm; omega) (fun n hn => by have := HTx.out x hxm n hn; omega) W2 hrd
   have hlx := HLn.out x hxm
   rw [hv2] at e2 HTk
   have d0 := (HW.out.b.cell (p := ⟨g, k * 3, none⟩) hglt).trans e0
   have d1 := (HW.out.b.cell (p := ⟨g, k * 3 + 1, none⟩) hglt).trans e1
   have d2 := (HW.out.b.cell (p := ⟨g, k * 3 + 2, none⟩) hglt).trans e2
   clear e0 e1 e2 hx hxm hb1 hv2 HG HR HBd HTx HLn HC
   generalize T.ck x.1.2.2 = r at *
   generalize x.1.2.2.length = nl at *
   generalize x.1.2.1 = nm at *
   generalize plA E z x.1.1 = p0 at *
   have z0 : (0 : Int) <= (k : Int) := by omega
   have z1 : (k : Int) < (ov.length : Int) := by omega
   have hsz := HW.out.b.size
   have HB1 : Hid (AtO w0 W (wr.alloc (.cells #[.int .i64 p0, .string nm, .slice A2 nl n2] 79)) gv ov k /\ PX (wr.alloc (.cells #[.int .i64 p0, .string nm, .slice A2 nl n2] 79)) wr.heap.size (.int .i64 p0) (.string nm) (.slice A2 nl n2)) := ⟨HW.out.later (zaa _ _), ⟨heap_alloc_new wr _⟩⟩
   go_wp2_with fail
   refine (HCk.out _ HB1.out.1.b).mono ?_
   rintro e w2 ⟨rfl, hb2⟩
   have HB2 : Hid (AtO w0 W w2 gv ov k /\ PX w2 wr.heap.size (.int .i64 p0) (.string nm) (.slice A2 nl n2)) := ⟨HB1.out.1.later hb2, HB1.out.2.same (hb2.block _ HB1.out.2.lt)⟩
   clear hb2 HB1 HCk d0 d1 d2 HW
   obtain ⟨y0, y1, y2⟩ := HB2.out.2.cl
   by_cases hr2 : r.2 = 0
   ·have t1 : (r.2 != 0) = false := by rw [hr2]; rfl
    have u1 : IntKind.i64.wrap ((smN ov k : Nat) + (nl : Int)) = (m1 : Int) := by rw [IntKind.wrap_i64]; omega
    by_cases h48 : 2048 < m1
    ·have HV : Hid (R0 = some (p0, 2)) := by show R0 = _; rw [HSz.out, if_neg (by rw [hr2]; simp), if_pos (by omega)]
     have t2 : (2048 : Int) < (m1 : Int) := by omega
     clear HSz hr2 hsm1 hm1 HTk
     generalize smN ov k = s0 at *
     go_wp2_with fail
     refine (HU.out _ _ _).mono ?_
     rintro e w3 ⟨rfl, rfl⟩
     exact zae (P := Tryz.prog) (fn := Tryz.f39) rfl (by show GrV w0 W ov R0 _ _; rw [HV.out]; exact ⟨rfl, HB2.out.1.b⟩)
    ·have HV : Hid (R0 = zhG E z m1 ((ov.drop (k + 1)).map (·.1))) := by show R0 = _; rw [HSz.out, if_neg (by rw [hr2]; simp), if_neg (by omega)]
     have t2 : ¬ (2048 : Int) < (m1 : Int) := by omega
     have hO := HB2.out.1.o
     have q0 := HB2.out.1.x.cl
     have qf := HB2.out.1.x.fz
     have HM : Hid (m1 = smN ov (k + 1)) := hm1
     clear HSz hr2 hsm1 hm1
     generalize hs0 : smN ov k = s0 at *
     clear hs0
     have hs2 := HB2.out.1.b.size
     go_wp2_with (at_builtin; refine wpList_append_lies _ rfl _ _ 31 rfl W.heap.size 73 i0 (.agg #[.string ⟨#[]⟩, .slice none 0 0]) 2 40 Tryz.underlying31 hinf hz0 hz1 hz2 rfl (by decide) _ _ _ rfl (hO.alloc _) ⟨w2.heap.size, 0, none⟩ 1 1 [.string nm, .slice A2 nl n2] rfl rfl ?c1 ?c2 (by decide) ?c3 ?c4 ?c5 (w2.heap.size + 1) (by simp) ?_)
     case c1 => exact World.news_of_block (cs := #[.string nm, .slice A2 nl n2]) (t := 73) (fr := (0, 0)) (heap_alloc_new w2 _)
     case c2 => intro u hu; simp only [List.mem_cons, List.not_mem_nil, or_false] at hu; rcases hu with rfl | rfl <;> rfl
     case c3 => unfold maxLen; omega
     case c4 => omega
     case c5 => rw [World.size_alloc]; omega
     intro g3 cap w3 hown hgrow hat hlt3
     have hA2 := HB2.out.1.later (zaa w2 (.cells #[.string nm, .slice A2 nl n2] 73))
     have hO2 := hO.alloc (.cells #[.string nm, .slice A2 nl n2] 73)
     have hx3 : GX w3 (W.heap.size + 1) gv := hA2.x.same (hgrow.block _ hA2.x.lt (fun e => hA2.x.ne hO2 (by decide) e.symm rfl))
     have hr3 : GX w3 W.heap.size (.slice none 0 0) := hA2.r.same (hgrow.block _ hA2.r.lt (fun e => hA2.r.ne hO2 (by decide) e.symm rfl))
     have hbl3 : Below W.heap.size W w3 := hA2.b.grown hgrow hA2.b.size (fun j e => (hO2.lt j e).1)
     have HW3 := (show Hid (AtO w0 W (w3.setCell ⟨W.heap.size + 1, 0, none⟩ (.slice (some ⟨g3, 0, none⟩) (k + 1) cap)) (.slice (some ⟨g3, 0, none⟩) (k + 1) cap) ov (k + 1)) from
      ⟨hbl3.setCell (p := ⟨W.heap.size + 1, 0, none⟩) (Nat.le_succ _) _, hr3.same (Below.heap_setCell _ _ _ _ (by show W.heap.size ≠ W.heap.size + 1; omega)), hx3.set _, by
       rw [HTk.out]
       exact za1 hown fun j hj => Below.heap_setCell _ _ _ _ (hx3.ne hown (by decide) hj)⟩)
     have q3 := hx3.cl
     have qf3 := hx3.fz
     clear hown hgrow hat hlt3 hA2 hO2 hx3 hr3 hbl3 hO HB2 q0 qf y0 y1 y2 HTk
     go_wp2_with fail
     go_roundw
     case rel => exact ⟨k + 1, _, by omega, by rw [<- HM.out]; omega, by rw [<- HM.out], by go_num, HW3, by rw [<- HM.out]; exact HV⟩
     case measure => simp [intOf]; omega
   ·have t1 : (r.2 != 0) = true := by simpa using hr2
    have HV : Hid (R0 = some (p0, r.2)) := by show R0 = _; rw [HSz.out, if_pos hr2]
    clear HSz hr2 hsm1 hm1 HTk
    generalize smN ov k = s0 at *
    go_wp2_with fail
    refine (HU.out _ _ _).mono ?_
    rintro e w3 ⟨rfl, rfl⟩
    exact zae (P := Tryz.prog) (fn := Tryz.f39) rfl (by show GrV w0 W ov R0 _ _; rw [HV.out]; exact ⟨rfl, HB2.out.1.b⟩)
  ·obtain rfl : k = ov.length := by omega
   have HV : Hid (R0 = none) := by show R0 = _; rw [HR.out, List.drop_of_length_le (Nat.le_refl _)]; rfl
   have HO : Hid (wr.ownsRow W.heap.size 73 2 gv ov.length (grc ov)) := by have := HW.out.o; rw [List.take_of_length_le (Nat.le_refl _)] at this; exact this
   have q0 := HW.out.x.cl
   have r0 := HW.out.r.cl
   have rf := HW.out.r.fz
   obtain ⟨A3, n3, rfl⟩ := zdX HO.out
   clear HG HR HBd HTx HLn HC
   generalize smN ov ov.length = s0 at *
   go_wp2_with fail
   refine ret_gx rfl rfl rfl (HW.out.r.set (.slice A3 ov.length n3)) ?_
   show GrV w0 W ov R0 _ _
   rw [HV.out]
   exact ⟨_, rfl, za1 HO.out fun j hj => Below.heap_setCell _ _ _ _ (HW.out.r.ne HO.out (by decide) hj), HW.out.b.setCell (p := ⟨W.heap.size, 0, none⟩) (Nat.le_refl _) _⟩
theorem znC (v : Value) (w : World) : (Instr.typeAssert (.iface 39 v) 20 39 true).run Tryz.prog w = .ok (.tuple #[v, .bool true]) w := by kernel_rfl
theorem ret_fx {fn : Func} {R : Ending -> World -> Prop} {a : Act} {W : World} {b : Nat} {p e : Int} (hF : fn.results = #[.cell 2 39]) (hd : a.defers = []) (h2 : a.tmps.getD 2 undef = .pointer (some ⟨b, 0, none⟩)) (hT : FX W b p e) (hR : R (.returned (.agg #[.int .i64 p, .int .i64 e])) W) : bodyPost Tryz.prog fn R .ret a W := by
 have c0 := hT.c0
 have c1 := hT.c1
 refine bodyPost_ret (v := .agg #[.int .i64 p, .int .i64 e]) ?_ hd hR
 simp only [Array.getD_eq_getD_getElem?] at h2
 simp [results, hF, go_sem, h2, c0, c1]
abbrev fxZ : Obj := .cells #[.int .i64 0, .int .i64 0] 39
theorem zjC (a c : Int) (W : World) : Calls Tryz.prog 38 #[.iface 39 (.agg #[.int .i64 a, .int .i64 c])] W fun e W' => e = .returned (.agg #[.int .i64 a, .int .i64 c]) /\ Below W.heap.size W W' := by
 have has := znC
 have hnot : ∀ (x : Bool) (w : World), (Op.unary .not (.bool x)).run Tryz.prog w = .ok (.bool (!x)) w := fun _ _ => rfl
 go_enter Tryz.func38, Tryz.ntmps38
 go_wp2_with fail
 refine ret_fx (b := W.heap.size) (p := a) (e := c) rfl rfl rfl ((FX.mk (heap_alloc_new W _)).below (zaa _ _)) ⟨rfl, ((Below.refl _ _).alloc (Nat.le_refl _) _).alloc (by rw [World.size_alloc]; omega) _⟩
theorem zhf (p : Nat) (x y a c : Int) (older : List PanicEntry) (w : World) (hx : FX w p x y) :
  CallsD Tryz.prog 37 #[.pointer (some ⟨p, 0, none⟩)] (.panicking ({ v := .iface 39 (.agg #[.int .i64 a, .int .i64 c]), recovered := false } :: older)) w fun e u' w' =>
   e = .returned (.tuple #[]) /\ u' = .panicking ({ v := .iface 39 (.agg #[.int .i64 a, .int .i64 c]), recovered := true } :: older) /\ FX w' p a c /\ Fr w w' p (.slice none 0 0) (.slice none 0 0) /\ Below p w w' := by
 have HR : Hid (∀ W, Calls Tryz.prog 38 #[.iface 39 (.agg #[.int .i64 a, .int .i64 c])] W fun e W' => e = .returned (.agg #[.int .i64 a, .int .i64 c]) /\ Below W.heap.size W W') := fun W => zjC a c W
 have HX : Hid (FX w p x y) := hx
 refine callsD_of_wpS Tryz.func37 rfl fun c₀ cs hu => ?_
 apply wpS_seq
 apply wpS_region
 simp [wpOpsS, go_sem, recoverD, hu, Tryz.ntmps37, Exit.thenS]
 refine wpS_of_wp ?_
 have ht : (#[Value.pointer (some ⟨p, 0, none⟩)] ++ ((Array.replicate 6 undef).setIfInBounds 1 (.iface 39 (.agg #[.int .i64 a, .int .i64 c]))).setIfInBounds 0 (.iface 39 (.agg #[.int .i64 a, .int .i64 c])) : Array Value) = #[.pointer (some ⟨p, 0, none⟩), .iface 39 (.agg #[.int .i64 a, .int .i64 c]), .iface 39 (.agg #[.int .i64 a, .int .i64 c]), undef, undef, undef, undef] := rfl
 rw [ht]
 clear ht hu hx
 go_wp2_with fail
 refine (HR.out _).mono ?_
 rintro e w1 ⟨rfl, hb⟩
 have H1 : Hid (FX w1 p x y) := HX.out.below hb
 have HB : Hid (Below w.heap.size w w1) := hb
 have hlt := HX.out.lt
 clear hb HR HX
 have c0 := H1.out.c0
 have c1 := H1.out.c1
 have f0 := H1.out.f0
 have f1' := H1.out.f1
 go_wp2_with fail
 refine ⟨rfl, _, rfl, .tuple #[], (by simp [results, Tryz.results37]), rfl, rfl, zgr H1.out a c, (Fr.below p _ HB.out).trans ((Fr.set _ _ _ _ _).trans (Fr.set _ _ _ _ _)), zdp (HB.out.mono (Nat.le_of_lt hlt)) (Nat.le_refl _) a c⟩
theorem zhX (p : Nat) (w : World) :
  CallsD Tryz.prog 37 #[.pointer (some ⟨p, 0, none⟩)] .returning w fun e u' w' => e = .returned (.tuple #[]) /\ u' = .returning /\ w' = w := by
 refine callsD_of_wpS Tryz.func37 rfl fun c₀ cs hu => ?_
 apply wpS_seq
 apply wpS_region
 simp [wpOpsS, go_sem, recoverD, hu, Tryz.ntmps37, Exit.thenS]
 refine wpS_of_wp ?_
 have ht : (#[Value.pointer (some ⟨p, 0, none⟩)] ++ ((Array.replicate 6 undef).setIfInBounds 1 Value.nilIface).setIfInBounds 0 Value.nilIface : Array Value) = #[.pointer (some ⟨p, 0, none⟩), .nilIface, .nilIface, undef, undef, undef, undef] := rfl
 rw [ht]
 have HC : Hid (c₀ :: cs = { c₀ with mode := .returning } :: cs) := by show _ = _; rw [<- hu]
 clear ht hu
 go_wp2_with fail
 exact ⟨rfl, _, HC.out, .tuple #[], (by simp [results, Tryz.results37]), rfl, rfl, rfl⟩
theorem zq3 {R : Ending -> World -> Prop} {act : Act} {W : World} {k : Nat} {p c x y : Int} (hd : act.defers = [{ target := .fn (.func 37) #[.pointer (some ⟨k, 0, none⟩)], args := #[] }]) (h2 : act.tmps.getD 2 undef = .slice none 0 0) (h3 : act.tmps.getD 3 undef = .pointer (some ⟨k, 0, none⟩)) (hf : FX W k x y)
  (hR : ∀ W', Below k W W' -> R (.returned (.tuple #[.slice none 0 0, .agg #[.int .i64 p, .int .i64 c]])) W') :
  bodyPostD Tryz.prog Tryz.f19 R (.panic [{ v := .iface 39 (.agg #[.int .i64 p, .int .i64 c]), recovered := false }]) act W := by
 show Leaves _ _ _ _ act.defers _ _
 rw [hd]
 refine leaves_cons (f := 37) (args := #[.pointer (some ⟨k, 0, none⟩)]) (by simp) (by simp [go_sem]) ?_
 refine (zhf k x y p c [] W hf).mono ?_
 rintro e u' w' ⟨rfl, rfl, h4, h5, h6⟩
 have d0 := h4.c0
 have d1 := h4.c1
 simp only [Array.getD_eq_getD_getElem?] at h2 h3
 refine ⟨.tuple #[.slice none 0 0, .agg #[.int .i64 p, .int .i64 c]], ?_, hR w' h6⟩
 simp [results, Tryz.results19, go_sem, h2, h3, d0, d1]
theorem doorB {R : Ending -> World -> Prop} {act : Act} {W : World} {k : Nat} {p c : Int} {v : Value} (hd : act.defers = [{ target := .fn (.func 37) #[.pointer (some ⟨k, 0, none⟩)], args := #[] }]) (h2 : act.tmps.getD 2 undef = v) (h3 : act.tmps.getD 3 undef = .pointer (some ⟨k, 0, none⟩)) (hf : FX W k p c)
  (hR : R (.returned (.tuple #[v, .agg #[.int .i64 p, .int .i64 c]])) W) :
  bodyPostD Tryz.prog Tryz.f19 R .ret act W := by
 show Leaves _ _ _ _ act.defers _ _
 rw [hd]
 refine leaves_cons (f := 37) (args := #[.pointer (some ⟨k, 0, none⟩)]) (by simp) (by simp [go_sem]) ?_
 refine (zhX k W).mono ?_
 rintro e u' w' ⟨rfl, rfl, rfl⟩
 have d0 := hf.c0
 have d1 := hf.c1
 simp only [Array.getD_eq_getD_getElem?] at h2 h3
 refine ⟨.tuple #[v, .agg #[.int .i64 p, .int .i64 c]], ?_, hR⟩
 simp [results, Tryz.results19, go_sem, h2, h3, d0, d1]
theorem zgc {E : PE} {z : Nat} {w0 W : World} {u : Value} {ov : List (Rl × Value)} (ho : W.ownsRow w0.heap.size 79 3 u ov.length (plc E z ov)) (hb : Bds w0 W ov) (htx : ∀ x ∈ ov, ∀ n ∈ x.1.2.2, n.tx.size <= 65536) (hln : ∀ x ∈ ov, x.1.2.2.length <= 2000000000000) (hn : ov.length <= 65536) : Calls Tryz.prog 39 #[u] W fun e W' => GrV w0 W ov (szR E z (ov.map (·.1))) e W' := by
 unfold szR
 rw [List.getElem?_map]
 cases h : ov[200]? with
 | some x => exact ze9 ho x h hn
 | none =>
  have hl := List.getElem?_eq_none_iff.1 h
  exact zgb ho hb htx hln hl
theorem FX.ne2 {W : World} {k B e s n : Nat} {u : Value} {p c : Int} {xs : List Value} (h : FX W k p c) (ho : W.ownsRow B e s u n xs) (he : e ≠ 39) {j : Nat} (hj : u.ownBlock = some j) : j ≠ k := fun q => by
 subst q
 obtain ⟨cs, hc⟩ := zfh ho hj
 rw [h.heap] at hc
 injection hc with h4
 injection h4 with _ h5
 exact he h5.symm
theorem kd_pos {s : ByteArray} {l : List Tk} (h : zcA (zaA s) s = .inl l) : ∀ a, a < (mkE l).l.length -> ¬ kdA (mkE l) a = 0 := fun a ha q => by
 have ha : a < l.length := ha
 unfold kdA mkE at q
 rw [List.getElem?_eq_getElem ha] at q
 have h1 := (zhU h l[a] (List.getElem_mem ha)).r
 unfold riF at h1
 simp only [Bool.and_eq_true, decide_eq_true_eq] at h1
 have q : (l[a]).kd = 0 := q
 omega
theorem ex_len {E : PE} (hE : OkE E) {i a : Nat} {ns : List Nd} (hi : i <= E.l.length) (h : exN E i = .inl (a, ns)) : ns.length <= 2000000000000 := by
 have h2 := zgp hi h
 have h3 := (zdI hE.rl (m := 0) (d := 0) hi (by omega) h).2
 have h4 := hE.len
 omega
def AlV (E : PE) (z : Nat) (w0 : World) (r : Sum (List Rl) (Nat × Int)) (e : Ending) (W' : World) : Prop := match r with
 | .inr q => e = pnc (plA E z q.1) q.2 /\ Below w0.heap.size w0 W'
 | .inl rs => ∃ A c ns, rs = [(0, ⟨#[]⟩, ns)] /\ e = .returned (.agg #[.int .i64 (plA E z 0), .string ⟨#[]⟩, .slice A ns.length c]) /\ W'.ownsRow w0.heap.size 51 7 (.slice A ns.length c) ns.length (T.ndc ns) /\ Below w0.heap.size w0 W'
theorem zek {E : PE} (hE : OkE E) (hk0 : ∀ a, a < E.l.length -> ¬ kdA E a = 0) {z : Nat} {w0 : World} (hv : R.VB w0) {b : Nat} {tv : Value} {W : World} {v : Value} {L : List Nd} (h : RS E z w0 W b tv 0 0 v L) : Calls Tryz.prog 41 #[.pointer (some ⟨b, 0, none⟩)] W fun e W' => AlV E z w0 (alN E) e W' := by
 unfold alN
 cases hx : exN E 0 with
 | inr q => exact zqX hE hv h q hx
 | inl p =>
  obtain ⟨a, ns⟩ := p
  have hal := (zgp (Nat.zero_le _) hx).2
  dsimp only
  by_cases hlt : a < E.l.length
  ·rw [if_pos hlt]
   exact zqY hE hv h a ns hx (hk0 a hlt)
  ·rw [if_neg hlt]
   refine (znB hE hv h a ns hx (by rw [show a = E.l.length from by omega]; exact zn6 E)).mono ?_
   rintro e W' ⟨v', rfl, h2, _⟩
   obtain ⟨A, c, rfl⟩ := zdX h2.o
   exact ⟨A, c, ns, rfl, rfl, h2.o, h2.bl⟩
theorem zq4 {E : PE} {z : Nat} {w0 W : World} (hw : w0.heap.size <= W.heap.size) (ns : List Nd) (v : Value) : (W.alloc (.cells #[.int .i64 (plA E z 0), .string ⟨#[]⟩, v] 79)).ownsRow w0.heap.size 79 3 (.slice (some ⟨W.heap.size, 0, none⟩) 1 1) 1 (plc E z [((0, ⟨#[]⟩, ns), v)]) := by
 rw [zqZ]
 exact ⟨rfl, .inr ⟨W.heap.size, 1, _, rfl, hw, heap_alloc_new W _, Nat.le_refl _, by unfold maxLen; omega, rfl, rfl⟩⟩
theorem al_tx {E : PE} (hE : OkE E) {rs : List Rl} (h : alN E = .inl rs) : ∀ r ∈ rs, (∀ n ∈ r.2.2, n.tx.size <= 65536) /\ r.2.2.length <= 2000000000000 := by
 unfold alN at h
 cases hx : exN E 0 with
 | inr q => rw [hx] at h; cases h
 | inl p =>
  rw [hx] at h
  dsimp only at h
  split at h
  ·cases h
  ·cases h
   intro r hr
   rw [List.mem_singleton.1 hr]
   exact ⟨ex_tx hE hx, ex_len hE (Nat.zero_le _) hx⟩
def PaV (w w' : World) (r : Sum (List (ByteArray × List Nd)) (Int × Int)) (e : Ending) : Prop := match r with
 | .inr p => e = .returned (.tuple #[.slice none 0 0, .agg #[.int .i64 p.1, .int .i64 p.2]])
 | .inl gs => ∃ v ns, gs = [(⟨#[]⟩, ns)] /\ e = .returned (.tuple #[v, .agg #[.int .i64 0, .int .i64 0]]) /\ w'.ownsRow w.heap.size 51 7 v ns.length (T.ndc ns)
theorem znD (s : ByteArray) (w : World) (hg : GW w) (q : Nat × Int) (hq : zcA (zaA s) s = .inr q) : Calls Tryz.prog 19 #[.string s] w fun e w' => e = .returned (.tuple #[.slice none 0 0, .agg #[.int .i64 q.1, .int .i64 q.2]]) /\ Below w.heap.size w w' := by
 have hmf : ∀ (fn : Fn) (first cap : Array Value) (w : World), (Instr.makeFunc fn first cap).run Tryz.prog w = .ok (.func fn first cap) w := fun _ _ _ _ => rfl
 have HB0 : Hid (Below w.heap.size w (w.alloc fxZ) /\ FX (w.alloc fxZ) w.heap.size 0 0) := ⟨zaa _ _, ⟨heap_alloc_new w _⟩⟩
 have HN : Hid (∀ _ : Unit, Calls Tryz.prog 40 #[.string s] (w.alloc fxZ) fun e w' => e = pnc q.1 q.2 /\ Below (w.alloc fxZ).heap.size (w.alloc fxZ) w') := fun _ => zgX s _ (hg.later HB0.out.1) q hq (zlk hq).2
 clear hg hq
 go_enter_defers Tryz.func19, Tryz.ntmps19
 go_wp2_with fail
 generalize w.alloc fxZ = w0 at *
 refine (HN.out ()).mono ?_
 rintro e w1 ⟨rfl, hb⟩
 have hsz := HB0.out.1.size
 exact zq3 rfl rfl rfl (HB0.out.2.below hb) fun W' hW' => ⟨rfl, (HB0.out.1.trans (hb.mono hsz)).trans hW'⟩
theorem zjD (s : ByteArray) (w : World) (hg : GW w) (l : List Tk) (hl : zcA (zaA s) s = .inl l) : Calls Tryz.prog 19 #[.string s] w fun e w' => PaV w w' (fin (mkE l) s.size (alN (mkE l))) e /\ Below w.heap.size w w' := by
 have hE := okE_of hl
 have hz := hE.z
 have hk0 := kd_pos hl
 have hmf : ∀ (fn : Fn) (first cap : Array Value) (w : World), (Instr.makeFunc fn first cap).run Tryz.prog w = .ok (.func fn first cap) w := fun _ _ _ _ => rfl
 have HB0 : Hid (Below w.heap.size w (w.alloc fxZ) /\ FX (w.alloc fxZ) w.heap.size 0 0) := ⟨zaa _ _, ⟨heap_alloc_new w _⟩⟩
 have hgw := hg.later HB0.out.1
 have HN : Hid (∀ _ : Unit, Calls Tryz.prog 40 #[.string s] (w.alloc fxZ) fun e w' => ∃ b tv, e = .returned (.pointer (some ⟨b, 0, none⟩)) /\ RS (mkE l) s.size (w.alloc fxZ) w' b tv 0 0 (.slice none 0 0) []) := fun _ => zgY s _ hgw l hl
 have HVB : Hid (R.VB (w.alloc fxZ)) := hgw.v
 have HTx : Hid (∀ rs, alN (mkE l) = .inl rs -> ∀ r ∈ rs, (∀ n ∈ r.2.2, n.tx.size <= 65536) /\ r.2.2.length <= 2000000000000) := fun rs h => al_tx hE h
 have HE : Hid (OkE (mkE l) /\ (∀ a, a < (mkE l).l.length -> ¬ kdA (mkE l) a = 0)) := ⟨hE, hk0⟩
 clear hg hgw hl hE hk0
 generalize mkE l = E at *
 go_enter_defers Tryz.func19, Tryz.ntmps19
 go_wp2_with fail
 generalize w.alloc fxZ = w0 at *
 refine (HN.out ()).mono ?_
 rintro e w1 ⟨b, tv, rfl, h1⟩
 have HRu : Hid (∀ _ : Unit, Calls Tryz.prog 41 #[.pointer (some ⟨b, 0, none⟩)] w1 fun e W' => AlV E s.size w0 (alN E) e W') := fun _ => zek HE.out.1 HE.out.2 HVB.out h1
 have hsz := HB0.out.1.size
 clear h1 HN
 cases hrd : alN E with
 | inr q =>
  rw [hrd] at HRu
  go_wp2_with fail
  refine (HRu.out ()).mono ?_
  rintro e w3 ⟨rfl, hb⟩
  exact zq3 rfl rfl rfl (HB0.out.2.below hb) fun W' hW' => ⟨by rw [hrd]; rfl, (HB0.out.1.trans (hb.mono hsz)).trans hW'⟩
 | inl rs =>
  have hx1 := HTx.out rs hrd
  rw [hrd] at HRu
  go_wp2_with fail
  refine (HRu.out ()).mono ?_
  rintro e w3 ⟨A, c, ns, hrs, rfl, ho, hb3⟩
  have hs3 := hb3.size
  have HGr : Hid (∀ _ : Unit, Calls Tryz.prog 39 #[.slice (some ⟨w3.heap.size, 0, none⟩) 1 1] (w3.alloc (.cells #[.int .i64 (plA E s.size 0), .string ⟨#[]⟩, .slice A ns.length c] 79)) fun e W' => GrV w0 (w3.alloc (.cells #[.int .i64 (plA E s.size 0), .string ⟨#[]⟩, .slice A ns.length c] 79)) [((0, ⟨#[]⟩, ns), .slice A ns.length c)] (szR E s.size rs) e W') := fun _ => by
   rw [hrs]
   refine zgc (ov := [((0, ⟨#[]⟩, ns), .slice A ns.length c)]) (zq4 hs3 ns _) ⟨fun x hx => by rw [List.mem_singleton.1 hx]; exact ho.alloc _, List.pairwise_singleton _ _⟩ ?_ ?_ (by simp)
   ·intro x hx; rw [List.mem_singleton.1 hx]; exact (hx1 (0, ⟨#[]⟩, ns) (by rw [hrs]; exact List.mem_singleton.2 rfl)).1
   ·intro x hx; rw [List.mem_singleton.1 hx]; exact (hx1 (0, ⟨#[]⟩, ns) (by rw [hrs]; exact List.mem_singleton.2 rfl)).2
  have HB3 : Hid (Below w0.heap.size w0 (w3.alloc (.cells #[.int .i64 (plA E s.size 0), .string ⟨#[]⟩, .slice A ns.length c] 79)) /\ (w3.alloc (.cells #[.int .i64 (plA E s.size 0), .string ⟨#[]⟩, .slice A ns.length c] 79)).ownsRow w0.heap.size 51 7 (.slice A ns.length c) ns.length (T.ndc ns) /\ rs = [(0, ⟨#[]⟩, ns)]) := ⟨hb3.alloc hs3 _, ho.alloc _, hrs⟩
  clear ho hrs hb3 HRu HTx hx1
  generalize plA E s.size 0 = p0 at *
  cases hsr : szR E s.size rs with
  | some p =>
   rw [hsr] at HGr
   go_wp2_with fail
   refine (HGr.out ()).mono ?_
   rintro e w4 ⟨rfl, hb⟩
   have hb4 := HB3.out.1.trans (hb.mono HB3.out.1.size)
   exact zq3 rfl rfl rfl (HB0.out.2.below hb4) fun W' hW' => ⟨by rw [hrd]; unfold fin; simp only [hsr]; rfl, (HB0.out.1.trans (hb4.mono hsz)).trans hW'⟩
  | none =>
   rw [hsr] at HGr
   go_wp2_with fail
   refine (HGr.out ()).mono ?_
   rintro e w4 ⟨gu, rfl, ho, hb⟩
   obtain ⟨g4, n4, rfl, _, hglt⟩ := ho.form (by simp)
   have hcl := ho.cells (g := g4) rfl
   have hb4 := HB3.out.1.trans (hb.mono HB3.out.1.size)
   have hcell : w4.cell? ⟨g4, 1, none⟩ = some (.slice A ns.length c) := by
    have := hcl 1 (.slice A ns.length c) rfl
    rwa [Addr.add_lit, Nat.zero_add] at this
   have HO : Hid ((w4.alloc (.cells #[.slice (some ⟨g4, 0, none⟩) 1 n4] 33)).ownsRow w0.heap.size 51 7 (.slice A ns.length c) ns.length (T.ndc ns) /\ Below w0.heap.size w0 (w4.alloc (.cells #[.slice (some ⟨g4, 0, none⟩) 1 n4] 33)) /\ FX (w4.alloc (.cells #[.slice (some ⟨g4, 0, none⟩) 1 n4] 33)) w.heap.size 0 0) := ⟨ownB (ownB HB3.out.2.1 hb) (zaa _ _), hb4.alloc hb4.size _, (HB0.out.2.below hb4).below (zaa _ _)⟩
   have hcell2 := ((zaa w4 (.cells #[.slice (some ⟨g4, 0, none⟩) 1 n4] 33)).cell (p := ⟨g4, 1, none⟩) hglt).trans hcell
   have hg0 : (w4.alloc (.cells #[.slice (some ⟨g4, 0, none⟩) 1 n4] 33)).cell? ⟨w4.heap.size, 0, none⟩ = some (.slice (some ⟨g4, 0, none⟩) 1 n4) := (GX.mk (heap_alloc_new w4 _)).cl
   have hf4 := HB0.out.2.below hb4
   have d0 := hf4.c0
   have d1 := hf4.c1
   have e0 := hf4.f0
   have e1 := hf4.f1
   have d0' := HO.out.2.2.c0
   have d1' := HO.out.2.2.c1
   have e0' := HO.out.2.2.f0
   have e1' := HO.out.2.2.f1
   clear hcl ho hb hb4 HGr hcell hf4
   go_wp2_with fail
   exact doorB rfl rfl rfl (zgr HO.out.2.2 0 0) ⟨by rw [hrd]; unfold fin; simp only [hsr]; exact ⟨_, ns, by rw [HB3.out.2.2]; rfl, rfl, zbo (za1 HO.out.1 fun j hj => zeh 0 0 (FX.ne2 HO.out.2.2 HO.out.1 (by decide) hj)) hsz⟩, zdp (HB0.out.1.trans (HO.out.2.1.mono hsz)) (Nat.le_refl _) 0 0⟩
theorem ziN (s : ByteArray) (w : World) (hg : GW w) : Calls Tryz.prog 19 #[.string s] w fun e w' => PaV w w' (paR s) e /\ Below w.heap.size w w' := by
 unfold paR
 cases hl : zcA (zaA s) s with
 | inr q => exact znD s w hg q hl
 | inl l => exact zjD s w hg l hl
theorem fx_eql (a b c d : Int) (W : World) : (binOp .eql 39 (.agg #[.int .i64 a, .int .i64 b]) (.agg #[.int .i64 c, .int .i64 d])).run Tryz.prog W = .ok (.bool (a == c && b == d)) W := by
 have h := eq26 a b c d W
 have e : Op.maxDepth = 10000 := rfl
 simp [binOp, Op.equal, e, h]
def lnI (g : ByteArray × List Nd) : List It := (if g.1.size = 0 then [] else [txI 1 g.1, none, sgI 6, none]) ++ shI g.2
def grT (gs : List (ByteArray × List Nd)) : List UInt8 := gs.flatMap fun g => itT (lnI g) ++ [10]
def nmN (s : ByteArray) : Nd := ⟨6, 0, s, 0, 0, 0, 0⟩
theorem ck_nm (s : ByteArray) : ((T.ck [nmN s]).2 == 0) = T.nmB s := by
 have e : (⟨#[]⟩ : ByteArray) = ByteArray.empty := rfl
 cases h : T.nmB s <;> simp [nmN, T.ck, T.zjF, T.er, T.alE, T.fdF, T.txF, T.nuF, T.seF, T.ar, T.run, T.pt, T.mk, T.arN, T.zde, h]
theorem ziO (w : World) (L : List Nd) (h0 : L.length <= 2048) (c : Array Value) (hc : c.toList = T.ndc L) : T.RdN (w.alloc (.cells c 51)) (some ⟨w.heap.size, 0, none⟩) L := fun _ => by
 refine ⟨w.heap.size, 0, rfl, by rw [World.size_alloc]; omega, ?_⟩
 refine T.zhr (B := w.heap.size) (n := L.length) (cap := L.length) (xs := []) ?_
 rw [List.append_nil]
 have hl := T.zhj L
 exact ⟨hl, .inr ⟨w.heap.size, L.length, c, rfl, Nat.le_refl _, heap_alloc_new w _, Nat.le_refl _, by unfold maxLen; omega, by rw [<- Array.length_toList, hc]; exact hl, by rw [hc]; exact List.take_of_length_le (by omega)⟩⟩
theorem zdC (s : ByteArray) (hs : s.size <= 140737488355328) (W : World) : Calls Tryz.prog 58 #[.string s] W fun e W' => e = .returned (.bool (T.nmB s)) /\ Below W.heap.size W W' := by
 have HC : Hid (∀ _ : Unit, Calls Tryz.prog 25 #[.slice (some ⟨W.heap.size, 0, none⟩) 1 1] (W.alloc (.cells #[.int .i64 6, .int .i64 0, .string s, .int .u64 0, .int .u64 0, .int .u64 0, .int .u64 0] 51)) fun e w' => e = .returned (.tuple #[.int .i64 (T.ck [nmN s]).1, .int .i64 (T.ck [nmN s]).2]) /\ Below (W.alloc (.cells #[.int .i64 6, .int .i64 0, .string s, .int .u64 0, .int .u64 0, .int .u64 0, .int .u64 0] 51)).heap.size (W.alloc (.cells #[.int .i64 6, .int .i64 0, .string s, .int .u64 0, .int .u64 0, .int .u64 0, .int .u64 0] 51)) w') := fun _ =>
  T.zbb [nmN s] (some ⟨W.heap.size, 0, none⟩) 1 (by show 1 <= _; omega) (by intro n hn; rw [List.mem_singleton.1 hn]; exact hs) _ (ziO W [nmN s] (by show 1 <= _; omega) _ rfl)
 have HE : Hid (((T.ck [nmN s]).2 == 0) = T.nmB s) := ck_nm s
 have HB : Hid (Below W.heap.size W (W.alloc (.cells #[.int .i64 6, .int .i64 0, .string s, .int .u64 0, .int .u64 0, .int .u64 0, .int .u64 0] 51))) := zaa _ _
 clear hs
 generalize (T.ck [nmN s]).2 = cc at *
 generalize ((T.ck [nmN s]).1 : Int) = c1 at *
 generalize T.nmB s = nb at *
 go_enter Tryz.func58, Tryz.ntmps58
 go_wp2_with fail
 refine (HC.out ()).mono ?_
 rintro e w1 ⟨rfl, b1⟩
 have HB1 : Hid (Below W.heap.size W w1) := HB.out.trans (b1.mono HB.out.size)
 clear HC b1 HB
 go_wp2_with fail
 go_ret
 exact ⟨by rw [<- HE.out]; rfl, HB1.out⟩
def zhh (len : Nat) : Nat -> List (ByteArray × List Nd) -> Int
 | _, [] => 0
 | nodes, g :: r => if ¬ (g.1.size = 0 /\ len = 1) /\ T.nmB g.1 = false then 6 else if (T.ck g.2).2 ≠ 0 then (T.ck g.2).2 else if 2048 < nodes + g.2.length then 2 else zhh len (nodes + g.2.length) r
def wrR (gs : List (ByteArray × List Nd)) : Int := if gs.length = 0 then 3 else if 200 < gs.length then 2 else zhh gs.length 0 gs
def ndS (gs : List (ByteArray × List Nd)) : Nat -> Nat
 | 0 => 0
 | k + 1 => match gs[k]? with
  | some g => ndS gs k + g.2.length
  | none => ndS gs k
theorem zcV {gs : List (ByteArray × List Nd)} {k : Nat} {g : ByteArray × List Nd} (h : gs[k]? = some g) : ndS gs (k + 1) = ndS gs k + g.2.length := by rw [ndS, h]
def GrD (W : World) (A : Option Addr) (gs : List (ByteArray × List Nd)) : Prop := ∀ (k : Nat) g, gs[k]? = some g -> ∃ b o A2 c2, A = some ⟨b, o, none⟩ /\ b < W.heap.size /\ W.cell? ⟨b, o + k * 2, none⟩ = some (.string g.1) /\ W.cell? ⟨b, o + k * 2 + 1, none⟩ = some (.slice A2 g.2.length c2) /\ T.RdN W A2 g.2
theorem GrD.later {W W' : World} {A : Option Addr} {gs : List (ByteArray × List Nd)} (h : GrD W A gs) (hb : Below W.heap.size W W') : GrD W' A gs := fun k g hg => by
 obtain ⟨b, o, A2, c2, h1, h2, h3, h4, h5⟩ := h k g hg
 exact ⟨b, o, A2, c2, h1, Nat.lt_of_lt_of_le h2 hb.size, (hb.cell (p := ⟨b, o + k * 2, none⟩) h2).trans h3, (hb.cell (p := ⟨b, o + k * 2 + 1, none⟩) h2).trans h4, h5.below hb (Nat.le_refl _)⟩
structure RB (W : World) (b : Nat) (s : ByteArray) (v : Value) : Prop where
 heap : W.heap[b]? = some (.cells #[.string s, v] 73 (0, 0))
theorem RB.lt {W : World} {b : Nat} {s : ByteArray} {v : Value} (h : RB W b s v) : b < W.heap.size := (Array.getElem?_eq_some_iff.1 h.heap).1
theorem RB.c0 {W : World} {b : Nat} {s : ByteArray} {v : Value} (h : RB W b s v) : W.cell? ⟨b, 0, none⟩ = some (.string s) := by rw [cell_of_row W b 0 _ 73 (0, 0) h.heap]; rfl
theorem RB.c1 {W : World} {b : Nat} {s : ByteArray} {v : Value} (h : RB W b s v) : W.cell? ⟨b, 1, none⟩ = some v := by rw [cell_of_row W b 1 _ 73 (0, 0) h.heap]; rfl
theorem RB.same {W W' : World} {b : Nat} {s : ByteArray} {v : Value} (h : RB W b s v) (hb : W'.heap[b]? = W.heap[b]?) : RB W' b s v := ⟨hb.trans h.heap⟩
theorem RB.later {W W' : World} {b : Nat} {s : ByteArray} {v : Value} (h : RB W b s v) (hb : Below W.heap.size W W') : RB W' b s v := h.same (hb.block b h.lt)
theorem zfa (gs : List (ByteArray × List Nd)) (A : Option Addr) (c : Nat) (hl : gs.length <= 140737488355328) (hT : ∀ g ∈ gs, g.1.size <= 140737488355328 /\ g.2.length <= 140737488355328 /\ ∀ n ∈ g.2, n.tx.size <= 140737488355328) (w : World) (hp : GrD w A gs) :
  Calls Tryz.prog 35 #[.slice A gs.length c] w fun e w' => e = .returned (.int .i64 (wrR gs)) /\ Below w.heap.size w w' := by
 by_cases h0 : gs.length = 0
 ·have HE : Hid (wrR gs = 3) := by show wrR gs = 3; unfold wrR; rw [if_pos h0]
  have t0 : ((gs.length : Int) == 0) = true := beq_iff_eq.2 (by omega)
  clear h0 hp hT
  go_enter Tryz.func35, Tryz.ntmps35
  go_wp2_with fail
  go_ret
  exact ⟨by rw [HE.out]; rfl, Below.refl _ _⟩
 have t0 : ((gs.length : Int) == 0) = false := bF (by omega)
 by_cases h2 : 200 < gs.length
 ·have HE : Hid (wrR gs = 2) := by show wrR gs = 2; unfold wrR; rw [if_neg h0, if_pos h2]
  have t2 : (200 : Int) < (gs.length : Int) := by omega
  clear h0 hp hT h2
  go_enter Tryz.func35, Tryz.ntmps35
  go_wp2_with fail
  go_ret
  exact ⟨by rw [HE.out]; rfl, Below.refl _ _⟩
 have t2 : ¬ (200 : Int) < (gs.length : Int) := by omega
 have HE : Hid (wrR gs = zhh gs.length (ndS gs 0) (gs.drop 0)) := by show wrR gs = _; unfold wrR; rw [if_neg h0, if_neg h2]; rfl
 have HP : Hid (GrD w A gs) := hp
 have HG : Hid (∀ k, k < gs.length -> ∃ g, gs[k]? = some g /\ g.1.size <= 140737488355328 /\ g.2.length <= 140737488355328 /\ (∀ n ∈ g.2, n.tx.size <= 140737488355328) /\ gs.drop k = g :: gs.drop (k + 1)) := fun k hk => ⟨_, List.getElem?_eq_getElem hk, (hT _ (List.getElem_mem hk)).1, (hT _ (List.getElem_mem hk)).2.1, (hT _ (List.getElem_mem hk)).2.2, List.drop_eq_getElem_cons hk⟩
 have HN : Hid (¬ gs.length = 0) := h0
 clear h0 hp hT h2
 go_enter Tryz.func35, Tryz.ntmps35
 go_wp2_with fail
 go_loopw [3, 17] (fun v t wr => ∃ k : Nat, k <= gs.length /\ t = .int .i64 k /\ v = .int .i64 (ndS gs k) /\ Hid (ndS gs k <= 2048) /\ Hid (wrR gs = zhh gs.length (ndS gs k) (gs.drop k)) /\ Hid (Below w.heap.size w wr)) (fun _ t _ => gs.length - (intOf t).toNat)
 case atStart => exact ⟨0, by omega, by go_num, by go_num, Nat.zero_le _, HE, Below.refl _ _⟩
 case round =>
  obtain ⟨k, hk, rfl, rfl, HQ, HX, HW⟩ := hrel
  clear HE
  by_cases hlt : k < gs.length
  ·obtain ⟨g, hg, s1, s2, s3, hd⟩ := HG.out k hlt
   obtain ⟨b, o, A2, c2, rfl, lb, x0, x1, r2⟩ := HP.out k g hg
   have x0' := (HW.out.cell (p := ⟨b, o + k * 2, none⟩) lb).trans x0
   have x1' := (HW.out.cell (p := ⟨b, o + k * 2 + 1, none⟩) lb).trans x1
   clear x0 x1
   have z0 : (0 : Int) <= (k : Int) := by omega
   have z1 : (k : Int) < (gs.length : Int) := by omega
   have HR : Hid (RB (wr.alloc (.cells #[.string g.1, .slice A2 g.2.length c2] 73)) wr.heap.size g.1 (.slice A2 g.2.length c2)) := ⟨heap_alloc_new wr _⟩
   have HW1 : Hid (Below w.heap.size w (wr.alloc (.cells #[.string g.1, .slice A2 g.2.length c2] 73))) := HW.out.alloc HW.out.size _
   have HNm : Hid (∀ W, Calls Tryz.prog 58 #[.string g.1] W fun e W' => e = .returned (.bool (T.nmB g.1)) /\ Below W.heap.size W W') := fun W => zdC g.1 s1 W
   have HCk : Hid (∀ W, Below w.heap.size w W -> Calls Tryz.prog 25 #[.slice A2 g.2.length c2] W fun e w' => e = .returned (.tuple #[.int .i64 (T.ck g.2).1, .int .i64 (T.ck g.2).2]) /\ Below W.heap.size W w') := fun W hW => T.zbb g.2 A2 c2 s2 s3 W (r2.below hW (Nat.le_refl _))
   have hgk := hg
   have HSz : Hid (g.2.length <= 140737488355328) := s2
   clear hg r2 s1 s2 s3 HW
   by_cases hs0 : g.1.size = 0
   ·have te : (g.1.toList == []) = true := by
     have e := T.zeV hs0
     rw [List.isEmpty_iff] at e
     rw [e]; rfl
    have te2 := T.zeV hs0
    by_cases hl1 : gs.length = 1
    ·have tl : ((gs.length : Int) == 1) = true := beq_iff_eq.2 (by omega)
     have HWy := HW1
     have HBy := HW1
     have HRy := HR
     have HU : Hid (wrR gs = if (T.ck g.2).2 ≠ 0 then (T.ck g.2).2 else if 2048 < ndS gs k + g.2.length then 2 else zhh gs.length (ndS gs k + g.2.length) (gs.drop (k + 1))) := by show wrR gs = _; rw [HX.out, hd, zhh, if_neg (by rintro ⟨q, _⟩; exact q ⟨hs0, hl1⟩)]
     have HV : Hid ((T.ck g.2).2 = 0 -> wrR gs = if 2048 < ndS gs k + g.2.length then 2 else zhh gs.length (ndS gs k + g.2.length) (gs.drop (k + 1))) := fun h => by rw [HU.out, if_neg (by rw [h]; simp)]
     clear hl1 hs0
     -- the body is checked
     by_cases hc : (T.ck g.2).2 = 0
     ·have HV2 := hO (HV.out hc)
      have tc : ((T.ck g.2).2 != 0) = false := by rw [hc]; rfl
      have hg3 : g.2.length <= 2048 := zoz hc
      have hq := HQ.out
      generalize hcc : (T.ck g.2).2 = cc at *
      clear hcc
      by_cases hn : 2048 < ndS gs k + g.2.length
      ·have HF : Hid (wrR gs = 2) := by show wrR gs = 2; rw [HV2.out, if_pos hn]
       have tn : (2048 : Int) < (ndS gs k : Int) + (g.2.length : Int) := by omega
       clear HV HV2 HU HX HG HP HQ hn
       have y0 := HRy.out.c0
       have y1 := HRy.out.c1
       go_wp2_with fail
       refine (HCk.out _ HBy.out).mono ?_
       rintro e w3 ⟨rfl, b3⟩
       have HW3 : Hid (Below w.heap.size w w3) := HWy.out.trans (b3.mono HWy.out.size)
       have x1 := (HRy.out.later b3).c1
       clear HCk b3 HBy HRy
       go_wp2_with fail
       go_ret
       exact ⟨by rw [HF.out]; rfl, HW3.out⟩
      ·have HF : Hid (wrR gs = zhh gs.length (ndS gs (k + 1)) (gs.drop (k + 1))) := by show wrR gs = _; rw [HV2.out, if_neg hn, zcV hgk]
       have tn : ¬ (2048 : Int) < (ndS gs k : Int) + (g.2.length : Int) := by omega
       have HQ2 : Hid (ndS gs (k + 1) <= 2048) := by show ndS gs (k + 1) <= 2048; rw [zcV hgk]; omega
       have HS : Hid ((ndS gs (k + 1) : Int) = (ndS gs k : Int) + (g.2.length : Int)) := by show (ndS gs (k + 1) : Int) = _; rw [zcV hgk]; omega
       clear HV HV2 HU HX HP HQ hn hgk
       have y0 := HRy.out.c0
       have y1 := HRy.out.c1
       go_wp2_with fail
       refine (HCk.out _ HBy.out).mono ?_
       rintro e w3 ⟨rfl, b3⟩
       have HW3 : Hid (Below w.heap.size w w3) := HWy.out.trans (b3.mono HWy.out.size)
       have x1 := (HRy.out.later b3).c1
       clear HCk b3 HBy HRy
       go_wp2_with fail
       go_roundw
       case rel => exact ⟨k + 1, by omega, by go_num, by rw [HS.out], HQ2, HF, HW3⟩
       case measure => simp [intOf]; omega
     ·have tc : ((T.ck g.2).2 != 0) = true := by rw [bne, bF hc]; rfl
      have HF : Hid (wrR gs = (T.ck g.2).2) := by show wrR gs = _; rw [HU.out, if_pos hc]
      clear HV HU HX HG HP HQ hc
      generalize hcc : (T.ck g.2).2 = cc at *
      clear hcc
      have y0 := HRy.out.c0
      have y1 := HRy.out.c1
      go_wp2_with fail
      refine (HCk.out _ HBy.out).mono ?_
      rintro e w3 ⟨rfl, b3⟩
      have HW3 : Hid (Below w.heap.size w w3) := HWy.out.trans (b3.mono HWy.out.size)
      clear HCk b3 HBy HRy
      go_wp2_with fail
      go_ret
      exact ⟨by rw [HF.out]; rfl, HW3.out⟩
    ·have tl : ((gs.length : Int) == 1) = false := bF (by omega)
     have hnb : T.nmB g.1 = false := T.zjQ (fun h => by have := h.1; omega)
     have HF : Hid (wrR gs = 6) := by show wrR gs = 6; rw [HX.out, hd, zhh, if_pos ⟨fun q => hl1 q.2, hnb⟩]
     rw [hnb] at HNm
     clear HX HG HP HQ hl1 hs0 hd hgk HCk
     go_wp2_with fail
     refine (HNm.out _).mono ?_
     rintro e w3 ⟨rfl, b3⟩
     have HW3 : Hid (Below w.heap.size w w3) := HW1.out.trans (b3.mono HW1.out.size)
     clear HNm b3 HR HW1
     go_wp2_with fail
     go_ret
     exact ⟨by rw [HF.out]; rfl, HW3.out⟩
   ·have te : (g.1.toList == []) = false := by
     have e := T.zef hs0
     cases hl : g.1.toList with
     | nil => rw [hl] at e; cases e
     | cons x r => rfl
    have te2 := T.zef hs0
    cases hnb : T.nmB g.1 with
    | false =>
     have HF : Hid (wrR gs = 6) := by show wrR gs = 6; rw [HX.out, hd, zhh, if_pos ⟨fun q => hs0 q.1, hnb⟩]
     rw [hnb] at HNm
     clear HX HG HP HQ hs0 hd hgk HCk hnb
     go_wp2_with fail
     refine (HNm.out _).mono ?_
     rintro e w3 ⟨rfl, b3⟩
     have HW3 : Hid (Below w.heap.size w w3) := HW1.out.trans (b3.mono HW1.out.size)
     clear HNm b3 HR HW1
     go_wp2_with fail
     go_ret
     exact ⟨by rw [HF.out]; rfl, HW3.out⟩
    | true =>
     rw [hnb] at HNm
     go_wp2_with fail
     refine (HNm.out _).mono ?_
     rintro e w2 ⟨rfl, b2⟩
     have HWy : Hid (Below w.heap.size w w2) := HW1.out.trans (b2.mono HW1.out.size)
     have HBy := HWy
     have HRy : Hid (RB w2 wr.heap.size g.1 (.slice A2 g.2.length c2)) := HR.out.later b2
     clear HNm b2 HR HW1
     have HU : Hid (wrR gs = if (T.ck g.2).2 ≠ 0 then (T.ck g.2).2 else if 2048 < ndS gs k + g.2.length then 2 else zhh gs.length (ndS gs k + g.2.length) (gs.drop (k + 1))) := by show wrR gs = _; rw [HX.out, hd, zhh, if_neg (by rintro ⟨_, q⟩; rw [hnb] at q; cases q)]
     have HV : Hid ((T.ck g.2).2 = 0 -> wrR gs = if 2048 < ndS gs k + g.2.length then 2 else zhh gs.length (ndS gs k + g.2.length) (gs.drop (k + 1))) := fun h => by rw [HU.out, if_neg (by rw [h]; simp)]
     -- the body is checked
     by_cases hc : (T.ck g.2).2 = 0
     ·have HV2 := hO (HV.out hc)
      have tc : ((T.ck g.2).2 != 0) = false := by rw [hc]; rfl
      have hg3 : g.2.length <= 2048 := zoz hc
      have hq := HQ.out
      generalize hcc : (T.ck g.2).2 = cc at *
      clear hcc
      by_cases hn : 2048 < ndS gs k + g.2.length
      ·have HF : Hid (wrR gs = 2) := by show wrR gs = 2; rw [HV2.out, if_pos hn]
       have tn : (2048 : Int) < (ndS gs k : Int) + (g.2.length : Int) := by omega
       clear HV HV2 HU HX HG HP HQ hn
       have y1 := HRy.out.c1
       go_wp2_with fail
       refine (HCk.out _ HBy.out).mono ?_
       rintro e w3 ⟨rfl, b3⟩
       have HW3 : Hid (Below w.heap.size w w3) := HWy.out.trans (b3.mono HWy.out.size)
       have x1 := (HRy.out.later b3).c1
       clear HCk b3 HBy HRy
       go_wp2_with fail
       go_ret
       exact ⟨by rw [HF.out]; rfl, HW3.out⟩
      ·have HF : Hid (wrR gs = zhh gs.length (ndS gs (k + 1)) (gs.drop (k + 1))) := by show wrR gs = _; rw [HV2.out, if_neg hn, zcV hgk]
       have tn : ¬ (2048 : Int) < (ndS gs k : Int) + (g.2.length : Int) := by omega
       have HQ2 : Hid (ndS gs (k + 1) <= 2048) := by show ndS gs (k + 1) <= 2048; rw [zcV hgk]; omega
       have HS : Hid ((ndS gs (k + 1) : Int) = (ndS gs k : Int) + (g.2.length : Int)) := by show (ndS gs (k + 1) : Int) = _; rw [zcV hgk]; omega
       clear HV HV2 HU HX HP HQ hn hgk
       have y1 := HRy.out.c1
       go_wp2_with fail
       refine (HCk.out _ HBy.out).mono ?_
       rintro e w3 ⟨rfl, b3⟩
       have HW3 : Hid (Below w.heap.size w w3) := HWy.out.trans (b3.mono HWy.out.size)
       have x1 := (HRy.out.later b3).c1
       clear HCk b3 HBy HRy
       go_wp2_with fail
       go_roundw
       case rel => exact ⟨k + 1, by omega, by go_num, by rw [HS.out], HQ2, HF, HW3⟩
       case measure => simp [intOf]; omega
     ·have tc : ((T.ck g.2).2 != 0) = true := by rw [bne, bF hc]; rfl
      have HF : Hid (wrR gs = (T.ck g.2).2) := by show wrR gs = _; rw [HU.out, if_pos hc]
      clear HV HU HX HG HP HQ hc
      generalize hcc : (T.ck g.2).2 = cc at *
      clear hcc
      have y1 := HRy.out.c1
      go_wp2_with fail
      refine (HCk.out _ HBy.out).mono ?_
      rintro e w3 ⟨rfl, b3⟩
      have HW3 : Hid (Below w.heap.size w w3) := HWy.out.trans (b3.mono HWy.out.size)
      clear HCk b3 HBy HRy
      go_wp2_with fail
      go_ret
      exact ⟨by rw [HF.out]; rfl, HW3.out⟩
  ·obtain rfl : k = gs.length := by omega
   have HF : Hid (wrR gs = 0) := by show wrR gs = 0; rw [HX.out, List.drop_length]; rfl
   clear HG HP HX
   go_wp2_with fail
   go_ret
   exact ⟨by rw [HF.out]; rfl, HW.out⟩
theorem zq5 {len : Nat} : ∀ (gs : List (ByteArray × List Nd)) (m : Nat), m <= 2048 -> zhh len m gs = 0 -> (∀ g ∈ gs, (T.ck g.2).2 = 0 /\ (T.nmB g.1 = true ∨ (g.1.size = 0 /\ len = 1))) /\ m + (gs.map fun g => g.2.length).sum <= 2048 := by
 intro gs
 induction gs with
 | nil => intro m hm _; exact ⟨(fun g hg => by cases hg), by simpa using hm⟩
 | cons g r ih =>
  intro m hm h
  rw [zhh] at h
  by_cases q1 : ¬ (g.1.size = 0 /\ len = 1) /\ T.nmB g.1 = false
  ·rw [if_pos q1] at h; cases h
  rw [if_neg q1] at h
  by_cases q2 : (T.ck g.2).2 ≠ 0
  ·rw [if_pos q2] at h; exact absurd h q2
  rw [if_neg q2] at h
  by_cases q3 : 2048 < m + g.2.length
  ·rw [if_pos q3] at h; cases h
  rw [if_neg q3] at h
  obtain ⟨h1, h2⟩ := ih (m + g.2.length) (by omega) h
  refine ⟨fun x hx => ?_, by rw [List.map_cons, List.sum_cons]; omega⟩
  rcases List.mem_cons.1 hx with rfl | hx
  ·refine ⟨by by_cases z : (T.ck x.2).2 = 0; exact z; exact absurd z q2, ?_⟩
   cases hb : T.nmB x.1 with
   | true => exact .inl rfl
   | false =>
    by_cases z : x.1.size = 0 /\ len = 1
    ·exact .inr z
    ·exact absurd ⟨z, hb⟩ q1
  ·exact h1 x hx
theorem wr_ok {gs : List (ByteArray × List Nd)} (h : wrR gs = 0) : 1 <= gs.length /\ gs.length <= 200 /\ (∀ g ∈ gs, (T.ck g.2).2 = 0 /\ (T.nmB g.1 = true ∨ (g.1.size = 0 /\ gs.length = 1))) /\ (gs.map fun g => g.2.length).sum <= 2048 := by
 unfold wrR at h
 by_cases q1 : gs.length = 0
 ·rw [if_pos q1] at h; cases h
 rw [if_neg q1] at h
 by_cases q2 : 200 < gs.length
 ·rw [if_pos q2] at h; cases h
 rw [if_neg q2] at h
 obtain ⟨h1, h2⟩ := zq5 gs 0 (by omega) h
 exact ⟨by omega, by omega, h1, by omega⟩
theorem zq6 {L : List Nd} (hr : T.Rt L) : (itT (shI L)).length <= 10000 * L.length := by
 have h := zoC hr.each L.length (Nat.le_refl _)
 unfold shI
 cases hs : shK L L.length with
 | nil => exact Nat.zero_le _
 | cons x st =>
  rw [hs, zco] at h
  show (itT x.2).length <= _
  omega
theorem zgd (g : ByteArray × List Nd) : itT (lnI g) = (if g.1.size = 0 then [] else g.1.data.toList ++ [32, 60, 45, 32]) ++ itT (shI g.2) := by
 unfold lnI
 rw [zar]
 by_cases h : g.1.size = 0
 ·rw [if_pos h, if_pos h]; rfl
 ·rw [if_neg h, if_neg h]
  rfl
theorem zlI {s : ByteArray} (h : T.nmB s = true) : s.size <= 32 := (zbE (zqL h)).2
theorem gr_len : ∀ (gs : List (ByteArray × List Nd)), (∀ g ∈ gs, (T.ck g.2).2 = 0 /\ g.1.size <= 32) -> (grT gs).length <= 10000 * (gs.map fun g => g.2.length).sum + 40 * gs.length := by
 intro gs
 induction gs with
 | nil => intro _; exact Nat.zero_le _
 | cons g r ih =>
  intro h
  have h1 := ih (fun x hx => h x (List.mem_cons_of_mem _ hx))
  obtain ⟨h2, h3⟩ := h g List.mem_cons_self
  have h4 := zq6 (T.zjX h2)
  have e : grT (g :: r) = (itT (lnI g) ++ [10]) ++ grT r := rfl
  rw [e, List.length_append, List.length_append, zgd, List.length_append, List.map_cons, List.sum_cons]
  have h5 : (if g.1.size = 0 then [] else g.1.data.toList ++ [32, 60, 45, 32] : List UInt8).length <= 36 := by
   split
   ·exact Nat.zero_le _
   ·rw [List.length_append, dlen]; show _ + 4 <= _; omega
  have e3 : (g :: r).length = r.length + 1 := rfl
  show _ + 1 + _ <= _
  omega
theorem zlJ (a b : List (ByteArray × List Nd)) : grT (a ++ b) = grT a ++ grT b := List.flatMap_append
theorem ziP {gs : List (ByteArray × List Nd)} {k : Nat} {g : ByteArray × List Nd} (h : gs[k]? = some g) : grT (gs.take (k + 1)) = grT (gs.take k) ++ (itT (lnI g) ++ [10]) := by
 rw [List.take_add_one, h, zlJ]
 show _ ++ ((itT (lnI g) ++ [10]) ++ []) = _
 rw [List.append_nil]
theorem znE (gs : List (ByteArray × List Nd)) (k : Nat) : (grT (gs.take k)).length <= (grT gs).length := by
 have h := zlJ (gs.take k) (gs.drop k)
 rw [List.take_append_drop] at h
 rw [h, List.length_append]
 omega
def grR (gs : List (ByteArray × List Nd)) : ByteArray × Int := if wrR gs = 0 then lnR (grT gs) else (⟨#[]⟩, wrR gs)
theorem zhY (gs : List (ByteArray × List Nd)) (A : Option Addr) (c : Nat) (hl : gs.length <= 140737488355328) (hT : ∀ g ∈ gs, g.1.size <= 140737488355328 /\ g.2.length <= 140737488355328 /\ ∀ n ∈ g.2, n.tx.size <= 140737488355328) (hw : ∀ g ∈ gs, ∀ n ∈ g.2, NdW n) (w : World) (hp : GrD w A gs) :
  Calls Tryz.prog 16 #[.agg #[.slice A gs.length c]] w fun e w' => e = .returned (.tuple #[.string (grR gs).1, .int .i64 (grR gs).2]) /\ Below w.heap.size w w' := by
 have HX : Hid (GX (w.alloc (.cells #[.slice A gs.length c] 33)) w.heap.size (.slice A gs.length c)) := GX.mk (heap_alloc_new w _)
 have HB0 : Hid (Below w.heap.size w (w.alloc (.cells #[.slice A gs.length c] 33))) := zaa _ _
 have HC : Hid (∀ _ : Unit, Calls Tryz.prog 35 #[.slice A gs.length c] (w.alloc (.cells #[.slice A gs.length c] 33)) fun e w' => e = .returned (.int .i64 (wrR gs)) /\ Below (w.alloc (.cells #[.slice A gs.length c] 33)).heap.size (w.alloc (.cells #[.slice A gs.length c] 33)) w') := fun _ => zfa gs A c hl hT _ (hp.later (zaa _ _))
 by_cases hc : wrR gs = 0
 ·have t0 : (wrR gs != 0) = false := by rw [hc]; rfl
  have HE : Hid (grR gs = lnR (grT gs)) := by show grR gs = _; unfold grR; rw [if_pos hc]
  obtain ⟨g1, g2, g3, g4⟩ := wr_ok hc
  have hmf : ∀ (fn : Fn) (first cap : Array Value) (w : World), (Instr.makeFunc fn first cap).run Tryz.prog w = .ok (.func fn first cap) w := fun _ _ _ _ => rfl
  have hsz : ∀ g ∈ gs, (T.ck g.2).2 = 0 /\ g.1.size <= 32 := fun g hg => by
   obtain ⟨q1, q2⟩ := g3 g hg
   refine ⟨q1, ?_⟩
   rcases q2 with q | q
   ·exact zlI q
   ·omega
  have hgl := gr_len gs hsz
  have HLe : Hid ((grT gs).length <= 20490000) := by show (grT gs).length <= 20490000; omega
  have HNe := (show Hid (grT gs ≠ []) from by
   show grT gs ≠ []
   cases gs with
   | nil => simp at g1
   | cons g r =>
    intro e
    have : ((itT (lnI g) ++ [10]) ++ grT r : List UInt8) = [] := e
    simp at this)
  have HP : Hid (GrD w A gs) := hp
  have HG : Hid (∀ k, k < gs.length -> ∃ g, gs[k]? = some g /\ T.Rt g.2 /\ (∀ n ∈ g.2, NdW n) /\ g.1.size <= 32) := fun k hk => ⟨_, List.getElem?_eq_getElem hk, T.zjX (hsz _ (List.getElem_mem hk)).1, hw _ (List.getElem_mem hk), (hsz _ (List.getElem_mem hk)).2⟩
  have HTk : Hid (gs.take gs.length = gs) := List.take_length
  clear hc hp hT hw hsz hgl g1 g3 g4
  generalize wrR gs = wv at *
  have y0 := HX.out.cl
  go_enter Tryz.func16, Tryz.ntmps16
  go_wp2_with fail
  refine (HC.out ()).mono ?_
  rintro e w1 ⟨rfl, b1⟩
  have HB1 : Hid (Below w.heap.size w w1) := HB0.out.trans (b1.mono HB0.out.size)
  have HX1 : Hid (GX w1 w.heap.size (.slice A gs.length c)) := HX.out.below b1
  have hs1 := HB1.out.size
  have hx1 := HX1.out.lt
  have HF : Hid (Lib.IsBuilder 59 5 w1.heap.size w1.heap.size (Lib.byteCells []) (w1.alloc (.cells #[.pointer none, .slice none 0 0] 59))) := Lib.fresh_isBuilder 59 5 w1
  have HX2 : Hid (GX (w1.alloc (.cells #[.pointer none, .slice none 0 0] 59)) w.heap.size (.slice A gs.length c)) := HX1.out.below (zaa _ _)
  have HD : Hid (GrD w A gs /\ Below w.heap.size w (w1.alloc (.cells #[.pointer none, .slice none 0 0] 59))) := ⟨HP.out, HB1.out.alloc hs1 _⟩
  clear b1 HC HB0 HX HX1 HP y0
  have y1 := HX2.out.cl
  go_wp2_with fail
  generalize hpb : w1.heap.size = pb at *
  generalize w1.alloc (.cells #[.pointer none, .slice none 0 0] 59) = w2 at *
  have H0 : Hid (Pg pb w2 w2 (grT (gs.take 0))) := Pg.start HF.out
  go_loopw [17] (fun t wr => ∃ k : Nat, k <= gs.length /\ t = .int .i64 k /\ Hid (Pg pb w2 wr (grT (gs.take k)))) (fun t _ => gs.length - (intOf t).toNat)
  case atStart => exact ⟨0, by omega, by go_num, H0⟩
  case round =>
   obtain ⟨k, hk, rfl, HW⟩ := hrel
   clear H0 HF y1
   by_cases hlt : k < gs.length
   ·obtain ⟨g, hg, hrt, hwd, hn32⟩ := HG.out k hlt
    obtain ⟨b, o, A2, c2, rfl, lb, x0, x1, r2⟩ := HD.out.1 k g hg
    obtain ⟨gp, op, rfl, lp, nd⟩ := r2 (by rintro e; have := zhd hrt; rw [e] at this; simp at this)
    have lgp : gp < pb := by omega
    have key : ∀ b, b < w.heap.size -> wr.heap[b]? = w.heap[b]? := fun b hb => (HW.out.bl.block b (by omega)).trans (HD.out.2.block b hb)
    have x0' : wr.cell? ⟨b, o + k * 2, none⟩ = some (.string g.1) := (World.cell?_of_block (a := ⟨b, o + k * 2, none⟩) (key b lb)).trans x0
    have x1' : wr.cell? ⟨b, o + k * 2 + 1, none⟩ = some (.slice (some ⟨gp, op, none⟩) g.2.length c2) := (World.cell?_of_block (a := ⟨b, o + k * 2 + 1, none⟩) (key b lb)).trans x1
    have HNd : Hid (T.NdL w2 gp op g.2) := nd.same (HD.out.2.block gp lp)
    have HRt : Hid (T.Rt g.2) := hrt
    have HWd : Hid (∀ n ∈ g.2, NdW n) := hwd
    have hle := znE gs (k + 1)
    rw [ziP hg, List.length_append, List.length_append, zgd, List.length_append] at hle
    have hle2 := HLe.out
    have HGs : Hid (grT (gs.take (k + 1)) = grT (gs.take k) ++ (itT (lnI g) ++ [10])) := ziP hg
    have z0 : (0 : Int) <= (k : Int) := by omega
    have z1 : (k : Int) < (gs.length : Int) := by omega
    have hwr := zhV HW.out.i
    have HW3 : Hid (Pg pb w2 (wr.alloc (.cells #[.string g.1, .slice (some ⟨gp, op, none⟩) g.2.length c2] 73)) (grT (gs.take k))) := HW.out.later (zaa _ _)
    have HBx : Hid (Fx (wr.alloc (.cells #[.string g.1, .slice (some ⟨gp, op, none⟩) g.2.length c2] 73)) pb wr.heap.size #[.string g.1, .slice (some ⟨gp, op, none⟩) g.2.length c2] 73) := ⟨⟨_, heap_alloc_new wr _⟩, by omega, by decide⟩
    clear x0 x1 key nd hg hrt hwd HG HW r2
    by_cases hs0 : g.1.size = 0
    ·have te : (g.1.toList == []) = true := by
      have e := T.zeV hs0
      rw [List.isEmpty_iff] at e
      rw [e]; rfl
     have te2 := T.zeV hs0
     have HLn : Hid (itT (lnI g) = itT (shI g.2)) := by show itT (lnI g) = _; rw [zgd, if_pos hs0]; rfl
     rw [if_pos hs0] at hle
     have HLl : Hid ((grT (gs.take k)).length + ((itT (shI g.2)).length + 1) <= 20490000) := by show (grT (gs.take k)).length + _ <= _; simp only [List.length_nil, List.length_singleton] at hle; omega
     have HPq := HW3
     clear hle hle2 hs0 HBx
     have HTe : Hid (∀ _ : Unit, Calls Tryz.prog 26 #[.slice (some ⟨gp, op, none⟩) g.2.length c2, zf9 pb] (wr.alloc (.cells #[.string g.1, .slice (some ⟨gp, op, none⟩) g.2.length c2] 73)) fun e w' => (∃ tb, e = .returned (.pointer (some ⟨tb, 0, none⟩)) /\ Tl w' pb tb g.2 gp op c2) /\ Below (wr.alloc (.cells #[.string g.1, .slice (some ⟨gp, op, none⟩) g.2.length c2] 73)).heap.size (wr.alloc (.cells #[.string g.1, .slice (some ⟨gp, op, none⟩) g.2.length c2] 73)) w') := fun _ => zcy g.2 pb gp op c2 (by have := HRt.out.len; omega) HRt.out.each _ (HNd.out.same (HPq.out.bl.block gp lgp)) lgp (zhV HPq.out.i)
     go_wp2_with fail
     refine (HTe.out ()).mono ?_
     rintro e w5 ⟨⟨tb, rfl, ht⟩, b5⟩
     have HP5 : Hid (Pg pb w2 w5 (grT (gs.take k))) := HPq.out.later b5
     have HPa : Hid (∀ _ : Unit, Calls Tryz.prog 28 #[.pointer (some ⟨tb, 0, none⟩)] w5 fun e W' => e = .returned (.tuple #[]) /\ Pg pb w5 W' ((grT (gs.take k)) ++ itT (shI g.2))) := fun _ => zbY HRt.out HWd.out w5 _ ht HP5.out.i (by have := HLl.out; omega)
     clear ht b5 HTe HPq
     go_wp2_with fail
     refine (HPa.out ()).mono ?_
     rintro e w6 ⟨rfl, p6⟩
     have HP6 : Hid (Pg pb w2 w6 ((grT (gs.take k)) ++ itT (shI g.2))) := HP5.out.trans p6
     clear p6 HPa HP5
     go_wp2_with fail
     refine (zdw ⟨#[10]⟩ HP6.out.i (by rw [List.length_append]; have := HLl.out; show _ + 1 <= _; omega)).mono ?_
     rintro e w7 ⟨rfl, p7⟩
     have HP7 := (show Hid (Pg pb w2 w7 (grT (gs.take (k + 1)))) from by
      show Pg pb w2 w7 _
      rw [HGs.out]
      have := HP6.out.trans p7
      rw [HLn.out, <- List.append_assoc]
      exact this)
     clear p7 HP6
     go_wp2_with fail
     go_roundw
     case rel => exact ⟨k + 1, by omega, by go_num, HP7⟩
     case measure => simp [intOf]; omega
    ·have te : (g.1.toList == []) = false := by
      have e := T.zef hs0
      cases hl : g.1.toList with
      | nil => rw [hl] at e; cases e
      | cons x r => rfl
     have te2 := T.zef hs0
     have HLn : Hid (itT (lnI g) = (g.1.data.toList ++ [32, 60, 45, 32]) ++ itT (shI g.2)) := by show itT (lnI g) = _; rw [zgd, if_neg hs0]
     rw [if_neg hs0, List.length_append] at hle
     have HLl : Hid ((grT (gs.take k)).length + ((g.1.data.toList.length + 4) + ((itT (shI g.2)).length + 1)) <= 20490000) := by show (grT (gs.take k)).length + _ <= _; simp only [List.length_singleton] at hle; have e4 : ([32, 60, 45, 32] : List UInt8).length = 4 := rfl; omega
     clear hle hle2 hs0
     have HTw : Hid (∀ _ : Unit, Calls Tryz.prog 27 #[.pointer (some ⟨pb, 0, none⟩), .slice (some ⟨wr.heap.size + 1, 0, none⟩) 2 2] ((wr.alloc (.cells #[.string g.1, .slice (some ⟨gp, op, none⟩) g.2.length c2] 73)).alloc (.cells #[.string g.1, .string ⟨#[32, 60, 45, 32]⟩] 9)) fun e W' => e = .returned (.tuple #[]) /\ Pg pb (wr.alloc (.cells #[.string g.1, .slice (some ⟨gp, op, none⟩) g.2.length c2] 73)) W' (grT (gs.take k) ++ (g.1.data.toList ++ [32, 60, 45, 32]))) := fun _ => by
      have h := znx g.1 ⟨#[32, 60, 45, 32]⟩ HW3.out.i (by
       have := HLl.out
       rw [List.length_append]
       have e4 : (⟨#[32, 60, 45, 32]⟩ : ByteArray).data.toList.length = 4 := rfl
       omega)
      rw [World.size_alloc] at h
      exact h
     go_wp2_with fail
     refine (HTw.out ()).mono ?_
     rintro e w4 ⟨rfl, p4⟩
     have HPq : Hid (Pg pb w2 w4 (grT (gs.take k) ++ (g.1.data.toList ++ [32, 60, 45, 32]))) := HW3.out.trans p4
     have d1 : w4.cell? ⟨wr.heap.size, 1, none⟩ = some (.slice (some ⟨gp, op, none⟩) g.2.length c2) := (HBx.out.keep p4.k).cell 1
     clear p4 HW3 HBx HTw
     have HTe : Hid (∀ _ : Unit, Calls Tryz.prog 26 #[.slice (some ⟨gp, op, none⟩) g.2.length c2, zf9 pb] w4 fun e w' => (∃ tb, e = .returned (.pointer (some ⟨tb, 0, none⟩)) /\ Tl w' pb tb g.2 gp op c2) /\ Below w4.heap.size w4 w') := fun _ => zcy g.2 pb gp op c2 (by have := HRt.out.len; omega) HRt.out.each _ (HNd.out.same (HPq.out.bl.block gp lgp)) lgp (zhV HPq.out.i)
     go_wp2_with fail
     refine (HTe.out ()).mono ?_
     rintro e w5 ⟨⟨tb, rfl, ht⟩, b5⟩
     have HP5 : Hid (Pg pb w2 w5 (grT (gs.take k) ++ (g.1.data.toList ++ [32, 60, 45, 32]))) := HPq.out.later b5
     have HPa : Hid (∀ _ : Unit, Calls Tryz.prog 28 #[.pointer (some ⟨tb, 0, none⟩)] w5 fun e W' => e = .returned (.tuple #[]) /\ Pg pb w5 W' ((grT (gs.take k) ++ (g.1.data.toList ++ [32, 60, 45, 32])) ++ itT (shI g.2))) := fun _ => zbY HRt.out HWd.out w5 _ ht HP5.out.i (by rw [List.length_append, List.length_append]; have := HLl.out; show _ + (_ + 4) <= _; omega)
     clear ht b5 HTe HPq
     go_wp2_with fail
     refine (HPa.out ()).mono ?_
     rintro e w6 ⟨rfl, p6⟩
     have HP6 : Hid (Pg pb w2 w6 ((grT (gs.take k) ++ (g.1.data.toList ++ [32, 60, 45, 32])) ++ itT (shI g.2))) := HP5.out.trans p6
     clear p6 HPa HP5
     go_wp2_with fail
     refine (zdw ⟨#[10]⟩ HP6.out.i (by rw [List.length_append]; rw [List.length_append, List.length_append]; have := HLl.out; show _ + (_ + 4) + _ + 1 <= _; omega)).mono ?_
     rintro e w7 ⟨rfl, p7⟩
     have HP7 := (show Hid (Pg pb w2 w7 (grT (gs.take (k + 1)))) from by
      show Pg pb w2 w7 _
      rw [HGs.out]
      have := HP6.out.trans p7
      rw [HLn.out, <- List.append_assoc, <- List.append_assoc]
      exact this)
     clear p7 HP6
     go_wp2_with fail
     go_roundw
     case rel => exact ⟨k + 1, by omega, by go_num, HP7⟩
     case measure => simp [intOf]; omega
   ·obtain rfl : k = gs.length := by omega
    have HWh : Hid (∀ _ : Unit, Calls Tryz.prog 29 #[.pointer (some ⟨pb, 0, none⟩)] wr fun e w' => e = .returned (.tuple #[.string (lnR (grT gs)).1, .int .i64 (lnR (grT gs)).2]) /\ Below pb wr w') := fun _ => by
     have h := HW.out
     rw [HTk.out] at h
     exact zhe pb _ wr h.i HNe.out (by have := HLe.out; omega)
    have hle : w.heap.size <= pb := by omega
    clear HG
    go_wp2_with fail
    refine (HWh.out ()).mono ?_
    rintro e w4 ⟨rfl, b4⟩
    have HB4 : Hid (Below w.heap.size w w4) := (HD.out.2.trans (HW.out.bl.mono hle)).trans (b4.mono hle)
    clear b4 HWh HW HD
    go_wp2_with fail
    go_ret2
    exact ⟨by rw [HE.out]; rfl, HB4.out⟩
 ·have t0 : (wrR gs != 0) = true := by rw [bne, bF hc]; rfl
  have HE : Hid (grR gs = (⟨#[]⟩, wrR gs)) := by show grR gs = _; unfold grR; rw [if_neg hc]
  clear hp hT hw hc
  generalize wrR gs = wv at *
  have y0 := HX.out.cl
  go_enter Tryz.func16, Tryz.ntmps16
  go_wp2_with fail
  refine (HC.out ()).mono ?_
  rintro e w1 ⟨rfl, b1⟩
  have HB1 : Hid (Below w.heap.size w w1) := HB0.out.trans (b1.mono HB0.out.size)
  clear b1 HC HX HB0 y0
  go_wp2_with fail
  go_ret2
  exact ⟨by rw [HE.out]; rfl, HB1.out⟩
theorem zoH {n : Nd} (h : n.s0 = 0 /\ n.s1 = 0 /\ n.s2 = 0 /\ n.s3 = 0) : NdW n := by
 obtain ⟨a, b, c, d⟩ := h
 exact ⟨by omega, by omega, by omega, by omega⟩
theorem tk_nw {l : List Tk} (hr : ∀ t ∈ l, Rgt t) (i : Nat) : TkB (tkA (mkE l) i) := by
 unfold tkA
 cases h : (mkE l).l[i]? with
 | none => exact ⟨by decide, by decide, by decide, by decide, by decide, by decide⟩
 | some t => exact (hr t (List.mem_of_getElem? h)).b
theorem ex_nw {l : List Tk} (hr : ∀ t ∈ l, Rgt t) {i a : Nat} {ns : List Nd} (h : exN (mkE l) i = .inl (a, ns)) : ∀ n ∈ ns, NdW n := by
 have z0 : ∀ op, NdW (nd0 op) := fun op => zoH ⟨rfl, rfl, rfl, rfl⟩
 refine zoF (mkE l) NdW z0 ?_ ?_ ?_ _ _ _ _ _ _ h
 ·intro i p hp
  unfold zfB zi2 at hp
  repeat (split at hp; · cases hp; exact zoH ⟨rfl, rfl, rfl, rfl⟩)
  split at hp
  ·split at hp
   ·split at hp
    ·cases hp; exact zoH ⟨rfl, rfl, rfl, rfl⟩
    ·cases hp
   ·split at hp
    ·split at hp
     ·cases hp
     ·cases hp; exact zoH ⟨rfl, rfl, rfl, rfl⟩
    ·cases hp
  ·cases hp
 ·intro i p hp n hn
  have hu := tk_nw hr i
  unfold zbt zbW at hp
  have one : ∀ op, n ∈ [nd0 op] -> NdW n := fun op q => by rw [List.mem_singleton.1 q]; exact z0 op
  by_cases c0 : (tkA (mkE l) i).kd = 2
  ·rw [if_pos c0] at hp
   cases hp
   dsimp only at hn
   split at hn
   ·exact one _ hn
   ·rw [List.mem_singleton.1 hn]; exact zoH ⟨rfl, rfl, rfl, rfl⟩
  rw [if_neg c0] at hp
  by_cases c1 : (tkA (mkE l) i).kd = 3 ∨ (tkA (mkE l) i).kd = 28
  ·rw [if_pos c1] at hp
   cases hp
   rw [List.mem_singleton.1 hn]
   exact ⟨⟨hu.u0, hu.u1⟩, hu.u2, hu.u3, hu.u4⟩
  rw [if_neg c1] at hp
  by_cases c2 : (tkA (mkE l) i).kd = 5
  ·rw [if_pos c2] at hp
   cases hp
   have hn : n ∈ rnP (tkA (mkE l) i).nn (tkA (mkE l) i).s0 := hn
   unfold rnP at hn
   rw [List.mem_map] at hn
   obtain ⟨m, _, rfl⟩ := hn
   exact ⟨zca _ _, zca _ _, zca _ _, zca _ _⟩
  rw [if_neg c2] at hp
  by_cases c3 : (tkA (mkE l) i).kd = 18
  ·rw [if_pos c3] at hp; cases hp; exact one _ hn
  rw [if_neg c3] at hp
  by_cases c4 : (tkA (mkE l) i).kd = 29
  ·rw [if_pos c4] at hp; cases hp; exact one _ hn
  rw [if_neg c4] at hp
  by_cases c5 : (tkA (mkE l) i).kd = 30
  ·rw [if_pos c5] at hp; cases hp; exact one _ hn
  rw [if_neg c5] at hp
  by_cases c6 : (tkA (mkE l) i).kd = 1
  ·rw [if_pos c6] at hp; cases hp; rw [List.mem_singleton.1 hn]; exact zoH ⟨rfl, rfl, rfl, rfl⟩
  rw [if_neg c6] at hp
  by_cases c7 : (tkA (mkE l) i).kd = 16
  ·rw [if_pos c7] at hp; cases hp
  rw [if_neg c7] at hp
  by_cases c8 : (tkA (mkE l) i).kd = 19
  ·rw [if_pos c8] at hp
   by_cases d : kdA (mkE l) (i + 1) = 20
   ·rw [if_pos d] at hp; cases hp; exact one _ hn
   ·rw [if_neg d] at hp; cases hp
  rw [if_neg c8] at hp
  by_cases c9 : (tkA (mkE l) i).kd = 21
  ·rw [if_pos c9] at hp; cases hp
  rw [if_neg c9] at hp
  by_cases c10 : (tkA (mkE l) i).kd = 23
  ·rw [if_pos c10] at hp; cases hp
  rw [if_neg c10] at hp
  cases hp
 ·intro i p hp n hn
  unfold zbt zbW at hp
  by_cases c0 : (tkA (mkE l) i).kd = 2
  ·rw [if_pos c0] at hp; cases hp
  rw [if_neg c0] at hp
  by_cases c1 : (tkA (mkE l) i).kd = 3 ∨ (tkA (mkE l) i).kd = 28
  ·rw [if_pos c1] at hp; cases hp
  rw [if_neg c1] at hp
  by_cases c2 : (tkA (mkE l) i).kd = 5
  ·rw [if_pos c2] at hp; cases hp
  rw [if_neg c2] at hp
  by_cases c3 : (tkA (mkE l) i).kd = 18
  ·rw [if_pos c3] at hp; cases hp
  rw [if_neg c3] at hp
  by_cases c4 : (tkA (mkE l) i).kd = 29
  ·rw [if_pos c4] at hp; cases hp
  rw [if_neg c4] at hp
  by_cases c5 : (tkA (mkE l) i).kd = 30
  ·rw [if_pos c5] at hp; cases hp
  rw [if_neg c5] at hp
  by_cases c6 : (tkA (mkE l) i).kd = 1
  ·rw [if_pos c6] at hp; cases hp
  rw [if_neg c6] at hp
  by_cases c7 : (tkA (mkE l) i).kd = 16
  ·rw [if_pos c7] at hp; cases hp; cases hn
  rw [if_neg c7] at hp
  by_cases c8 : (tkA (mkE l) i).kd = 19
  ·rw [if_pos c8] at hp
   by_cases d : kdA (mkE l) (i + 1) = 20
   ·rw [if_pos d] at hp; cases hp
   ·rw [if_neg d] at hp; cases hp; rw [List.mem_singleton.1 hn]; exact z0 _
  rw [if_neg c8] at hp
  by_cases c9 : (tkA (mkE l) i).kd = 21
  ·rw [if_pos c9] at hp; cases hp; rw [List.mem_singleton.1 hn]; exact zoH ⟨rfl, rfl, rfl, rfl⟩
  rw [if_neg c9] at hp
  by_cases c10 : (tkA (mkE l) i).kd = 23
  ·rw [if_pos c10] at hp; cases hp; rw [List.mem_singleton.1 hn]; exact z0 _
  rw [if_neg c10] at hp
  cases hp
  rw [List.mem_singleton.1 hn]
  exact z0 _
theorem znF {s : ByteArray} {gs : List (ByteArray × List Nd)} (h : paR s = .inl gs) : ∃ L, gs = [(⟨#[]⟩, L)] /\ T.Rt L /\ ∀ n ∈ L, NdW n := by
 obtain ⟨l, ns, h1, h2, h3, h4, h5⟩ := zoy h
 exact ⟨ns, h2, T.zjX h4, ex_nw (zhU h1) h3⟩
end Go.Proofs.YtnpifgcgjgddoaaGreatDoor.N
