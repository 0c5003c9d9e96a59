/- DERIVED. Plain mathematics and walks, laid together (19). -/
import Derived.Recover
import Derived.Defers
import Derived.Test.YtnpifgcgjgddoaaGreatDoorPb18
set_option maxRecDepth 100000
set_option maxHeartbeats 8000000
namespace Go.Proofs.YtnpifgcgjgddoaaGreatDoor.N
open Go.RowKit
theorem zq7 {E : PE} {z : Nat} {w0 : World} {b : Nat} {tv : Value} {i : Nat} {W : World} {v : Value} {L : List Nd} (h : RS E z w0 W b tv i 0 v L) (h1 : ¬ kdA E i = 1) : Calls Tryz.prog 66 #[.pointer (some ⟨b, 0, none⟩)] W fun e W' => e = pnc (plA E z i) 60 /\ Below w0.heap.size w0 W' := by
 obtain ⟨t, ht, hk, hpl, _⟩ := zam E z h.hi
 have HH : Hid (∀ W, RS E z w0 W b tv i 0 v L -> Calls Tryz.prog 62 #[.pointer (some ⟨b, 0, none⟩)] W fun e W' => e = .returned (.agg #[.int .i64 t.kd, .int .i64 t.nn, .int .i64 t.fr, .int .i64 t.en, .string t.tx, .int .u64 t.s0, .int .u64 t.s1, .int .u64 t.s2, .int .u64 t.s3]) /\ Below W.heap.size W W') := fun W h => zaq h _ ht
 have HP1 : Hid (∀ W, RS E z w0 W b tv i 0 v L -> Calls Tryz.prog 90 #[.pointer (some ⟨b, 0, none⟩), .int .i64 1] W fun e W' => e = pnc (plA E z i) 60 /\ Below w0.heap.size w0 W') := fun W h => zj1 h 1 h1
 have H : Hid (RS E z w0 (W.alloc (.cells #[.int .i64 0, .string ⟨#[]⟩, .slice none 0 0] 79)) b tv i 0 v L) := h.later (zaa _ _)
 clear h ht hk hpl h1
 go_enter Tryz.func66, Tryz.ntmps66
 go_wp2_with fail
 generalize W.alloc (.cells #[.int .i64 0, .string ⟨#[]⟩, .slice none 0 0] 79) = w1 at *
 refine (HH.out _ H.out).mono ?_
 rintro e w2 ⟨rfl, hb⟩
 have H2 : Hid (RS E z w0 (w2.alloc (.cells #[.int .i64 t.kd, .int .i64 t.nn, .int .i64 t.fr, .int .i64 t.en, .string t.tx, .int .u64 t.s0, .int .u64 t.s1, .int .u64 t.s2, .int .u64 t.s3] 115)) b tv i 0 v L) := (H.out.later hb).later (zaa _ _)
 clear hb HH H
 go_wp2_with fail
 refine (HP1.out _ H2.out).mono ?_
 rintro e w4 ⟨rfl, hb⟩
 exact zac rfl ⟨rfl, hb⟩
theorem Tryz.info62 : (Tryz.prog.info? 79).map (fun i => (i.zero, i.size, i.bytes)) = some (some (.agg #[.int .i64 0, .string ⟨#[]⟩, .slice none 0 0]), 3, 48) := by kernel_rfl
def plV (E : PE) (z : Nat) (x : Rl × Value) : List Value := [.int .i64 (plA E z x.1.1), .string x.1.2.1, x.2]
def plc (E : PE) (z : Nat) (l : List (Rl × Value)) : List Value := l.flatMap (plV E z)
theorem zjv (E : PE) (z : Nat) (a b : List (Rl × Value)) : plc E z (a ++ b) = plc E z a ++ plc E z b := List.flatMap_append
theorem zlX (E : PE) (z : Nat) (x : Rl × Value) : plc E z [x] = plV E z x := by unfold plc; rw [List.flatMap_cons, List.flatMap_nil, List.append_nil]
structure Bds (w0 W : World) (ov : List (Rl × Value)) : Prop where
 e : ∀ x ∈ ov, W.ownsRow w0.heap.size 51 7 x.2 x.1.2.2.length (T.ndc x.1.2.2)
 ap : ov.Pairwise fun x y => ∀ k, x.2.ownBlock = some k -> y.2.ownBlock ≠ some k
theorem Bds.same {w0 W W' : World} {ov : List (Rl × Value)} (h : Bds w0 W ov) (hk : ∀ x ∈ ov, ∀ k, x.2.ownBlock = some k -> W'.heap[k]? = W.heap[k]?) : Bds w0 W' ov := ⟨fun x hx => zaD (h.e x hx) (hk x hx), h.ap⟩
theorem Bds.later {w0 W W' : World} {ov : List (Rl × Value)} (h : Bds w0 W ov) (hb : Below W.heap.size W W') : Bds w0 W' ov := h.same fun x hx k hk => hb.block k ((h.e x hx).lt k hk).2
theorem Bds.grow {w0 W W' : World} {ov : List (Rl × Value)} {B e s n : Nat} {u : Value} {xs : List Value} (h : Bds w0 W ov) (hg : W.grownBy W' u.ownBlock) (ho : W.ownsRow B e s u n xs) (he : e ≠ 51) : Bds w0 W' ov := h.same fun x hx k hk => hg.block k ((h.e x hx).lt k hk).2 (fun q => zdf ho (h.e x hx) he q.symm hk)
theorem Bds.push {w0 W : World} {ov : List (Rl × Value)} (h : Bds w0 W ov) (x : Rl × Value) (hx : W.ownsRow w0.heap.size 51 7 x.2 x.1.2.2.length (T.ndc x.1.2.2)) (hn : ∀ y ∈ ov, ∀ k, y.2.ownBlock = some k -> x.2.ownBlock ≠ some k) : Bds w0 W (ov ++ [x]) :=
 ⟨fun y hy => by
  rcases List.mem_append.1 hy with q | q
  ·exact h.e y q
  ·rw [List.mem_singleton.1 q]; exact hx, List.pairwise_append.2 ⟨h.ap, List.pairwise_singleton _ _, fun y hy u hu => by rw [List.mem_singleton.1 hu]; exact hn y hy⟩⟩
theorem RS.gr {E : PE} {z : Nat} {w0 W W' : World} {b : Nat} {tv : Value} {i d : Nat} {v : Value} {L : List Nd} {u : Value} {n : Nat} {xs : List Value} (h : RS E z w0 W b tv i d v L) (ho : W.ownsRow w0.heap.size 79 3 u n xs) (hg : W.grownBy W' u.ownBlock) : RS E z w0 W' b tv i d v L :=
 ⟨h.bl.grown hg h.bl.size (fun k e => (ho.lt k e).1), h.lo, h.x.same (hg.block b h.x.lt (fun e => h.x.ne ho (by decide) e.symm rfl)), zaD h.t fun k hk => hg.block k (h.t.lt k hk).2 (fun e => zdf h.t ho (by decide) hk e.symm), zaD h.o fun k hk => hg.block k (h.o.lt k hk).2 (fun e => zdf h.o ho (by decide) hk e.symm), h.hi, h.hd⟩
structure AtR (E : PE) (z : Nat) (w0 W : World) (b : Nat) (tv : Value) (a : Nat) (v : Value) (L : List Nd) (u : Value) (ov : List (Rl × Value)) : Prop where
 s : RS E z w0 W b tv a 0 v L
 o : W.ownsRow w0.heap.size 79 3 u ov.length (plc E z ov)
 bd : Bds w0 W ov
 n : ov.length <= a
 nm : kdA E a = 1 -> ruB E a = true
theorem AtR.later {E : PE} {z : Nat} {w0 W W' : World} {b : Nat} {tv : Value} {a : Nat} {v : Value} {L : List Nd} {u : Value} {ov : List (Rl × Value)} (h : AtR E z w0 W b tv a v L u ov) (hb : Below W.heap.size W W') : AtR E z w0 W' b tv a v L u ov := ⟨h.s.later hb, zoY h.o hb, h.bd.later hb, h.n, h.nm⟩
theorem AtR.read {E : PE} {z : Nat} {w0 W W' : World} {b : Nat} {tv : Value} {a : Nat} {v v' : Value} {L : List Nd} {u : Value} {ov : List (Rl × Value)} (h : AtR E z w0 W b tv a v L u ov) (hf : Fr W W' b (.slice none 0 0) v') : W'.ownsRow w0.heap.size 79 3 u ov.length (plc E z ov) /\ Bds w0 W' ov /\ ∀ y ∈ ov, ∀ k, y.2.ownBlock = some k -> v'.ownBlock ≠ some k :=
 ⟨zaD h.o fun k hk => hf.block k (h.o.lt k hk).2 (h.s.x.ne h.o (by decide) hk) (by intro q; cases q), h.bd.same fun x hx k hk => hf.block k ((h.bd.e x hx).lt k hk).2 (h.s.x.ne (h.bd.e x hx) (by decide) hk) (by intro q; cases q), fun y hy k hk q => by
  rcases hf.own k q with r | r
  ·cases r
  ·have := ((h.bd.e y hy).lt k hk).2
   omega⟩
def RlV (E : PE) (z : Nat) (w0 : World) (r : Sum (List Rl) (Nat × Int)) (e : Ending) (W' : World) : Prop := match r with
 | .inr q => e = pnc (plA E z q.1) q.2 /\ Below w0.heap.size w0 W'
 | .inl rs => ∃ u ov, e = .returned u /\ W'.ownsRow w0.heap.size 79 3 u ov.length (plc E z ov) /\ Bds w0 W' ov /\ ov.map (·.1) = rs /\ Below w0.heap.size w0 W'
theorem zlY {E : PE} (hE : OkE E) (hk0 : ∀ a, a < E.l.length -> ¬ kdA E a = 0) {z : Nat} {w0 : World} (hv : R.VB w0) {b : Nat} {tv : Value} {W : World} (h : RS E z w0 W b tv 0 0 (.slice none 0 0) []) (hr0 : ruB E 0 = true) : Calls Tryz.prog 44 #[.pointer (some ⟨b, 0, none⟩)] W fun e W' => RlV E z w0 (rdN E) e W' := by
 have hlen := hE.len
 obtain ⟨i0, hinf, hz0, hz1, hz2⟩ := info_parts Tryz.info62
 have HE := hO hE
 have HK := hO hk0
 have HVB := hO hv
 have HA : Hid (AtR E z w0 W b tv 0 (.slice none 0 0) [] (.slice none 0 0) []) := ⟨h, World.ownsRow_nil _ _ _ _, ⟨fun x hx => (by cases hx), List.Pairwise.nil⟩, Nat.le_refl _, fun _ => hr0⟩
 have HR0 : Hid (rdN E = rlG (exN E) E (E.l.length + 1) 0 (([] : List (Rl × Value)).map (·.1))) := by
  show rdN E = _
  unfold rdN
  rw [if_pos hr0]
  rfl
 generalize rdN E = R0 at *
 clear h hE hk0 hv hr0
 go_enter Tryz.func44, Tryz.ntmps44
 go_wp2_with fail
 go_loopw [3] (fun u wr => ∃ (a : Nat) (v : Value) (L : List Nd) (ov : List (Rl × Value)) (f : Nat), E.l.length < f + a /\ Hid (AtR E z w0 wr b tv a v L u ov) /\ Hid (R0 = rlG (exN E) E f a (ov.map (·.1)))) (fun _ wr => E.l.length - nxt b wr)
 case atStart => exact ⟨0, _, _, _, _, by omega, HA, HR0⟩
 case round =>
  obtain ⟨a, v, L, ov, f, hfa, HW, HR⟩ := hrel
  clear HA HR0
  have ha := HW.out.s.hi
  obtain ⟨f, rfl⟩ : ∃ g, f = g + 1 := ⟨f - 1, by omega⟩
  obtain ⟨t, ht, hk, hpl, hta⟩ := zam E z ha
  clear hta
  have HH : Hid (∀ _ : Unit, Calls Tryz.prog 62 #[.pointer (some ⟨b, 0, none⟩)] wr fun e W' => e = .returned (.agg #[.int .i64 t.kd, .int .i64 t.nn, .int .i64 t.fr, .int .i64 t.en, .string t.tx, .int .u64 t.s0, .int .u64 t.s1, .int .u64 t.s2, .int .u64 t.s3]) /\ Below wr.heap.size wr W') := fun _ => zaq HW.out.s _ ht
  have fl0 := zjz
  have HG : Hid (R0 = if a < E.l.length then (if ruB E a = true then (match exN E (a + 2) with
   | .inr q => .inr q
   | .inl p => rlG (exN E) E f p.1 (ov.map (·.1) ++ [(a, (tkA E a).tx, p.2)])) else .inr (a, 60)) else .inl (ov.map (·.1))) := by
   show R0 = _
   rw [HR.out, rlG]
   all_goals
    split
    ·split
     ·cases exN E (a + 2) <;> rfl
     ·rfl
    ·rfl
  by_cases hlt : a < E.l.length
  ·have t1 : (t.kd != 0) = true := by rw [hk]; simpa using HK.out a hlt
   by_cases hru : ruB E a = true
   ·cases hx : exN E (a + 2) with
    | inr q =>
     have HV : Hid (R0 = .inr q) := by
      show R0 = _
      rw [HG.out, if_pos hlt, if_pos hru, hx]
     have HRu : Hid (∀ W, AtR E z w0 W b tv a v L u3 ov -> Calls Tryz.prog 66 #[.pointer (some ⟨b, 0, none⟩)] W fun e W' => e = pnc (plA E z q.1) q.2 /\ Below w0.heap.size w0 W') := fun W h => rule_x HE.out HVB.out h.s hru q hx
     clear HR HG ht hk hpl hru hx
     go_wp2_with fail
     refine (HH.out ()).mono ?_
     rintro e w1 ⟨rfl, hb⟩
     have H1 := hO (HW.out.later hb)
     clear hb HH
     go_wp2_with fail
     refine (HRu.out _ H1.out).mono ?_
     rintro e w2 ⟨rfl, hb⟩
     exact zac (P := Tryz.prog) (fn := Tryz.f44) rfl (by show RlV E z w0 R0 _ _; rw [HV.out]; exact ⟨rfl, hb⟩)
    | inl p =>
     obtain ⟨a2, ns⟩ := p
     have hadv := ze5 (zjN hru) hx
     have hnm := fun hq => zpU (E := E) hx hq
     have HV : Hid (R0 = rlG (exN E) E f a2 (ov.map (·.1) ++ [(a, (tkA E a).tx, ns)])) := by
      show R0 = _
      rw [HG.out, if_pos hlt, if_pos hru, hx]
     have HRu : Hid (∀ W, AtR E z w0 W b tv a v L u3 ov -> Calls Tryz.prog 66 #[.pointer (some ⟨b, 0, none⟩)] W fun e W' => ∃ v', e = .returned (.agg #[.int .i64 (plA E z a), .string (tkA E a).tx, v']) /\ RS E z w0 W' b tv a2 0 v' ns /\ Fr W W' b (.slice none 0 0) v') := fun W h => zq6 HE.out HVB.out h.s hru a2 ns hx
     have HNm := hO hnm
     have hn := HW.out.n
     have HNx : Hid (nxt b wr = a) := HW.out.s.nx
     clear HR HG ht hk hpl hru hx hnm
     go_wp2_with fail
     refine (HH.out ()).mono ?_
     rintro e w1 ⟨rfl, hb⟩
     have H1 := hO (HW.out.later hb)
     clear hb HH HW
     go_wp2_with fail
     refine (HRu.out _ H1.out).mono ?_
     rintro e w2 ⟨v2, rfl, h2, hf2⟩
     obtain ⟨A2, n2, rfl⟩ := zb4 h2.o
     have H2 := hO h2
     have HK2 := hO (H1.out.read hf2)
     have hO := HK2.out.1
     have hs2 := h2.bl.size
     clear h2 hf2 H1 HRu
     generalize hpa : plA E z a = p0 at *
     generalize htx : (tkA E a).tx = tx0 at *
     go_wp2_with (at_builtin; refine wpList_append_lies _ rfl _ _ 83 rfl w0.heap.size 79 i0 (.agg #[.int .i64 0, .string ⟨#[]⟩, .slice none 0 0]) 3 48 Tryz.underlying83 hinf hz0 hz1 hz2 rfl (by decide) _ _ _ rfl (hO.alloc _) ⟨w2.heap.size, 0, none⟩ 1 1 [.int .i64 p0, .string tx0, .slice A2 ns.length n2] rfl rfl ?c1 ?c2 (by decide) ?c3 ?c4 ?c5 (w2.heap.size + 1) (by simp) ?_)
     case c1 => exact World.news_of_block (cs := #[.int .i64 p0, .string tx0, .slice A2 ns.length n2]) (t := 79) (fr := (0, 0)) (heap_alloc_new w2 _)
     case c2 => intro u hu; simp only [List.mem_cons, List.not_mem_nil, or_false] at hu; rcases hu with rfl | rfl | rfl <;> rfl
     case c3 => unfold maxLen; omega
     case c4 => omega
     case c5 => rw [World.size_alloc]; omega
     intro g3 cap w3 hown hgrow hat hlt3
     have HW3 := (show Hid (AtR E z w0 w3 b tv a2 (.slice A2 ns.length n2) ns (.slice (some ⟨g3, 0, none⟩) (ov.length + 1) cap) (ov ++ [((a, tx0, ns), .slice A2 ns.length n2)])) from by
      have ha2 := hO.alloc (.cells #[.int .i64 p0, .string tx0, .slice A2 ns.length n2] 79)
      have hS := (H2.out.later (zaa w2 (.cells #[.int .i64 p0, .string tx0, .slice A2 ns.length n2] 79))).gr ha2 hgrow
      refine ⟨hS, ?_, ((HK2.out.2.1.later (zaa w2 _)).grow hgrow ha2 (by decide)).push _ hS.o HK2.out.2.2, by rw [List.length_append, List.length_singleton]; omega, HNm.out⟩
      rw [List.length_append, List.length_singleton, zjv, zlX]
      unfold plV
      rw [hpa]
      exact hown)
     have HV3 : Hid (R0 = rlG (exN E) E f a2 ((ov ++ [((a, tx0, ns), Value.slice A2 ns.length n2)]).map (·.1))) := by
      show R0 = _
      rw [HV.out, List.map_append]
      rfl
     clear hown hgrow hat hlt3 H2 HK2 hO hpa htx HV
     go_wp2_with fail
     go_roundw
     case rel => exact ⟨a2, _, _, _, f, by omega, HW3, HV3⟩
     case measure => rw [HNx.out, HW3.out.s.nx]; omega
   ·have hk1 : ¬ kdA E a = 1 := fun q => hru (HW.out.nm q)
    have HV : Hid (R0 = .inr (a, 60)) := by
     show R0 = _
     rw [HG.out, if_pos hlt, if_neg hru]
    have HRu : Hid (∀ W, AtR E z w0 W b tv a v L u3 ov -> Calls Tryz.prog 66 #[.pointer (some ⟨b, 0, none⟩)] W fun e W' => e = pnc (plA E z a) 60 /\ Below w0.heap.size w0 W') := fun W h => zq7 h.s hk1
    clear HR HG ht hk hpl hru hk1
    go_wp2_with fail
    refine (HH.out ()).mono ?_
    rintro e w1 ⟨rfl, hb⟩
    have H1 := hO (HW.out.later hb)
    clear hb HH
    go_wp2_with fail
    refine (HRu.out _ H1.out).mono ?_
    rintro e w2 ⟨rfl, hb⟩
    exact zac (P := Tryz.prog) (fn := Tryz.f44) rfl (by show RlV E z w0 R0 _ _; rw [HV.out]; exact ⟨rfl, hb⟩)
  ·have hae : a = E.l.length := by omega
   have t1 : (t.kd != 0) = false := by rw [hk, hae, zhX]; rfl
   have HV : Hid (R0 = .inl (ov.map (·.1))) := by
    show R0 = _
    rw [HG.out, if_neg hlt]
   clear HR HG ht hk hpl hae
   go_wp2_with fail
   refine (HH.out ()).mono ?_
   rintro e w1 ⟨rfl, hb⟩
   have H1 := hO (HW.out.later hb)
   clear hb HH
   go_wp2_with fail
   go_ret
   show RlV E z w0 R0 _ _
   rw [HV.out]
   exact ⟨_, ov, rfl, H1.out.o, H1.out.bd, rfl, H1.out.s.bl⟩
theorem PF_all (E : PE) (P : Nd -> Prop) (h0 : ∀ op, P (nd0 op)) (hs : ∀ i p, zdE E i = .inl p -> P p.1) (hl : ∀ i p, za2 E i = .inl p -> ∀ n ∈ p.1, P n) (hc : ∀ i p, za2 E i = .inr p -> ∀ n ∈ p.2, P n) : ∀ (f m i d a : Nat) (ns : List Nd), PF E f m i d = .inl (a, ns) -> ∀ n ∈ ns, P n := by
 have two : ∀ {x y : List Nd}, (∀ n ∈ x, P n) -> (∀ n ∈ y, P n) -> ∀ n ∈ x ++ y, P n := fun hx hy n hn => (List.mem_append.1 hn).elim (hx n) (hy n)
 have one : ∀ op, ∀ n ∈ [nd0 op], P n := fun op n hn => by rw [List.mem_singleton.1 hn]; exact h0 op
 have nil : ∀ n ∈ ([] : List Nd), P n := fun n hn => by cases hn
 intro f
 induction f with
 | zero => intro m i d a ns h; rw [PF] at h; cases h
 | succ f ih =>
  intro m i d a ns h
  rw [PF] at h
  by_cases m0 : m = 0
  ·rw [if_pos m0] at h
   obtain ⟨a1, n1, r1, h⟩ := zaB h
   obtain ⟨n2, r2, e2⟩ := zaN h
   dsimp only at e2
   rw [e2]
   exact two (ih _ _ _ _ _ r1) (ih _ _ _ _ _ r2)
  rw [if_neg m0] at h
  by_cases m1 : m = 1
  ·rw [if_pos m1] at h
   by_cases k7 : kdA E i = 7
   ·rw [if_pos k7] at h
    obtain ⟨a1, n1, r1, h⟩ := zaB h
    obtain ⟨n2, r2, e2⟩ := zaN h
    dsimp only at e2
    rw [e2]
    exact two (two (ih _ _ _ _ _ r1) (one _)) (ih _ _ _ _ _ r2)
   ·rw [if_neg k7] at h
    cases h
    exact nil
  rw [if_neg m1] at h
  by_cases m2 : m = 2
  ·rw [if_pos m2] at h
   obtain ⟨a1, n1, r1, h⟩ := zaB h
   obtain ⟨n2, r2, e2⟩ := zaN h
   dsimp only at e2
   rw [e2]
   exact two (ih _ _ _ _ _ r1) (ih _ _ _ _ _ r2)
  rw [if_neg m2] at h
  by_cases m3 : m = 3
  ·rw [if_pos m3] at h
   by_cases kb : bgn E i = true
   ·rw [if_pos kb] at h
    obtain ⟨a1, n1, r1, h⟩ := zaB h
    obtain ⟨n2, r2, e2⟩ := zaN h
    dsimp only at e2
    rw [e2]
    exact two (two (ih _ _ _ _ _ r1) (one _)) (ih _ _ _ _ _ r2)
   ·rw [if_neg kb] at h
    cases h
    exact nil
  rw [if_neg m3] at h
  by_cases m4 : m = 4
  ·rw [if_pos m4] at h
   by_cases kb : bgn E i = true
   ·rw [if_pos kb] at h
    by_cases k8 : kdA E i = 8 ∨ kdA E i = 9
    ·rw [if_pos k8] at h
     split at h
     ·cases h
     ·obtain ⟨a1, n1, r1, h⟩ := zaB h
      cases h
      exact two (ih _ _ _ _ _ r1) (one _)
    ·rw [if_neg k8] at h
     obtain ⟨a1, n1, r1, h⟩ := zaB h
     obtain ⟨n2, r2, e2⟩ := zaN h
     dsimp only at e2
     rw [e2]
     exact two (ih _ _ _ _ _ r1) (ih _ _ _ _ _ r2)
   ·rw [if_neg kb] at h; cases h
  rw [if_neg m4] at h
  by_cases m5 : m = 5
  ·rw [if_pos m5] at h
   cases hp : za2 E i with
   | inl p =>
    rw [hp] at h
    cases h
    exact hl i p hp
   | inr p =>
    rw [hp] at h
    dsimp only at h
    split at h
    ·cases h
    ·obtain ⟨a1, n1, r1, h⟩ := zaB h
     split at h
     ·cases h
      exact two (ih _ _ _ _ _ r1) (hc i p hp)
     ·cases h
  rw [if_neg m5] at h
  cases hp : zdE E i with
  | inr q =>
   rw [hp] at h
   cases q with
   | none => cases h; exact nil
   | some c => cases h
  | inl p =>
   rw [hp] at h
   dsimp only at h
   obtain ⟨n2, r2, e2⟩ := zaN h
   dsimp only at e2
   rw [e2]
   exact two (fun n hn => by rw [List.mem_singleton.1 hn]; exact hs i p hp) (ih _ _ _ _ _ r2)
theorem zq8 {E : PE} (hE : OkE E) (i : Nat) : (tkA E i).tx.size <= 65536 := by
 unfold tkA
 by_cases h : i < E.l.length
 ·rw [List.getElem?_eq_getElem h]
  exact hE.tx _ (List.getElem_mem h)
 ·rw [List.getElem?_eq_none (by omega)]
  exact Nat.zero_le _
theorem ziJ (op : Int) : (nd0 op).tx.size <= 65536 := Nat.zero_le _
theorem rnP_tx (a b : Int) : ∀ n ∈ rnP a b, n.tx.size <= 65536 := fun n hn => by
 unfold rnP at hn
 rw [List.mem_map] at hn
 obtain ⟨m, _, rfl⟩ := hn
 exact Nat.zero_le _
theorem zq9 {E : PE} (hE : OkE E) {i a : Nat} {ns : List Nd} (h : exN E i = .inl (a, ns)) : ∀ n ∈ ns, n.tx.size <= 65536 := by
 refine PF_all E (fun n => n.tx.size <= 65536) ziJ ?_ ?_ ?_ _ _ _ _ _ _ h
 ·intro i p hp
  unfold zdE zgT at hp
  have e0 : (⟨#[]⟩ : ByteArray).size <= 65536 := Nat.zero_le _
  have hu := zq8 hE (i + 1)
  repeat (split at hp; · cases hp; first | exact ziJ _ | exact e0)
  split at hp
  ·split at hp
   ·split at hp
    ·cases hp; exact hu
    ·cases hp
   ·split at hp
    ·split at hp
     ·cases hp
     ·cases hp; exact e0
    ·cases hp
  ·cases hp
 ·intro i p hp n hn
  have hu := zq8 hE i
  unfold za2 at hp
  rw [hE.rn] at hp
  unfold zbg at hp
  have one : ∀ op, n ∈ [nd0 op] -> n.tx.size <= 65536 := fun op q => by rw [List.mem_singleton.1 q]; exact ziJ op
  by_cases c0 : (tkA E i).kd = 2
  ·rw [if_pos c0] at hp
   cases hp
   dsimp only at hn
   split at hn
   ·exact one _ hn
   ·rw [List.mem_singleton.1 hn]; exact hu
  rw [if_neg c0] at hp
  by_cases c1 : (tkA E i).kd = 3 ∨ (tkA E i).kd = 28
  ·rw [if_pos c1] at hp
   cases hp
   rw [List.mem_singleton.1 hn]
   exact Nat.zero_le _
  rw [if_neg c1] at hp
  by_cases c2 : (tkA E i).kd = 5
  ·rw [if_pos c2] at hp
   cases hp
   exact rnP_tx _ _ n hn
  rw [if_neg c2] at hp
  by_cases c3 : (tkA E i).kd = 18
  ·rw [if_pos c3] at hp; cases hp; exact one _ hn
  rw [if_neg c3] at hp
  by_cases c4 : (tkA E i).kd = 29
  ·rw [if_pos c4] at hp; cases hp; exact one _ hn
  rw [if_neg c4] at hp
  by_cases c5 : (tkA E i).kd = 30
  ·rw [if_pos c5] at hp; cases hp; exact one _ hn
  rw [if_neg c5] at hp
  by_cases c6 : (tkA E i).kd = 1
  ·rw [if_pos c6] at hp; cases hp; rw [List.mem_singleton.1 hn]; exact hu
  rw [if_neg c6] at hp
  by_cases c7 : (tkA E i).kd = 16
  ·rw [if_pos c7] at hp; cases hp
  rw [if_neg c7] at hp
  by_cases c8 : (tkA E i).kd = 19
  ·rw [if_pos c8] at hp
   split at hp
   ·cases hp; exact one _ hn
   ·cases hp
  rw [if_neg c8] at hp
  split at hp
  ·cases hp
  ·split at hp <;> cases hp
 ·intro i p hp n hn
  have hu := zq8 hE i
  unfold za2 zbg at hp
  have one : ∀ op, n ∈ [nd0 op] -> n.tx.size <= 65536 := fun op q => by rw [List.mem_singleton.1 q]; exact ziJ op
  by_cases c0 : (tkA E i).kd = 2
  ·rw [if_pos c0] at hp; cases hp
  rw [if_neg c0] at hp
  by_cases c1 : (tkA E i).kd = 3 ∨ (tkA E i).kd = 28
  ·rw [if_pos c1] at hp; cases hp
  rw [if_neg c1] at hp
  by_cases c2 : (tkA E i).kd = 5
  ·rw [if_pos c2] at hp; cases hp
  rw [if_neg c2] at hp
  by_cases c3 : (tkA E i).kd = 18
  ·rw [if_pos c3] at hp; cases hp
  rw [if_neg c3] at hp
  by_cases c4 : (tkA E i).kd = 29
  ·rw [if_pos c4] at hp; cases hp
  rw [if_neg c4] at hp
  by_cases c5 : (tkA E i).kd = 30
  ·rw [if_pos c5] at hp; cases hp
  rw [if_neg c5] at hp
  by_cases c6 : (tkA E i).kd = 1
  ·rw [if_pos c6] at hp; cases hp
  rw [if_neg c6] at hp
  by_cases c7 : (tkA E i).kd = 16
  ·rw [if_pos c7] at hp; cases hp; cases hn
  rw [if_neg c7] at hp
  by_cases c8 : (tkA E i).kd = 19
  ·rw [if_pos c8] at hp
   split at hp
   ·cases hp
   ·cases hp; exact one _ hn
  rw [if_neg c8] at hp
  by_cases c9 : (tkA E i).kd = 21
  ·rw [if_pos c9] at hp; cases hp; rw [List.mem_singleton.1 hn]; exact hu
  rw [if_neg c9] at hp
  split at hp
  ·cases hp; exact one _ hn
  ·cases hp; exact one _ hn
theorem rlG_tx {E : PE} (hE : OkE E) : ∀ (f i : Nat) (out rs : List Rl), (∀ r ∈ out, ∀ n ∈ r.2.2, n.tx.size <= 65536) -> rlG (exN E) E f i out = .inl rs -> ∀ r ∈ rs, ∀ n ∈ r.2.2, n.tx.size <= 65536 := by
 intro f
 induction f with
 | zero => intro i out rs h0 h; rw [rlG] at h; cases h; exact h0
 | succ f ih =>
  intro i out rs h0 h
  rw [rlG] at h
  by_cases hi : i < E.l.length
  ·rw [if_pos hi] at h
   by_cases hr : ruB E i = true
   ·rw [if_pos hr] at h
    cases he : exN E (i + 2) with
    | inr p => rw [he] at h; cases h
    | inl p =>
     rw [he] at h
     refine ih _ _ _ (fun r hr2 => ?_) h
     rcases List.mem_append.1 hr2 with q | q
     ·exact h0 r q
     ·rw [List.mem_singleton.1 q]; exact zq9 hE he
   ·rw [if_neg hr] at h; cases h
  ·rw [if_neg hi] at h; cases h; exact h0
theorem rdN_tx {E : PE} (hE : OkE E) {rs : List Rl} (h : rdN E = .inl rs) : ∀ r ∈ rs, ∀ n ∈ r.2.2, n.tx.size <= 65536 := by
 unfold rdN at h
 split at h
 ·exact rlG_tx hE _ _ _ _ (fun r hr => by cases hr) h
 ·cases he : exN E 0 with
  | inr p => rw [he] at h; cases h
  | inl p =>
   rw [he] at h
   dsimp only at h
   split at h
   ·cases h
   ·cases h
    intro r hr
    rw [List.mem_singleton.1 hr]
    exact zq9 hE he
structure GX (W : World) (k : Nat) (a : Value) : Prop where
 heap : W.heap[k]? = some (.cells #[a] 33 (0, 0))
theorem GX.lt {W : World} {k : Nat} {a : Value} (h : GX W k a) : k < W.heap.size := (Array.getElem?_eq_some_iff.1 h.heap).1
theorem GX.same {W W' : World} {k : Nat} {a : Value} (h : GX W k a) (hb : W'.heap[k]? = W.heap[k]?) : GX W' k a := ⟨hb.trans h.heap⟩
theorem GX.below {W W' : World} {k : Nat} {a : Value} (h : GX W k a) (hb : Below W.heap.size W W') : GX W' k a := h.same (hb.block k h.lt)
theorem GX.cl {W : World} {k : Nat} {a : Value} (h : GX W k a) : W.cell? ⟨k, 0, none⟩ = some a := by
 rw [cell_of_row W k 0 _ 33 (0, 0) h.heap]; rfl
theorem GX.fz {W : World} {k : Nat} {a : Value} (h : GX W k a) : W.frozen? ⟨k, 0, none⟩ = false := frozen_of_row W k 0 _ 33 h.heap
theorem GX.set {W : World} {k : Nat} {a : Value} (h : GX W k a) (u : Value) : GX (W.setCell ⟨k, 0, none⟩ u) k u := ⟨by
 rw [heap_setCell_same _ k 0 _ 33 u h.heap]; simp⟩
theorem GX.ne {W : World} {k B e s n : Nat} {u a : Value} {xs : List Value} (h : GX W k a) (ho : W.ownsRow B e s u n xs) (he : e ≠ 33) {j : Nat} (hj : u.ownBlock = some j) : j ≠ k := fun q => by
 subst q
 obtain ⟨cs, hc⟩ := ze8 ho hj
 rw [h.heap] at hc
 injection hc with h4
 injection h4 with _ h5
 exact he h5.symm
theorem Tryz.info41 : (Tryz.prog.info? 73).map (fun i => (i.zero, i.size, i.bytes)) = some (some (.agg #[.string ⟨#[]⟩, .slice none 0 0]), 2, 40) := by kernel_rfl
def grV (x : Rl × Value) : List Value := [.string x.1.2.1, x.2]
def grc (l : List (Rl × Value)) : List Value := l.flatMap grV
theorem zjw (a b : List (Rl × Value)) : grc (a ++ b) = grc a ++ grc b := List.flatMap_append
theorem zra (x : Rl × Value) : grc [x] = grV x := by unfold grc; rw [List.flatMap_cons, List.flatMap_nil, List.append_nil]
theorem zrb (E : PE) (z : Nat) (L : List (Rl × Value)) : ∀ (k j : Nat) (x : Rl × Value) (u : Value), L[k]? = some x -> (plV E z x)[j]? = some u -> (plc E z L)[k * 3 + j]? = some u := by
 induction L with
 | nil => intro k j t u h; simp at h
 | cons a L ih =>
  intro k j t u h hj
  have e : plc E z (a :: L) = plV E z a ++ plc E z L := by unfold plc; rw [List.flatMap_cons]
  have hl : (plV E z a).length = 3 := rfl
  rw [e]
  cases k with
  | zero =>
   have h : a = t := by simpa using h
   subst h
   rw [Nat.zero_mul, Nat.zero_add, List.getElem?_append_left (by have := (List.getElem?_eq_some_iff.1 hj).1; omega)]
   exact hj
  | succ k =>
   rw [List.getElem?_append_right (by omega), hl, show (k + 1) * 3 + j - 3 = k * 3 + j from by omega]
   exact ih k j t u (by simpa using h) hj
theorem zoD {E : PE} {z : Nat} {W : World} {B : Nat} {u : Value} {ov : List (Rl × Value)} (h : W.ownsRow B 79 3 u ov.length (plc E z ov)) : ∃ A c, u = .slice A ov.length c /\ ∀ (k : Nat) x, ov[k]? = some x -> ∃ g, A = some ⟨g, 0, none⟩ /\ g < W.heap.size /\ W.cell? ⟨g, k * 3, none⟩ = some (.int .i64 (plA E z x.1.1)) /\ W.cell? ⟨g, k * 3 + 1, none⟩ = some (.string x.1.2.1) /\ W.cell? ⟨g, k * 3 + 2, none⟩ = some x.2 := by
 have hc := h
 rcases h.2 with ⟨rfl, h0⟩ | ⟨g, cap, cur, rfl, _⟩
 ·refine ⟨none, 0, by rw [h0], fun k x hk => ?_⟩
  rw [List.eq_nil_of_length_eq_zero h0] at hk
  simp at hk
 ·refine ⟨_, cap, rfl, fun k x hk => ⟨g, rfl, (hc.lt g rfl).2, ?_⟩⟩
  have key : ∀ j u, (plV E z x)[j]? = some u -> W.cell? ⟨g, k * 3 + j, none⟩ = some u := fun j u hj => by
   have := (hc.cells (g := g) rfl) (k * 3 + j) u (zrb E z ov k j x u hk hj)
   rwa [Addr.add_lit, Nat.zero_add] at this
  exact ⟨key 0 _ rfl, key 1 _ rfl, key 2 _ rfl⟩
def smN (ov : List (Rl × Value)) (k : Nat) : Nat := ((ov.take k).map fun x => x.1.2.2.length).sum
theorem ziK {ov : List (Rl × Value)} {k : Nat} {x : Rl × Value} (h : ov[k]? = some x) : smN ov (k + 1) = smN ov k + x.1.2.2.length := by
 unfold smN
 rw [List.take_add_one, h, List.map_append, List.sum_append]
 simp
structure AtO (w0 W wr : World) (gv : Value) (ov : List (Rl × Value)) (k : Nat) : Prop where
 b : Below W.heap.size W wr
 r : GX wr W.heap.size (.slice none 0 0)
 x : GX wr (W.heap.size + 1) gv
 o : wr.ownsRow W.heap.size 73 2 gv k (grc (ov.take k))
theorem AtO.later {w0 W wr W' : World} {gv : Value} {ov : List (Rl × Value)} {k : Nat} (h : AtO w0 W wr gv ov k) (hb : Below wr.heap.size wr W') : AtO w0 W W' gv ov k :=
 ⟨h.b.trans (hb.mono h.b.size), h.r.below hb, h.x.below hb, zoY h.o hb⟩
def GrV (_w0 W : World) (ov : List (Rl × Value)) (r : Option (Int × Int)) (e : Ending) (W' : World) : Prop := match r with
 | some p => e = pnc p.1 p.2 /\ Below W.heap.size W W'
 | none => ∃ u, e = .returned (.agg #[u]) /\ W'.ownsRow W.heap.size 73 2 u ov.length (grc ov) /\ Below W.heap.size W W'
theorem ret_gx {fn : Func} {R : Ending -> World -> Prop} {act : Act} {W : World} {k : Nat} {a : Value} (hF : fn.results = #[.cell 2 33]) (hd : act.defers = []) (h2 : act.tmps.getD 2 undef = .pointer (some ⟨k, 0, none⟩)) (hT : GX W k a) (hR : R (.returned (.agg #[a])) W) : bodyPost Tryz.prog fn R .ret act W := by
 have c0 := hT.cl
 refine bodyPost_ret (v := .agg #[a]) ?_ hd hR
 simp only [Array.getD_eq_getD_getElem?] at h2
 simp [results, hF, go_sem, h2, c0]
theorem zeY {E : PE} {z : Nat} {w0 W : World} {u : Value} {ov : List (Rl × Value)} (ho : W.ownsRow w0.heap.size 79 3 u ov.length (plc E z ov)) (x : Rl × Value) (hx : ov[200]? = some x) (hn : ov.length <= 65536) : Calls Tryz.prog 39 #[u] W fun e W' => e = pnc (plA E z x.1.1) 2 /\ Below W.heap.size W W' := by
 obtain ⟨A, c, rfl, hc⟩ := zoD ho
 obtain ⟨g, rfl, hlt, e0, e1, e2⟩ := hc 200 x hx
 have hl : 200 < ov.length := (List.getElem?_eq_some_iff.1 hx).1
 have HU : Hid (∀ a c W, Calls Tryz.prog 60 #[.int .i64 a, .int .i64 c] W fun e W' => e = pnc a c /\ W' = W) := fun a c W => zcQ a c W
 have z1 : (200 : Int) < (ov.length : Int) := by omega
 have HB : Hid (Below W.heap.size W (W.alloc (.cells #[.slice none 0 0] 33))) := zaa _ _
 have e0' := (HB.out.cell (p := ⟨g, 200 * 3, none⟩) hlt).trans e0
 clear ho hc hx e0 e1 e2 hl
 generalize plA E z x.1.1 = p0 at *
 generalize ov.length = n at *
 go_enter Tryz.func39, Tryz.ntmps39
 go_wp2_with fail
 generalize W.alloc (.cells #[.slice none 0 0] 33) = w1 at *
 go_wp2_with fail
 refine (HU.out _ _ _).mono ?_
 rintro e w2 ⟨rfl, rfl⟩
 exact zac rfl ⟨rfl, HB.out⟩
theorem zf2 {E : PE} {z : Nat} {w0 W : World} {u : Value} {ov : List (Rl × Value)} (ho : W.ownsRow w0.heap.size 79 3 u ov.length (plc E z ov)) (hb : Bds w0 W ov) (htx : ∀ x ∈ ov, ∀ n ∈ x.1.2.2, n.tx.size <= 65536) (hln : ∀ x ∈ ov, x.1.2.2.length <= 2000000000000) (hn : ov.length <= 200) : Calls Tryz.prog 39 #[u] W fun e W' => GrV w0 W ov (zhj E z 0 (ov.map (·.1))) e W' := by
 obtain ⟨i0, hinf, hz0, hz1, hz2⟩ := info_parts Tryz.info41
 obtain ⟨A, c, rfl, hc⟩ := zoD ho
 have HC := hO hc
 have HBd := hO hb
 have HTx := hO htx
 have HLn := hO hln
 have HG : Hid (∀ k, k < ov.length -> ∃ x, ov[k]? = some x /\ x ∈ ov) := fun k hk => ⟨_, List.getElem?_eq_getElem hk, List.getElem_mem hk⟩
 have HU : Hid (∀ a c W, Calls Tryz.prog 60 #[.int .i64 a, .int .i64 c] W fun e W' => e = pnc a c /\ W' = W) := fun a c W => zcQ a c W
 have HA := (show Hid (AtO w0 W ((W.alloc (.cells #[.slice none 0 0] 33)).alloc (.cells #[.slice none 0 0] 33)) (.slice none 0 0) ov 0) from
  ⟨((Below.refl _ _).alloc (Nat.le_refl _) _).alloc (by rw [World.size_alloc]; omega) _, (GX.mk (heap_alloc_new W _)).below (zaa _ _), ⟨by have h := heap_alloc_new (W.alloc (.cells #[.slice none 0 0] 33)) (.cells #[.slice none 0 0] 33); rw [World.size_alloc] at h; exact h⟩, World.ownsRow_nil _ _ _ _⟩)
 have z2 : ¬ (200 : Int) < (ov.length : Int) := by omega
 have HZ0 : Hid (zhj E z 0 (ov.map (·.1)) = zhj E z (smN ov 0) ((ov.drop 0).map (·.1))) := rfl
 generalize zhj E z 0 (ov.map (·.1)) = R0 at *
 clear ho hb htx hln hc
 go_enter Tryz.func39, Tryz.ntmps39
 go_wp2_with fail
 generalize (W.alloc (.cells #[.slice none 0 0] 33)).alloc (.cells #[.slice none 0 0] 33) = w1 at *
 go_loopw [4, 19] (fun s t wr => ∃ (k : Nat) (gv : Value), k <= ov.length /\ smN ov k <= 2048 /\ s = .int .i64 (smN ov k : Nat) /\ t = .int .i64 k /\ Hid (AtO w0 W wr gv ov k) /\ Hid (R0 = zhj E z (smN ov k) ((ov.drop k).map (·.1)))) (fun _ t _ => ov.length - (intOf t).toNat)
 case atStart => exact ⟨0, _, Nat.zero_le _, Nat.zero_le _, rfl, rfl, HA, HZ0⟩
 case round =>
  obtain ⟨k, gv, hk, hsm, rfl, rfl, HW, HR⟩ := hrel
  clear HA HZ0
  by_cases hlt : k < ov.length
  ·obtain ⟨x, hx, hxm⟩ := HG.out k hlt
   obtain ⟨g, rfl, hglt, e0, e1, e2⟩ := HC.out k x hx
   have hb1 := HBd.out.e x hxm
   obtain ⟨A2, n2, hv2⟩ := zb4 hb1
   have HSz : Hid (R0 = if (T.ck x.1.2.2).2 ≠ 0 then some (plA E z x.1.1, (T.ck x.1.2.2).2) else if 2048 < smN ov k + x.1.2.2.length then some (plA E z x.1.1, 2) else zhj E z (smN ov (k + 1)) ((ov.drop (k + 1)).map (·.1))) := by
    show R0 = _
    rw [HR.out, List.drop_eq_getElem_cons hlt, show ov[k] = x from (List.getElem?_eq_some_iff.1 hx).2, List.map_cons, zhj, ziK hx]
   have hsm1 := ziK hx
   obtain ⟨m1, hm1⟩ : ∃ m, m = smN ov (k + 1) := ⟨_, rfl⟩
   rw [<- hm1] at hsm1 HSz
   have HTk : Hid (grc (ov.take (k + 1)) = grc (ov.take k) ++ [.string x.1.2.1, x.2]) := by show grc _ = _; rw [List.take_add_one, hx, zjw]; show _ ++ grc [x] = _; rw [zra]; rfl
   have HCk : Hid (∀ W2, Below W.heap.size W W2 -> Calls Tryz.prog 25 #[.slice A2 x.1.2.2.length n2] W2 fun e w' => e = .returned (.tuple #[.int .i64 (T.ck x.1.2.2).1, .int .i64 (T.ck x.1.2.2).2]) /\ Below W2.heap.size W2 w') := fun W2 hW2 => by
    have hrow := zaD (W' := W2) hb1 fun j hj => hW2.block j (hb1.lt j hj).2
    rw [hv2] at hrow
    obtain ⟨A3, c3, e3, hrd⟩ := T.zlW hrow rfl
    cases e3
    exact T.za5 _ _ _ (by have := HLn.out x hxm; omega) (fun n hn => by have := HTx.out x hxm n hn; omega) W2 hrd
   have hlx := HLn.out x hxm
   rw [hv2] at e2 HTk
   have d0 := (HW.out.b.cell (p := ⟨g, k * 3, none⟩) hglt).trans e0
   have d1 := (HW.out.b.cell (p := ⟨g, k * 3 + 1, none⟩) hglt).trans e1
   have d2 := (HW.out.b.cell (p := ⟨g, k * 3 + 2, none⟩) hglt).trans e2
   clear e0 e1 e2 hx hxm hb1 hv2 HG HR HBd HTx HLn HC
   generalize T.ck x.1.2.2 = r at *
   generalize x.1.2.2.length = nl at *
   generalize x.1.2.1 = nm at *
   generalize plA E z x.1.1 = p0 at *
   have z0 : (0 : Int) <= (k : Int) := by omega
   have z1 : (k : Int) < (ov.length : Int) := by omega
   have hsz := HW.out.b.size
   have HB1 : Hid (AtO w0 W (wr.alloc (.cells #[.int .i64 p0, .string nm, .slice A2 nl n2] 79)) gv ov k /\ PX (wr.alloc (.cells #[.int .i64 p0, .string nm, .slice A2 nl n2] 79)) wr.heap.size (.int .i64 p0) (.string nm) (.slice A2 nl n2)) := ⟨HW.out.later (zaa _ _), ⟨heap_alloc_new wr _⟩⟩
   go_wp2_with fail
   refine (HCk.out _ HB1.out.1.b).mono ?_
   rintro e w2 ⟨rfl, hb2⟩
   have HB2 : Hid (AtO w0 W w2 gv ov k /\ PX w2 wr.heap.size (.int .i64 p0) (.string nm) (.slice A2 nl n2)) := ⟨HB1.out.1.later hb2, HB1.out.2.same (hb2.block _ HB1.out.2.lt)⟩
   clear hb2 HB1 HCk d0 d1 d2 HW
   obtain ⟨y0, y1, y2⟩ := HB2.out.2.cl
   by_cases hr2 : r.2 = 0
   ·have t1 : (r.2 != 0) = false := by rw [hr2]; rfl
    have u1 : IntKind.i64.wrap ((smN ov k : Nat) + (nl : Int)) = (m1 : Int) := by rw [IntKind.wrap_i64]; omega
    by_cases h48 : 2048 < m1
    ·have HV : Hid (R0 = some (p0, 2)) := by show R0 = _; rw [HSz.out, if_neg (by rw [hr2]; simp), if_pos (by omega)]
     have t2 : (2048 : Int) < (m1 : Int) := by omega
     clear HSz hr2 hsm1 hm1 HTk
     generalize smN ov k = s0 at *
     go_wp2_with fail
     refine (HU.out _ _ _).mono ?_
     rintro e w3 ⟨rfl, rfl⟩
     exact zac (P := Tryz.prog) (fn := Tryz.f39) rfl (by show GrV w0 W ov R0 _ _; rw [HV.out]; exact ⟨rfl, HB2.out.1.b⟩)
    ·have HV : Hid (R0 = zhj E z m1 ((ov.drop (k + 1)).map (·.1))) := by show R0 = _; rw [HSz.out, if_neg (by rw [hr2]; simp), if_neg (by omega)]
     have t2 : ¬ (2048 : Int) < (m1 : Int) := by omega
     have hO := HB2.out.1.o
     have q0 := HB2.out.1.x.cl
     have qf := HB2.out.1.x.fz
     have HM : Hid (m1 = smN ov (k + 1)) := hm1
     clear HSz hr2 hsm1 hm1
     generalize hs0 : smN ov k = s0 at *
     clear hs0
     have hs2 := HB2.out.1.b.size
     go_wp2_with (at_builtin; refine wpList_append_lies _ rfl _ _ 31 rfl W.heap.size 73 i0 (.agg #[.string ⟨#[]⟩, .slice none 0 0]) 2 40 Tryz.underlying31 hinf hz0 hz1 hz2 rfl (by decide) _ _ _ rfl (hO.alloc _) ⟨w2.heap.size, 0, none⟩ 1 1 [.string nm, .slice A2 nl n2] rfl rfl ?c1 ?c2 (by decide) ?c3 ?c4 ?c5 (w2.heap.size + 1) (by simp) ?_)
     case c1 => exact World.news_of_block (cs := #[.string nm, .slice A2 nl n2]) (t := 73) (fr := (0, 0)) (heap_alloc_new w2 _)
     case c2 => intro u hu; simp only [List.mem_cons, List.not_mem_nil, or_false] at hu; rcases hu with rfl | rfl <;> rfl
     case c3 => unfold maxLen; omega
     case c4 => omega
     case c5 => rw [World.size_alloc]; omega
     intro g3 cap w3 hown hgrow hat hlt3
     have hA2 := HB2.out.1.later (zaa w2 (.cells #[.string nm, .slice A2 nl n2] 73))
     have hO2 := hO.alloc (.cells #[.string nm, .slice A2 nl n2] 73)
     have hx3 : GX w3 (W.heap.size + 1) gv := hA2.x.same (hgrow.block _ hA2.x.lt (fun e => hA2.x.ne hO2 (by decide) e.symm rfl))
     have hr3 : GX w3 W.heap.size (.slice none 0 0) := hA2.r.same (hgrow.block _ hA2.r.lt (fun e => hA2.r.ne hO2 (by decide) e.symm rfl))
     have hbl3 : Below W.heap.size W w3 := hA2.b.grown hgrow hA2.b.size (fun j e => (hO2.lt j e).1)
     have HW3 := (show Hid (AtO w0 W (w3.setCell ⟨W.heap.size + 1, 0, none⟩ (.slice (some ⟨g3, 0, none⟩) (k + 1) cap)) (.slice (some ⟨g3, 0, none⟩) (k + 1) cap) ov (k + 1)) from
      ⟨hbl3.setCell (p := ⟨W.heap.size + 1, 0, none⟩) (Nat.le_succ _) _, hr3.same (Below.heap_setCell _ _ _ _ (by show W.heap.size ≠ W.heap.size + 1; omega)), hx3.set _, by
       rw [HTk.out]
       exact zaD hown fun j hj => Below.heap_setCell _ _ _ _ (hx3.ne hown (by decide) hj)⟩)
     have q3 := hx3.cl
     have qf3 := hx3.fz
     clear hown hgrow hat hlt3 hA2 hO2 hx3 hr3 hbl3 hO HB2 q0 qf y0 y1 y2 HTk
     go_wp2_with fail
     go_roundw
     case rel => exact ⟨k + 1, _, by omega, by rw [<- HM.out]; omega, by rw [<- HM.out], by go_num, HW3, by rw [<- HM.out]; exact HV⟩
     case measure => simp [intOf]; omega
   ·have t1 : (r.2 != 0) = true := by simpa using hr2
    have HV : Hid (R0 = some (p0, r.2)) := by show R0 = _; rw [HSz.out, if_pos hr2]
    clear HSz hr2 hsm1 hm1 HTk
    generalize smN ov k = s0 at *
    go_wp2_with fail
    refine (HU.out _ _ _).mono ?_
    rintro e w3 ⟨rfl, rfl⟩
    exact zac (P := Tryz.prog) (fn := Tryz.f39) rfl (by show GrV w0 W ov R0 _ _; rw [HV.out]; exact ⟨rfl, HB2.out.1.b⟩)
  ·obtain rfl : k = ov.length := by omega
   have HV : Hid (R0 = none) := by show R0 = _; rw [HR.out, List.drop_of_length_le (Nat.le_refl _)]; rfl
   have HO : Hid (wr.ownsRow W.heap.size 73 2 gv ov.length (grc ov)) := by have := HW.out.o; rw [List.take_of_length_le (Nat.le_refl _)] at this; exact this
   have q0 := HW.out.x.cl
   have r0 := HW.out.r.cl
   have rf := HW.out.r.fz
   obtain ⟨A3, n3, rfl⟩ := zb4 HO.out
   clear HG HR HBd HTx HLn HC
   generalize smN ov ov.length = s0 at *
   go_wp2_with fail
   refine ret_gx rfl rfl rfl (HW.out.r.set (.slice A3 ov.length n3)) ?_
   show GrV w0 W ov R0 _ _
   rw [HV.out]
   exact ⟨_, rfl, zaD HO.out fun j hj => Below.heap_setCell _ _ _ _ (HW.out.r.ne HO.out (by decide) hj), HW.out.b.setCell (p := ⟨W.heap.size, 0, none⟩) (Nat.le_refl _) _⟩
theorem znO (v : Value) (w : World) : (Instr.typeAssert (.iface 39 v) 20 39 true).run Tryz.prog w = .ok (.tuple #[v, .bool true]) w := by kernel_rfl
theorem ret_fx {fn : Func} {R : Ending -> World -> Prop} {a : Act} {W : World} {b : Nat} {p e : Int} (hF : fn.results = #[.cell 2 39]) (hd : a.defers = []) (h2 : a.tmps.getD 2 undef = .pointer (some ⟨b, 0, none⟩)) (hT : FX W b p e) (hR : R (.returned (.agg #[.int .i64 p, .int .i64 e])) W) : bodyPost Tryz.prog fn R .ret a W := by
 have c0 := hT.c0
 have c1 := hT.c1
 refine bodyPost_ret (v := .agg #[.int .i64 p, .int .i64 e]) ?_ hd hR
 simp only [Array.getD_eq_getD_getElem?] at h2
 simp [results, hF, go_sem, h2, c0, c1]
abbrev fxZ : Obj := .cells #[.int .i64 0, .int .i64 0] 39
theorem zfh (a c : Int) (W : World) : Calls Tryz.prog 38 #[.iface 39 (.agg #[.int .i64 a, .int .i64 c])] W fun e W' => e = .returned (.agg #[.int .i64 a, .int .i64 c]) /\ Below W.heap.size W W' := by
 have has := znO
 have hnot : ∀ (x : Bool) (w : World), (Op.unary .not (.bool x)).run Tryz.prog w = .ok (.bool (!x)) w := fun _ _ => rfl
 go_enter Tryz.func38, Tryz.ntmps38
 go_wp2_with fail
 refine ret_fx (b := W.heap.size) (p := a) (e := c) rfl rfl rfl ((FX.mk (heap_alloc_new W _)).below (zaa _ _)) ⟨rfl, ((Below.refl _ _).alloc (Nat.le_refl _) _).alloc (by rw [World.size_alloc]; omega) _⟩
theorem zgO (p : Nat) (x y a c : Int) (older : List PanicEntry) (w : World) (hx : FX w p x y) :
  CallsD Tryz.prog 42 #[.pointer (some ⟨p, 0, none⟩)] (.panicking ({ v := .iface 39 (.agg #[.int .i64 a, .int .i64 c]), recovered := false } :: older)) w fun e u' w' =>
   e = .returned (.tuple #[]) /\ u' = .panicking ({ v := .iface 39 (.agg #[.int .i64 a, .int .i64 c]), recovered := true } :: older) /\ FX w' p a c /\ Fr w w' p (.slice none 0 0) (.slice none 0 0) /\ Below p w w' := by
 have HR : Hid (∀ W, Calls Tryz.prog 38 #[.iface 39 (.agg #[.int .i64 a, .int .i64 c])] W fun e W' => e = .returned (.agg #[.int .i64 a, .int .i64 c]) /\ Below W.heap.size W W') := fun W => zfh a c W
 have HX : Hid (FX w p x y) := hx
 refine callsD_of_wpS Tryz.func42 rfl fun c₀ cs hu => ?_
 apply wpS_seq
 apply wpS_region
 simp [wpOpsS, go_sem, recoverD, hu, Tryz.ntmps42, Exit.thenS]
 refine wpS_of_wp ?_
 have ht : (#[Value.pointer (some ⟨p, 0, none⟩)] ++ ((Array.replicate 6 undef).setIfInBounds 1 (.iface 39 (.agg #[.int .i64 a, .int .i64 c]))).setIfInBounds 0 (.iface 39 (.agg #[.int .i64 a, .int .i64 c])) : Array Value) = #[.pointer (some ⟨p, 0, none⟩), .iface 39 (.agg #[.int .i64 a, .int .i64 c]), .iface 39 (.agg #[.int .i64 a, .int .i64 c]), undef, undef, undef, undef] := rfl
 rw [ht]
 clear ht hu hx
 go_wp2_with fail
 refine (HR.out _).mono ?_
 rintro e w1 ⟨rfl, hb⟩
 have H1 : Hid (FX w1 p x y) := HX.out.below hb
 have HB : Hid (Below w.heap.size w w1) := hb
 have hlt := HX.out.lt
 clear hb HR HX
 have c0 := H1.out.c0
 have c1 := H1.out.c1
 have f0 := H1.out.f0
 have f1' := H1.out.f1
 go_wp2_with fail
 refine ⟨rfl, _, rfl, .tuple #[], (by simp [results, Tryz.results42]), rfl, rfl, zen H1.out a c, (Fr.below p _ HB.out).trans ((Fr.set _ _ _ _ _).trans (Fr.set _ _ _ _ _)), zci (HB.out.mono (Nat.le_of_lt hlt)) (Nat.le_refl _) a c⟩
theorem zhO (p : Nat) (w : World) :
  CallsD Tryz.prog 42 #[.pointer (some ⟨p, 0, none⟩)] .returning w fun e u' w' => e = .returned (.tuple #[]) /\ u' = .returning /\ w' = w := by
 refine callsD_of_wpS Tryz.func42 rfl fun c₀ cs hu => ?_
 apply wpS_seq
 apply wpS_region
 simp [wpOpsS, go_sem, recoverD, hu, Tryz.ntmps42, Exit.thenS]
 refine wpS_of_wp ?_
 have ht : (#[Value.pointer (some ⟨p, 0, none⟩)] ++ ((Array.replicate 6 undef).setIfInBounds 1 Value.nilIface).setIfInBounds 0 Value.nilIface : Array Value) = #[.pointer (some ⟨p, 0, none⟩), .nilIface, .nilIface, undef, undef, undef, undef] := rfl
 rw [ht]
 have HC : Hid (c₀ :: cs = { c₀ with mode := .returning } :: cs) := by show _ = _; rw [<- hu]
 clear ht hu
 go_wp2_with fail
 exact ⟨rfl, _, HC.out, .tuple #[], (by simp [results, Tryz.results42]), rfl, rfl, rfl⟩
theorem zgP (p : Nat) (x y a c : Int) (older : List PanicEntry) (w : World) (hx : FX w p x y) :
  CallsD Tryz.prog 37 #[.pointer (some ⟨p, 0, none⟩)] (.panicking ({ v := .iface 39 (.agg #[.int .i64 a, .int .i64 c]), recovered := false } :: older)) w fun e u' w' =>
   e = .returned (.tuple #[]) /\ u' = .panicking ({ v := .iface 39 (.agg #[.int .i64 a, .int .i64 c]), recovered := true } :: older) /\ FX w' p a c /\ Fr w w' p (.slice none 0 0) (.slice none 0 0) /\ Below p w w' := by
 have HR : Hid (∀ W, Calls Tryz.prog 38 #[.iface 39 (.agg #[.int .i64 a, .int .i64 c])] W fun e W' => e = .returned (.agg #[.int .i64 a, .int .i64 c]) /\ Below W.heap.size W W') := fun W => zfh a c W
 have HX : Hid (FX w p x y) := hx
 refine callsD_of_wpS Tryz.func37 rfl fun c₀ cs hu => ?_
 apply wpS_seq
 apply wpS_region
 simp [wpOpsS, go_sem, recoverD, hu, Tryz.ntmps37, Exit.thenS]
 refine wpS_of_wp ?_
 have ht : (#[Value.pointer (some ⟨p, 0, none⟩)] ++ ((Array.replicate 6 undef).setIfInBounds 1 (.iface 39 (.agg #[.int .i64 a, .int .i64 c]))).setIfInBounds 0 (.iface 39 (.agg #[.int .i64 a, .int .i64 c])) : Array Value) = #[.pointer (some ⟨p, 0, none⟩), .iface 39 (.agg #[.int .i64 a, .int .i64 c]), .iface 39 (.agg #[.int .i64 a, .int .i64 c]), undef, undef, undef, undef] := rfl
 rw [ht]
 clear ht hu hx
 go_wp2_with fail
 refine (HR.out _).mono ?_
 rintro e w1 ⟨rfl, hb⟩
 have H1 : Hid (FX w1 p x y) := HX.out.below hb
 have HB : Hid (Below w.heap.size w w1) := hb
 have hlt := HX.out.lt
 clear hb HR HX
 have c0 := H1.out.c0
 have c1 := H1.out.c1
 have f0 := H1.out.f0
 have f1' := H1.out.f1
 go_wp2_with fail
 refine ⟨rfl, _, rfl, .tuple #[], (by simp [results, Tryz.results37]), rfl, rfl, zen H1.out a c, (Fr.below p _ HB.out).trans ((Fr.set _ _ _ _ _).trans (Fr.set _ _ _ _ _)), zci (HB.out.mono (Nat.le_of_lt hlt)) (Nat.le_refl _) a c⟩
theorem zhP (p : Nat) (w : World) :
  CallsD Tryz.prog 37 #[.pointer (some ⟨p, 0, none⟩)] .returning w fun e u' w' => e = .returned (.tuple #[]) /\ u' = .returning /\ w' = w := by
 refine callsD_of_wpS Tryz.func37 rfl fun c₀ cs hu => ?_
 apply wpS_seq
 apply wpS_region
 simp [wpOpsS, go_sem, recoverD, hu, Tryz.ntmps37, Exit.thenS]
 refine wpS_of_wp ?_
 have ht : (#[Value.pointer (some ⟨p, 0, none⟩)] ++ ((Array.replicate 6 undef).setIfInBounds 1 Value.nilIface).setIfInBounds 0 Value.nilIface : Array Value) = #[.pointer (some ⟨p, 0, none⟩), .nilIface, .nilIface, undef, undef, undef, undef] := rfl
 rw [ht]
 have HC : Hid (c₀ :: cs = { c₀ with mode := .returning } :: cs) := by show _ = _; rw [<- hu]
 clear ht hu
 go_wp2_with fail
 exact ⟨rfl, _, HC.out, .tuple #[], (by simp [results, Tryz.results37]), rfl, rfl, rfl⟩
theorem zlZ {R : Ending -> World -> Prop} {act : Act} {W : World} {k : Nat} {p c x y : Int} (hd : act.defers = [{ target := .fn (.func 42) #[.pointer (some ⟨k + 1, 0, none⟩)], args := #[] }]) (h2 : act.tmps.getD 2 undef = .pointer (some ⟨k, 0, none⟩)) (h3 : act.tmps.getD 3 undef = .pointer (some ⟨k + 1, 0, none⟩)) (hg : GX W k (.slice none 0 0)) (hf : FX W (k + 1) x y)
  (hR : ∀ W', Below k W W' -> R (.returned (.tuple #[.agg #[.slice none 0 0], .agg #[.int .i64 p, .int .i64 c]])) W') :
  bodyPostD Tryz.prog Tryz.f21 R (.panic [{ v := .iface 39 (.agg #[.int .i64 p, .int .i64 c]), recovered := false }]) act W := by
 show Leaves _ _ _ _ act.defers _ _
 rw [hd]
 refine leaves_cons (f := 42) (args := #[.pointer (some ⟨k + 1, 0, none⟩)]) (by simp) (by simp [go_sem]) ?_
 refine (zgO (k + 1) x y p c [] W hf).mono ?_
 rintro e u' w' ⟨rfl, rfl, h4, h5, h6⟩
 have hg' : GX w' k (.slice none 0 0) := hg.same (h5.block k hg.lt (by omega) (by intro q; cases q))
 have c0 := hg'.cl
 have d0 := h4.c0
 have d1 := h4.c1
 simp only [Array.getD_eq_getD_getElem?] at h2 h3
 refine ⟨.tuple #[.agg #[.slice none 0 0], .agg #[.int .i64 p, .int .i64 c]], ?_, hR w' (h6.mono (Nat.le_succ k))⟩
 simp [results, Tryz.results21, go_sem, h2, h3, c0, d0, d1]
theorem doorR {R : Ending -> World -> Prop} {act : Act} {W : World} {k : Nat} {p c : Int} {v : Value} (hd : act.defers = [{ target := .fn (.func 42) #[.pointer (some ⟨k + 1, 0, none⟩)], args := #[] }]) (h2 : act.tmps.getD 2 undef = .pointer (some ⟨k, 0, none⟩)) (h3 : act.tmps.getD 3 undef = .pointer (some ⟨k + 1, 0, none⟩)) (hg : GX W k v) (hf : FX W (k + 1) p c)
  (hR : R (.returned (.tuple #[.agg #[v], .agg #[.int .i64 p, .int .i64 c]])) W) :
  bodyPostD Tryz.prog Tryz.f21 R .ret act W := by
 show Leaves _ _ _ _ act.defers _ _
 rw [hd]
 refine leaves_cons (f := 42) (args := #[.pointer (some ⟨k + 1, 0, none⟩)]) (by simp) (by simp [go_sem]) ?_
 refine (zhO (k + 1) W).mono ?_
 rintro e u' w' ⟨rfl, rfl, rfl⟩
 have c0 := hg.cl
 have d0 := hf.c0
 have d1 := hf.c1
 simp only [Array.getD_eq_getD_getElem?] at h2 h3
 refine ⟨.tuple #[.agg #[v], .agg #[.int .i64 p, .int .i64 c]], ?_, hR⟩
 simp [results, Tryz.results21, go_sem, h2, h3, c0, d0, d1]
theorem zrc {R : Ending -> World -> Prop} {act : Act} {W : World} {k : Nat} {p c x y : Int} (hd : act.defers = [{ target := .fn (.func 37) #[.pointer (some ⟨k, 0, none⟩)], args := #[] }]) (h2 : act.tmps.getD 2 undef = .slice none 0 0) (h3 : act.tmps.getD 3 undef = .pointer (some ⟨k, 0, none⟩)) (hf : FX W k x y)
  (hR : ∀ W', Below k W W' -> R (.returned (.tuple #[.slice none 0 0, .agg #[.int .i64 p, .int .i64 c]])) W') :
  bodyPostD Tryz.prog Tryz.f19 R (.panic [{ v := .iface 39 (.agg #[.int .i64 p, .int .i64 c]), recovered := false }]) act W := by
 show Leaves _ _ _ _ act.defers _ _
 rw [hd]
 refine leaves_cons (f := 37) (args := #[.pointer (some ⟨k, 0, none⟩)]) (by simp) (by simp [go_sem]) ?_
 refine (zgP k x y p c [] W hf).mono ?_
 rintro e u' w' ⟨rfl, rfl, h4, h5, h6⟩
 have d0 := h4.c0
 have d1 := h4.c1
 simp only [Array.getD_eq_getD_getElem?] at h2 h3
 refine ⟨.tuple #[.slice none 0 0, .agg #[.int .i64 p, .int .i64 c]], ?_, hR w' h6⟩
 simp [results, Tryz.results19, go_sem, h2, h3, d0, d1]
theorem doorB {R : Ending -> World -> Prop} {act : Act} {W : World} {k : Nat} {p c : Int} {v : Value} (hd : act.defers = [{ target := .fn (.func 37) #[.pointer (some ⟨k, 0, none⟩)], args := #[] }]) (h2 : act.tmps.getD 2 undef = v) (h3 : act.tmps.getD 3 undef = .pointer (some ⟨k, 0, none⟩)) (hf : FX W k p c)
  (hR : R (.returned (.tuple #[v, .agg #[.int .i64 p, .int .i64 c]])) W) :
  bodyPostD Tryz.prog Tryz.f19 R .ret act W := by
 show Leaves _ _ _ _ act.defers _ _
 rw [hd]
 refine leaves_cons (f := 37) (args := #[.pointer (some ⟨k, 0, none⟩)]) (by simp) (by simp [go_sem]) ?_
 refine (zhP k W).mono ?_
 rintro e u' w' ⟨rfl, rfl, rfl⟩
 have d0 := hf.c0
 have d1 := hf.c1
 simp only [Array.getD_eq_getD_getElem?] at h2 h3
 refine ⟨.tuple #[v, .agg #[.int .i64 p, .int .i64 c]], ?_, hR⟩
 simp [results, Tryz.results19, go_sem, h2, h3, d0, d1]
theorem zl0 (s : ByteArray) (w : World) (hg : GW w) (q : Nat × Int) (hq : zcl (zaz s) s = .inr q) : Calls Tryz.prog 21 #[.string s] w fun e w' => e = .returned (.tuple #[.agg #[.slice none 0 0], .agg #[.int .i64 q.1, .int .i64 q.2]]) /\ Below w.heap.size w w' := by
 have hmf : ∀ (fn : Fn) (first cap : Array Value) (w : World), (Instr.makeFunc fn first cap).run Tryz.prog w = .ok (.func fn first cap) w := fun _ _ _ _ => rfl
 have HB0 : Hid (Below w.heap.size w ((w.alloc (.cells #[.slice none 0 0] 33)).alloc fxZ) /\ GX ((w.alloc (.cells #[.slice none 0 0] 33)).alloc fxZ) w.heap.size (.slice none 0 0) /\ FX ((w.alloc (.cells #[.slice none 0 0] 33)).alloc fxZ) (w.heap.size + 1) 0 0) := ⟨((Below.refl _ _).alloc (Nat.le_refl _) _).alloc (by rw [World.size_alloc]; omega) _, (GX.mk (heap_alloc_new w _)).below (zaa _ _), ⟨by have h := heap_alloc_new (w.alloc (.cells #[.slice none 0 0] 33)) fxZ; rw [World.size_alloc] at h; exact h⟩⟩
 have HN : Hid (∀ _ : Unit, Calls Tryz.prog 40 #[.string s] ((w.alloc (.cells #[.slice none 0 0] 33)).alloc fxZ) fun e w' => e = pnc q.1 q.2 /\ Below ((w.alloc (.cells #[.slice none 0 0] 33)).alloc fxZ).heap.size ((w.alloc (.cells #[.slice none 0 0] 33)).alloc fxZ) w') := fun _ => zdU s _ (hg.later HB0.out.1) q hq (zlh hq).2
 clear hg hq
 go_enter_defers Tryz.func21, Tryz.ntmps21
 go_wp2_with fail
 generalize (w.alloc (.cells #[.slice none 0 0] 33)).alloc fxZ = w0 at *
 refine (HN.out ()).mono ?_
 rintro e w1 ⟨rfl, hb⟩
 have hsz := HB0.out.1.size
 exact zlZ rfl rfl rfl (HB0.out.2.1.below hb) (HB0.out.2.2.below hb) fun W' hW' => ⟨rfl, (HB0.out.1.trans (hb.mono hsz)).trans hW'⟩
theorem zcx {E : PE} {z : Nat} {w0 W : World} {u : Value} {ov : List (Rl × Value)} (ho : W.ownsRow w0.heap.size 79 3 u ov.length (plc E z ov)) (hb : Bds w0 W ov) (htx : ∀ x ∈ ov, ∀ n ∈ x.1.2.2, n.tx.size <= 65536) (hln : ∀ x ∈ ov, x.1.2.2.length <= 2000000000000) (hn : ov.length <= 65536) : Calls Tryz.prog 39 #[u] W fun e W' => GrV w0 W ov (szR E z (ov.map (·.1))) e W' := by
 unfold szR
 rw [List.getElem?_map]
 cases h : ov[200]? with
 | some x => exact zeY ho x h hn
 | none =>
  have hl := List.getElem?_eq_none_iff.1 h
  exact zf2 ho hb htx hln hl
def PsV (w w' : World) (r : Sum (List (ByteArray × List Nd)) (Int × Int)) (e : Ending) : Prop := match r with
 | .inr p => e = .returned (.tuple #[.agg #[.slice none 0 0], .agg #[.int .i64 p.1, .int .i64 p.2]])
 | .inl gs => ∃ u ov, e = .returned (.tuple #[.agg #[u], .agg #[.int .i64 0, .int .i64 0]]) /\ w'.ownsRow w.heap.size 73 2 u ov.length (grc ov) /\ Bds w w' ov /\ ov.map (fun x => x.1.2) = gs
theorem Bds.base {w w0 W : World} {ov : List (Rl × Value)} (h : Bds w0 W ov) (hw : w.heap.size <= w0.heap.size) : Bds w W ov := ⟨fun x hx => zaV (h.e x hx) hw, h.ap⟩
theorem FX.ne2 {W : World} {k B e s n : Nat} {u : Value} {p c : Int} {xs : List Value} (h : FX W k p c) (ho : W.ownsRow B e s u n xs) (he : e ≠ 39) {j : Nat} (hj : u.ownBlock = some j) : j ≠ k := fun q => by
 subst q
 obtain ⟨cs, hc⟩ := ze8 ho hj
 rw [h.heap] at hc
 injection hc with h4
 injection h4 with _ h5
 exact he h5.symm
theorem zl1 {w w0 W : World} {k : Nat} {u gu : Value} {x y : Int} {ov : List (Rl × Value)} (hg : GX W k u) (hf : FX W (k + 1) x y) (ho : W.ownsRow w0.heap.size 73 2 gu ov.length (grc ov)) (hb : Bds w0 W ov) (hw : w.heap.size <= w0.heap.size) (hbl : Below w.heap.size w W) (hk : w.heap.size <= k) : GX (Go.Proofs.YtnpifgcgjgddoaaGreatDoor.stF (W.setCell ⟨k, 0, none⟩ gu) (k + 1) 0 0) k gu /\ FX (Go.Proofs.YtnpifgcgjgddoaaGreatDoor.stF (W.setCell ⟨k, 0, none⟩ gu) (k + 1) 0 0) (k + 1) 0 0 /\ (Go.Proofs.YtnpifgcgjgddoaaGreatDoor.stF (W.setCell ⟨k, 0, none⟩ gu) (k + 1) 0 0).ownsRow w.heap.size 73 2 gu ov.length (grc ov) /\ Bds w (Go.Proofs.YtnpifgcgjgddoaaGreatDoor.stF (W.setCell ⟨k, 0, none⟩ gu) (k + 1) 0 0) ov /\ Below w.heap.size w (Go.Proofs.YtnpifgcgjgddoaaGreatDoor.stF (W.setCell ⟨k, 0, none⟩ gu) (k + 1) 0 0) := by
 have hf2 : FX (W.setCell ⟨k, 0, none⟩ gu) (k + 1) x y := ⟨(Below.heap_setCell _ _ _ _ (by show k + 1 ≠ k; omega)).trans hf.heap⟩
 have key : ∀ {B e s n : Nat} {v : Value} {xs : List Value}, W.ownsRow B e s v n xs -> e ≠ 33 -> e ≠ 39 -> ∀ j, v.ownBlock = some j -> (Go.Proofs.YtnpifgcgjgddoaaGreatDoor.stF (W.setCell ⟨k, 0, none⟩ gu) (k + 1) 0 0).heap[j]? = W.heap[j]? := fun h h1 h2 j hj => (zcA 0 0 (FX.ne2 hf h h2 hj)).trans (Below.heap_setCell _ _ _ _ (hg.ne h h1 hj))
 refine ⟨⟨(zcA 0 0 (by omega)).trans (hg.set gu).heap⟩, zen hf2 0 0, zaV (zaD ho (key ho (by decide) (by decide))) hw, (hb.same fun x hx => key (hb.e x hx) (by decide) (by decide)).base hw, zci (hbl.setCell (p := ⟨k, 0, none⟩) hk _) (by omega) 0 0⟩
theorem zl2 {s : ByteArray} {l : List Tk} (h : zcl (zaz s) s = .inl l) : ∀ a, a < (mkE l).l.length -> ¬ kdA (mkE l) a = 0 := fun a ha q => by
 have ha : a < l.length := ha
 unfold kdA mkE at q
 rw [List.getElem?_eq_getElem ha] at q
 have h1 := (zld h l[a] (List.getElem_mem ha)).r
 unfold riF at h1
 simp only [Bool.and_eq_true, decide_eq_true_eq] at h1
 have q : (l[a]).kd = 0 := q
 omega
theorem rl_len {E : PE} (hE : OkE E) : ∀ (f i : Nat) (out rs : List Rl), i <= E.l.length -> out.length <= i -> (∀ r ∈ out, r.2.2.length <= 2000000000000) -> rlG (exN E) E f i out = .inl rs -> rs.length <= E.l.length /\ ∀ r ∈ rs, r.2.2.length <= 2000000000000 := by
 intro f
 induction f with
 | zero => intro i out rs hi h0 h1 h; rw [rlG] at h; cases h; exact ⟨by omega, h1⟩
 | succ f ih =>
  intro i out rs hi h0 h1 h
  rw [rlG] at h
  by_cases hlt : i < E.l.length
  ·rw [if_pos hlt] at h
   by_cases hr : ruB E i = true
   ·rw [if_pos hr] at h
    cases he : exN E (i + 2) with
    | inr p => rw [he] at h; cases h
    | inl p =>
     obtain ⟨a, ns⟩ := p
     rw [he] at h
     have h2 := ze5 (zjN hr) he
     have h3 := (zdn hE.rl (m := 0) (d := 0) (zjN hr) (by omega) he).2
     have h4 := hE.len
     refine ih _ _ _ h2.2 (by rw [List.length_append, List.length_singleton]; show out.length + 1 <= a; omega) (fun r hr2 => ?_) h
     rcases List.mem_append.1 hr2 with q | q
     ·exact h1 r q
     ·rw [List.mem_singleton.1 q]; show ns.length <= _; omega
   ·rw [if_neg hr] at h; cases h
  ·rw [if_neg hlt] at h; cases h; exact ⟨by omega, h1⟩
theorem ex_len {E : PE} (hE : OkE E) {i a : Nat} {ns : List Nd} (hi : i <= E.l.length) (h : exN E i = .inl (a, ns)) : ns.length <= 2000000000000 := by
 have h2 := ze5 hi h
 have h3 := (zdn hE.rl (m := 0) (d := 0) hi (by omega) h).2
 have h4 := hE.len
 omega
theorem zhQ (s : ByteArray) (w : World) (hg : GW w) (l : List Tk) (hl : zcl (zaz s) s = .inl l) (hr : ruB (mkE l) 0 = true) : Calls Tryz.prog 21 #[.string s] w fun e w' => PsV w w' (fin (mkE l) s.size (rdN (mkE l))) e /\ Below w.heap.size w w' := by
 have hE := zlj hl
 have hz := hE.z
 have hk0 := zl2 hl
 have hmf : ∀ (fn : Fn) (first cap : Array Value) (w : World), (Instr.makeFunc fn first cap).run Tryz.prog w = .ok (.func fn first cap) w := fun _ _ _ _ => rfl
 have HB0 : Hid (Below w.heap.size w ((w.alloc (.cells #[.slice none 0 0] 33)).alloc fxZ) /\ GX ((w.alloc (.cells #[.slice none 0 0] 33)).alloc fxZ) w.heap.size (.slice none 0 0) /\ FX ((w.alloc (.cells #[.slice none 0 0] 33)).alloc fxZ) (w.heap.size + 1) 0 0) := ⟨((Below.refl _ _).alloc (Nat.le_refl _) _).alloc (by rw [World.size_alloc]; omega) _, (GX.mk (heap_alloc_new w _)).below (zaa _ _), ⟨by have h := heap_alloc_new (w.alloc (.cells #[.slice none 0 0] 33)) fxZ; rw [World.size_alloc] at h; exact h⟩⟩
 have hgw := hg.later HB0.out.1
 have HN : Hid (∀ _ : Unit, Calls Tryz.prog 40 #[.string s] ((w.alloc (.cells #[.slice none 0 0] 33)).alloc fxZ) fun e w' => ∃ b tv, e = .returned (.pointer (some ⟨b, 0, none⟩)) /\ RS (mkE l) s.size ((w.alloc (.cells #[.slice none 0 0] 33)).alloc fxZ) w' b tv 0 0 (.slice none 0 0) []) := fun _ => zcK s _ hgw l hl
 have HVB : Hid (R.VB ((w.alloc (.cells #[.slice none 0 0] 33)).alloc fxZ)) := hgw.v
 have HTx := (show Hid (∀ rs, rdN (mkE l) = .inl rs -> (∀ r ∈ rs, ∀ n ∈ r.2.2, n.tx.size <= 65536) /\ rs.length <= 65536 /\ ∀ r ∈ rs, r.2.2.length <= 2000000000000) from fun rs h => by
  have h1 := rdN_tx hE h
  unfold rdN at h
  rw [if_pos hr] at h
  have h2 := rl_len hE _ _ _ _ (Nat.zero_le _) (Nat.le_refl _) (fun r hr => by cases hr) h
  exact ⟨h1, Nat.le_trans h2.1 hE.len, h2.2⟩)
 have HE : Hid (OkE (mkE l) /\ (∀ a, a < (mkE l).l.length -> ¬ kdA (mkE l) a = 0) /\ ruB (mkE l) 0 = true) := ⟨hE, hk0, hr⟩
 clear hg hgw hl hE hk0 hr
 generalize mkE l = E at *
 go_enter_defers Tryz.func21, Tryz.ntmps21
 go_wp2_with fail
 generalize (w.alloc (.cells #[.slice none 0 0] 33)).alloc fxZ = w0 at *
 refine (HN.out ()).mono ?_
 rintro e w1 ⟨b, tv, rfl, h1⟩
 have H1 := hO h1
 have HBg : Hid (∀ _ : Unit, Calls Tryz.prog 43 #[.pointer (some ⟨b, 0, none⟩)] w1 fun e W' => e = .returned (.bool true) /\ Below w1.heap.size w1 W') := fun _ => by
  have := zb9 h1 hz
  rw [HE.out.2.2] at this
  exact this
 clear h1 HN
 go_wp2_with fail
 refine (HBg.out ()).mono ?_
 rintro e w2 ⟨rfl, hb⟩
 have H2 := hO (H1.out.later hb)
 have HRu : Hid (∀ _ : Unit, Calls Tryz.prog 44 #[.pointer (some ⟨b, 0, none⟩)] w2 fun e W' => RlV E s.size w0 (rdN E) e W') := fun _ => zlY HE.out.1 HE.out.2.1 HVB.out H2.out HE.out.2.2
 have hsz := HB0.out.1.size
 clear hb HBg H1
 cases hrd : rdN E with
 | inr q =>
  rw [hrd] at HRu
  go_wp2_with fail
  refine (HRu.out ()).mono ?_
  rintro e w3 ⟨rfl, hb⟩
  have hg3 := HB0.out.2.1.below hb
  have hf3 := HB0.out.2.2.below hb
  exact zlZ rfl rfl rfl hg3 hf3 fun W' hW' => ⟨by rw [hrd]; rfl, (HB0.out.1.trans (hb.mono hsz)).trans hW'⟩
 | inl rs =>
  obtain ⟨hx1, hx2, hx3⟩ := HTx.out rs hrd
  rw [hrd] at HRu
  go_wp2_with fail
  refine (HRu.out ()).mono ?_
  rintro e w3 ⟨u, ov, rfl, ho, hbd, hmap, hb3⟩
  have HGr : Hid (∀ _ : Unit, Calls Tryz.prog 39 #[u] w3 fun e W' => GrV w0 w3 ov (szR E s.size rs) e W') := fun _ => by
   rw [<- hmap]
   refine zcx ho hbd ?_ ?_ ?_
   ·intro x hx; exact hx1 x.1 (by rw [<- hmap]; exact List.mem_map_of_mem hx)
   ·intro x hx; exact hx3 x.1 (by rw [<- hmap]; exact List.mem_map_of_mem hx)
   ·have : ov.length = rs.length := by rw [<- hmap, List.length_map]
    omega
  have HB3 : Hid (Below w0.heap.size w0 w3 /\ Bds w0 w3 ov /\ ov.map (·.1) = rs) := ⟨hb3, hbd, hmap⟩
  clear ho hbd hmap hb3 HRu HTx H2 hx1 hx2 hx3
  cases hsr : szR E s.size rs with
  | some p =>
   rw [hsr] at HGr
   go_wp2_with fail
   refine (HGr.out ()).mono ?_
   rintro e w4 ⟨rfl, hb⟩
   have hb4 := HB3.out.1.trans (hb.mono HB3.out.1.size)
   exact zlZ rfl rfl rfl (HB0.out.2.1.below hb4) (HB0.out.2.2.below hb4) fun W' hW' => ⟨by rw [hrd]; unfold fin; simp only [hsr]; rfl, (HB0.out.1.trans (hb4.mono hsz)).trans hW'⟩
  | none =>
   rw [hsr] at HGr
   go_wp2_with fail
   refine (HGr.out ()).mono ?_
   rintro e w4 ⟨gu, rfl, ho, hb⟩
   have hb4 := HB3.out.1.trans (hb.mono HB3.out.1.size)
   have hg4 := HB0.out.2.1.below hb4
   have hf4 := HB0.out.2.2.below hb4
   have HF := hO (zl1 (w := w) (w0 := w0) hg4 hf4 (zaV ho HB3.out.1.size) (HB3.out.2.1.later hb) hsz (HB0.out.1.trans (hb4.mono hsz)) (Nat.le_refl _))
   obtain ⟨A4, n4, rfl⟩ := zb4 ho
   have c0 := hg4.cl
   have f0 := hg4.fz
   have d0 := hf4.c0
   have d1 := hf4.c1
   have e0 := hf4.f0
   have e1 := hf4.f1
   clear ho hb hb4 hg4 hf4 HGr
   go_wp2_with fail
   exact doorR rfl rfl rfl HF.out.1 HF.out.2.1 ⟨by rw [hrd]; unfold fin; simp only [hsr]; exact ⟨_, ov, rfl, HF.out.2.2.1, HF.out.2.2.2.1, by rw [<- HB3.out.2.2, List.map_map]; rfl⟩, HF.out.2.2.2.2⟩
end Go.Proofs.YtnpifgcgjgddoaaGreatDoor.N
