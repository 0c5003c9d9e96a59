/- DERIVED. Plain mathematics and walks, laid together (11). -/
import Derived.Test.YtnpifgcgjgddoaaGreatDoorPg10
namespace Go.Proofs.YtnpifgcgjgddoaaGreatDoor.N
open Go.RowKit
/-- A text more; none: too long. -/
def adT (x : Option (List UInt8)) (s : List UInt8) : Option (List UInt8) := match x with
  | none => none
  | some l => if 65536 < l.length + s.length then none else some (l ++ s)
theorem adT_long {l s : List UInt8} (h : 65536 < l.length + s.length) : adT (some l) s = none := by show (if _ then _ else _) = _; rw [if_pos h]
theorem adT_ok {l s : List UInt8} (h : ¬ 65536 < l.length + s.length) : adT (some l) s = some (l ++ s) := by show (if _ then _ else _) = _; rw [if_neg h]
theorem adT_app (x : Option (List UInt8)) (a b : List UInt8) : adT (adT x a) b = adT x (a ++ b) := by
  cases x with
  | none => rfl
  | some l =>
    by_cases h : 65536 < l.length + a.length
    · rw [adT_long h, adT_long (by rw [List.length_append]; omega)]; rfl
    · rw [adT_ok h]
      by_cases h2 : 65536 < (l ++ a).length + b.length
      · rw [adT_long h2, adT_long (by rw [List.length_append] at h2 ⊢; omega)]
      · rw [adT_ok h2, adT_ok (by rw [List.length_append] at h2 ⊢; omega), List.append_assoc]
/-- The bytes so far. -/
structure Bf (W : World) (B : Nat) (x : Option (List UInt8)) (v : Value) : Prop where
  s : ∀ l, x = some l → W.ownsRow B 5 1 v l.length (Lib.byteCells l) ∧ l.length ≤ 70000
  n : ∃ A n c, v = .slice A n c ∧ n ≤ 70000
  o : ∃ l, W.ownsRow B 5 1 v (List.length (α := UInt8) l) (Lib.byteCells l) ∧ l.length ≤ 70000
theorem Bf.later {W W' : World} {B : Nat} {x : Option (List UInt8)} {v : Value} (h : Bf W B x v) (hb : Below W.heap.size W W') : Bf W' B x v := ⟨fun l hl => ⟨T.own_below (h.s l hl).1 hb, (h.s l hl).2⟩, h.n, by obtain ⟨l, h1, h2⟩ := h.o; exact ⟨l, T.own_below h1 hb, h2⟩⟩
/-- The document's teller. -/
structure Dt (W : World) (B tb : Nat) (L : List Nd) (gp op cp g1 c1 : Nat) (x : Option (List UInt8)) : Prop where
  t : W.heap[tb]? = some (.cells #[.slice (some ⟨gp, op, none⟩) L.length cp, .slice (some ⟨g1, 0, none⟩) L.length c1, .bool x.isNone] 70 (0, 0))
  b : ∃ cur, Fx W tb g1 cur 3 ∧ ∀ i, i < L.length → cur[i]? = some (.int .i64 (T.pt L i).1)
  n : T.NdL W gp op L
  gl : gp < B
  tl : B ≤ tb
theorem Dt.lt {W : World} {B tb : Nat} {L : List Nd} {gp op cp g1 c1 : Nat} {x : Option (List UInt8)} (h : Dt W B tb L gp op cp g1 c1 x) : tb < W.heap.size := (Array.getElem?_eq_some_iff.1 h.t).1
theorem Dt.move {W W' : World} {B tb : Nat} {L : List Nd} {gp op cp g1 c1 : Nat} {x x' : Option (List UInt8)} (h : Dt W B tb L gp op cp g1 c1 x) (k : KeepT tb W W') (b : Below B W W') (ht : W'.heap[tb]? = some (.cells #[.slice (some ⟨gp, op, none⟩) L.length cp, .slice (some ⟨g1, 0, none⟩) L.length c1, .bool x'.isNone] 70 (0, 0))) : Dt W' B tb L gp op cp g1 c1 x' := by
  obtain ⟨_, ⟨cur, h2, h3⟩, h4, h5, h6⟩ := h
  exact ⟨ht, ⟨cur, h2.keep k, h3⟩, h4.same (b.block gp h5), h5, h6⟩
theorem Dt.later {W W' : World} {B tb : Nat} {L : List Nd} {gp op cp g1 c1 : Nat} {x : Option (List UInt8)} (h : Dt W B tb L gp op cp g1 c1 x) (hb : Below W.heap.size W W') : Dt W' B tb L gp op cp g1 c1 x :=
  h.move (KeepT.below hb) (hb.mono (Nat.le_trans h.tl (Nat.le_of_lt h.lt))) ((hb.block tb h.lt).trans h.t)
theorem Dt.c0 {W : World} {B tb : Nat} {L : List Nd} {gp op cp g1 c1 : Nat} {x : Option (List UInt8)} (h : Dt W B tb L gp op cp g1 c1 x) : W.cell? ⟨tb, 0, none⟩ = some (.slice (some ⟨gp, op, none⟩) L.length cp) := by rw [cell_of_row W tb 0 _ 70 (0, 0) h.t]; rfl
theorem Dt.c1 {W : World} {B tb : Nat} {L : List Nd} {gp op cp g1 c1 : Nat} {x : Option (List UInt8)} (h : Dt W B tb L gp op cp g1 c1 x) : W.cell? ⟨tb, 1, none⟩ = some (.slice (some ⟨g1, 0, none⟩) L.length c1) := by rw [cell_of_row W tb 1 _ 70 (0, 0) h.t]; rfl
theorem Dt.c2 {W : World} {B tb : Nat} {L : List Nd} {gp op cp g1 c1 : Nat} {x : Option (List UInt8)} (h : Dt W B tb L gp op cp g1 c1 x) : W.cell? ⟨tb, 2, none⟩ = some (.bool x.isNone) := by rw [cell_of_row W tb 2 _ 70 (0, 0) h.t]; rfl
theorem Dt.f2 {W : World} {B tb : Nat} {L : List Nd} {gp op cp g1 c1 : Nat} {x : Option (List UInt8)} (h : Dt W B tb L gp op cp g1 c1 x) : W.frozen? ⟨tb, 2, none⟩ = false := frozen_of_row W tb 2 _ 70 h.t
/-- What a call of the document's teller leaves. -/
structure Dq (W W' : World) (B tb : Nat) (L : List Nd) (gp op cp g1 c1 : Nat) (x : Option (List UInt8)) (v : Value) : Prop where
  d : Dt W' B tb L gp op cp g1 c1 x
  f : Bf W' B x v
  bl : Below B W W'
  k : KeepT tb W W'
theorem Dq.trans {W W1 W2 : World} {B tb : Nat} {L : List Nd} {gp op cp g1 c1 : Nat} {x y : Option (List UInt8)} {v u : Value} (h : Dq W W1 B tb L gp op cp g1 c1 x v) (h2 : Dq W1 W2 B tb L gp op cp g1 c1 y u) : Dq W W2 B tb L gp op cp g1 c1 y u := ⟨h2.d, h2.f, h.bl.trans h2.bl, h.k.trans h2.k⟩
theorem Dq.later {W W1 W2 : World} {B tb : Nat} {L : List Nd} {gp op cp g1 c1 : Nat} {x : Option (List UInt8)} {v : Value} (h : Dq W W1 B tb L gp op cp g1 c1 x v) (hb : Below W1.heap.size W1 W2) : Dq W W2 B tb L gp op cp g1 c1 x v := ⟨h.d.later hb, h.f.later hb, h.bl.trans (hb.mono (Nat.le_trans h.d.tl (Nat.le_of_lt h.d.lt))), h.k.trans (KeepT.below hb)⟩
theorem Dq.start {W : World} {B tb : Nat} {L : List Nd} {gp op cp g1 c1 : Nat} {x : Option (List UInt8)} {v : Value} (d : Dt W B tb L gp op cp g1 c1 x) (f : Bf W B x v) : Dq W W B tb L gp op cp g1 c1 x v := ⟨d, f, Below.refl _ _, KeepT.refl _ _⟩
/-- The sign that it is too long is set. -/
theorem Dt.long {W : World} {B tb : Nat} {L : List Nd} {gp op cp g1 c1 : Nat} {x : Option (List UInt8)} {v : Value} (d : Dt W B tb L gp op cp g1 c1 x) (f : Bf W B x v) : Dq W (W.setCell ⟨tb, 2, none⟩ (.bool true)) B tb L gp op cp g1 c1 none v := by
  have hb : Below B W (W.setCell ⟨tb, 2, none⟩ (.bool true)) := (Below.refl B W).setCell (p := ⟨tb, 2, none⟩) d.tl _
  have hk : KeepT tb W (W.setCell ⟨tb, 2, none⟩ (.bool true)) := KeepT.setCell tb 2 W _
  have ho : ∃ l, (W.setCell ⟨tb, 2, none⟩ (.bool true)).ownsRow B 5 1 v (List.length (α := UInt8) l) (Lib.byteCells l) ∧ l.length ≤ 70000 := by
    obtain ⟨l, h1, h2⟩ := f.o
    refine ⟨l, ?_, h2⟩
    rcases h1 with ⟨q0, ⟨q1, q2⟩ | ⟨g, cap, cur, q1, q2, q3, q4⟩⟩
    · exact ⟨q0, .inl ⟨q1, q2⟩⟩
    · exact ⟨q0, .inr ⟨g, cap, cur, q1, q2, (Below.heap_setCell _ _ _ _ (by rintro rfl; rw [d.t] at q3; cases q3)).trans q3, q4⟩⟩
  refine ⟨d.move hk hb (by rw [heap_setCell_same W tb 2 _ 70 _ d.t]; rfl), ⟨(fun l hl => by cases hl), f.n, ho⟩, hb, hk⟩
theorem Tryz.info5d : (Tryz.prog.info? 5).map (fun i => (i.zero, i.size, i.bytes)) = some (some (.int .u8 0), 1, 1) := by kernel_rfl
set_option maxRecDepth 100000 in
set_option maxHeartbeats 4000000 in
theorem addD_any {W : World} {B tb : Nat} {L : List Nd} {gp op cp g1 c1 : Nat} {x : Option (List UInt8)} {v : Value} (s : ByteArray) (hs : s.size ≤ 1000000) (d : Dt W B tb L gp op cp g1 c1 x) (f : Bf W B x v) : Calls Tryz.prog 55 #[.pointer (some ⟨tb, 0, none⟩), v, .string s] W fun e W' => ∃ v', e = .returned v' ∧ Dq W W' B tb L gp op cp g1 c1 (adT x s.data.toList) v' := by
  obtain ⟨A, n, c, rfl, hn⟩ := f.n
  have e2 := d.c2
  have f2 := d.f2
  have hsl := dlen s
  have HLg := (show Hid _ from d.long f)
  have HD := (show Hid _ from d)
  have HF := (show Hid _ from f)
  cases hx : x with
  | none =>
    rw [hx] at e2
    have e2' : W.cell? ⟨tb, 2, none⟩ = some (.bool true) := e2
    have HSt := (show Hid (Dq W W B tb L gp op cp g1 c1 none (.slice A n c)) from by have h := Dq.start HD.out HF.out; rw [hx] at h; exact h)
    clear e2 d f hx HD HF
    have HL2 := (show Hid (W.setCell ⟨tb, 2, none⟩ (.bool true) = W.setCell ⟨tb, 2, none⟩ (.bool true)) from rfl)
    by_cases hl : 65536 < n + s.size
    · have z : (65536 : Int) < (n : Int) + (s.size : Int) := by omega
      have g2 := HLg.out.d.c2
      have g2' : (W.setCell ⟨tb, 2, none⟩ (.bool true)).cell? ⟨tb, 2, none⟩ = some (.bool true) := g2
      clear hl g2
      go_enter Tryz.func55, Tryz.ntmps55
      go_wp2_with fail
      go_ret
      exact ⟨_, rfl, HLg.out⟩
    · have z : ¬ (65536 : Int) < (n : Int) + (s.size : Int) := by omega
      clear hl HLg
      go_enter Tryz.func55, Tryz.ntmps55
      go_wp2_with fail
      go_ret
      exact ⟨_, rfl, HSt.out⟩
  | some l =>
    rw [hx] at e2
    have e2' : W.cell? ⟨tb, 2, none⟩ = some (.bool false) := e2
    obtain ⟨ho, hle⟩ := HF.out.s l hx
    have hnl : n = l.length := by
      rcases ho.2 with ⟨q1, q2⟩ | ⟨g, cap, cur, q1, _⟩
      · injection q1 with _ q1; omega
      · injection q1 with _ q1
    subst hnl
    by_cases hl : 65536 < l.length + s.data.toList.length
    · rw [adT_long hl]
      have z : (65536 : Int) < (l.length : Int) + (s.size : Int) := by omega
      have g2' : (W.setCell ⟨tb, 2, none⟩ (.bool true)).cell? ⟨tb, 2, none⟩ = some (.bool true) := HLg.out.d.c2
      clear hl d f hx HD HF e2 ho hsl
      go_enter Tryz.func55, Tryz.ntmps55
      go_wp2_with fail
      go_ret
      exact ⟨_, rfl, HLg.out⟩
    · rw [adT_ok hl]
      have z : ¬ (65536 : Int) < (l.length : Int) + (s.size : Int) := by omega
      have HXs := (show Hid (x.isNone = false ∧ l.length + s.size ≤ 65536) from ⟨by rw [hx]; rfl, by omega⟩)
      obtain ⟨i0, hi, hz0, hz1, hz2⟩ := T.info_parts Tryz.info5d
      have hbt := HD.out.lt
      have hbl := HD.out.tl
      clear hl d f hx e2 HLg HF
      go_enter Tryz.func55, Tryz.ntmps55
      go_wp2_with (at_builtin; refine Lib.wpList_append_own_string _ rfl _ _ 55 9 rfl B 5 i0 Tryz.underlying55 Tryz.underlying9 hi hz0 hz1 hz2 _ _ _ rfl ho s rfl ?c3 ?c4 ?c5 ?_)
      case c3 => unfold maxLen; omega
      case c4 => omega
      case c5 => omega
      intro v' w2 hown' hgrow _
      have HQ := (show Hid (Dq W w2 B tb L gp op cp g1 c1 (some (l ++ s.data.toList)) v') from by
        have hbB : Below B W w2 := (Below.refl B W).grown hgrow (by omega) (fun k hk => (ho.lt k hk).1)
        have hkT : KeepT tb W w2 := KeepT.grown ho hgrow
        have hne : some tb ≠ (Value.slice A l.length c).ownBlock := fun e => by
          rcases ho.2 with ⟨q1, _⟩ | ⟨g, cap, cur, q1, _, q3, _⟩
          · rw [q1] at e; cases e
          · rw [q1] at e
            have e2 : tb = g := by injection e
            subst e2
            rw [HD.out.t] at q3
            cases q3
        have hb2 := hgrow.block tb hbt hne
        have ho2 : w2.ownsRow B 5 1 v' (l ++ s.data.toList).length (Lib.byteCells (l ++ s.data.toList)) ∧ (l ++ s.data.toList).length ≤ 70000 := by
          have := HXs.out.2
          refine ⟨?_, by rw [List.length_append]; omega⟩
          rw [List.length_append, hsl, bcells, ← scells]
          exact hown'
        refine ⟨HD.out.move hkT hbB (by rw [hb2, HD.out.t, HXs.out.1]; rfl), ⟨fun l' hl' => ?_, ?_, ⟨_, ho2⟩⟩, hbB, hkT⟩
        · cases hl'
          exact ho2
        · have := HXs.out.2
          rcases hown'.2 with ⟨q1, q2⟩ | ⟨g, cap, cur, q1, _⟩
          · exact ⟨none, 0, 0, q1, by omega⟩
          · exact ⟨_, _, cap, q1, by omega⟩)
      obtain ⟨A', n', c', rfl, _⟩ := HQ.out.f.n
      clear hown' hgrow ho HD
      go_wp2_with fail
      go_ret
      exact ⟨_, rfl, HQ.out⟩
end Go.Proofs.YtnpifgcgjgddoaaGreatDoor.N

namespace Go.Proofs.YtnpifgcgjgddoaaGreatDoor.N
open Go.RowKit
set_option maxRecDepth 100000 in
set_option maxHeartbeats 2000000 in
theorem holdsD_any (op : Int) (w : World) : Calls Tryz.prog 76 #[.int .i64 op] w fun e w' => e = .returned (.int .i64 (hld op)) ∧ w' = w := by
  by_cases h8 : op = 8
  · subst h8
    go_enter Tryz.func76, Tryz.ntmps76
    go_wp2
    go_ret
    exact ⟨rfl, rfl⟩
  by_cases h7 : op = 7
  · subst h7
    go_enter Tryz.func76, Tryz.ntmps76
    go_wp2
    go_ret
    exact ⟨rfl, rfl⟩
  by_cases h12 : op = 12
  · subst h12
    go_enter Tryz.func76, Tryz.ntmps76
    go_wp2
    go_ret
    exact ⟨rfl, rfl⟩
  by_cases h13 : op = 13
  · subst h13
    go_enter Tryz.func76, Tryz.ntmps76
    go_wp2
    go_ret
    exact ⟨rfl, rfl⟩
  by_cases h9 : op = 9
  · subst h9
    go_enter Tryz.func76, Tryz.ntmps76
    go_wp2
    go_ret
    exact ⟨rfl, rfl⟩
  by_cases h10 : op = 10
  · subst h10
    go_enter Tryz.func76, Tryz.ntmps76
    go_wp2
    go_ret
    exact ⟨rfl, rfl⟩
  by_cases h11 : op = 11
  · subst h11
    go_enter Tryz.func76, Tryz.ntmps76
    go_wp2
    go_ret
    exact ⟨rfl, rfl⟩
  by_cases h14 : op = 14
  · subst h14
    go_enter Tryz.func76, Tryz.ntmps76
    go_wp2
    go_ret
    exact ⟨rfl, rfl⟩
  by_cases h15 : op = 15
  · subst h15
    go_enter Tryz.func76, Tryz.ntmps76
    go_wp2
    go_ret
    exact ⟨rfl, rfl⟩
  by_cases h16 : op = 16
  · subst h16
    go_enter Tryz.func76, Tryz.ntmps76
    go_wp2
    go_ret
    exact ⟨rfl, rfl⟩
  by_cases h22 : op = 22
  · subst h22
    go_enter Tryz.func76, Tryz.ntmps76
    go_wp2
    go_ret
    exact ⟨rfl, rfl⟩
  by_cases h23 : op = 23
  · subst h23
    go_enter Tryz.func76, Tryz.ntmps76
    go_wp2
    go_ret
    exact ⟨rfl, rfl⟩
  have t8 : (op == 8) = false := beq_eq_false_iff_ne.2 h8
  have t7 : (op == 7) = false := beq_eq_false_iff_ne.2 h7
  have t12 : (op == 12) = false := beq_eq_false_iff_ne.2 h12
  have t13 : (op == 13) = false := beq_eq_false_iff_ne.2 h13
  have t9 : (op == 9) = false := beq_eq_false_iff_ne.2 h9
  have t10 : (op == 10) = false := beq_eq_false_iff_ne.2 h10
  have t11 : (op == 11) = false := beq_eq_false_iff_ne.2 h11
  have t14 : (op == 14) = false := beq_eq_false_iff_ne.2 h14
  have t15 : (op == 15) = false := beq_eq_false_iff_ne.2 h15
  have t16 : (op == 16) = false := beq_eq_false_iff_ne.2 h16
  have t22 : (op == 22) = false := beq_eq_false_iff_ne.2 h22
  have t23 : (op == 23) = false := beq_eq_false_iff_ne.2 h23
  have HE : Hid (((hld op : Nat) : Int) = 4) := by
    show ((hld op : Nat) : Int) = 4
    unfold hld
    rw [if_neg h8, if_neg h7, if_neg (by rintro (q | q); exact h12 q; exact h13 q), if_neg (by rintro (q | q | q | q | q | q | q | q); exact h9 q; exact h10 q; exact h11 q; exact h14 q; exact h15 q; exact h16 q; exact h22 q; exact h23 q)]
    rfl
  clear h8 h7 h12 h13 h9 h10 h11 h14 h15 h16 h22 h23
  go_enter Tryz.func76, Tryz.ntmps76
  go_wp2
  go_ret
  exact ⟨by rw [HE.out]; rfl, rfl⟩
/-- What the document's node, and its part, keep to. -/
def DNod (L : List Nd) (B tb gp op cp g1 c1 k : Nat) : Prop := ∀ (W : World) (x : Option (List UInt8)) (v : Value), Dt W B tb L gp op cp g1 c1 x → Bf W B x v → Calls Tryz.prog 77 #[.pointer (some ⟨tb, 0, none⟩), v, .int .i64 k] W fun e W' => ∃ v', e = .returned v' ∧ Dq W W' B tb L gp op cp g1 c1 (adT x (itT (enX L k).2)) v'
def DPar (L : List Nd) (B tb gp op cp g1 c1 k d : Nat) : Prop := ∀ (W : World) (x : Option (List UInt8)) (v : Value), Dt W B tb L gp op cp g1 c1 x → Bf W B x v → Calls Tryz.prog 53 #[.pointer (some ⟨tb, 0, none⟩), v, .int .i64 k, .int .i64 d] W fun e W' => ∃ v', e = .returned v' ∧ Dq W W' B tb L gp op cp g1 c1 (adT x (itT (partI d (enX L k)))) v'
set_option maxRecDepth 100000 in
set_option maxHeartbeats 4000000 in
theorem partD_of {L : List Nd} {B tb gp op cp g1 c1 k : Nat} {n : Nd} (hn : L[k]? = some n) (he : ∀ j, j ≤ k → T.er L j = 0) (hc : DNod L B tb gp op cp g1 c1 k) (d : Nat) : DPar L B tb gp op cp g1 c1 k d := by
  intro W x v hD hF
  have hk : k < L.length := (List.getElem?_eq_some_iff.1 hn).1
  have hh := en_hld hn he
  have a0 := hD.c0
  have a2 := hD.c2
  obtain ⟨c0, _⟩ := hD.n k n hn
  obtain ⟨A, m, c, rfl, hm⟩ := hF.n
  have HH : Hid (∀ w, Calls Tryz.prog 76 #[.int .i64 n.op] w fun e w' => e = .returned (.int .i64 (hld n.op)) ∧ w' = w) := fun w => holdsD_any n.op w
  have z0 : (0 : Int) ≤ (k : Int) := by omega
  have z1 : (k : Int) < (L.length : Int) := by omega
  have HD := (show Hid _ from hD)
  have HF := (show Hid _ from hF)
  have HC := (show Hid (DNod L B tb gp op cp g1 c1 k) from hc)
  clear hc
  cases hx : x with
  | none =>
    subst hx
    have a2' : W.cell? ⟨tb, 2, none⟩ = some (.bool true) := a2
    clear a2 hD hF hh
    go_enter Tryz.func53, Tryz.ntmps53
    go_wp2_with fail
    go_ret
    exact ⟨_, rfl, Dq.start HD.out HF.out⟩
  | some l =>
    subst hx
    have a2' : W.cell? ⟨tb, 2, none⟩ = some (.bool false) := a2
    clear a2 hD hF
    by_cases hlt : hld n.op < d
    · have e : partI d (enX L k) = [sgI 16] ++ ((enX L k).2 ++ [sgI 17]) := by unfold partI; rw [if_pos (by rw [hh]; exact hlt)]
      have e2 : itT (partI d (enX L k)) = [40] ++ (itT (enX L k).2 ++ [41]) := by rw [e, itT_app, itT_app]; rfl
      rw [e2]
      have zz : (((hld n.op : Nat) : Int)) < (d : Int) := by omega
      have HE := (show Hid (∀ t : List UInt8, adT (adT (adT (some l) [40]) t) [41] = adT (some l) ([40] ++ (t ++ [41]))) from fun t => by rw [adT_app, adT_app])
      clear e e2 hh he hn hlt
      generalize hld n.op = m at *
      go_enter Tryz.func53, Tryz.ntmps53
      go_wp2_with fail
      refine (HH.out _).mono ?_
      rintro e w1 ⟨rfl, rfl⟩
      go_wp2_with fail
      refine (addD_any ⟨#[40]⟩ (by decide) HD.out HF.out).mono ?_
      rintro e w2 ⟨v2, rfl, q2⟩
      have HQ2 := (show Hid _ from q2)
      obtain ⟨A2, m2, k2, rfl, hm2⟩ := q2.f.n
      clear q2 HD HF a0 a2' c0
      go_wp2_with fail
      refine (HC.out _ _ _ HQ2.out.d HQ2.out.f).mono ?_
      rintro e w3 ⟨v3, rfl, q3⟩
      have HQ3 := (show Hid _ from HQ2.out.trans q3)
      obtain ⟨A3, m3, k3, rfl, hm3⟩ := q3.f.n
      clear q3 HQ2
      go_wp2_with fail
      refine (addD_any ⟨#[41]⟩ (by decide) HQ3.out.d HQ3.out.f).mono ?_
      rintro e w4 ⟨v4, rfl, q4⟩
      have HQ4 := (show Hid _ from HQ3.out.trans q4)
      obtain ⟨A4, m4, k4, rfl, hm4⟩ := q4.f.n
      clear q4 HQ3
      go_wp2_with fail
      go_ret
      exact ⟨_, rfl, by have h := HQ4.out; rw [HE.out] at h; exact h⟩
    · have e : partI d (enX L k) = (enX L k).2 := by unfold partI; rw [if_neg (by rw [hh]; exact hlt)]
      rw [e]
      have zz : ¬ (((hld n.op : Nat) : Int)) < (d : Int) := by omega
      clear e hh he hn hlt
      generalize hld n.op = m at *
      go_enter Tryz.func53, Tryz.ntmps53
      go_wp2_with fail
      refine (HH.out _).mono ?_
      rintro e w1 ⟨rfl, rfl⟩
      go_wp2_with fail
      refine (HC.out _ _ _ HD.out HF.out).mono ?_
      rintro e w3 ⟨v3, rfl, q3⟩
      have HQ3 := (show Hid _ from q3)
      obtain ⟨A3, m3, k3, rfl, hm3⟩ := q3.f.n
      clear q3 HD HF
      go_wp2_with fail
      go_ret
      exact ⟨_, rfl, HQ3.out⟩
set_option maxRecDepth 100000 in
set_option maxHeartbeats 4000000 in
theorem betweenD_of {L : List Nd} {B tb gp op cp g1 c1 k : Nat} (hc : DPar L B tb gp op cp g1 c1 k 0) (hk : k < 4096) (s t : ByteArray) (hs : s.size ≤ 1000000) (ht : t.size ≤ 1000000) (W : World) (x : Option (List UInt8)) (v : Value) (hD : Dt W B tb L gp op cp g1 c1 x) (hF : Bf W B x v) :
    Calls Tryz.prog 99 #[.pointer (some ⟨tb, 0, none⟩), v, .string s, .int .i64 ((k : Int) + 1), .string t] W fun e W' => ∃ v', e = .returned v' ∧ Dq W W' B tb L gp op cp g1 c1 (adT x (s.data.toList ++ (itT (enX L k).2 ++ t.data.toList))) v' := by
  have e0 : partI 0 (enX L k) = (enX L k).2 := by unfold partI; rw [if_neg (by omega)]
  have HE := (show Hid (∀ t1 t2 t3 : List UInt8, adT (adT (adT x t1) t2) t3 = adT x (t1 ++ (t2 ++ t3))) from fun t1 t2 t3 => by rw [adT_app, adT_app])
  have HC := (show Hid (∀ (W : World) (x : Option (List UInt8)) (v : Value), Dt W B tb L gp op cp g1 c1 x → Bf W B x v → Calls Tryz.prog 53 #[.pointer (some ⟨tb, 0, none⟩), v, .int .i64 k, .int .i64 0] W fun e W' => ∃ v', e = .returned v' ∧ Dq W W' B tb L gp op cp g1 c1 (adT x (itT (enX L k).2)) v') from by
    intro W x v h1 h2
    have := hc W x v h1 h2
    rw [e0] at this
    exact this)
  have HD := (show Hid _ from hD)
  have HF := (show Hid _ from hF)
  obtain ⟨A, m, c, rfl, hm⟩ := hF.n
  have es : (k : Int) + 1 - 1 = (k : Int) := by omega
  clear hc hD hF e0
  generalize itT (enX L k).2 = tx at *
  go_enter Tryz.func99, Tryz.ntmps99
  go_wp2_with fail
  refine (addD_any s hs HD.out HF.out).mono ?_
  rintro e w2 ⟨v2, rfl, q2⟩
  have HQ2 := (show Hid _ from q2)
  obtain ⟨A2, m2, k2, rfl, hm2⟩ := q2.f.n
  clear q2 HD HF
  go_wp2_with fail
  refine (HC.out _ _ _ HQ2.out.d HQ2.out.f).mono ?_
  rintro e w3 ⟨v3, rfl, q3⟩
  have HQ3 := (show Hid _ from HQ2.out.trans q3)
  obtain ⟨A3, m3, k3, rfl, hm3⟩ := q3.f.n
  clear q3 HQ2
  go_wp2_with fail
  refine (addD_any t ht HQ3.out.d HQ3.out.f).mono ?_
  rintro e w4 ⟨v4, rfl, q4⟩
  have HQ4 := (show Hid _ from HQ3.out.trans q4)
  obtain ⟨A4, m4, k4, rfl, hm4⟩ := q4.f.n
  clear q4 HQ3
  go_wp2_with fail
  go_ret
  exact ⟨_, rfl, by have h := HQ4.out; rw [HE.out] at h; exact h⟩
/-- The document's Kids, beside the teller. -/
theorem kidsD_any {L : List Nd} {B tb gp op cp g1 c1 k : Nat} (hL : L.length ≤ 2048) (hk : k < L.length) (he : ∀ i, i < L.length → T.er L i = 0) {x : Option (List UInt8)} {W W' : World} (hd : Dt W B tb L gp op cp g1 c1 x) (hb : Below W.heap.size W W') : Calls Tryz.prog 57 #[.slice (some ⟨gp, op, none⟩) L.length cp, .slice (some ⟨g1, 0, none⟩) L.length c1, .int .i64 k] W' fun e W'' => (∃ u, e = .returned u ∧ KdF W'' tb u (kds L k)) ∧ Below W'.heap.size W' W'' := by
  have h := hd.later hb
  have hlt := h.lt
  obtain ⟨_, ⟨cur, b1, b2⟩, hn, lg, ltb⟩ := h
  refine (T.kids_any L gp op cp g1 c1 k hL hk he W' hn (by omega) (fun i hi => by rw [b1.cell i]; exact b2 i hi)).mono ?_
  rintro e W'' ⟨⟨u, rfl, ho⟩, bl⟩
  refine ⟨⟨u, rfl, ?_⟩, bl⟩
  obtain ⟨n, hnn⟩ : ∃ n, L[k]? = some n := ⟨_, List.getElem?_eq_getElem hk⟩
  have hop : T.opAt L k = n.op := T.op_of hnn
  have hkr := kds_run hnn (fun j hj => he j (by omega))
  have hkl := kds_len L k
  have hx : T.lastc ((T.run L k).take (T.arN (T.opAt L k))).reverse = (kds L k).map fun (j : Nat) => Value.int .i64 (j : Int) := by
    rw [hkr, hop, List.map_map]
    rfl
  rw [hx, ← hkl] at ho
  obtain ⟨h1, ho⟩ := ho
  rcases ho with ⟨q1, q2⟩ | ⟨g, cap, cur2, q1, q2, q3, q4, q5, q6, q7⟩
  · have : kds L k = [] := by
      apply List.eq_nil_of_length_eq_zero
      omega
    exact ⟨none, 0, by rw [this]; exact q1, fun h => absurd this h⟩
  · refine ⟨_, cap, q1, fun _ => ⟨g, cur2, rfl, ⟨⟨_, q3⟩, by omega, by decide⟩, fun i j hij => ?_⟩⟩
    have hi := (List.getElem?_eq_some_iff.1 hij).1
    have h2 : (cur2.toList.take ((kds L k).length * 1))[i]? = some (.int .i64 (j : Int)) := by rw [q7, List.getElem?_map, hij]; rfl
    rw [List.getElem?_take, if_pos (by omega)] at h2
    rw [← Array.getElem?_toList]
    exact h2
end Go.Proofs.YtnpifgcgjgddoaaGreatDoor.N

namespace Go.Proofs.YtnpifgcgjgddoaaGreatDoor.N
open Go.RowKit
theorem en_0 {L : List Nd} {k : Nat} {n : Nd} (hn : L[k]? = some n) (he : ∀ j, j < L.length → T.er L j = 0) (ha : T.arN n.op = 0) : itT (enX L k).2 = (frA n).data.toList ++ (frC n).data.toList ∧ kds L k = [] := by
  have hk : k < L.length := (List.getElem?_eq_some_iff.1 hn).1
  have e : kds L k = [] := by unfold kds; rw [T.op_of hn, if_pos ha]
  have h := en_text hn (fun j hj => he j (by omega))
  rw [e] at h
  exact ⟨h, e⟩
theorem en_1 {L : List Nd} {k : Nat} {n : Nd} (hn : L[k]? = some n) (he : ∀ j, j < L.length → T.er L j = 0) (ha : T.arN n.op = 1) : itT (enX L k).2 = (frA n).data.toList ++ (itT (partI (asK n.op 0) (enX L (k - 1))) ++ (frC n).data.toList) ∧ kds L k = [k - 1] ∧ 1 ≤ k := by
  have hk : k < L.length := (List.getElem?_eq_some_iff.1 hn).1
  have e : kds L k = [k - 1] := by unfold kds; rw [T.op_of hn, if_neg (by omega), if_pos ha]
  have h := en_text hn (fun j hj => he j (by omega))
  have hl := kds_lt hn (fun j hj => he j (by omega)) (k - 1) (by rw [e]; exact List.mem_singleton.2 rfl)
  rw [e] at h
  refine ⟨?_, e, by omega⟩
  rw [h]
  show _ ++ (kdT L n [k - 1] (0 + 1) ++ _) = _
  rw [kdT_succ (j := k - 1) rfl, if_pos rfl]
  rfl
theorem en_2 {L : List Nd} {k : Nat} {n : Nd} (hn : L[k]? = some n) (he : ∀ j, j < L.length → T.er L j = 0) (ha : T.arN n.op = 2) : ∃ i j, itT (enX L k).2 = (frA n).data.toList ++ ((itT (partI (asK n.op 0) (enX L i)) ++ ((frB n).data.toList ++ itT (partI (asK n.op 1) (enX L j)))) ++ (frC n).data.toList) ∧ kds L k = [i, j] := by
  have hk : k < L.length := (List.getElem?_eq_some_iff.1 hn).1
  have e : kds L k = [(T.pt L (k - 1)).1 - 1, k - 1] := by unfold kds; rw [T.op_of hn, if_neg (by omega), if_neg (by omega)]
  have h := en_text hn (fun j hj => he j (by omega))
  rw [e] at h
  refine ⟨_, _, ?_, e⟩
  rw [h]
  show _ ++ (kdT L n [(T.pt L (k - 1)).1 - 1, k - 1] (1 + 1) ++ _) = _
  rw [kdT_succ (j := k - 1) rfl, if_neg (by omega)]
  show _ ++ ((kdT L n [(T.pt L (k - 1)).1 - 1, k - 1] (0 + 1) ++ _) ++ _) = _
  rw [kdT_succ (j := (T.pt L (k - 1)).1 - 1) rfl, if_pos rfl]
  rfl
theorem nn_of {n : Nd} (h : T.alE n = 0) : ∃ m : Nat, n.nn = (m : Int) ∧ m ≤ 50 := by
  by_cases q : n.op = 14 ∨ n.op = 15 ∨ n.op = 16 ∨ n.op = 23
  · obtain ⟨_, h1, h2⟩ := nd_n h q
    exact ⟨n.nn.toNat, by omega, by omega⟩
  · exact ⟨0, al_nu h (by omega), by omega⟩
theorem part_zero (e : Ent) : itT (partI 0 e) = itT e.2 := by unfold partI; rw [if_neg (by omega)]
theorem dg_small {m : Nat} (h : m ≤ 50) : (dgT 10 m).length ≤ 100 := by
  have := dgT_len 10 (by omega) 1 m (by show m < 100; omega)
  omega
/-- What stands once a node's parts and its number are known. -/
structure Nz (W W' : World) (B tb : Nat) (L : List Nd) (gp op cp g1 c1 : Nat) (x : Option (List UInt8)) (v : Value) (nb : Nat) (n : Nd) (u : Value) (ks : List Nat) : Prop where
  q : Dq W W' B tb L gp op cp g1 c1 x v
  nd : Fx W' tb nb (T.ndV n).toArray 51
  kd : KdF W' tb u ks
theorem Nz.next {W W1 W2 : World} {B tb : Nat} {L : List Nd} {gp op cp g1 c1 : Nat} {x y : Option (List UInt8)} {v v2 : Value} {nb : Nat} {n : Nd} {u : Value} {ks : List Nat} (h : Nz W W1 B tb L gp op cp g1 c1 x v nb n u ks) (h2 : Dq W1 W2 B tb L gp op cp g1 c1 y v2) : Nz W W2 B tb L gp op cp g1 c1 y v2 nb n u ks := ⟨h.q.trans h2, h.nd.keep h2.k, h.kd.keep h2.k⟩
theorem Nz.later {W W1 W2 : World} {B tb : Nat} {L : List Nd} {gp op cp g1 c1 : Nat} {x : Option (List UInt8)} {v : Value} {nb : Nat} {n : Nd} {u : Value} {ks : List Nat} (h : Nz W W1 B tb L gp op cp g1 c1 x v nb n u ks) (hb : Below W1.heap.size W1 W2) : Nz W W2 B tb L gp op cp g1 c1 x v nb n u ks := ⟨h.q.later hb, h.nd.keep (KeepT.below hb), h.kd.keep (KeepT.below hb)⟩
theorem Nz.mk1 {W W1 W2 : World} {B tb : Nat} {L : List Nd} {gp op cp g1 c1 : Nat} {x : Option (List UInt8)} {v : Value} {n : Nd} {u : Value} {ks : List Nat} (hd : Dt W B tb L gp op cp g1 c1 x) (hf : Bf W B x v) (e1 : W1 = W.alloc (.cells (T.ndV n).toArray 51)) (hb : Below W1.heap.size W1 W2) (hk : KdF W2 tb u ks) : Nz W W2 B tb L gp op cp g1 c1 x v W.heap.size n u ks := by
  subst e1
  have hlt := hd.lt
  refine ⟨((Dq.start hd hf).later (below_box W _)).later hb, ?_, hk⟩
  refine Fx.keep ⟨⟨_, heap_alloc_new W _⟩, by omega, by decide⟩ (KeepT.below hb)
end Go.Proofs.YtnpifgcgjgddoaaGreatDoor.N

namespace Go.Proofs.YtnpifgcgjgddoaaGreatDoor.N
open Go.RowKit
set_option maxRecDepth 100000 in
set_option maxHeartbeats 4000000 in
theorem nodeD_1 {L : List Nd} {B tb gp op cp g1 c1 k : Nat} {nn : Int} {tx : ByteArray} {a b c d : Int} (hn : L[k]? = some ⟨1, nn, tx, a, b, c, d⟩) (hL : L.length ≤ 2048) (he : ∀ i, i < L.length → T.er L i = 0) (hw : NdW ⟨1, nn, tx, a, b, c, d⟩) (hc : ∀ j ∈ kds L k, ∀ d, DPar L B tb gp op cp g1 c1 j d) : DNod L B tb gp op cp g1 c1 k := by
  intro W x v hD hF
  have hk : k < L.length := (List.getElem?_eq_some_iff.1 hn).1
  have hal := (T.er_ok hn (he k hk)).al
  obtain ⟨m, hm, hm2⟩ := nn_of hal
  dsimp only at hm
  subst hm
  obtain ⟨fa, fb, fc⟩ := fr1 (n := ⟨1, (m : Int), tx, a, b, c, d⟩) rfl
  obtain ⟨hT, hks⟩ := en_0 hn he rfl
  rw [fa, fc] at hT
  rw [show (⟨#[37, 101]⟩ : ByteArray).data.toList ++ (⟨#[]⟩ : ByteArray).data.toList = (⟨#[37, 101]⟩ : ByteArray).data.toList from rfl] at hT
  rw [hT]
  have a0 := hD.c0
  have a1 := hD.c1
  obtain ⟨c0, c1', c2, c3, c4, c5, c6⟩ := hD.n k _ hn
  have z0 : (0 : Int) ≤ (k : Int) := by omega
  have z1 : (k : Int) < (L.length : Int) := by omega
  obtain ⟨w0, hw0⟩ : ∃ w0, w0 = W.alloc (.cells (T.ndV ⟨1, (m : Int), tx, a, b, c, d⟩).toArray 51) := ⟨_, rfl⟩
  have hb0 : Below W.heap.size W w0 := by rw [hw0]; exact below_box W _
  have HE0 := (show Hid (W.alloc (.cells #[.int .i64 1, .int .i64 (m : Int), .string tx, .int .u64 a, .int .u64 b, .int .u64 c, .int .u64 d] 51) = w0) from hw0.symm)
  have HK : Hid (∀ _ : Unit, Calls Tryz.prog 57 #[.slice (some ⟨gp, op, none⟩) L.length cp, .slice (some ⟨g1, 0, none⟩) L.length c1, .int .i64 k] w0.drew fun e W'' => (∃ u, e = .returned u ∧ Nz W W'' B tb L gp op cp g1 c1 x v W.heap.size ⟨1, (m : Int), tx, a, b, c, d⟩ u (kds L k)) ∧ Below w0.heap.size w0 W'') := fun _ => by
    refine (kidsD_any hL hk he hD (hb0.drew)).mono ?_
    rintro e W'' ⟨⟨u, rfl, hu⟩, bl⟩
    have bl2 : Below w0.heap.size w0 W'' := ((Below.refl _ w0).drew).trans bl
    exact ⟨⟨u, rfl, Nz.mk1 hD hF hw0 bl2 hu⟩, bl2⟩
  have d0 : w0.cell? ⟨tb, 0, none⟩ = some (.slice (some ⟨gp, op, none⟩) L.length cp) := (hD.later hb0).c0
  have d1 : w0.cell? ⟨tb, 1, none⟩ = some (.slice (some ⟨g1, 0, none⟩) L.length c1) := (hD.later hb0).c1
  have HWh : Hid (∀ w, Calls Tryz.prog 82 #[.int .i64 m, .int .i64 10] w fun e w' => e = .returned (.string ⟨(dgT 10 m).toArray⟩) ∧ w' = w) := fun w => whole10_any m (by omega) w
  have HC := (show Hid _ from hc)
  rw [hks] at HK HC
  obtain ⟨A0, n0, k0, rfl, hn0⟩ := hF.n
  clear hT hks hc hD hF hal fa fb fc hw0 hb0 hw he hn
  go_enter Tryz.func77, Tryz.ntmps77
  go_wp2_with (rw [HE0.out])
  go_region_held3 (fun W' => W'.cell? ⟨tb, 0, none⟩ = some (.slice (some ⟨gp, op, none⟩) L.length cp) ∧ W'.cell? ⟨tb, 1, none⟩ = some (.slice (some ⟨g1, 0, none⟩) L.length c1)) (first | go_keep | exact ⟨hz.q.d.c0, hz.q.d.c1⟩ | exact ⟨d0, d1⟩) ((with_reducible refine (HK.out ()).mono ?_; rintro e wA ⟨⟨u, rfl, hz⟩, _⟩))
  have HZ := (show Hid _ from hz)
  rename_i hHeld
  clear hHeld hz HK HE0 d0 d1 a0 a1 c0 c1' c2 c3 c4 c5 c6
  have e0 : wA.cell? ⟨W.heap.size, 0, none⟩ = some (.int .i64 1) := HZ.out.nd.cell 0
  have e1 : wA.cell? ⟨W.heap.size, 1, none⟩ = some (.int .i64 m) := HZ.out.nd.cell 1
  have e2 : wA.cell? ⟨W.heap.size, 2, none⟩ = some (.string tx) := HZ.out.nd.cell 2
  go_wp2_with fail
  refine (HWh.out _).mono ?_
  rintro e w1 ⟨rfl, rfl⟩
  clear HWh
  go_wp2_with fail
  refine (addD_any ⟨#[37, 101]⟩ (by decide) HZ.out.q.d HZ.out.q.f).mono ?_
  rintro e w2 ⟨v2, rfl, q2⟩
  have HQ := (show Hid (Dq W w2 B tb L gp op cp g1 c1 (adT x (⟨#[37, 101]⟩ : ByteArray).data.toList) v2) from HZ.out.q.trans q2)
  clear q2 HZ e0 e1 e2
  obtain ⟨A9, n9, k9, rfl, hn9⟩ := HQ.out.f.n
  go_wp2_with fail
  go_ret
  exact ⟨_, rfl, HQ.out⟩
set_option maxRecDepth 100000 in
set_option maxHeartbeats 4000000 in
theorem nodeD_2 {L : List Nd} {B tb gp op cp g1 c1 k : Nat} {nn : Int} {tx : ByteArray} {a b c d : Int} (hn : L[k]? = some ⟨2, nn, tx, a, b, c, d⟩) (hL : L.length ≤ 2048) (he : ∀ i, i < L.length → T.er L i = 0) (hw : NdW ⟨2, nn, tx, a, b, c, d⟩) (hc : ∀ j ∈ kds L k, ∀ d, DPar L B tb gp op cp g1 c1 j d) : DNod L B tb gp op cp g1 c1 k := by
  intro W x v hD hF
  have hk : k < L.length := (List.getElem?_eq_some_iff.1 hn).1
  have hal := (T.er_ok hn (he k hk)).al
  obtain ⟨m, hm, hm2⟩ := nn_of hal
  dsimp only at hm
  subst hm
  obtain ⟨fa, fb, fc⟩ := fr2 (n := ⟨2, (m : Int), tx, a, b, c, d⟩) rfl
  obtain ⟨hT, hks⟩ := en_0 hn he rfl
  rw [fa, fc] at hT
  rw [show (⟨#[37, 102]⟩ : ByteArray).data.toList ++ (⟨#[]⟩ : ByteArray).data.toList = (⟨#[37, 102]⟩ : ByteArray).data.toList from rfl] at hT
  rw [hT]
  have a0 := hD.c0
  have a1 := hD.c1
  obtain ⟨c0, c1', c2, c3, c4, c5, c6⟩ := hD.n k _ hn
  have z0 : (0 : Int) ≤ (k : Int) := by omega
  have z1 : (k : Int) < (L.length : Int) := by omega
  obtain ⟨w0, hw0⟩ : ∃ w0, w0 = W.alloc (.cells (T.ndV ⟨2, (m : Int), tx, a, b, c, d⟩).toArray 51) := ⟨_, rfl⟩
  have hb0 : Below W.heap.size W w0 := by rw [hw0]; exact below_box W _
  have HE0 := (show Hid (W.alloc (.cells #[.int .i64 2, .int .i64 (m : Int), .string tx, .int .u64 a, .int .u64 b, .int .u64 c, .int .u64 d] 51) = w0) from hw0.symm)
  have HK : Hid (∀ _ : Unit, Calls Tryz.prog 57 #[.slice (some ⟨gp, op, none⟩) L.length cp, .slice (some ⟨g1, 0, none⟩) L.length c1, .int .i64 k] w0.drew fun e W'' => (∃ u, e = .returned u ∧ Nz W W'' B tb L gp op cp g1 c1 x v W.heap.size ⟨2, (m : Int), tx, a, b, c, d⟩ u (kds L k)) ∧ Below w0.heap.size w0 W'') := fun _ => by
    refine (kidsD_any hL hk he hD (hb0.drew)).mono ?_
    rintro e W'' ⟨⟨u, rfl, hu⟩, bl⟩
    have bl2 : Below w0.heap.size w0 W'' := ((Below.refl _ w0).drew).trans bl
    exact ⟨⟨u, rfl, Nz.mk1 hD hF hw0 bl2 hu⟩, bl2⟩
  have d0 : w0.cell? ⟨tb, 0, none⟩ = some (.slice (some ⟨gp, op, none⟩) L.length cp) := (hD.later hb0).c0
  have d1 : w0.cell? ⟨tb, 1, none⟩ = some (.slice (some ⟨g1, 0, none⟩) L.length c1) := (hD.later hb0).c1
  have HWh : Hid (∀ w, Calls Tryz.prog 82 #[.int .i64 m, .int .i64 10] w fun e w' => e = .returned (.string ⟨(dgT 10 m).toArray⟩) ∧ w' = w) := fun w => whole10_any m (by omega) w
  have HC := (show Hid _ from hc)
  rw [hks] at HK HC
  obtain ⟨A0, n0, k0, rfl, hn0⟩ := hF.n
  clear hT hks hc hD hF hal fa fb fc hw0 hb0 hw he hn
  go_enter Tryz.func77, Tryz.ntmps77
  go_wp2_with (rw [HE0.out])
  go_region_held3 (fun W' => W'.cell? ⟨tb, 0, none⟩ = some (.slice (some ⟨gp, op, none⟩) L.length cp) ∧ W'.cell? ⟨tb, 1, none⟩ = some (.slice (some ⟨g1, 0, none⟩) L.length c1)) (first | go_keep | exact ⟨hz.q.d.c0, hz.q.d.c1⟩ | exact ⟨d0, d1⟩) ((with_reducible refine (HK.out ()).mono ?_; rintro e wA ⟨⟨u, rfl, hz⟩, _⟩))
  have HZ := (show Hid _ from hz)
  rename_i hHeld
  clear hHeld hz HK HE0 d0 d1 a0 a1 c0 c1' c2 c3 c4 c5 c6
  have e0 : wA.cell? ⟨W.heap.size, 0, none⟩ = some (.int .i64 2) := HZ.out.nd.cell 0
  have e1 : wA.cell? ⟨W.heap.size, 1, none⟩ = some (.int .i64 m) := HZ.out.nd.cell 1
  have e2 : wA.cell? ⟨W.heap.size, 2, none⟩ = some (.string tx) := HZ.out.nd.cell 2
  go_wp2_with fail
  refine (HWh.out _).mono ?_
  rintro e w1 ⟨rfl, rfl⟩
  clear HWh
  go_wp2_with fail
  refine (addD_any ⟨#[37, 102]⟩ (by decide) HZ.out.q.d HZ.out.q.f).mono ?_
  rintro e w2 ⟨v2, rfl, q2⟩
  have HQ := (show Hid (Dq W w2 B tb L gp op cp g1 c1 (adT x (⟨#[37, 102]⟩ : ByteArray).data.toList) v2) from HZ.out.q.trans q2)
  clear q2 HZ e0 e1 e2
  obtain ⟨A9, n9, k9, rfl, hn9⟩ := HQ.out.f.n
  go_wp2_with fail
  go_ret
  exact ⟨_, rfl, HQ.out⟩
set_option maxRecDepth 100000 in
set_option maxHeartbeats 4000000 in
theorem nodeD_3 {L : List Nd} {B tb gp op cp g1 c1 k : Nat} {nn : Int} {tx : ByteArray} {a b c d : Int} (hn : L[k]? = some ⟨3, nn, tx, a, b, c, d⟩) (hL : L.length ≤ 2048) (he : ∀ i, i < L.length → T.er L i = 0) (hw : NdW ⟨3, nn, tx, a, b, c, d⟩) (hc : ∀ j ∈ kds L k, ∀ d, DPar L B tb gp op cp g1 c1 j d) : DNod L B tb gp op cp g1 c1 k := by
  intro W x v hD hF
  have hk : k < L.length := (List.getElem?_eq_some_iff.1 hn).1
  have hal := (T.er_ok hn (he k hk)).al
  obtain ⟨m, hm, hm2⟩ := nn_of hal
  dsimp only at hm
  subst hm
  obtain ⟨fa, fb, fc⟩ := fr3 (n := ⟨3, (m : Int), tx, a, b, c, d⟩) rfl
  obtain ⟨hT, hks⟩ := en_0 hn he rfl
  rw [fa, fc] at hT
  rw [show (⟨#[46]⟩ : ByteArray).data.toList ++ (⟨#[]⟩ : ByteArray).data.toList = (⟨#[46]⟩ : ByteArray).data.toList from rfl] at hT
  rw [hT]
  have a0 := hD.c0
  have a1 := hD.c1
  obtain ⟨c0, c1', c2, c3, c4, c5, c6⟩ := hD.n k _ hn
  have z0 : (0 : Int) ≤ (k : Int) := by omega
  have z1 : (k : Int) < (L.length : Int) := by omega
  obtain ⟨w0, hw0⟩ : ∃ w0, w0 = W.alloc (.cells (T.ndV ⟨3, (m : Int), tx, a, b, c, d⟩).toArray 51) := ⟨_, rfl⟩
  have hb0 : Below W.heap.size W w0 := by rw [hw0]; exact below_box W _
  have HE0 := (show Hid (W.alloc (.cells #[.int .i64 3, .int .i64 (m : Int), .string tx, .int .u64 a, .int .u64 b, .int .u64 c, .int .u64 d] 51) = w0) from hw0.symm)
  have HK : Hid (∀ _ : Unit, Calls Tryz.prog 57 #[.slice (some ⟨gp, op, none⟩) L.length cp, .slice (some ⟨g1, 0, none⟩) L.length c1, .int .i64 k] w0.drew fun e W'' => (∃ u, e = .returned u ∧ Nz W W'' B tb L gp op cp g1 c1 x v W.heap.size ⟨3, (m : Int), tx, a, b, c, d⟩ u (kds L k)) ∧ Below w0.heap.size w0 W'') := fun _ => by
    refine (kidsD_any hL hk he hD (hb0.drew)).mono ?_
    rintro e W'' ⟨⟨u, rfl, hu⟩, bl⟩
    have bl2 : Below w0.heap.size w0 W'' := ((Below.refl _ w0).drew).trans bl
    exact ⟨⟨u, rfl, Nz.mk1 hD hF hw0 bl2 hu⟩, bl2⟩
  have d0 : w0.cell? ⟨tb, 0, none⟩ = some (.slice (some ⟨gp, op, none⟩) L.length cp) := (hD.later hb0).c0
  have d1 : w0.cell? ⟨tb, 1, none⟩ = some (.slice (some ⟨g1, 0, none⟩) L.length c1) := (hD.later hb0).c1
  have HWh : Hid (∀ w, Calls Tryz.prog 82 #[.int .i64 m, .int .i64 10] w fun e w' => e = .returned (.string ⟨(dgT 10 m).toArray⟩) ∧ w' = w) := fun w => whole10_any m (by omega) w
  have HC := (show Hid _ from hc)
  rw [hks] at HK HC
  obtain ⟨A0, n0, k0, rfl, hn0⟩ := hF.n
  clear hT hks hc hD hF hal fa fb fc hw0 hb0 hw he hn
  go_enter Tryz.func77, Tryz.ntmps77
  go_wp2_with (rw [HE0.out])
  go_region_held3 (fun W' => W'.cell? ⟨tb, 0, none⟩ = some (.slice (some ⟨gp, op, none⟩) L.length cp) ∧ W'.cell? ⟨tb, 1, none⟩ = some (.slice (some ⟨g1, 0, none⟩) L.length c1)) (first | go_keep | exact ⟨hz.q.d.c0, hz.q.d.c1⟩ | exact ⟨d0, d1⟩) ((with_reducible refine (HK.out ()).mono ?_; rintro e wA ⟨⟨u, rfl, hz⟩, _⟩))
  have HZ := (show Hid _ from hz)
  rename_i hHeld
  clear hHeld hz HK HE0 d0 d1 a0 a1 c0 c1' c2 c3 c4 c5 c6
  have e0 : wA.cell? ⟨W.heap.size, 0, none⟩ = some (.int .i64 3) := HZ.out.nd.cell 0
  have e1 : wA.cell? ⟨W.heap.size, 1, none⟩ = some (.int .i64 m) := HZ.out.nd.cell 1
  have e2 : wA.cell? ⟨W.heap.size, 2, none⟩ = some (.string tx) := HZ.out.nd.cell 2
  go_wp2_with fail
  refine (HWh.out _).mono ?_
  rintro e w1 ⟨rfl, rfl⟩
  clear HWh
  go_wp2_with fail
  refine (addD_any ⟨#[46]⟩ (by decide) HZ.out.q.d HZ.out.q.f).mono ?_
  rintro e w2 ⟨v2, rfl, q2⟩
  have HQ := (show Hid (Dq W w2 B tb L gp op cp g1 c1 (adT x (⟨#[46]⟩ : ByteArray).data.toList) v2) from HZ.out.q.trans q2)
  clear q2 HZ e0 e1 e2
  obtain ⟨A9, n9, k9, rfl, hn9⟩ := HQ.out.f.n
  go_wp2_with fail
  go_ret
  exact ⟨_, rfl, HQ.out⟩
set_option maxRecDepth 100000 in
set_option maxHeartbeats 4000000 in
theorem nodeD_17 {L : List Nd} {B tb gp op cp g1 c1 k : Nat} {nn : Int} {tx : ByteArray} {a b c d : Int} (hn : L[k]? = some ⟨17, nn, tx, a, b, c, d⟩) (hL : L.length ≤ 2048) (he : ∀ i, i < L.length → T.er L i = 0) (hw : NdW ⟨17, nn, tx, a, b, c, d⟩) (hc : ∀ j ∈ kds L k, ∀ d, DPar L B tb gp op cp g1 c1 j d) : DNod L B tb gp op cp g1 c1 k := by
  intro W x v hD hF
  have hk : k < L.length := (List.getElem?_eq_some_iff.1 hn).1
  have hal := (T.er_ok hn (he k hk)).al
  obtain ⟨m, hm, hm2⟩ := nn_of hal
  dsimp only at hm
  subst hm
  obtain ⟨fa, fb, fc⟩ := fr17 (n := ⟨17, (m : Int), tx, a, b, c, d⟩) rfl
  obtain ⟨hT, hks⟩ := en_0 hn he rfl
  rw [fa, fc] at hT
  rw [show (⟨#[123, 125]⟩ : ByteArray).data.toList ++ (⟨#[]⟩ : ByteArray).data.toList = (⟨#[123, 125]⟩ : ByteArray).data.toList from rfl] at hT
  rw [hT]
  have a0 := hD.c0
  have a1 := hD.c1
  obtain ⟨c0, c1', c2, c3, c4, c5, c6⟩ := hD.n k _ hn
  have z0 : (0 : Int) ≤ (k : Int) := by omega
  have z1 : (k : Int) < (L.length : Int) := by omega
  obtain ⟨w0, hw0⟩ : ∃ w0, w0 = W.alloc (.cells (T.ndV ⟨17, (m : Int), tx, a, b, c, d⟩).toArray 51) := ⟨_, rfl⟩
  have hb0 : Below W.heap.size W w0 := by rw [hw0]; exact below_box W _
  have HE0 := (show Hid (W.alloc (.cells #[.int .i64 17, .int .i64 (m : Int), .string tx, .int .u64 a, .int .u64 b, .int .u64 c, .int .u64 d] 51) = w0) from hw0.symm)
  have HK : Hid (∀ _ : Unit, Calls Tryz.prog 57 #[.slice (some ⟨gp, op, none⟩) L.length cp, .slice (some ⟨g1, 0, none⟩) L.length c1, .int .i64 k] w0.drew fun e W'' => (∃ u, e = .returned u ∧ Nz W W'' B tb L gp op cp g1 c1 x v W.heap.size ⟨17, (m : Int), tx, a, b, c, d⟩ u (kds L k)) ∧ Below w0.heap.size w0 W'') := fun _ => by
    refine (kidsD_any hL hk he hD (hb0.drew)).mono ?_
    rintro e W'' ⟨⟨u, rfl, hu⟩, bl⟩
    have bl2 : Below w0.heap.size w0 W'' := ((Below.refl _ w0).drew).trans bl
    exact ⟨⟨u, rfl, Nz.mk1 hD hF hw0 bl2 hu⟩, bl2⟩
  have d0 : w0.cell? ⟨tb, 0, none⟩ = some (.slice (some ⟨gp, op, none⟩) L.length cp) := (hD.later hb0).c0
  have d1 : w0.cell? ⟨tb, 1, none⟩ = some (.slice (some ⟨g1, 0, none⟩) L.length c1) := (hD.later hb0).c1
  have HWh : Hid (∀ w, Calls Tryz.prog 82 #[.int .i64 m, .int .i64 10] w fun e w' => e = .returned (.string ⟨(dgT 10 m).toArray⟩) ∧ w' = w) := fun w => whole10_any m (by omega) w
  have HC := (show Hid _ from hc)
  rw [hks] at HK HC
  obtain ⟨A0, n0, k0, rfl, hn0⟩ := hF.n
  clear hT hks hc hD hF hal fa fb fc hw0 hb0 hw he hn
  go_enter Tryz.func77, Tryz.ntmps77
  go_wp2_with (rw [HE0.out])
  go_region_held3 (fun W' => W'.cell? ⟨tb, 0, none⟩ = some (.slice (some ⟨gp, op, none⟩) L.length cp) ∧ W'.cell? ⟨tb, 1, none⟩ = some (.slice (some ⟨g1, 0, none⟩) L.length c1)) (first | go_keep | exact ⟨hz.q.d.c0, hz.q.d.c1⟩ | exact ⟨d0, d1⟩) ((with_reducible refine (HK.out ()).mono ?_; rintro e wA ⟨⟨u, rfl, hz⟩, _⟩))
  have HZ := (show Hid _ from hz)
  rename_i hHeld
  clear hHeld hz HK HE0 d0 d1 a0 a1 c0 c1' c2 c3 c4 c5 c6
  have e0 : wA.cell? ⟨W.heap.size, 0, none⟩ = some (.int .i64 17) := HZ.out.nd.cell 0
  have e1 : wA.cell? ⟨W.heap.size, 1, none⟩ = some (.int .i64 m) := HZ.out.nd.cell 1
  have e2 : wA.cell? ⟨W.heap.size, 2, none⟩ = some (.string tx) := HZ.out.nd.cell 2
  go_wp2_with fail
  refine (HWh.out _).mono ?_
  rintro e w1 ⟨rfl, rfl⟩
  clear HWh
  go_wp2_with fail
  refine (addD_any ⟨#[123, 125]⟩ (by decide) HZ.out.q.d HZ.out.q.f).mono ?_
  rintro e w2 ⟨v2, rfl, q2⟩
  have HQ := (show Hid (Dq W w2 B tb L gp op cp g1 c1 (adT x (⟨#[123, 125]⟩ : ByteArray).data.toList) v2) from HZ.out.q.trans q2)
  clear q2 HZ e0 e1 e2
  obtain ⟨A9, n9, k9, rfl, hn9⟩ := HQ.out.f.n
  go_wp2_with fail
  go_ret
  exact ⟨_, rfl, HQ.out⟩
end Go.Proofs.YtnpifgcgjgddoaaGreatDoor.N

namespace Go.Proofs.YtnpifgcgjgddoaaGreatDoor.N
open Go.RowKit
set_option maxRecDepth 100000 in
set_option maxHeartbeats 4000000 in
theorem nodeD_9 {L : List Nd} {B tb gp op cp g1 c1 k : Nat} {nn : Int} {tx : ByteArray} {a b c d : Int} (hn : L[k]? = some ⟨9, nn, tx, a, b, c, d⟩) (hL : L.length ≤ 2048) (he : ∀ i, i < L.length → T.er L i = 0) (hw : NdW ⟨9, nn, tx, a, b, c, d⟩) (hc : ∀ j ∈ kds L k, ∀ d, DPar L B tb gp op cp g1 c1 j d) : DNod L B tb gp op cp g1 c1 k := by
  intro W x v hD hF
  have hk : k < L.length := (List.getElem?_eq_some_iff.1 hn).1
  have hal := (T.er_ok hn (he k hk)).al
  obtain ⟨m, hm, hm2⟩ := nn_of hal
  dsimp only at hm
  subst hm
  obtain ⟨fa, fb, fc⟩ := fr9 (n := ⟨9, (m : Int), tx, a, b, c, d⟩) rfl
  obtain ⟨hT, hks, hk1⟩ := en_1 hn he rfl
  obtain ⟨kk, hkk⟩ : ∃ kk, kk = k - 1 := ⟨_, rfl⟩
  rw [← hkk] at hT hks
  have HKK := (show Hid ((k : Int) = (kk : Int) + 1) from by show (k : Int) = (kk : Int) + 1; omega)
  clear hkk hk1
  rw [fa, fc] at hT
  replace hT : itT (enX L k).2 = itT (partI 3 (enX L kk)) ++ (⟨#[42]⟩ : ByteArray).data.toList := hT
  rw [hT]
  have a0 := hD.c0
  have a1 := hD.c1
  obtain ⟨c0, c1', c2, c3, c4, c5, c6⟩ := hD.n k _ hn
  have z0 : (0 : Int) ≤ (k : Int) := by omega
  have z1 : (k : Int) < (L.length : Int) := by omega
  obtain ⟨w0, hw0⟩ : ∃ w0, w0 = W.alloc (.cells (T.ndV ⟨9, (m : Int), tx, a, b, c, d⟩).toArray 51) := ⟨_, rfl⟩
  have hb0 : Below W.heap.size W w0 := by rw [hw0]; exact below_box W _
  have HE0 := (show Hid (W.alloc (.cells #[.int .i64 9, .int .i64 (m : Int), .string tx, .int .u64 a, .int .u64 b, .int .u64 c, .int .u64 d] 51) = w0) from hw0.symm)
  have HK : Hid (∀ _ : Unit, Calls Tryz.prog 57 #[.slice (some ⟨gp, op, none⟩) L.length cp, .slice (some ⟨g1, 0, none⟩) L.length c1, .int .i64 k] w0.drew fun e W'' => (∃ u, e = .returned u ∧ Nz W W'' B tb L gp op cp g1 c1 x v W.heap.size ⟨9, (m : Int), tx, a, b, c, d⟩ u (kds L k)) ∧ Below w0.heap.size w0 W'') := fun _ => by
    refine (kidsD_any hL hk he hD (hb0.drew)).mono ?_
    rintro e W'' ⟨⟨u, rfl, hu⟩, bl⟩
    have bl2 : Below w0.heap.size w0 W'' := ((Below.refl _ w0).drew).trans bl
    exact ⟨⟨u, rfl, Nz.mk1 hD hF hw0 bl2 hu⟩, bl2⟩
  have d0 : w0.cell? ⟨tb, 0, none⟩ = some (.slice (some ⟨gp, op, none⟩) L.length cp) := (hD.later hb0).c0
  have d1 : w0.cell? ⟨tb, 1, none⟩ = some (.slice (some ⟨g1, 0, none⟩) L.length c1) := (hD.later hb0).c1
  have HWh : Hid (∀ w, Calls Tryz.prog 82 #[.int .i64 m, .int .i64 10] w fun e w' => e = .returned (.string ⟨(dgT 10 m).toArray⟩) ∧ w' = w) := fun w => whole10_any m (by omega) w
  have HC := (show Hid _ from hc)
  rw [hks] at HK HC
  obtain ⟨A0, n0, k0, rfl, hn0⟩ := hF.n
  clear hT hks hc hD hF hal fa fb fc hw0 hb0 hw he hn
  go_enter Tryz.func77, Tryz.ntmps77
  go_wp2_with (rw [HE0.out])
  go_region_held3 (fun W' => W'.cell? ⟨tb, 0, none⟩ = some (.slice (some ⟨gp, op, none⟩) L.length cp) ∧ W'.cell? ⟨tb, 1, none⟩ = some (.slice (some ⟨g1, 0, none⟩) L.length c1)) (first | go_keep | exact ⟨hz.q.d.c0, hz.q.d.c1⟩ | exact ⟨d0, d1⟩) ((with_reducible refine (HK.out ()).mono ?_; rintro e wA ⟨⟨u, rfl, hz⟩, _⟩))
  have HZ := (show Hid _ from hz)
  rename_i hHeld
  clear hHeld hz HK HE0 d0 d1 a0 a1 c0 c1' c2 c3 c4 c5 c6
  have e0 : wA.cell? ⟨W.heap.size, 0, none⟩ = some (.int .i64 9) := HZ.out.nd.cell 0
  have e1 : wA.cell? ⟨W.heap.size, 1, none⟩ = some (.int .i64 m) := HZ.out.nd.cell 1
  have e2 : wA.cell? ⟨W.heap.size, 2, none⟩ = some (.string tx) := HZ.out.nd.cell 2
  go_wp2_with fail
  refine (HWh.out _).mono ?_
  rintro e w1 ⟨rfl, rfl⟩
  clear HWh
  obtain ⟨Au, cu, rfl, hu⟩ := HZ.out.kd
  obtain ⟨gu, cuu, rfl, hfu, hcu⟩ := hu (by simp)
  have e3 : w1.cell? ⟨gu, 0, none⟩ = some (.int .i64 (kk : Int)) := (hfu.cell 0).trans (hcu 0 _ rfl)
  clear hu hfu hcu
  have HCc := (show Hid _ from HC.out kk (List.mem_singleton.2 rfl) 3)
  clear HC
  go_wp2_with fail
  refine (HCc.out _ _ _ HZ.out.q.d HZ.out.q.f).mono ?_
  rintro e w2 ⟨v2, rfl, q2⟩
  have HQ2 := (show Hid _ from HZ.out.q.trans q2)
  obtain ⟨A2, n2, k2, rfl, hn2⟩ := q2.f.n
  clear q2 HZ e0 e1 e2 e3
  go_wp2_with fail
  refine (addD_any ⟨#[42]⟩ (by decide) HQ2.out.d HQ2.out.f).mono ?_
  rintro e w3 ⟨v3, rfl, q3⟩
  have HQ := (show Hid (Dq W w3 B tb L gp op cp g1 c1 (adT x (itT (partI 3 (enX L kk)) ++ (⟨#[42]⟩ : ByteArray).data.toList)) v3) from by
    have h := HQ2.out.trans q3
    rw [adT_app] at h
    exact h)
  clear q3 HQ2
  obtain ⟨A9, n9, k9, rfl, hn9⟩ := HQ.out.f.n
  go_wp2_with fail
  go_ret
  exact ⟨_, rfl, HQ.out⟩
set_option maxRecDepth 100000 in
set_option maxHeartbeats 4000000 in
theorem nodeD_10 {L : List Nd} {B tb gp op cp g1 c1 k : Nat} {nn : Int} {tx : ByteArray} {a b c d : Int} (hn : L[k]? = some ⟨10, nn, tx, a, b, c, d⟩) (hL : L.length ≤ 2048) (he : ∀ i, i < L.length → T.er L i = 0) (hw : NdW ⟨10, nn, tx, a, b, c, d⟩) (hc : ∀ j ∈ kds L k, ∀ d, DPar L B tb gp op cp g1 c1 j d) : DNod L B tb gp op cp g1 c1 k := by
  intro W x v hD hF
  have hk : k < L.length := (List.getElem?_eq_some_iff.1 hn).1
  have hal := (T.er_ok hn (he k hk)).al
  obtain ⟨m, hm, hm2⟩ := nn_of hal
  dsimp only at hm
  subst hm
  obtain ⟨fa, fb, fc⟩ := fr10 (n := ⟨10, (m : Int), tx, a, b, c, d⟩) rfl
  obtain ⟨hT, hks, hk1⟩ := en_1 hn he rfl
  obtain ⟨kk, hkk⟩ : ∃ kk, kk = k - 1 := ⟨_, rfl⟩
  rw [← hkk] at hT hks
  have HKK := (show Hid ((k : Int) = (kk : Int) + 1) from by show (k : Int) = (kk : Int) + 1; omega)
  clear hkk hk1
  rw [fa, fc] at hT
  replace hT : itT (enX L k).2 = itT (partI 3 (enX L kk)) ++ (⟨#[43]⟩ : ByteArray).data.toList := hT
  rw [hT]
  have a0 := hD.c0
  have a1 := hD.c1
  obtain ⟨c0, c1', c2, c3, c4, c5, c6⟩ := hD.n k _ hn
  have z0 : (0 : Int) ≤ (k : Int) := by omega
  have z1 : (k : Int) < (L.length : Int) := by omega
  obtain ⟨w0, hw0⟩ : ∃ w0, w0 = W.alloc (.cells (T.ndV ⟨10, (m : Int), tx, a, b, c, d⟩).toArray 51) := ⟨_, rfl⟩
  have hb0 : Below W.heap.size W w0 := by rw [hw0]; exact below_box W _
  have HE0 := (show Hid (W.alloc (.cells #[.int .i64 10, .int .i64 (m : Int), .string tx, .int .u64 a, .int .u64 b, .int .u64 c, .int .u64 d] 51) = w0) from hw0.symm)
  have HK : Hid (∀ _ : Unit, Calls Tryz.prog 57 #[.slice (some ⟨gp, op, none⟩) L.length cp, .slice (some ⟨g1, 0, none⟩) L.length c1, .int .i64 k] w0.drew fun e W'' => (∃ u, e = .returned u ∧ Nz W W'' B tb L gp op cp g1 c1 x v W.heap.size ⟨10, (m : Int), tx, a, b, c, d⟩ u (kds L k)) ∧ Below w0.heap.size w0 W'') := fun _ => by
    refine (kidsD_any hL hk he hD (hb0.drew)).mono ?_
    rintro e W'' ⟨⟨u, rfl, hu⟩, bl⟩
    have bl2 : Below w0.heap.size w0 W'' := ((Below.refl _ w0).drew).trans bl
    exact ⟨⟨u, rfl, Nz.mk1 hD hF hw0 bl2 hu⟩, bl2⟩
  have d0 : w0.cell? ⟨tb, 0, none⟩ = some (.slice (some ⟨gp, op, none⟩) L.length cp) := (hD.later hb0).c0
  have d1 : w0.cell? ⟨tb, 1, none⟩ = some (.slice (some ⟨g1, 0, none⟩) L.length c1) := (hD.later hb0).c1
  have HWh : Hid (∀ w, Calls Tryz.prog 82 #[.int .i64 m, .int .i64 10] w fun e w' => e = .returned (.string ⟨(dgT 10 m).toArray⟩) ∧ w' = w) := fun w => whole10_any m (by omega) w
  have HC := (show Hid _ from hc)
  rw [hks] at HK HC
  obtain ⟨A0, n0, k0, rfl, hn0⟩ := hF.n
  clear hT hks hc hD hF hal fa fb fc hw0 hb0 hw he hn
  go_enter Tryz.func77, Tryz.ntmps77
  go_wp2_with (rw [HE0.out])
  go_region_held3 (fun W' => W'.cell? ⟨tb, 0, none⟩ = some (.slice (some ⟨gp, op, none⟩) L.length cp) ∧ W'.cell? ⟨tb, 1, none⟩ = some (.slice (some ⟨g1, 0, none⟩) L.length c1)) (first | go_keep | exact ⟨hz.q.d.c0, hz.q.d.c1⟩ | exact ⟨d0, d1⟩) ((with_reducible refine (HK.out ()).mono ?_; rintro e wA ⟨⟨u, rfl, hz⟩, _⟩))
  have HZ := (show Hid _ from hz)
  rename_i hHeld
  clear hHeld hz HK HE0 d0 d1 a0 a1 c0 c1' c2 c3 c4 c5 c6
  have e0 : wA.cell? ⟨W.heap.size, 0, none⟩ = some (.int .i64 10) := HZ.out.nd.cell 0
  have e1 : wA.cell? ⟨W.heap.size, 1, none⟩ = some (.int .i64 m) := HZ.out.nd.cell 1
  have e2 : wA.cell? ⟨W.heap.size, 2, none⟩ = some (.string tx) := HZ.out.nd.cell 2
  go_wp2_with fail
  refine (HWh.out _).mono ?_
  rintro e w1 ⟨rfl, rfl⟩
  clear HWh
  obtain ⟨Au, cu, rfl, hu⟩ := HZ.out.kd
  obtain ⟨gu, cuu, rfl, hfu, hcu⟩ := hu (by simp)
  have e3 : w1.cell? ⟨gu, 0, none⟩ = some (.int .i64 (kk : Int)) := (hfu.cell 0).trans (hcu 0 _ rfl)
  clear hu hfu hcu
  have HCc := (show Hid _ from HC.out kk (List.mem_singleton.2 rfl) 3)
  clear HC
  go_wp2_with fail
  refine (HCc.out _ _ _ HZ.out.q.d HZ.out.q.f).mono ?_
  rintro e w2 ⟨v2, rfl, q2⟩
  have HQ2 := (show Hid _ from HZ.out.q.trans q2)
  obtain ⟨A2, n2, k2, rfl, hn2⟩ := q2.f.n
  clear q2 HZ e0 e1 e2 e3
  go_wp2_with fail
  refine (addD_any ⟨#[43]⟩ (by decide) HQ2.out.d HQ2.out.f).mono ?_
  rintro e w3 ⟨v3, rfl, q3⟩
  have HQ := (show Hid (Dq W w3 B tb L gp op cp g1 c1 (adT x (itT (partI 3 (enX L kk)) ++ (⟨#[43]⟩ : ByteArray).data.toList)) v3) from by
    have h := HQ2.out.trans q3
    rw [adT_app] at h
    exact h)
  clear q3 HQ2
  obtain ⟨A9, n9, k9, rfl, hn9⟩ := HQ.out.f.n
  go_wp2_with fail
  go_ret
  exact ⟨_, rfl, HQ.out⟩
set_option maxRecDepth 100000 in
set_option maxHeartbeats 4000000 in
theorem nodeD_11 {L : List Nd} {B tb gp op cp g1 c1 k : Nat} {nn : Int} {tx : ByteArray} {a b c d : Int} (hn : L[k]? = some ⟨11, nn, tx, a, b, c, d⟩) (hL : L.length ≤ 2048) (he : ∀ i, i < L.length → T.er L i = 0) (hw : NdW ⟨11, nn, tx, a, b, c, d⟩) (hc : ∀ j ∈ kds L k, ∀ d, DPar L B tb gp op cp g1 c1 j d) : DNod L B tb gp op cp g1 c1 k := by
  intro W x v hD hF
  have hk : k < L.length := (List.getElem?_eq_some_iff.1 hn).1
  have hal := (T.er_ok hn (he k hk)).al
  obtain ⟨m, hm, hm2⟩ := nn_of hal
  dsimp only at hm
  subst hm
  obtain ⟨fa, fb, fc⟩ := fr11 (n := ⟨11, (m : Int), tx, a, b, c, d⟩) rfl
  obtain ⟨hT, hks, hk1⟩ := en_1 hn he rfl
  obtain ⟨kk, hkk⟩ : ∃ kk, kk = k - 1 := ⟨_, rfl⟩
  rw [← hkk] at hT hks
  have HKK := (show Hid ((k : Int) = (kk : Int) + 1) from by show (k : Int) = (kk : Int) + 1; omega)
  clear hkk hk1
  rw [fa, fc] at hT
  replace hT : itT (enX L k).2 = itT (partI 3 (enX L kk)) ++ (⟨#[63]⟩ : ByteArray).data.toList := hT
  rw [hT]
  have a0 := hD.c0
  have a1 := hD.c1
  obtain ⟨c0, c1', c2, c3, c4, c5, c6⟩ := hD.n k _ hn
  have z0 : (0 : Int) ≤ (k : Int) := by omega
  have z1 : (k : Int) < (L.length : Int) := by omega
  obtain ⟨w0, hw0⟩ : ∃ w0, w0 = W.alloc (.cells (T.ndV ⟨11, (m : Int), tx, a, b, c, d⟩).toArray 51) := ⟨_, rfl⟩
  have hb0 : Below W.heap.size W w0 := by rw [hw0]; exact below_box W _
  have HE0 := (show Hid (W.alloc (.cells #[.int .i64 11, .int .i64 (m : Int), .string tx, .int .u64 a, .int .u64 b, .int .u64 c, .int .u64 d] 51) = w0) from hw0.symm)
  have HK : Hid (∀ _ : Unit, Calls Tryz.prog 57 #[.slice (some ⟨gp, op, none⟩) L.length cp, .slice (some ⟨g1, 0, none⟩) L.length c1, .int .i64 k] w0.drew fun e W'' => (∃ u, e = .returned u ∧ Nz W W'' B tb L gp op cp g1 c1 x v W.heap.size ⟨11, (m : Int), tx, a, b, c, d⟩ u (kds L k)) ∧ Below w0.heap.size w0 W'') := fun _ => by
    refine (kidsD_any hL hk he hD (hb0.drew)).mono ?_
    rintro e W'' ⟨⟨u, rfl, hu⟩, bl⟩
    have bl2 : Below w0.heap.size w0 W'' := ((Below.refl _ w0).drew).trans bl
    exact ⟨⟨u, rfl, Nz.mk1 hD hF hw0 bl2 hu⟩, bl2⟩
  have d0 : w0.cell? ⟨tb, 0, none⟩ = some (.slice (some ⟨gp, op, none⟩) L.length cp) := (hD.later hb0).c0
  have d1 : w0.cell? ⟨tb, 1, none⟩ = some (.slice (some ⟨g1, 0, none⟩) L.length c1) := (hD.later hb0).c1
  have HWh : Hid (∀ w, Calls Tryz.prog 82 #[.int .i64 m, .int .i64 10] w fun e w' => e = .returned (.string ⟨(dgT 10 m).toArray⟩) ∧ w' = w) := fun w => whole10_any m (by omega) w
  have HC := (show Hid _ from hc)
  rw [hks] at HK HC
  obtain ⟨A0, n0, k0, rfl, hn0⟩ := hF.n
  clear hT hks hc hD hF hal fa fb fc hw0 hb0 hw he hn
  go_enter Tryz.func77, Tryz.ntmps77
  go_wp2_with (rw [HE0.out])
  go_region_held3 (fun W' => W'.cell? ⟨tb, 0, none⟩ = some (.slice (some ⟨gp, op, none⟩) L.length cp) ∧ W'.cell? ⟨tb, 1, none⟩ = some (.slice (some ⟨g1, 0, none⟩) L.length c1)) (first | go_keep | exact ⟨hz.q.d.c0, hz.q.d.c1⟩ | exact ⟨d0, d1⟩) ((with_reducible refine (HK.out ()).mono ?_; rintro e wA ⟨⟨u, rfl, hz⟩, _⟩))
  have HZ := (show Hid _ from hz)
  rename_i hHeld
  clear hHeld hz HK HE0 d0 d1 a0 a1 c0 c1' c2 c3 c4 c5 c6
  have e0 : wA.cell? ⟨W.heap.size, 0, none⟩ = some (.int .i64 11) := HZ.out.nd.cell 0
  have e1 : wA.cell? ⟨W.heap.size, 1, none⟩ = some (.int .i64 m) := HZ.out.nd.cell 1
  have e2 : wA.cell? ⟨W.heap.size, 2, none⟩ = some (.string tx) := HZ.out.nd.cell 2
  go_wp2_with fail
  refine (HWh.out _).mono ?_
  rintro e w1 ⟨rfl, rfl⟩
  clear HWh
  obtain ⟨Au, cu, rfl, hu⟩ := HZ.out.kd
  obtain ⟨gu, cuu, rfl, hfu, hcu⟩ := hu (by simp)
  have e3 : w1.cell? ⟨gu, 0, none⟩ = some (.int .i64 (kk : Int)) := (hfu.cell 0).trans (hcu 0 _ rfl)
  clear hu hfu hcu
  have HCc := (show Hid _ from HC.out kk (List.mem_singleton.2 rfl) 3)
  clear HC
  go_wp2_with fail
  refine (HCc.out _ _ _ HZ.out.q.d HZ.out.q.f).mono ?_
  rintro e w2 ⟨v2, rfl, q2⟩
  have HQ2 := (show Hid _ from HZ.out.q.trans q2)
  obtain ⟨A2, n2, k2, rfl, hn2⟩ := q2.f.n
  clear q2 HZ e0 e1 e2 e3
  go_wp2_with fail
  refine (addD_any ⟨#[63]⟩ (by decide) HQ2.out.d HQ2.out.f).mono ?_
  rintro e w3 ⟨v3, rfl, q3⟩
  have HQ := (show Hid (Dq W w3 B tb L gp op cp g1 c1 (adT x (itT (partI 3 (enX L kk)) ++ (⟨#[63]⟩ : ByteArray).data.toList)) v3) from by
    have h := HQ2.out.trans q3
    rw [adT_app] at h
    exact h)
  clear q3 HQ2
  obtain ⟨A9, n9, k9, rfl, hn9⟩ := HQ.out.f.n
  go_wp2_with fail
  go_ret
  exact ⟨_, rfl, HQ.out⟩
end Go.Proofs.YtnpifgcgjgddoaaGreatDoor.N
