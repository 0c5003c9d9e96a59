/- DERIVED. Walks: what find hands to through. -/
import Derived.Test.YtfomodpjdaclgabCkA
namespace Go.Proofs.Ytfomodpjdaclgab
open Go.RowKit

/-- A cell with a list of numbers. -/
structure SB (W : World) (b : Nat) (v : Value) : Prop where
  heap : W.heap[b]? = some (.cells #[v] 24 (0, 0))
theorem SB.lt {W : World} {b : Nat} {v : Value} (x : SB W b v) : b < W.heap.size := (Array.getElem?_eq_some_iff.1 x.heap).1
theorem SB.c0 {W : World} {b : Nat} {v : Value} (x : SB W b v) : W.cell? ⟨b, 0, none⟩ = some v := by rw [cell_of_row W b 0 _ 24 (0, 0) x.heap]; rfl
theorem SB.fz {W : World} {b : Nat} {v : Value} (x : SB W b v) : W.frozen? ⟨b, 0, none⟩ = false := frozen_of_row W b 0 _ 24 x.heap
theorem SB.same {W W' : World} {b : Nat} {v : Value} (x : SB W b v) (hb : W'.heap[b]? = W.heap[b]?) : SB W' b v := ⟨hb.trans x.heap⟩
theorem SB.set {W : World} {b : Nat} {v : Value} (x : SB W b v) (u : Value) : SB (W.setCell ⟨b, 0, none⟩ u) b u := ⟨by rw [heap_setCell_same W b 0 _ 24 _ x.heap]; rfl⟩

def lastc (xs : List Pt) : List Value := xs.map fun x => .int .i64 x.2.1
theorem lastc_len (xs : List Pt) : (lastc xs).length = xs.length := List.length_map _
/-- What find has found. -/
structure JF (L : List Nd) (at' : Int) (b3 b7 b8 Bc B k : Nat) (X : Nat → Prop) (w : World) : Prop where
  far : Bc ≤ b7 ∧ Bc ≤ b8 ∧ b3 < B ∧ b7 < B ∧ b8 < B ∧ b7 ≠ b8 ∧ b3 ≠ b7 ∧ b3 ≠ b8 ∧ Bc ≤ B
  a : w.cell? ⟨b3, 0, none⟩ = some (.int .i64 at')
  f : ∀ j : Nat, at' = j → j < k → PB w b7 (pt L j).1 (pt L j).2.1 (pt L j).2.2
  f0 : (∀ j : Nat, at' = j → ¬ j < k) → PB w b7 0 0 0
  s : ∃ v, SB w b8 v ∧ (∀ b, X b ↔ b = b7 ∨ b = b8 ∨ v.ownBlock = some b) ∧
    (∀ j : Nat, at' = j → j < k → w.ownsRow B 3 1 v (arN (opAt L j)) (lastc ((run L j).take (arN (opAt L j))).reverse)) ∧ ((∀ j : Nat, at' = j → ¬ j < k) → v = .slice none 0 0)
theorem JF.size {L : List Nd} {at' : Int} {b3 b7 b8 Bc B k : Nat} {X : Nat → Prop} {w : World} (h : JF L at' b3 b7 b8 Bc B k X w) : b3 < w.heap.size ∧ b7 < w.heap.size ∧ b8 < w.heap.size := by
  obtain ⟨v, hs, _⟩ := h.s
  refine ⟨World.block_lt_of_cell? w _ h.a, ?_, hs.lt⟩
  by_cases q : ∃ j : Nat, at' = j ∧ j < k
  · obtain ⟨j, q1, q2⟩ := q
    exact (h.f j q1 q2).lt
  · exact (h.f0 (fun j q1 q2 => q ⟨j, q1, q2⟩)).lt
theorem JF.xlt {L : List Nd} {at' : Int} {b3 b7 b8 Bc B k : Nat} {X : Nat → Prop} {w : World} (h : JF L at' b3 b7 b8 Bc B k X w) : ∀ b, X b → Bc ≤ b ∧ b < w.heap.size := fun b hb => by
  obtain ⟨v, hs, hx, h1, h2⟩ := h.s
  obtain ⟨f1, f2, f3, f4, f5, _, _, _, f9⟩ := h.far
  rcases (hx b).1 hb with rfl | rfl | q
  · exact ⟨f1, h.size.2.1⟩
  · exact ⟨f2, h.size.2.2⟩
  · by_cases r : ∃ j : Nat, at' = j ∧ j < k
    · obtain ⟨j, q1, q2⟩ := r
      have := (h1 j q1 q2).lt b q
      omega
    · rw [h2 (fun j q1 q2 => r ⟨j, q1, q2⟩)] at q
      simp [Value.ownBlock] at q
theorem JF.kept {L : List Nd} {at' : Int} {b3 b7 b8 Bc B k : Nat} {X : Nat → Prop} {w w' : World} (h : JF L at' b3 b7 b8 Bc B k X w) (hb : ∀ b, (b < B ∨ X b) → w'.heap[b]? = w.heap[b]?) : JF L at' b3 b7 b8 Bc B k X w' := by
  obtain ⟨v, hs, hx, h1, h2⟩ := h.s
  obtain ⟨f1, f2, f3, f4, f5, _, _, _, f9⟩ := h.far
  refine ⟨h.far, (World.cell?_of_block (a := ⟨b3, 0, none⟩) (hb b3 (.inl f3))).trans h.a, fun j q1 q2 => (h.f j q1 q2).same (hb b7 (.inl f4)), fun q => (h.f0 q).same (hb b7 (.inl f4)), v, hs.same (hb b8 (.inl f5)), hx, fun j q1 q2 => ?_, h2⟩
  have ho := h1 j q1 q2
  refine ⟨ho.1, ?_⟩
  rcases ho.2 with q | ⟨g, cap, cur, rfl, r1, r2, rest⟩
  · exact .inl q
  · exact .inr ⟨g, cap, cur, rfl, r1, (hb g (.inr ((hx g).2 (.inr (.inr rfl))))).trans r2, rest⟩
/-- The next node is another one. -/
theorem JF.next {L : List Nd} {at' : Int} {b3 b7 b8 Bc B k : Nat} {X : Nat → Prop} {w : World} (h : JF L at' b3 b7 b8 Bc B k X w) (hne : at' ≠ k) : JF L at' b3 b7 b8 Bc B (k + 1) X w := by
  obtain ⟨v, hs, hx, h1, h2⟩ := h.s
  have key : ∀ j : Nat, at' = j → j < k + 1 → j < k := fun j q1 q2 => by omega
  refine ⟨h.far, h.a, fun j q1 q2 => h.f j q1 (key j q1 q2), fun q => h.f0 (fun j q1 q2 => q j q1 (by omega)), v, hs, hx, fun j q1 q2 => h1 j q1 (key j q1 q2), fun q => h2 (fun j q1 q2 => q j q1 (by omega))⟩

structure AtE (w wr : World) (b7 b8 : Nat) (p : Pt) (xs : List Pt) (i : Nat) (v : Value) : Prop where
  kp : Kp (fun b => b = b7 ∨ b = b8) w wr
  f : PB wr b7 p.1 p.2.1 p.2.2
  s : SB wr b8 v
  o : wr.ownsRow w.heap.size 3 1 v i (lastc (xs.take i))
theorem enters54 (args : Array Value) (w : World) : (callFunc 36 args).run Try.prog w = .ok (.enter 36 args) w := enters_of Try.func36 (by kernel_rfl) rfl args w

set_option maxRecDepth 100000 in
set_option maxHeartbeats 4000000 in
theorem find1_ne (p : Pt) (v : Value) (at' : Int) (b3 b7 b8 : Nat) (w : World) (hne : at' ≠ p.2.1) (ha : w.cell? ⟨b3, 0, none⟩ = some (.int .i64 at')) :
    Calls Try.prog 36 #[ptG p, v, .pointer (some ⟨b3, 0, none⟩), .pointer (some ⟨b7, 0, none⟩), .pointer (some ⟨b8, 0, none⟩)] w fun e w' => (∃ u, e = .returned u) ∧ Below w.heap.size w w' := by
  have HB := (show Hid (Below w.heap.size w (w.alloc (.cells #[.int .i64 p.1, .int .i64 p.2.1, .int .i64 p.2.2] 52))) from below_box _ _)
  have hlt := World.block_lt_of_cell? w _ ha
  simp only at hlt
  have t1 : ((p.2.1 : Int) != at') = true := by rw [bne, beq_eq_false_iff_ne.2 (fun e => hne e.symm)]; rfl
  clear hne
  go_enter Try.func36, Try.ntmps36
  go_wp2_with fail
  refine bodyPost_ret (v := .tuple #[]) (by simp [results, Try.results36, go_sem]) rfl ⟨⟨_, rfl⟩, HB.out⟩

set_option maxRecDepth 100000 in
set_option maxHeartbeats 8000000 in
theorem find1_eq (p : Pt) (xs : List Pt) (A : Option Addr) (c b3 b7 b8 : Nat) (w : World) (hx2 : xs.length ≤ 2) (hd : b7 ≠ b8 ∧ b3 ≠ b7 ∧ b3 ≠ b8) (hlt8 : b8 < w.heap.size) (ha : w.cell? ⟨b3, 0, none⟩ = some (.int .i64 p.2.1)) (hf : PB w b7 0 0 0) (hs : SB w b8 (.slice none 0 0)) (hr : RdP w A xs) (hA : ∀ a, A = some a → a.block ≠ b7 ∧ a.block ≠ b8) :
    Calls Try.prog 36 #[ptG p, .slice A xs.length c, .pointer (some ⟨b3, 0, none⟩), .pointer (some ⟨b7, 0, none⟩), .pointer (some ⟨b8, 0, none⟩)] w fun e w' => (∃ u, e = .returned u) ∧ ∃ v, AtE w w' b7 b8 p xs xs.length v := by
  obtain ⟨i0, hinf, hz0, hz1, hz2⟩ := info_parts Try.info3
  have hlt := World.block_lt_of_cell? w _ ha
  have hlt7 := hf.lt
  simp only at hlt
  have t1 : ((p.2.1 : Int) != (p.2.1 : Int)) = false := by rw [bne, beq_iff_eq.2 rfl]; rfl
  have f0 := hf.fz 0
  have f1 := hf.fz 1
  have f2 := hf.fz 2
  have c0 := hf.c0
  have c1 := hf.c1
  have c2 := hf.c2
  have HD := (show Hid (b7 ≠ b8 ∧ b3 ≠ b7 ∧ b3 ≠ b8) from hd)
  have HR := (show Hid (RdP w A xs) from hr)
  have HAd := (show Hid (∀ a, A = some a → a.block ≠ b7 ∧ a.block ≠ b8) from hA)
  have HA := (show Hid (AtE w ((((w.setCell ⟨b7, 0, none⟩ (.int .i64 p.1)).setCell ⟨b7, 1, none⟩ (.int .i64 p.2.1)).setCell ⟨b7, 2, none⟩ (.int .i64 p.2.2)).alloc (.cells #[.int .i64 p.1, .int .i64 p.2.1, .int .i64 p.2.2] 52)) b7 b8 p xs 0 (.slice none 0 0)) from by
    have h1 := ((hf.set0 (p.1 : Int)).set1 (p.2.1 : Int)).set2 (p.2.2 : Int)
    refine ⟨⟨rfl, rfl, rfl, by simp, fun b hb hn => ?_⟩, h1.alloc _, ?_, World.ownsRow_nil _ _ _ _⟩
    · have e1 := (below_box (((w.setCell ⟨b7, 0, none⟩ (.int .i64 p.1)).setCell ⟨b7, 1, none⟩ (.int .i64 p.2.1)).setCell ⟨b7, 2, none⟩ (.int .i64 p.2.2)) (.cells #[.int .i64 p.1, .int .i64 p.2.1, .int .i64 p.2.2] 52)).block b (by simp; exact hb)
      have hb7 : b ≠ b7 := fun e => hn (.inl e)
      rw [e1, heap_setCell_other _ _ _ _ hb7, heap_setCell_other _ _ _ _ hb7, heap_setCell_other _ _ _ _ hb7]
    · have hb8 : b8 ≠ b7 := fun e => hd.1 e.symm
      refine hs.same ?_
      have e1 := (below_box (((w.setCell ⟨b7, 0, none⟩ (.int .i64 p.1)).setCell ⟨b7, 1, none⟩ (.int .i64 p.2.1)).setCell ⟨b7, 2, none⟩ (.int .i64 p.2.2)) (.cells #[.int .i64 p.1, .int .i64 p.2.1, .int .i64 p.2.2] 52)).block b8 (by simp; exact hlt8)
      rw [e1, heap_setCell_other _ _ _ _ hb8, heap_setCell_other _ _ _ _ hb8, heap_setCell_other _ _ _ _ hb8])
  have HG := (show Hid (∀ i, i < xs.length → ∃ x, xs[i]? = some x ∧ xs ≠ []) from fun i hi => ⟨xs[i], List.getElem?_eq_getElem hi, by rintro rfl; simp at hi⟩)
  clear hr hA hd hf hs
  go_enter Try.func36, Try.ntmps36
  go_wp2_with fail
  clear f0 f1 f2 c0 c1 c2 ha t1
  go_loopw [16] (fun t wr => ∃ i : Nat, i ≤ xs.length ∧ t = .int .i64 i ∧ Hid (∃ v, AtE w wr b7 b8 p xs i v)) (fun t _ => xs.length - (intOf t).toNat)
  case atStart => exact ⟨0, by omega, by go_num, ⟨_, HA.out⟩⟩
  case round =>
    obtain ⟨i, hi, rfl, HW⟩ := hrel
    clear HA
    obtain ⟨v, hw⟩ := HW.out
    have HW1 := (show Hid (AtE w wr b7 b8 p xs i v) from hw)
    clear HW
    by_cases hlt2 : i < xs.length
    · obtain ⟨x, hxi, hne⟩ := HG.out i hlt2
      obtain ⟨g, o, rfl, lg, cl⟩ := HR.out hne
      obtain ⟨n7, n8⟩ := HAd.out _ rfl
      obtain ⟨d0, d1, d2⟩ := (cl.same (hw.kp.block g lg (by rintro (q | q) <;> contradiction))) i x hxi
      have z0 : (0 : Int) ≤ (i : Int) := by omega
      have z1 : (i : Int) < (xs.length : Int) := by omega
      have k0 := hw.s.c0
      have hb8 := hw.s.lt
      have hsz := hw.kp.size
      have HX := (show Hid (lastc (xs.take (i + 1)) = lastc (xs.take i) ++ [.int .i64 x.2.1]) from by
        show lastc _ = _
        unfold lastc
        rw [List.take_add_one, hxi, List.map_append]
        rfl)
      have hO : wr.ownsRow w.heap.size 3 1 v i (lastc (xs.take i)) := hw.o
      clear hne cl hxi HG HR HAd hw
      go_wp2_with (at_builtin; refine wpList_append_lies _ rfl _ _ 24 rfl w.heap.size 3 i0 (.int .i64 0) 1 8 Try.underlying24 hinf hz0 hz1 hz2 rfl (by decide) _ _ _ rfl ((hO.alloc _).alloc _) ⟨wr.heap.size + 1, 0, none⟩ 1 1 [.int .i64 x.2.1] rfl rfl ?c1 ?c2 (by decide) ?c3 ?c4 ?c5 (wr.heap.size + 1 + 1) (by simp) ?_)
      case c2 => first | rfl | (intro u hu; simp at hu; subst hu; rfl)
      case c3 => unfold maxLen; omega
      case c4 => omega
      case c5 => first | omega | (simp; omega)
      intro g2 cap w3 hown hgrow hat hlt3
      have hrow : ∀ j, v.ownBlock = some j → w.heap.size ≤ j := fun j e => (hO.lt j e).1
      have hkeep : ∀ b, b < wr.heap.size → v.ownBlock ≠ some b → w3.heap[b]? = wr.heap[b]? := fun b hb hn => by
        have h1 := hgrow.block b (by simp; omega) (fun e => hn e.symm)
        have h2 := (below_box (wr.alloc (.cells #[.int .i64 x.1, .int .i64 x.2.1, .int .i64 x.2.2] 52)) (.cells #[.int .i64 x.2.1] 3)).block b (by simp; omega)
        exact h1.trans (h2.trans ((below_box wr _).block b hb))
      have h8 : SB w3 b8 v := HW1.out.s.same (hkeep b8 hb8 (fun e => by have := hrow b8 e; omega))
      have f8 := h8.fz
      have e8 := h8.c0
      have HW2 := (show Hid (AtE w (w3.setCell ⟨b8, 0, none⟩ (.slice (some ⟨g2, 0, none⟩) (i + 1) cap)) b7 b8 p xs (i + 1) (.slice (some ⟨g2, 0, none⟩) (i + 1) cap)) from by
        have hw := HW1.out
        have hg2 : g2 ≠ b8 := by
          rcases hat with q | q
          · have := hrow g2 q; omega
          · omega
        refine ⟨⟨?_, ?_, ?_, ?_, fun b hb hn => ?_⟩, ?_, h8.set _, ?_⟩
        · show w3.os = w.os; exact hgrow.os.trans hw.kp.os
        · show w3.tape = w.tape; exact hgrow.tape.trans hw.kp.tape
        · show w3.output = w.output; exact hgrow.output.trans hw.kp.output
        · have := hgrow.size; simp at this ⊢; omega
        · have hb8' : b ≠ b8 := fun e => hn (.inr e)
          rw [heap_setCell_other _ _ _ _ hb8', hkeep b (by omega) (fun e => by have := hrow b e; omega)]
          exact hw.kp.block b hb hn
        · refine (hw.f.same (hkeep b7 hw.f.lt (fun e => by have := hrow b7 e; omega))).other _ _ HD.out.1
        · rw [HX.out]
          refine ⟨hown.1, ?_⟩
          rcases hown.2 with q | ⟨g3, cap3, cur, q1, q2, q3, q4⟩
          · cases q.1
          · cases q1
            exact .inr ⟨g2, cap, cur, rfl, q2, by rw [heap_setCell_other _ _ _ _ hg2]; exact q3, q4⟩)
      clear hown hgrow hat hlt3 hrow hkeep h8 hO HW1 HX k0 d0 d1 d2
      go_wp2_with fail
      go_roundw
      case rel => exact ⟨i + 1, by omega, by go_num, ⟨_, HW2.out⟩⟩
      case measure => simp [intOf]; omega
    · obtain rfl : i = xs.length := by omega
      clear HG HR HAd
      go_wp2_with fail
      go_end0
      exact ⟨⟨_, rfl⟩, _, HW1.out⟩

theorem see54 (L : List Nd) (at' : Int) (b3 b7 b8 Bc B : Nat) : See L 36 #[.pointer (some ⟨b3, 0, none⟩), .pointer (some ⟨b7, 0, none⟩), .pointer (some ⟨b8, 0, none⟩)] Bc B (JF L at' b3 b7 b8 Bc B) := by
  refine ⟨fun k X w w' h _ hb => h.kept hb, fun k X w h => h.xlt, fun k X w A c h hB hk he hr hA => ?_⟩
  have hpl : (pt L k).2.1 = k := mk_last _ _ _ _
  by_cases hne : at' = k
  · have hn0 : ∀ j : Nat, at' = j → ¬ j < k := fun j q => by omega
    obtain ⟨v, hs, hx, h1, h2⟩ := h.s
    obtain ⟨f1, f2, f3, f4, f5, f6, f7, f8, f9⟩ := h.far
    have hv := h2 hn0
    rw [hv] at hs hx
    have hxl : ((run L k).take (arN (opAt L k))).reverse.length = arN (opAt L k) := by
      rw [List.length_reverse, List.length_take]
      have hn : L[k]? = some L[k] := List.getElem?_eq_getElem hk
      have := (er_ok hn (he k (Nat.le_refl _))).ar
      rw [op_of hn]
      omega
    have hc := find1_eq (pt L k) _ A c b3 b7 b8 w (by rw [hxl]; exact arN_le _) ⟨f6, f7, f8⟩ h.size.2.2 (by rw [hpl]; rw [← hne]; exact h.a) (h.f0 hn0) hs hr (fun a ha => ⟨fun e => hA a ha ((hx _).2 (.inl e)), fun e => hA a ha ((hx _).2 (.inr (.inl e)))⟩)
    rw [hxl] at hc
    refine hc.mono fun e w' ⟨hu, v', hw⟩ => ⟨hu, fun b => b = b7 ∨ b = b8 ∨ v'.ownBlock = some b, ?_, ⟨hw.kp.os, hw.kp.tape, hw.kp.output, hw.kp.size, fun b hb hn => hw.kp.block b hb (fun q => hn ((hx b).2 (by
      rcases q with q | q
      · exact .inl q
      · exact .inr (.inl q))))⟩, fun b q => ?_⟩
    · refine ⟨h.far, ?_, fun j q1 q2 => ?_, fun q => absurd (Nat.lt_succ_self k) (q k hne), v', hw.s, fun b => Iff.rfl, fun j q1 q2 => ?_, fun q => absurd (Nat.lt_succ_self k) (q k hne)⟩
      · exact (World.cell?_of_block (a := ⟨b3, 0, none⟩) (hw.kp.block b3 h.size.1 (by rintro (q | q) <;> contradiction))).trans h.a
      · obtain rfl : j = k := by omega
        exact hw.f
      · obtain rfl : j = k := by omega
        have ho := hw.o
        rw [List.take_of_length_le (by rw [hxl]; exact Nat.le_refl _)] at ho
        refine ⟨ho.1, ?_⟩
        rcases ho.2 with q | ⟨g, cap, cur, r0, r1, r2⟩
        · exact .inl q
        · exact .inr ⟨g, cap, cur, r0, Nat.le_trans hB r1, r2⟩
    · rcases q with q | q | q
      · exact .inl ((hx b).2 (.inl q))
      · exact .inl ((hx b).2 (.inr (.inl q)))
      · exact .inr (hw.o.lt b q).1
  · refine (find1_ne (pt L k) (.slice A (arN (opAt L k)) c) at' b3 b7 b8 w (by rw [hpl]; exact hne) h.a).mono fun e w' ⟨hu, hb⟩ => ⟨hu, X, ?_, ⟨hb.os, hb.tape, hb.output, hb.size, fun b hlt _ => hb.block b hlt⟩, fun b q => .inl q⟩
    exact (h.next hne).kept (fun b q => hb.block b (by
      rcases q with q | q
      · omega
      · exact (h.xlt b q).2))
end Go.Proofs.Ytfomodpjdaclgab
