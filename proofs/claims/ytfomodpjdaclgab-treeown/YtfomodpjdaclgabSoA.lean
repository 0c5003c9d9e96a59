/- DERIVED. Walks: SpoilPattern. -/
import Derived.Test.YtfomodpjdaclgabAgP
import Derived.Laws.OwnMore
import Derived.Maps.AppendAt
import Derived.OwnWalk
namespace Go.Proofs.Ytfomodpjdaclgab
open Go.RowKit

/-- Seven cells of a row that the call owns are written anew. -/
theorem stored7 {W : World} {B g n cap : Nat} {xs : List Value} (h : W.ownsRow B 37 7 (.slice (some ⟨g, 0, none⟩) n cap) n xs) (o : Nat) (a0 a1 a2 a3 a4 a5 a6 : Value) :
    ∃ ys, (((((((W.setCell ⟨g, o, none⟩ a0).setCell ⟨g, o + 1, none⟩ a1).setCell ⟨g, o + 2, none⟩ a2).setCell ⟨g, o + 3, none⟩ a3).setCell ⟨g, o + 4, none⟩ a4).setCell ⟨g, o + 5, none⟩ a5).setCell ⟨g, o + 6, none⟩ a6).ownsRow B 37 7 (.slice (some ⟨g, 0, none⟩) n cap) n ys ∧
      W.grownBy (((((((W.setCell ⟨g, o, none⟩ a0).setCell ⟨g, o + 1, none⟩ a1).setCell ⟨g, o + 2, none⟩ a2).setCell ⟨g, o + 3, none⟩ a3).setCell ⟨g, o + 4, none⟩ a4).setCell ⟨g, o + 5, none⟩ a5).setCell ⟨g, o + 6, none⟩ a6) (some g) := by
  obtain ⟨s0, g0⟩ := h.stored o a0
  obtain ⟨s1, g1⟩ := s0.stored (o + 1) a1
  obtain ⟨s2, g2⟩ := s1.stored (o + 2) a2
  obtain ⟨s3, g3⟩ := s2.stored (o + 3) a3
  obtain ⟨s4, g4⟩ := s3.stored (o + 4) a4
  obtain ⟨s5, g5⟩ := s4.stored (o + 5) a5
  obtain ⟨s6, g6⟩ := s5.stored (o + 6) a6
  exact ⟨_, s6, ((((((g0.trans g1).trans g2).trans g3).trans g4).trans g5).trans g6)⟩

set_option maxRecDepth 100000 in
set_option maxHeartbeats 8000000 in
theorem spoil_any (v : Value) (x : Int) (n B : Nat) (xs : List Value) (w : World) (h : w.ownsRow B 37 7 v n xs) (hB : B ≤ w.heap.size) (hn : n ≤ 8192) :
    Calls Try.prog 19 #[v, .int .i64 x] w fun e w' => (∃ u, e = .returned u) ∧ w.grownBy w' v.ownBlock := by
  obtain ⟨i0, hinf, hz0, hz1, hz2⟩ := info_parts Try.info43
  obtain ⟨A, c, rfl⟩ : ∃ A c, v = .slice A n c := by
    rcases h.2 with ⟨rfl, h0⟩ | ⟨g, cap, cur, rfl, _⟩
    · exact ⟨none, 0, by rw [h0]⟩
    · exact ⟨_, _, rfl⟩
  have HA := (show Hid (∃ ys, w.ownsRow B 37 7 (.slice A n c) n ys) from ⟨xs, h⟩)
  have HX := (show Hid (0 < n → ∃ g, A = some ⟨g, 0, none⟩) from fun h0 => by
    obtain ⟨g, cap, e, _⟩ := h.form h0
    cases e
    exact ⟨g, rfl⟩)
  clear h
  go_enter Try.func19, Try.ntmps19
  go_wp2_with fail
  go_loopw [4] (fun t wr => ∃ k : Nat, k ≤ n ∧ t = .int .i64 k ∧ Hid (∃ ys, wr.ownsRow B 37 7 (.slice A n c) n ys) ∧ Hid (w.grownBy wr (Value.slice A n c).ownBlock)) (fun t _ => n - (intOf t).toNat)
  case atStart => exact ⟨0, by omega, by go_num, HA, World.grownBy.refl _ _⟩
  case round =>
    obtain ⟨k, hk, rfl, HO, HW⟩ := hrel
    clear HA
    by_cases hlt : k < n
    · obtain ⟨g, rfl⟩ := HX.out (by omega)
      obtain ⟨ys, ho⟩ := HO.out
      have hyl : ys.length = n * 7 := ho.1
      have key : ∀ i, i < 7 → ∃ y, wr.cell? ⟨g, k * 7 + i, none⟩ = some y := fun i hi => by
        have hcl := ho.cells (g := g) rfl (k * 7 + i) _ (List.getElem?_eq_getElem (by omega))
        rw [Addr.add_lit, Nat.zero_add] at hcl
        exact ⟨_, hcl⟩
      obtain ⟨y0, c0⟩ := key 0 (by omega)
      obtain ⟨y1, c1⟩ := key 1 (by omega)
      obtain ⟨y2, c2⟩ := key 2 (by omega)
      obtain ⟨y3, c3⟩ := key 3 (by omega)
      obtain ⟨y4, c4⟩ := key 4 (by omega)
      obtain ⟨y5, c5⟩ := key 5 (by omega)
      obtain ⟨y6, c6⟩ := key 6 (by omega)
      rw [Nat.add_zero] at c0
      have f0 := ho.frozenAt (k * 7)
      have f1 := ho.frozenAt (k * 7 + 1)
      have f2 := ho.frozenAt (k * 7 + 2)
      have f3 := ho.frozenAt (k * 7 + 3)
      have f4 := ho.frozenAt (k * 7 + 4)
      have f5 := ho.frozenAt (k * 7 + 5)
      have f6 := ho.frozenAt (k * 7 + 6)
      obtain ⟨zs, st1, st2⟩ := stored7 ho (k * 7) (.int .i64 x) (.int .i64 0) (.string ⟨#[]⟩) (.int .u64 0) (.int .u64 0) (.int .u64 0) (.int .u64 0)
      have HO2 := (show Hid (∃ ys, _) from ⟨_, st1⟩)
      have HW2 := (show Hid _ from HW.out.trans st2)
      have z0 : (0 : Int) ≤ (k : Int) := by omega
      have z1 : (k : Int) < (n : Int) := by omega
      clear HO HW st1 st2 ho hyl HX key
      go_wp2
      go_roundw
      case rel => exact ⟨k + 1, by omega, by go_num, HO2, HW2⟩
      case measure => simp [intOf]; omega
    · obtain rfl : k = n := by omega
      obtain ⟨ys, hO1⟩ := HO.out
      have hsz := HW.out.size
      clear HX
      go_wp2_with (at_builtin; refine wpList_append_lies _ rfl _ _ 23 rfl B 37 i0 zA 7 64 Try.underlying23 hinf hz0 hz1 hz2 rfl (by decide) _ _ _ rfl (hO1.alloc _) ⟨wr.heap.size, 0, none⟩ 1 1 (ndV (zN x)) rfl rfl ?c1 (nd_one _) (by decide) ?c3 ?c4 ?c5 (wr.heap.size + 1) (by simp) ?_)
      case c1 => exact World.news_of_block (cs := #[.int .i64 x, .int .i64 0, .string ⟨#[]⟩, .int .u64 0, .int .u64 0, .int .u64 0, .int .u64 0]) (t := 37) (fr := (0, 0)) (heap_alloc_new wr _)
      case c3 => unfold maxLen; omega
      case c4 => omega
      case c5 => simp; omega
      intro g3 cap3 w3 hown' hgrow _ _
      have HG := (show Hid _ from HW.out.trans ((World.grownBy_alloc wr (.cells #[.int .i64 x, .int .i64 0, .string ⟨#[]⟩, .int .u64 0, .int .u64 0, .int .u64 0, .int .u64 0] 37) _).trans hgrow))
      clear hown' hgrow hO1 HO HW
      go_wp2
      go_end0
      exact ⟨⟨_, rfl⟩, HG.out⟩
theorem own_grown {W W' : World} {B e s n : Nat} {v : Value} {xs : List Value} {X : Option Nat} (h : W.ownsRow B e s v n xs) (hg : W.grownBy W' X) (hd : ∀ b, v.ownBlock = some b → X ≠ some b) : W'.ownsRow B e s v n xs := by
  refine ⟨h.1, ?_⟩
  rcases h.2 with hn | ⟨g, cap, cur, rfl, hb, hgg, rest⟩
  · exact .inl hn
  · refine .inr ⟨g, cap, cur, rfl, hb, ?_, rest⟩
    rw [hg.block g (Array.getElem?_eq_some_iff.1 hgg).1 (fun e => hd g rfl e.symm)]
    exact hgg
/-- Both lent, the document's two answers laid up. -/
structure SO (w W : World) (g cap : Nat) (L : List Nd) (g2 cap2 : Nat) (M : List Nd) (u v x : Value) (v5 : Value) (X5 : List Nd) (v7 : Value) (X7 : List Nd) : Prop where
  s : PS w W g cap L g2 cap2 M u v x
  o5 : W.ownsRow w.heap.size 37 7 v5 X5.length (ndc X5)
  o7 : W.ownsRow w.heap.size 37 7 v7 X7.length (ndc X7)
theorem SO.below {w W W' : World} {g cap : Nat} {L : List Nd} {g2 cap2 : Nat} {M : List Nd} {u v x v5 v7 : Value} {X5 X7 : List Nd} (h : SO w W g cap L g2 cap2 M u v x v5 X5 v7 X7) (hb : Below W.heap.size W W') : SO w W' g cap L g2 cap2 M u v x v5 X5 v7 X7 := ⟨h.s.below hb, own_below h.o5 hb, own_below h.o7 hb⟩
end Go.Proofs.Ytfomodpjdaclgab
