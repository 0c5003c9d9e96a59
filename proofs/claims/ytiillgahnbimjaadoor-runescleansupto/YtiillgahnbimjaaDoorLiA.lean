/- DERIVED. Walks: lists of numbers: the same, spoilt, lent, kept. -/
import Derived.Test.YtiillgahnbimjaaDoorFpA
import Derived.Laws.OwnMore
import Derived.BigQuiet
namespace Go.Proofs.YtiillgahnbimjaaDoor
open Go.RowKit

/-- A row of numbers that the call owns can be read. -/
theorem own_rd {W : World} {B n : Nat} {v : Value} {l : List Int} (h : W.ownsRow B 3 1 v n (inc l)) (hn : n = l.length) : ∃ A c, v = .slice A l.length c ∧ RdI W A l := by
  subst hn
  have hc := h
  rcases h.2 with ⟨rfl, h0⟩ | ⟨g, cap, cur, rfl, _⟩
  · exact ⟨none, 0, by rw [h0], fun hl => absurd (List.eq_nil_of_length_eq_zero h0) hl⟩
  · refine ⟨_, cap, rfl, fun _ => ⟨g, 0, rfl, (hc.lt g rfl).2, fun k x hk => ?_⟩⟩
    have := hc.cells (g := g) rfl k (.int .i64 x) (by rw [List.getElem?_map, hk]; rfl)
    rw [Addr.add_lit] at this
    exact this

set_option maxRecDepth 100000 in
set_option maxHeartbeats 4000000 in
theorem sameInts_any (A1 A2 : Option Addr) (c1 c2 : Nat) (l : List Int) (hl : l.length ≤ 140737488355328) (w : World) (h1 : RdI w A1 l) (h2 : RdI w A2 l) :
    Calls Tryd.prog 11 #[.slice A1 l.length c1, .slice A2 l.length c2] w fun e w' => e = .returned (.bool true) ∧ Below w.heap.size w w' := by
  have H1 := (show Hid _ from h1)
  have H2 := (show Hid _ from h2)
  have HG := (show Hid (∀ k, k < l.length → ∃ r, l[k]? = some r) from fun k hk => ⟨_, List.getElem?_eq_getElem hk⟩)
  clear h1 h2
  go_enter Tryd.func11, Tryd.ntmps11
  go_wp2_with fail
  go_loopw [5] (fun t wr => ∃ k : Nat, k ≤ l.length ∧ t = .int .i64 k ∧ Hid (Below w.heap.size w wr)) (fun t _ => l.length - (intOf t).toNat)
  case atStart => exact ⟨0, by omega, by go_num, Below.refl _ _⟩
  case round =>
    obtain ⟨k, hk, rfl, HW⟩ := hrel
    by_cases hlt : k < l.length
    · obtain ⟨r, hr⟩ := HG.out k hlt
      obtain ⟨g1, o1, hc1⟩ := H1.out (ne_of_get hlt)
      obtain ⟨g2, o2, hc2⟩ := H2.out (ne_of_get hlt)
      have e1 := (hc1.below HW.out hc1.lt).c k r hr
      have e2 := (hc2.below HW.out hc2.lt).c k r hr
      obtain rfl := hc1.a
      obtain rfl := hc2.a
      have z0 : (0 : Int) ≤ (k : Int) := by omega
      have z1 : (k : Int) < (l.length : Int) := by omega
      clear hc1 hc2 hr HG H1 H2
      generalize l.length = n at *
      go_wp2_with fail
      go_quiet (fail)
      have HW2 := (show Hid (Below w.heap.size w (wr.drewN nq)) from HW.out.trans (below_drewN (Below.refl _ _) _))
      generalize wr.drewN nq = w2 at *
      clear e1 e2 HW
      go_wp2
      go_roundw
      case rel => exact ⟨k + 1, by omega, by go_num, HW2⟩
      case measure => simp [intOf]; omega
    · obtain rfl : k = l.length := by omega
      clear HG H1 H2
      generalize l.length = n at *
      go_wp2
      go_ret
      exact ⟨rfl, HW.out⟩

set_option maxRecDepth 100000 in
set_option maxHeartbeats 4000000 in
theorem spoilInts_any (v : Value) (n B : Nat) (xs : List Value) (w : World) (h : w.ownsRow B 3 1 v n xs) (hB : B ≤ w.heap.size) (hn : n ≤ 65536) :
    Calls Tryd.prog 16 #[v, .int .i64 (-7)] w fun e w' => (∃ u, e = .returned u) ∧ w.grownBy w' v.ownBlock := by
  obtain ⟨i0, hinf, hz0, hz1, hz2⟩ := info_parts Tryd.info3
  obtain ⟨A, c, rfl⟩ : ∃ A c, v = .slice A n c := by
    rcases h.2 with ⟨rfl, h0⟩ | ⟨g, cap, cur, rfl, _⟩
    · exact ⟨none, 0, by rw [h0]⟩
    · exact ⟨_, _, rfl⟩
  have HA := (show Hid (∃ ys, w.ownsRow B 3 1 (.slice A n c) n ys) from ⟨xs, h⟩)
  have HX := (show Hid (0 < n → ∃ g, A = some ⟨g, 0, none⟩) from fun h0 => by
    obtain ⟨g, cap, e, _⟩ := h.form h0
    cases e
    exact ⟨g, rfl⟩)
  clear h
  go_enter Tryd.func16, Tryd.ntmps16
  go_wp2_with fail
  go_loopw [4] (fun t wr => ∃ k : Nat, k ≤ n ∧ t = .int .i64 k ∧ Hid (∃ ys, wr.ownsRow B 3 1 (.slice A n c) n ys) ∧ Hid (w.grownBy wr (Value.slice A n c).ownBlock)) (fun t _ => n - (intOf t).toNat)
  case atStart => exact ⟨0, by omega, by go_num, HA, World.grownBy.refl _ _⟩
  case round =>
    obtain ⟨k, hk, rfl, HO, HW⟩ := hrel
    clear HA
    by_cases hlt : k < n
    · obtain ⟨g, rfl⟩ := HX.out (by omega)
      obtain ⟨ys, ho⟩ := HO.out
      have hfr := ho.frozenAt k
      have hyl : ys.length = n := by have := ho.1; omega
      have hcl := ho.cells (g := g) rfl k _ (List.getElem?_eq_getElem (by omega))
      rw [Addr.add_lit, Nat.zero_add] at hcl
      generalize ys[k]'(by omega) = y at hcl
      obtain ⟨st1, st2⟩ := ho.stored k (.int .i64 (-7))
      have HO2 := (show Hid (∃ ys, (wr.setCell ⟨g, k, none⟩ (.int .i64 (-7))).ownsRow B 3 1 (.slice (some ⟨g, 0, none⟩) n c) n ys) from ⟨_, st1⟩)
      have HW2 := (show Hid (w.grownBy (wr.setCell ⟨g, k, none⟩ (.int .i64 (-7))) (Value.slice (some ⟨g, 0, none⟩) n c).ownBlock) from HW.out.trans st2)
      have z0 : (0 : Int) ≤ (k : Int) := by omega
      have z1 : (k : Int) < (n : Int) := by omega
      clear HO HW st1 st2 ho hyl HX
      go_wp2
      go_roundw
      case rel => exact ⟨k + 1, by omega, by go_num, HO2, HW2⟩
      case measure => simp [intOf]; omega
    · obtain rfl : k = n := by omega
      obtain ⟨ys, hO1⟩ := HO.out
      have hsz := HW.out.size
      clear HX
      go_wp2_with (at_builtin; refine wpList_append_own _ rfl _ _ 23 rfl B 3 i0 (.int .i64 0) 1 8 Tryd.underlying23 hinf hz0 hz1 hz2 rfl (by decide) _ _ _ rfl (hO1.alloc _) ⟨wr.heap.size, 0, none⟩ 1 1 [.int .i64 (-7)] rfl rfl (cell_one_new _ _ _) ?c2 ?c3 ?c4 ?c5 ?_)
      case c2 => intro u hu; simp at hu; subst hu; rfl
      case c3 => unfold maxLen; omega
      case c4 => omega
      case c5 => simp; omega
      intro v' w3 hown' hgrow _
      have HG := (show Hid _ from HW.out.trans ((World.grownBy_alloc wr (.cells #[.int .i64 (-7)] 3) _).trans hgrow))
      clear hown' hgrow hO1 HO HW
      go_wp2
      go_end0
      exact ⟨⟨_, rfl⟩, HG.out⟩
end Go.Proofs.YtiillgahnbimjaaDoor
