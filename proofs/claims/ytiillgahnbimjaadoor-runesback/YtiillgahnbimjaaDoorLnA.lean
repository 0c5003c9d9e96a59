/- DERIVED. Walks: LendInts, KeptInts. -/
import Derived.Test.YtiillgahnbimjaaDoorLiA
import Derived.Laws.AppendOwnNone
import Derived.Deep.AppendLies
namespace Go.Proofs.YtiillgahnbimjaaDoor
open Go.RowKit

theorem own_empty (w : World) : (w.alloc (.cells #[] 3)).ownsRow w.heap.size 3 1 (.slice (some ⟨w.heap.size, 0, none⟩) 0 0) 0 [] :=
  ⟨rfl, .inr ⟨w.heap.size, 0, #[], rfl, Nat.le_refl _, heap_alloc_new w _, Nat.le_refl _, Nat.zero_le _, rfl, rfl⟩⟩
theorem own_cap {W : World} {B e size n xs' : Nat} {g cap : Nat} {xs : List Value} (_ : xs' = n) (h : W.ownsRow B e size (.slice (some ⟨g, 0, none⟩) n cap) n xs) : n ≤ cap := by
  rcases h.2 with ⟨q, _⟩ | ⟨g2, c2, cur, q, _, _, h3, _⟩
  · cases q
  · cases q; exact h3

set_option maxRecDepth 100000 in
set_option maxHeartbeats 4000000 in
theorem lendInts_some (ad : Addr) (c : Nat) (l : List Int) (w : World) (hl : l.length * 8 ≤ 140737488351232) (hc : ∀ (j : Nat) u, (inc l)[j]? = some u → w.cell? (ad.add j) = some u) :
    Calls Tryd.prog 18 #[.slice (some ad) l.length c] w fun e w' => ∃ g cap, e = .returned (.slice (some ⟨g, 0, none⟩) l.length cap) ∧ w'.ownsRow w.heap.size 3 1 (.slice (some ⟨g, 0, none⟩) (l.length + 1) cap) (l.length + 1) (inc (l ++ [-77])) ∧ Below w.heap.size w w' := by
  obtain ⟨i0, hinf, hz0, hz1, hz2⟩ := info_parts Tryd.info3
  have hO := own_empty w
  have HB := (show Hid _ from (Below.refl w.heap.size w).alloc (Nat.le_refl _) (.cells #[] 3))
  have HC := (show Hid (∀ (j : Nat) u, (inc l)[j]? = some u → (w.alloc (.cells #[] 3)).cell? (ad.add j) = some u) from fun j u hj => by
    have h1 := hc j u hj
    have h2 := World.block_lt_of_cell? w _ h1
    exact (((Below.refl w.heap.size w).alloc (Nat.le_refl _) (.cells #[] 3)).cell (p := ad.add j) h2).trans h1)
  have HI := (show Hid ((inc l).length = l.length * 1 ∧ ∀ u ∈ inc l, u.oneCell' = true) from ⟨by rw [List.length_map, Nat.mul_one], fun u hu => by
    obtain ⟨x, _, rfl⟩ := List.mem_map.1 hu
    rfl⟩)
  clear hc
  go_enter Tryd.func18, Tryd.ntmps18
  go_wp2_with (at_builtin; refine wpList_append_own _ rfl _ _ 23 rfl w.heap.size 3 i0 (.int .i64 0) 1 8 Tryd.underlying23 hinf hz0 hz1 hz2 rfl (by decide) _ _ _ rfl hO ad l.length c (inc l) rfl HI.out.1 HC.out HI.out.2 ?c3 ?c4 ?c5 ?_)
  case c3 => unfold maxLen; omega
  case c4 => omega
  case c5 => simp
  intro v1 w1 hown hgrow _
  have HB1 := (show Hid (Below w.heap.size w w1) from HB.out.grown hgrow (by simp) (fun k e => (hO.lt k e).1))
  have hsz := HB1.out.size
  clear hgrow hO HB
  go_wp2_with (at_builtin; refine wpList_append_lies _ rfl _ _ 23 rfl w.heap.size 3 i0 (.int .i64 0) 1 8 Tryd.underlying23 hinf hz0 hz1 hz2 rfl (by decide) _ _ _ rfl (hown.alloc _) ⟨w1.heap.size, 0, none⟩ 1 1 [.int .i64 (-77)] rfl rfl (cell_one_new _ _ _) ?c2 (by decide) ?c3 ?c4 ?c5 (w1.heap.size + 1) (by simp) ?_)
  case c2 => intro u hu; simp at hu; subst hu; rfl
  case c3 => unfold maxLen; omega
  case c4 => omega
  case c5 => simp; omega
  intro g cap w2 hown2 hgrow2 hat hlt
  have HB2 := (show Hid (Below w.heap.size w w2) from (HB1.out.alloc hsz _).grown hgrow2 (by simp; omega) (fun k e => (hown.lt k e).1))
  have HO2 := (show Hid (w2.ownsRow w.heap.size 3 1 (.slice (some ⟨g, 0, none⟩) (l.length + 1) cap) (l.length + 1) (inc (l ++ [-77]))) from (by rw [inc_append]; exact hown2))
  have hcap := own_cap (xs' := l.length + 1) rfl hown2
  have z0 : (0 : Int) ≤ (l.length : Int) := by omega
  have z1 : (l.length : Int) ≤ (cap : Int) := by omega
  clear hown hown2 hgrow2 HB1 hat hlt HC HI
  go_wp2
  go_ret
  exact ⟨g, cap, rfl, HO2.out, HB2.out⟩

set_option maxRecDepth 100000 in
set_option maxHeartbeats 4000000 in
theorem lendInts_nil (w : World) :
    Calls Tryd.prog 18 #[.slice none 0 0] w fun e w' => ∃ g cap, e = .returned (.slice (some ⟨g, 0, none⟩) 0 cap) ∧ w'.ownsRow w.heap.size 3 1 (.slice (some ⟨g, 0, none⟩) (0 + 1) cap) (0 + 1) (inc ([] ++ [-77])) ∧ Below w.heap.size w w' := by
  obtain ⟨i0, hinf, hz0, hz1, hz2⟩ := info_parts Tryd.info3
  have hO := own_empty w
  have HB := (show Hid _ from (Below.refl w.heap.size w).alloc (Nat.le_refl _) (.cells #[] 3))
  go_enter Tryd.func18, Tryd.ntmps18
  go_wp2_with (at_builtin; first | refine wpList_append_own_none rfl _ _ 23 rfl w.heap.size 3 i0 1 Tryd.underlying23 hinf _ _ _ rfl hO rfl ?_ | refine wpList_append_lies _ rfl _ _ 23 rfl w.heap.size 3 i0 (.int .i64 0) 1 8 Tryd.underlying23 hinf hz0 hz1 hz2 rfl (by decide) _ _ _ rfl (hO.alloc _) ⟨w.heap.size + 1, 0, none⟩ 1 1 [.int .i64 (-77)] rfl rfl ?c1 ?c2 (by decide) ?c3 ?c4 ?c5 (w.heap.size + 1 + 1) (by simp) ?_)
  case c1 =>
    intro j u hj
    match j, hj with
    | 0, hj => simp at hj; subst hj; simp [Addr.add]
    | (j + 1), hj => simp at hj
  case c2 => intro u hu; simp at hu; subst hu; rfl
  case c3 => unfold maxLen; omega
  case c4 => omega
  case c5 => simp; omega
  intro g cap w2 hown2 hgrow2 hat hlt
  have HB2 := (show Hid (Below w.heap.size w w2) from (HB.out.alloc (by simp) _).grown hgrow2 (by simp; omega) (fun k e => (hO.lt k e).1))
  have HO2 := (show Hid _ from hown2)
  have z1 : (0 : Int) ≤ (cap : Int) := by omega
  clear hown2 hgrow2 HB hat hlt hO
  go_wp2
  go_ret
  exact ⟨g, cap, rfl, HO2.out, HB2.out⟩
/-- What was lent. -/
def LentI (w w' : World) (l : List Int) (e : Ending) : Prop := ∃ g cap, e = .returned (.slice (some ⟨g, 0, none⟩) l.length cap) ∧ w'.ownsRow w.heap.size 3 1 (.slice (some ⟨g, 0, none⟩) (l.length + 1) cap) (l.length + 1) (inc (l ++ [-77]))
/-- What a list that comes in is. -/
def InI (W : World) (A : Option Addr) (c : Nat) (l : List Int) : Prop := (A = none ∧ c = 0 ∧ l = []) ∨ ∃ ad, A = some ad ∧ ∀ (j : Nat) u, (inc l)[j]? = some u → W.cell? (ad.add j) = some u
theorem InI.rd {W : World} {A : Option Addr} {c : Nat} {l : List Int} (h : InI W A c l) : RdI W A l := fun hl => by
  rcases h with ⟨_, _, rfl⟩ | ⟨ad, rfl, hc⟩
  · exact absurd rfl hl
  · obtain ⟨g, off, spot⟩ := ad
    have h0 : 0 < l.length := List.length_pos_iff.2 hl
    have c0 := hc 0 _ (by rw [List.getElem?_map, List.getElem?_eq_getElem h0]; rfl)
    have hs : spot = none := by simpa [Addr.add] using World.cell?_spot c0
    subst hs
    refine ⟨g, off, rfl, World.block_lt_of_cell? W _ c0, fun k x hk => ?_⟩
    have := hc k (.int .i64 x) (by rw [List.getElem?_map, hk]; rfl)
    rwa [Addr.add_lit] at this
theorem lendInts_any (A : Option Addr) (c : Nat) (l : List Int) (w : World) (hl : l.length * 8 ≤ 140737488351232) (h : InI w A c l) : Calls Tryd.prog 18 #[.slice A l.length c] w fun e w' => LentI w w' l e ∧ Below w.heap.size w w' := by
  rcases h with ⟨rfl, rfl, rfl⟩ | ⟨ad, rfl, hc⟩
  · exact (lendInts_nil w).mono fun e w' ⟨g, cap, h1, h2, h3⟩ => ⟨⟨g, cap, h1, h2⟩, h3⟩
  · exact (lendInts_some ad c l w hl hc).mono fun e w' ⟨g, cap, h1, h2, h3⟩ => ⟨⟨g, cap, h1, h2⟩, h3⟩
/-- What was lent can be read. -/
theorem lent_rd {W : World} {B g cap : Nat} {l : List Int} (h : W.ownsRow B 3 1 (.slice (some ⟨g, 0, none⟩) (l.length + 1) cap) (l.length + 1) (inc (l ++ [-77]))) : RdI W (some ⟨g, 0, none⟩) l := fun _ => by
  refine ⟨g, 0, rfl, (h.lt g rfl).2, fun k x hk => ?_⟩
  have hlt : k < l.length := by
    by_cases q : k < l.length
    · exact q
    · rw [List.getElem?_eq_none (by omega)] at hk; cases hk
  have := h.cells (g := g) rfl k (.int .i64 x) (by rw [List.getElem?_map, List.getElem?_append_left hlt, hk]; rfl)
  rwa [Addr.add_lit] at this
theorem lent_last {W : World} {B g cap : Nat} {l : List Int} (h : W.ownsRow B 3 1 (.slice (some ⟨g, 0, none⟩) (l.length + 1) cap) (l.length + 1) (inc (l ++ [-77]))) : W.cell? ⟨g, l.length, none⟩ = some (.int .i64 (-77)) := by
  have := h.cells (g := g) rfl l.length (.int .i64 (-77)) (by rw [List.getElem?_map, List.getElem?_append_right (Nat.le_refl _), Nat.sub_self]; rfl)
  rwa [Addr.add_lit, Nat.zero_add] at this

set_option maxRecDepth 100000 in
set_option maxHeartbeats 4000000 in
theorem keptInts_any (A : Option Addr) (c g cap B : Nat) (l : List Int) (hl : l.length * 8 ≤ 140737488351232) (w : World) (h : RdI w A l) (ho : w.ownsRow B 3 1 (.slice (some ⟨g, 0, none⟩) (l.length + 1) cap) (l.length + 1) (inc (l ++ [-77]))) :
    Calls Tryd.prog 21 #[.slice (some ⟨g, 0, none⟩) l.length cap, .slice A l.length c] w fun e w' => e = .returned (.bool true) ∧ Below w.heap.size w w' := by
  have HS : Hid (Calls Tryd.prog 11 #[.slice (some ⟨g, 0, none⟩) l.length cap, .slice A l.length c] w fun e w' => e = .returned (.bool true) ∧ Below w.heap.size w w') := sameInts_any (some ⟨g, 0, none⟩) A cap c l (by omega) w (lent_rd ho) h
  have hcap := own_cap (xs' := l.length + 1) rfl ho
  have HO := (show Hid (∀ w', Below w.heap.size w w' → w'.cell? ⟨g, l.length, none⟩ = some (.int .i64 (-77))) from fun w' hb => lent_last (own_below ho hb))
  clear ho h
  have z0 : (0 : Int) ≤ (l.length : Int) := by omega
  have z1 : (l.length : Int) + 1 ≤ (cap : Int) := by omega
  have z2 : (l.length : Int) < (l.length : Int) + 1 := by omega
  generalize l.length = n at *
  go_enter Tryd.func21, Tryd.ntmps21
  go_wp2_with fail
  refine HS.out.mono ?_
  rintro e w1 ⟨rfl, hb⟩
  have hcell := HO.out w1 hb
  go_wp2
  go_ret
  exact ⟨rfl, hb⟩
end Go.Proofs.YtiillgahnbimjaaDoor
