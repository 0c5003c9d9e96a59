/- DERIVED. Walks: Shapes, by the document. -/
import Derived.Test.YtiillgahnbimjaaDoorPcA
import Derived.Test.YtiillgahnbimjaaDoorSmD
import Derived.Deep.RegionHeld3
namespace Go.Proofs.YtiillgahnbimjaaDoor
open Go.RowKit

theorem piecesB_any (lo hi : Int) (k : Nat) (b : Int × Int) (hb : blks[k]? = some b) (w : World) :
    Calls Tryd.prog 40 #[.int .i64 (max lo b.1), .int .i64 (min hi b.2)] w fun e w' => (∃ v xs, e = .returned v ∧ RR w' w.heap.size v (ofBlk lo hi b) xs) ∧ Below w.heap.size w w' := by
  unfold ofBlk
  rw [Int.max_comm lo b.1, Int.min_comm hi b.2]
  by_cases h : max b.1 lo ≤ min b.2 hi
  · rw [if_pos h]
    exact pieces_any _ _ _ ((blk_get hb).2.2.2 lo hi h) (Nat.le_refl _) w
  · rw [if_neg h]
    exact (pieces_none _ _ (by omega) w).mono fun e w' ⟨h1, h2⟩ => ⟨⟨_, [], h1, RR.nil _ _⟩, by rw [h2]; exact Below.refl _ _⟩
/-- The document's table. -/
def tabO : Obj := .cells #[.int .i64 0, .int .i64 127, .int .i64 128, .int .i64 2047, .int .i64 2048, .int .i64 55295, .int .i64 57344, .int .i64 65535, .int .i64 65536, .int .i64 1114111] 74
theorem tab_cell (w : World) (k : Nat) (b : Int × Int) (h : blks[k]? = some b) : (w.alloc tabO).cell? ⟨w.heap.size, k * 2, none⟩ = some (.int .i64 b.1) ∧ (w.alloc tabO).cell? ⟨w.heap.size, k * 2 + 1, none⟩ = some (.int .i64 b.2) := by
  unfold tabO
  match k, h with
  | 0, h => cases h; simp
  | 1, h => cases h; simp
  | 2, h => cases h; simp
  | 3, h => cases h; simp
  | 4, h => cases h; simp
theorem drew_in {wr w2 : World} (h : Below wr.drew.heap.size wr.drew w2) : Below wr.heap.size wr w2 := ((Below.refl wr.heap.size wr).drew).trans h
theorem tab_keep {wr w2 w3 : World} {B k : Nat} {a b : Value} {row : Option Nat} (c0 : wr.cell? ⟨B, k * 2, none⟩ = some a) (c1 : wr.cell? ⟨B, k * 2 + 1, none⟩ = some b) (hlt : B < wr.heap.size) (hb : Below wr.heap.size wr w2) (hg : w2.grownBy w3 row) (hne : row ≠ some B) :
    w3.cell? ⟨B, k * 2, none⟩ = some a ∧ w3.cell? ⟨B, k * 2 + 1, none⟩ = some b :=
  ⟨(hg.cell_far ⟨B, k * 2, none⟩ (Nat.lt_of_lt_of_le hlt hb.size) (Ne.symm hne)).trans ((hb.cell (p := ⟨B, k * 2, none⟩) hlt).trans c0), (hg.cell_far ⟨B, k * 2 + 1, none⟩ (Nat.lt_of_lt_of_le hlt hb.size) (Ne.symm hne)).trans ((hb.cell (p := ⟨B, k * 2 + 1, none⟩) hlt).trans c1)⟩
structure AtG (w wr : World) (v : Value) (ss : List Shape) : Prop where
  r : ∃ xs, RR wr (w.heap.size + 1) v ss xs
  lt : w.heap.size < wr.heap.size
  c : ∀ (k : Nat) b, blks[k]? = some b → wr.cell? ⟨w.heap.size, k * 2, none⟩ = some (.int .i64 b.1) ∧ wr.cell? ⟨w.heap.size, k * 2 + 1, none⟩ = some (.int .i64 b.2)
  b : Below w.heap.size w wr

set_option maxRecDepth 100000 in
set_option maxHeartbeats 8000000 in
theorem shapesR_in (lo hi : Int) (h0 : 0 ≤ lo) (h1 : lo ≤ hi) (h2 : hi ≤ 1114111) (w : World) :
    Calls Tryd.prog 23 #[.int .i64 lo, .int .i64 hi] w fun e w' => (∃ v xs, e = .returned (.tuple #[v, .int .i64 0]) ∧ RR w' w.heap.size v (shAll lo hi) xs) ∧ Below w.heap.size w w' := by
  have HA := (show Hid (AtG w (w.alloc tabO) (.slice none 0 0) []) from ⟨⟨[], RR.nil _ _⟩, by simp, fun k b h => tab_cell w k b h, (Below.refl _ _).alloc (Nat.le_refl _) _⟩)
  unfold tabO at HA
  have d0 : decide (lo < 0) = false := decide_eq_false (by omega)
  have d1 : decide (1114111 < lo) = false := decide_eq_false (by omega)
  have d2 : decide (hi < 0) = false := decide_eq_false (by omega)
  have d3 : decide (1114111 < hi) = false := decide_eq_false (by omega)
  have d4 : decide (hi < lo) = false := decide_eq_false (by omega)
  clear h0 h1 h2
  go_enter Tryd.func23, Tryd.ntmps23
  go_wp2_with fail
  go_loopw [7, 8] (fun v t wr => ∃ k : Nat, k ≤ 5 ∧ t = .int .i64 k ∧ Hid (AtG w wr v (shTo lo hi k))) (fun _ t _ => 6 - (intOf t).toNat)
  case atStart => exact ⟨0, by omega, by go_num, HA⟩
  case round =>
    obtain ⟨k, hk, rfl, HW⟩ := hrel
    clear HA
    by_cases hk5 : k < 5
    · obtain ⟨b, hb⟩ : ∃ b, blks[k]? = some b := ⟨_, List.getElem?_eq_getElem (by show k < 5; exact hk5)⟩
      have HP : Hid (∀ w, Calls Tryd.prog 40 #[.int .i64 (max lo b.1), .int .i64 (min hi b.2)] w fun e w' => (∃ v xs, e = .returned v ∧ RR w' w.heap.size v (ofBlk lo hi b) xs) ∧ Below w.heap.size w w') := fun w => piecesB_any lo hi k b hb w
      have HT := (show Hid _ from shTo_succ lo hi k b hb)
      obtain ⟨c0, c1⟩ := HW.out.c k b hb
      have HLen := (show Hid ((shTo lo hi k).length + (ofBlk lo hi b).length ≤ 4000000) from (by
        have e1 := shTo_room lo hi k b hb
        have e2 := blk_get hb
        have e3 := ofBlk_len lo hi b e2.1 e2.2.1
        show _ ≤ _
        omega))
      obtain ⟨xs, hR⟩ := HW.out.r
      have HR := (show Hid _ from hR)
      have hltw := HW.out.lt
      have HNe := (show Hid (u7.ownBlock ≠ some w.heap.size) from fun e => by have := (World.ownsRow.lt hR.o _ e).1; omega)
      have HBw := (show Hid _ from HW.out.b)
      have HCa := (show Hid _ from HW.out.c)
      clear hR HW hb
      obtain ⟨b1, b2⟩ := b
      dsimp only at *
      have z0 : (0 : Int) ≤ (k : Int) := by omega
      have z5 : (k : Int) < 5 := by omega
      go_wp2_with fail
      go_region_held3 (fun w' => w'.cell? ⟨w.heap.size, k * 2, none⟩ = some (.int .i64 b1) ∧ w'.cell? ⟨w.heap.size, k * 2 + 1, none⟩ = some (.int .i64 b2))
        (first | go_keep | exact ⟨(hb2.cell (p := ⟨w.heap.size, k * 2, none⟩) hltw).trans c0, (hb2.cell (p := ⟨w.heap.size, k * 2 + 1, none⟩) hltw).trans c1⟩ | exact tab_keep c0 c1 hltw (drew_in hb2) hg3 HNe.out)
        (first | (go_at_call 40; with_reducible refine (HP.out _).mono ?_; rintro e w2 ⟨⟨v2, xs2, rfl, hR2⟩, hb2⟩) | (refine step_append_RR (by rfl) _ _ (by rfl) (by rfl) (by rfl) (HR.out.drew.below hb2) (HR.out.under) hR2 (by omega) hb2.size HLen.out ?_; intro v' w3 hR3 hg3 hk3))
      all_goals
        have HW3 := (show Hid (AtG w w3 v' (shTo lo hi (k + 1))) from (by
          have k1 : Below wr.heap.size wr w2 := drew_in hb2
          have kb : ∀ j, j < wr.heap.size → u7.ownBlock ≠ some j → w3.heap[j]? = wr.heap[j]? := fun j hj hn => (hg3.block j (Nat.lt_of_lt_of_le hj k1.size) (fun e => hn e.symm)).trans (k1.block j hj)
          refine ⟨⟨xs ++ xs2, by rw [HT.out]; exact hR3⟩, Nat.lt_of_lt_of_le hltw (Nat.le_trans k1.size hg3.size), fun j b hj => ?_, (HBw.out.trans (k1.mono (by omega))).grown hg3 (by have := k1.size; omega) (fun j e => by have := (World.ownsRow.lt HR.out.o j e).1; omega)⟩
          have := HCa.out j b hj
          exact ⟨(World.cell?_of_block (a := ⟨w.heap.size, j * 2, none⟩) (kb w.heap.size hltw HNe.out)).trans this.1, (World.cell?_of_block (a := ⟨w.heap.size, j * 2 + 1, none⟩) (kb w.heap.size hltw HNe.out)).trans this.2⟩))
        clear hR3 hg3 hk3 hR2 hb2 HR HBw HCa HNe c0 c1
        go_wp2
        go_roundw
        case rel => exact ⟨k + 1, by omega, by go_num, HW3⟩
        case measure => simp [intOf]; omega
    · obtain rfl : k = 5 := by omega
      rw [shTo_all] at HW
      obtain ⟨xs, hR⟩ := HW.out.r
      have HR := (show Hid (RR wr w.heap.size u7 (shAll lo hi) xs) from hR.base (by omega))
      have b := HW.out.b
      clear hR HW
      go_wp2
      go_ret2
      exact ⟨⟨_, xs, rfl, HR.out⟩, b⟩

set_option maxRecDepth 100000 in
set_option maxHeartbeats 4000000 in
theorem shapesR_any (lo hi : Int) (w : World) :
    Calls Tryd.prog 23 #[.int .i64 lo, .int .i64 hi] w fun e w' => ShV w w' lo hi e ∧ Below w.heap.size w w' := by
  by_cases h0 : 0 ≤ lo ∧ lo ≤ 1114111
  · by_cases h1 : 0 ≤ hi ∧ hi ≤ 1114111
    · by_cases h2 : lo ≤ hi
      · refine (shapesR_in lo hi h0.1 h2 h1.2 w).mono fun e w' ⟨h3, h4⟩ => ⟨?_, h4⟩
        unfold ShV
        rw [if_pos ⟨bdB_t h0, bdB_t h1⟩, if_pos h2]
        exact h3
      · have HE := (show Hid (∀ w' e, e = .returned (.tuple #[.slice none 0 0, .int .i64 1]) → ShV w w' lo hi e) from fun w' e he => by
          unfold ShV
          rw [if_pos ⟨bdB_t h0, bdB_t h1⟩, if_neg h2]
          exact he)
        have h3 : hi < lo := by omega
        have d0 : decide (lo < 0) = false := decide_eq_false (by omega)
        have d1 : decide (1114111 < lo) = false := decide_eq_false (by omega)
        have d2 : decide (hi < 0) = false := decide_eq_false (by omega)
        have d3 : decide (1114111 < hi) = false := decide_eq_false (by omega)
        clear h0 h1 h2
        go_enter Tryd.func23, Tryd.ntmps23
        go_wp2
        go_ret2
        exact ⟨HE.out _ _ rfl, Below.refl _ _⟩
    · have HE := (show Hid (∀ w' e, e = .returned (.tuple #[.slice none 0 0, .int .i64 30]) → ShV w w' lo hi e) from fun w' e he => by
        unfold ShV
        rw [if_neg (by rw [bdB_f h1]; simp)]
        exact he)
      have d0 : decide (lo < 0) = false := decide_eq_false (by omega)
      have d1 : decide (1114111 < lo) = false := decide_eq_false (by omega)
      have h3 : hi < 0 ∨ (0 ≤ hi ∧ 1114111 < hi) := by omega
      clear h0 h1
      rcases h3 with h3 | ⟨h3, h4⟩
      · go_enter Tryd.func23, Tryd.ntmps23
        go_wp2
        go_ret2
        exact ⟨HE.out _ _ rfl, Below.refl _ _⟩
      · have d2 : decide (hi < 0) = false := decide_eq_false (by omega)
        go_enter Tryd.func23, Tryd.ntmps23
        go_wp2
        go_ret2
        exact ⟨HE.out _ _ rfl, Below.refl _ _⟩
  · have HE := (show Hid (∀ w' e, e = .returned (.tuple #[.slice none 0 0, .int .i64 30]) → ShV w w' lo hi e) from fun w' e he => by
      unfold ShV
      rw [if_neg (by rw [bdB_f h0]; simp)]
      exact he)
    have h3 : lo < 0 ∨ (0 ≤ lo ∧ 1114111 < lo) := by omega
    clear h0
    rcases h3 with h3 | ⟨h3, h4⟩
    · go_enter Tryd.func23, Tryd.ntmps23
      go_wp2
      go_ret2
      exact ⟨HE.out _ _ rfl, Below.refl _ _⟩
    · have d2 : decide (lo < 0) = false := decide_eq_false (by omega)
      go_enter Tryd.func23, Tryd.ntmps23
      go_wp2
      go_ret2
      exact ⟨HE.out _ _ rfl, Below.refl _ _⟩
end Go.Proofs.YtiillgahnbimjaaDoor
