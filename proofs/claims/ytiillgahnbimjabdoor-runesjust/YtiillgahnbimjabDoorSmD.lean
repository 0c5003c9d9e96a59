/- DERIVED. Walks: Shapes, by the program. -/
import Derived.Test.YtiillgahnbimjabDoorSmC
import Derived.LoopN
namespace Go.Proofs.YtiillgahnbimjabDoor
open Go.RowKit

/-- The table's variable. -/
structure VB (W : World) : Prop where
  lt : 0 < W.heap.size
  c0 : W.cell? ⟨0, 0, none⟩ = some (.int .i32 0)
  c1 : W.cell? ⟨0, 1, none⟩ = some (.int .i32 127)
  c2 : W.cell? ⟨0, 2, none⟩ = some (.int .i32 128)
  c3 : W.cell? ⟨0, 3, none⟩ = some (.int .i32 2047)
  c4 : W.cell? ⟨0, 4, none⟩ = some (.int .i32 2048)
  c5 : W.cell? ⟨0, 5, none⟩ = some (.int .i32 55295)
  c6 : W.cell? ⟨0, 6, none⟩ = some (.int .i32 57344)
  c7 : W.cell? ⟨0, 7, none⟩ = some (.int .i32 65535)
  c8 : W.cell? ⟨0, 8, none⟩ = some (.int .i32 65536)
  c9 : W.cell? ⟨0, 9, none⟩ = some (.int .i32 1114111)
theorem VB.below {B : Nat} {W W' : World} (h : VB W) (hb : Below B W W') (hB : 0 < B) : VB W' := by
  have key : ∀ k, W'.cell? ⟨0, k, none⟩ = W.cell? ⟨0, k, none⟩ := fun k => hb.cell (p := ⟨0, k, none⟩) hB
  exact ⟨Nat.lt_of_lt_of_le h.lt hb.size, (key 0).trans h.c0, (key 1).trans h.c1, (key 2).trans h.c2, (key 3).trans h.c3, (key 4).trans h.c4, (key 5).trans h.c5, (key 6).trans h.c6, (key 7).trans h.c7, (key 8).trans h.c8, (key 9).trans h.c9⟩

/-- What Shapes answers. -/
def ShV (w w' : World) (lo hi : Int) (e : Ending) : Prop :=
  if bdB lo = true ∧ bdB hi = true then
    (if lo ≤ hi then ∃ v xs, e = .returned (.tuple #[v, .int .i64 0]) ∧ RR w' w.heap.size v (shAll lo hi) xs else e = .returned (.tuple #[.slice none 0 0, .int .i64 1]))
  else e = .returned (.tuple #[.slice none 0 0, .int .i64 30])

/-- The table's value. -/
def tabV : Value := .agg #[.int .i32 0, .int .i32 127, .int .i32 128, .int .i32 2047, .int .i32 2048, .int .i32 55295, .int .i32 57344, .int .i32 65535, .int .i32 65536, .int .i32 1114111]
theorem idx_tab (k : Nat) (b : Int × Int) (h : blks[k]? = some b) (W : World) : (Instr.index 43 tabV (.int .i64 (k : Int))).run Tryd.prog W = .ok (.agg #[.int .i32 b.1, .int .i32 b.2]) W := by
  match k, h with
  | 0, h => cases h; simp [tabV, Instr.index, run_underlying Tryd.underlying43, asIntOf, go_sem]
  | 1, h => cases h; simp [tabV, Instr.index, run_underlying Tryd.underlying43, asIntOf, go_sem]
  | 2, h => cases h; simp [tabV, Instr.index, run_underlying Tryd.underlying43, asIntOf, go_sem]
  | 3, h => cases h; simp [tabV, Instr.index, run_underlying Tryd.underlying43, asIntOf, go_sem]
  | 4, h => cases h; simp [tabV, Instr.index, run_underlying Tryd.underlying43, asIntOf, go_sem]
structure AtB (w wr : World) (v : Value) (ss : List Shape) : Prop where
  r : ∃ xs, RR wr w.heap.size v ss xs
  b : Below w.heap.size w wr

set_option maxRecDepth 100000 in
set_option maxHeartbeats 8000000 in
theorem shapes_in (lo hi : Int) (h0 : 0 ≤ lo) (h1 : lo ≤ hi) (h2 : hi ≤ 1114111) (w : World) (hv : VB w) :
    Calls Tryd.prog 5 #[.int .i64 lo, .int .i64 hi] w fun e w' => (∃ v xs, e = .returned (.tuple #[v, .int .i64 0]) ∧ RR w' w.heap.size v (shAll lo hi) xs) ∧ Below w.heap.size w w' := by
  have HB1 : Hid (∀ w, Calls Tryd.prog 10 #[.int .i64 lo] w fun e w' => e = .returned (.bool true) ∧ w' = w) := fun w => by
    have e := inBounds_any lo w
    rwa [bdB_t ⟨h0, by omega⟩] at e
  have HB2 : Hid (∀ w, Calls Tryd.prog 10 #[.int .i64 hi] w fun e w' => e = .returned (.bool true) ∧ w' = w) := fun w => by
    have e := inBounds_any hi w
    rwa [bdB_t ⟨by omega, h2⟩] at e
  have HV := (show Hid _ from hv)
  obtain ⟨_, c0, c1, c2, c3, c4, c5, c6, c7, c8, c9⟩ := hv
  have hnl : decide (hi < lo) = false := decide_eq_false (by omega)
  go_enter Tryd.func5, Tryd.ntmps5
  go_wp2_with fail
  refine (HB1.out _).mono ?_
  rintro e w' ⟨rfl, rfl⟩
  go_wp2_with fail
  refine (HB2.out _).mono ?_
  rintro e w' ⟨rfl, rfl⟩
  go_wp2_with fail
  clear c0 c1 c2 c3 c4 c5 c6 c7 c8 c9 HB1 HB2
  have hidx := fun k b h => idx_tab k b h
  unfold tabV at hidx
  have HI := (show Hid _ from hidx)
  clear hidx
  go_loopw [6, 22] (fun v t wr => ∃ k : Nat, k ≤ 5 ∧ t = .int .i64 k ∧ Hid (AtB w' wr v (shTo lo hi k))) (fun _ t _ => 6 - (intOf t).toNat)
  case atStart => exact ⟨0, by omega, by go_num, ⟨⟨[], RR.nil _ _⟩, Below.refl _ _⟩⟩
  case round =>
    obtain ⟨k, hk, rfl, HW⟩ := hrel
    by_cases hk5 : k < 5
    · obtain ⟨b, hb⟩ : ∃ b, blks[k]? = some b := ⟨_, List.getElem?_eq_getElem (by show k < 5; exact hk5)⟩
      have hix := HI.out k b hb wr
      obtain ⟨hb0, hb1, hb2, hbB⟩ := blk_get hb
      have HT := (show Hid _ from shTo_succ lo hi k b hb)
      have HLen := (show Hid _ from shTo_room lo hi k b hb)
      have HO := (show Hid (ofBlk lo hi b = if max b.1 lo ≤ min b.2 hi then shs (max b.1 lo) (min b.2 hi) else []) from rfl)
      have HBB := (show Hid _ from hbB lo hi)
      obtain ⟨b1, b2⟩ := b
      dsimp only at *
      have hz5 : (k : Int) < 5 := by omega
      clear hbB hb
      have q1 : IntKind.i32.wrap lo = lo := by rw [IntKind.wrap_i32]; omega
      have q2 : IntKind.i32.wrap hi = hi := by rw [IntKind.wrap_i32]; omega
      by_cases hmm : max b1 lo ≤ min b2 hi
      · have HT2 := (show Hid (shTo lo hi (k + 1) = shTo lo hi k ++ shs (max b1 lo) (min b2 hi)) from (by show _ = _; rw [HT.out, HO.out, if_pos hmm]))
        have HA := (show Hid (AppS (max b1 lo) (min b2 hi)) from appendShapes_any _ _ _ (HBB.out hmm) (Nat.le_refl _))
        have HN := (show Hid ((shTo lo hi k).length + (min b2 hi - max b1 lo + 1).toNat ≤ 1114112) from (by have e := HLen.out; show _ ≤ _; omega))
        clear HT HO HBB HLen
        obtain ⟨⟨xs, hR⟩, hBw⟩ := HW.out
        have HR := (show Hid _ from hR)
        have HBw := (show Hid _ from hBw)
        clear hR hBw HW
        have HR2 := (show Hid (RR ((wr.alloc (.cells #[.int .i32 b1, .int .i32 b2] 42)).alloc (.cells #[.int .i32 (max b1 lo), .int .i32 (min b2 hi)] 42)) w'.heap.size u6 (shTo lo hi k) xs) from (HR.out.alloc _).alloc _)
        have HB2 := (show Hid (Below w'.heap.size w' ((wr.alloc (.cells #[.int .i32 b1, .int .i32 b2] 42)).alloc (.cells #[.int .i32 (max b1 lo), .int .i32 (min b2 hi)] 42))) from (HBw.out.alloc HBw.out.size _).alloc (by simp; exact Nat.le_succ_of_le HBw.out.size) _)
        go_wp2_with fail
        refine (HA.out _ _ _ _ _ HR2.out HB2.out.size HN.out).mono ?_
        rintro e w2 ⟨v2, xs2, rfl, hR3, hg3, _⟩
        have HW2 := (show Hid (AtB w' w2 v2 (shTo lo hi (k + 1))) from (by
          rw [HT2.out]
          exact ⟨⟨xs2, hR3⟩, HB2.out.grown hg3 HB2.out.size (fun j e => (HR.out.o.lt j e).1)⟩))
        clear hR3 hg3 HR HBw HR2 HB2 hix
        go_wp2
        go_roundw
        case rel => exact ⟨k + 1, by omega, by go_num, HW2⟩
        case measure => simp [intOf]; omega
      · have HT2 := (show Hid (shTo lo hi (k + 1) = shTo lo hi k) from (by show _ = _; rw [HT.out, HO.out, if_neg hmm, List.append_nil]))
        clear HT HO HBB HLen
        obtain ⟨⟨xs, hR⟩, hBw⟩ := HW.out
        have HW2 := (show Hid (AtB w' ((wr.alloc (.cells #[.int .i32 b1, .int .i32 b2] 42)).alloc (.cells #[.int .i32 (max b1 lo), .int .i32 (min b2 hi)] 42)) u6 (shTo lo hi (k + 1))) from (by
          rw [HT2.out]
          exact ⟨⟨xs, (hR.alloc _).alloc _⟩, (hBw.alloc hBw.size _).alloc (by simp; exact Nat.le_succ_of_le hBw.size) _⟩))
        clear hR hBw HW
        go_wp2
        go_roundw
        case rel => exact ⟨k + 1, by omega, by go_num, HW2⟩
        case measure => simp [intOf]; omega
    · obtain rfl : k = 5 := by omega
      rw [shTo_all] at HW
      obtain ⟨⟨xs, hR⟩, hBw⟩ := HW.out
      go_wp2
      go_ret2
      exact ⟨⟨_, xs, rfl, hR⟩, hBw⟩
set_option maxRecDepth 100000 in
set_option maxHeartbeats 4000000 in
theorem shapes_any (lo hi : Int) (w : World) (hv : VB w) :
    Calls Tryd.prog 5 #[.int .i64 lo, .int .i64 hi] w fun e w' => ShV w w' lo hi e ∧ Below w.heap.size w w' := by
  have HB1 : Hid (∀ w, Calls Tryd.prog 10 #[.int .i64 lo] w fun e w' => e = .returned (.bool (bdB lo)) ∧ w' = w) := fun w => inBounds_any lo w
  have HB2 : Hid (∀ w, Calls Tryd.prog 10 #[.int .i64 hi] w fun e w' => e = .returned (.bool (bdB hi)) ∧ w' = w) := fun w => inBounds_any hi w
  by_cases h0 : 0 ≤ lo ∧ lo ≤ 1114111
  · by_cases h1 : 0 ≤ hi ∧ hi ≤ 1114111
    · by_cases h2 : lo ≤ hi
      · refine (shapes_in lo hi h0.1 h2 h1.2 w hv).mono fun e w' ⟨h3, h4⟩ => ⟨?_, h4⟩
        unfold ShV
        rw [if_pos ⟨bdB_t h0, bdB_t h1⟩, if_pos h2]
        exact h3
      · have HE := (show Hid (∀ w' e, e = .returned (.tuple #[.slice none 0 0, .int .i64 1]) → ShV w w' lo hi e) from fun w' e he => by
          unfold ShV
          rw [if_pos ⟨bdB_t h0, bdB_t h1⟩, if_neg h2]
          exact he)
        rw [bdB_t h0] at HB1
        rw [bdB_t h1] at HB2
        have h3 : hi < lo := by omega
        clear h0 h1 h2 hv
        go_enter Tryd.func5, Tryd.ntmps5
        go_wp2_with fail
        refine (HB1.out _).mono ?_
        rintro e w' ⟨rfl, rfl⟩
        go_wp2_with fail
        refine (HB2.out _).mono ?_
        rintro e w' ⟨rfl, rfl⟩
        go_wp2
        go_ret2
        exact ⟨HE.out _ _ rfl, Below.refl _ _⟩
    · have HE := (show Hid (∀ w' e, e = .returned (.tuple #[.slice none 0 0, .int .i64 30]) → ShV w w' lo hi e) from fun w' e he => by
        unfold ShV
        rw [if_neg (by rw [bdB_f h1]; simp)]
        exact he)
      rw [bdB_t h0] at HB1
      rw [bdB_f h1] at HB2
      clear h0 h1 hv
      go_enter Tryd.func5, Tryd.ntmps5
      go_wp2_with fail
      refine (HB1.out _).mono ?_
      rintro e w' ⟨rfl, rfl⟩
      go_wp2_with fail
      refine (HB2.out _).mono ?_
      rintro e w' ⟨rfl, rfl⟩
      go_wp2
      go_ret2
      exact ⟨HE.out _ _ rfl, Below.refl _ _⟩
  · have HE := (show Hid (∀ w' e, e = .returned (.tuple #[.slice none 0 0, .int .i64 30]) → ShV w w' lo hi e) from fun w' e he => by
      unfold ShV
      rw [if_neg (by rw [bdB_f h0]; simp)]
      exact he)
    rw [bdB_f h0] at HB1
    clear h0 hv
    go_enter Tryd.func5, Tryd.ntmps5
    go_wp2_with fail
    refine (HB1.out _).mono ?_
    rintro e w' ⟨rfl, rfl⟩
    go_wp2
    go_ret2
    exact ⟨HE.out _ _ rfl, Below.refl _ _⟩
end Go.Proofs.YtiillgahnbimjabDoor
