/- ShowPatterns holds of every pattern: its text and its tree are the document's, and it stays as it is; the laid tables are tied to the program's text. -/
import Derived.Test.YtnpifgcgjgddoaaGreatDoorPp15
namespace Go.Proofs.YtnpifgcgjgddoaaGreatDoor.N
open Go.RowKit
def wkA : List Nd := [⟨4, 0, ⟨#[97]⟩, 0, 0, 0, 0⟩, ⟨4, 0, ⟨#[98]⟩, 0, 0, 0, 0⟩, ⟨7, 0, ⟨#[]⟩, 0, 0, 0, 0⟩, ⟨9, 0, ⟨#[]⟩, 0, 0, 0, 0⟩]
def wkB : List Nd := [⟨4, 0, ⟨#[97]⟩, 0, 0, 0, 0⟩, ⟨9, 0, ⟨#[]⟩, 0, 0, 0, 0⟩, ⟨13, 0, ⟨#[]⟩, 0, 0, 0, 0⟩]
def wkC : List Nd := [⟨4, 0, ⟨#[97]⟩, 0, 0, 0, 0⟩, ⟨6, 0, ⟨#[115]⟩, 0, 0, 0, 0⟩, ⟨7, 0, ⟨#[]⟩, 0, 0, 0, 0⟩, ⟨1, 0, ⟨#[]⟩, 0, 0, 0, 0⟩, ⟨8, 0, ⟨#[]⟩, 0, 0, 0, 0⟩]
theorem wk_a : shR wkA = (⟨#[40, 39, 97, 39, 32, 39, 98, 39, 41, 42]⟩, 0) := by kernel_rfl
theorem wk_b : shR wkB = (⟨#[33, 39, 97, 39, 42]⟩, 0) := by kernel_rfl
theorem wk_c : grR [(⟨#[115]⟩, wkC)] = (⟨#[115, 32, 60, 45, 32, 39, 97, 39, 32, 115, 32, 47, 32, 37, 101, 10]⟩, 0) := by kernel_rfl
theorem wk_tx : ∀ n ∈ wkA ++ (wkB ++ wkC), n.tx.size ≤ 140737488355328 ∧ NdW n := by
  intro n hn
  have h : n.tx.size ≤ 1 ∧ n.s0 = 0 ∧ n.s1 = 0 ∧ n.s2 = 0 ∧ n.s3 = 0 := by
    simp only [wkA, wkB, wkC, List.cons_append, List.nil_append, List.mem_cons, List.not_mem_nil, or_false] at hn
    rcases hn with rfl | rfl | rfl | rfl | rfl | rfl | rfl | rfl | rfl | rfl | rfl | rfl <;> exact ⟨by decide, rfl, rfl, rfl, rfl⟩
  exact ⟨by omega, nw_z h.2⟩
set_option maxRecDepth 100000 in
set_option maxHeartbeats 4000000 in
theorem works_any (w : World) : Calls Tryz.prog 14 #[] w fun e w' => e = .returned (.bool true) ∧ Below w.heap.size w w' := by
  have HA := (show Hid (T.NB ((w.alloc (.cells #[.int .i64 4, .int .i64 0, .string ⟨#[97]⟩, .int .u64 0, .int .u64 0, .int .u64 0, .int .u64 0] 51)).alloc (.cells #[.int .i64 4, .int .i64 0, .string ⟨#[98]⟩, .int .u64 0, .int .u64 0, .int .u64 0, .int .u64 0] 51)) w.heap.size 0 ⟨4, 0, ⟨#[97]⟩, 0, 0, 0, 0⟩) from (T.nb_new w ⟨4, 0, ⟨#[97]⟩, 0, 0, 0, 0⟩).below (below_box _ _))
  have HB := (show Hid (T.NB ((w.alloc (.cells #[.int .i64 4, .int .i64 0, .string ⟨#[97]⟩, .int .u64 0, .int .u64 0, .int .u64 0, .int .u64 0] 51)).alloc (.cells #[.int .i64 4, .int .i64 0, .string ⟨#[98]⟩, .int .u64 0, .int .u64 0, .int .u64 0, .int .u64 0] 51)) (w.heap.size + 1) 0 ⟨4, 0, ⟨#[98]⟩, 0, 0, 0, 0⟩) from by
    have h := T.nb_new (w.alloc (.cells #[.int .i64 4, .int .i64 0, .string ⟨#[97]⟩, .int .u64 0, .int .u64 0, .int .u64 0, .int .u64 0] 51)) ⟨4, 0, ⟨#[98]⟩, 0, 0, 0, 0⟩
    rw [World.size_alloc] at h
    exact h)
  have HW := (show Hid (Below w.heap.size w ((w.alloc (.cells #[.int .i64 4, .int .i64 0, .string ⟨#[97]⟩, .int .u64 0, .int .u64 0, .int .u64 0, .int .u64 0] 51)).alloc (.cells #[.int .i64 4, .int .i64 0, .string ⟨#[98]⟩, .int .u64 0, .int .u64 0, .int .u64 0, .int .u64 0] 51))) from (below_box w _).alloc (below_box w _).size _)
  have H1 : Hid (∀ W : World, Calls Tryz.prog 9 #[.slice (some ⟨W.heap.size, 0, none⟩) 4 4] (W.alloc (.cells #[.int .i64 4, .int .i64 0, .string ⟨#[97]⟩, .int .u64 0, .int .u64 0, .int .u64 0, .int .u64 0, .int .i64 4, .int .i64 0, .string ⟨#[98]⟩, .int .u64 0, .int .u64 0, .int .u64 0, .int .u64 0, .int .i64 7, .int .i64 0, .string ⟨#[]⟩, .int .u64 0, .int .u64 0, .int .u64 0, .int .u64 0, .int .i64 9, .int .i64 0, .string ⟨#[]⟩, .int .u64 0, .int .u64 0, .int .u64 0, .int .u64 0] 51)) fun e w' => e = .returned (.tuple #[.string ⟨#[40, 39, 97, 39, 32, 39, 98, 39, 41, 42]⟩, .int .i64 0]) ∧ Below W.heap.size W w') := fun W => by
    have h := show_any wkA (some ⟨W.heap.size, 0, none⟩) 4 (by decide) (fun n hn => (wk_tx n (List.mem_append_left _ hn)).1) (fun n hn => (wk_tx n (List.mem_append_left _ hn)).2) (W.alloc (.cells #[.int .i64 4, .int .i64 0, .string ⟨#[97]⟩, .int .u64 0, .int .u64 0, .int .u64 0, .int .u64 0, .int .i64 4, .int .i64 0, .string ⟨#[98]⟩, .int .u64 0, .int .u64 0, .int .u64 0, .int .u64 0, .int .i64 7, .int .i64 0, .string ⟨#[]⟩, .int .u64 0, .int .u64 0, .int .u64 0, .int .u64 0, .int .i64 9, .int .i64 0, .string ⟨#[]⟩, .int .u64 0, .int .u64 0, .int .u64 0, .int .u64 0] 51)) (rd_row W wkA (by decide) _ rfl)
    rw [wk_a] at h
    exact h.mono fun e w' ⟨h1, h2⟩ => ⟨h1, (below_box W _).trans (h2.mono (below_box W _).size)⟩
  have H2 : Hid (∀ W : World, Calls Tryz.prog 9 #[.slice (some ⟨W.heap.size, 0, none⟩) 3 3] (W.alloc (.cells #[.int .i64 4, .int .i64 0, .string ⟨#[97]⟩, .int .u64 0, .int .u64 0, .int .u64 0, .int .u64 0, .int .i64 9, .int .i64 0, .string ⟨#[]⟩, .int .u64 0, .int .u64 0, .int .u64 0, .int .u64 0, .int .i64 13, .int .i64 0, .string ⟨#[]⟩, .int .u64 0, .int .u64 0, .int .u64 0, .int .u64 0] 51)) fun e w' => e = .returned (.tuple #[.string ⟨#[33, 39, 97, 39, 42]⟩, .int .i64 0]) ∧ Below W.heap.size W w') := fun W => by
    have h := show_any wkB (some ⟨W.heap.size, 0, none⟩) 3 (by decide) (fun n hn => (wk_tx n (List.mem_append_right _ (List.mem_append_left _ hn))).1) (fun n hn => (wk_tx n (List.mem_append_right _ (List.mem_append_left _ hn))).2) (W.alloc (.cells #[.int .i64 4, .int .i64 0, .string ⟨#[97]⟩, .int .u64 0, .int .u64 0, .int .u64 0, .int .u64 0, .int .i64 9, .int .i64 0, .string ⟨#[]⟩, .int .u64 0, .int .u64 0, .int .u64 0, .int .u64 0, .int .i64 13, .int .i64 0, .string ⟨#[]⟩, .int .u64 0, .int .u64 0, .int .u64 0, .int .u64 0] 51)) (rd_row W wkB (by decide) _ rfl)
    rw [wk_b] at h
    exact h.mono fun e w' ⟨h1, h2⟩ => ⟨h1, (below_box W _).trans (h2.mono (below_box W _).size)⟩
  have H3 : Hid (∀ W : World, Calls Tryz.prog 16 #[.agg #[.slice (some ⟨W.heap.size + 1, 0, none⟩) 1 1]] ((W.alloc (.cells #[.int .i64 4, .int .i64 0, .string ⟨#[97]⟩, .int .u64 0, .int .u64 0, .int .u64 0, .int .u64 0, .int .i64 6, .int .i64 0, .string ⟨#[115]⟩, .int .u64 0, .int .u64 0, .int .u64 0, .int .u64 0, .int .i64 7, .int .i64 0, .string ⟨#[]⟩, .int .u64 0, .int .u64 0, .int .u64 0, .int .u64 0, .int .i64 1, .int .i64 0, .string ⟨#[]⟩, .int .u64 0, .int .u64 0, .int .u64 0, .int .u64 0, .int .i64 8, .int .i64 0, .string ⟨#[]⟩, .int .u64 0, .int .u64 0, .int .u64 0, .int .u64 0] 51)).alloc (.cells #[.string ⟨#[115]⟩, .slice (some ⟨W.heap.size, 0, none⟩) 5 5] 73)) fun e w' => e = .returned (.tuple #[.string ⟨#[115, 32, 60, 45, 32, 39, 97, 39, 32, 115, 32, 47, 32, 37, 101, 10]⟩, .int .i64 0]) ∧ Below W.heap.size W w') := fun W => by
    have hb1 := below_box W (.cells #[.int .i64 4, .int .i64 0, .string ⟨#[97]⟩, .int .u64 0, .int .u64 0, .int .u64 0, .int .u64 0, .int .i64 6, .int .i64 0, .string ⟨#[115]⟩, .int .u64 0, .int .u64 0, .int .u64 0, .int .u64 0, .int .i64 7, .int .i64 0, .string ⟨#[]⟩, .int .u64 0, .int .u64 0, .int .u64 0, .int .u64 0, .int .i64 1, .int .i64 0, .string ⟨#[]⟩, .int .u64 0, .int .u64 0, .int .u64 0, .int .u64 0, .int .i64 8, .int .i64 0, .string ⟨#[]⟩, .int .u64 0, .int .u64 0, .int .u64 0, .int .u64 0] 51)
    have hb2 := below_box (W.alloc (.cells #[.int .i64 4, .int .i64 0, .string ⟨#[97]⟩, .int .u64 0, .int .u64 0, .int .u64 0, .int .u64 0, .int .i64 6, .int .i64 0, .string ⟨#[115]⟩, .int .u64 0, .int .u64 0, .int .u64 0, .int .u64 0, .int .i64 7, .int .i64 0, .string ⟨#[]⟩, .int .u64 0, .int .u64 0, .int .u64 0, .int .u64 0, .int .i64 1, .int .i64 0, .string ⟨#[]⟩, .int .u64 0, .int .u64 0, .int .u64 0, .int .u64 0, .int .i64 8, .int .i64 0, .string ⟨#[]⟩, .int .u64 0, .int .u64 0, .int .u64 0, .int .u64 0] 51)) (.cells #[.string ⟨#[115]⟩, .slice (some ⟨W.heap.size, 0, none⟩) 5 5] 73)
    have hnew := heap_alloc_new (W.alloc (.cells #[.int .i64 4, .int .i64 0, .string ⟨#[97]⟩, .int .u64 0, .int .u64 0, .int .u64 0, .int .u64 0, .int .i64 6, .int .i64 0, .string ⟨#[115]⟩, .int .u64 0, .int .u64 0, .int .u64 0, .int .u64 0, .int .i64 7, .int .i64 0, .string ⟨#[]⟩, .int .u64 0, .int .u64 0, .int .u64 0, .int .u64 0, .int .i64 1, .int .i64 0, .string ⟨#[]⟩, .int .u64 0, .int .u64 0, .int .u64 0, .int .u64 0, .int .i64 8, .int .i64 0, .string ⟨#[]⟩, .int .u64 0, .int .u64 0, .int .u64 0, .int .u64 0] 51)) (.cells #[.string ⟨#[115]⟩, .slice (some ⟨W.heap.size, 0, none⟩) 5 5] 73)
    rw [World.size_alloc] at hnew
    have hc : ∀ n ∈ wkC, n.tx.size ≤ 140737488355328 ∧ NdW n := fun n hn => wk_tx n (List.mem_append_right _ (List.mem_append_right _ hn))
    have h := grammar_any [(⟨#[115]⟩, wkC)] (some ⟨W.heap.size + 1, 0, none⟩) 1 (by decide) (fun g hg => by rw [List.mem_singleton.1 hg]; exact ⟨by decide, by decide, fun n hn => (hc n hn).1⟩) (fun g hg => by rw [List.mem_singleton.1 hg]; exact fun n hn => (hc n hn).2) ((W.alloc (.cells #[.int .i64 4, .int .i64 0, .string ⟨#[97]⟩, .int .u64 0, .int .u64 0, .int .u64 0, .int .u64 0, .int .i64 6, .int .i64 0, .string ⟨#[115]⟩, .int .u64 0, .int .u64 0, .int .u64 0, .int .u64 0, .int .i64 7, .int .i64 0, .string ⟨#[]⟩, .int .u64 0, .int .u64 0, .int .u64 0, .int .u64 0, .int .i64 1, .int .i64 0, .string ⟨#[]⟩, .int .u64 0, .int .u64 0, .int .u64 0, .int .u64 0, .int .i64 8, .int .i64 0, .string ⟨#[]⟩, .int .u64 0, .int .u64 0, .int .u64 0, .int .u64 0] 51)).alloc (.cells #[.string ⟨#[115]⟩, .slice (some ⟨W.heap.size, 0, none⟩) 5 5] 73)) (fun k g hg => by
      have hk : k = 0 := by have := (List.getElem?_eq_some_iff.1 hg).1; simp at this; exact this
      subst hk
      cases hg
      refine ⟨W.heap.size + 1, 0, some ⟨W.heap.size, 0, none⟩, 5, rfl, by rw [World.size_alloc, World.size_alloc]; omega, ?_, ?_, (rd_row W wkC (by decide) _ rfl).below hb2 (Nat.le_refl _)⟩
      · exact (Lib.cell_of_heap hnew 0)
      · exact (Lib.cell_of_heap hnew 1))
    rw [wk_c] at h
    exact h.mono fun e w' ⟨h1, h2⟩ => ⟨h1, ((hb1.trans (hb2.mono hb1.size))).trans (h2.mono (Nat.le_trans hb1.size hb2.size))⟩
  have H1' : Hid (∀ _ : Unit, Calls Tryz.prog 9 #[.slice (some ⟨w.heap.size + 1 + 1, 0, none⟩) 4 4] (((w.alloc (.cells #[.int .i64 4, .int .i64 0, .string ⟨#[97]⟩, .int .u64 0, .int .u64 0, .int .u64 0, .int .u64 0] 51)).alloc (.cells #[.int .i64 4, .int .i64 0, .string ⟨#[98]⟩, .int .u64 0, .int .u64 0, .int .u64 0, .int .u64 0] 51)).alloc (.cells #[.int .i64 4, .int .i64 0, .string ⟨#[97]⟩, .int .u64 0, .int .u64 0, .int .u64 0, .int .u64 0, .int .i64 4, .int .i64 0, .string ⟨#[98]⟩, .int .u64 0, .int .u64 0, .int .u64 0, .int .u64 0, .int .i64 7, .int .i64 0, .string ⟨#[]⟩, .int .u64 0, .int .u64 0, .int .u64 0, .int .u64 0, .int .i64 9, .int .i64 0, .string ⟨#[]⟩, .int .u64 0, .int .u64 0, .int .u64 0, .int .u64 0] 51)) fun e w' => e = .returned (.tuple #[.string ⟨#[40, 39, 97, 39, 32, 39, 98, 39, 41, 42]⟩, .int .i64 0]) ∧ Below ((w.alloc (.cells #[.int .i64 4, .int .i64 0, .string ⟨#[97]⟩, .int .u64 0, .int .u64 0, .int .u64 0, .int .u64 0] 51)).alloc (.cells #[.int .i64 4, .int .i64 0, .string ⟨#[98]⟩, .int .u64 0, .int .u64 0, .int .u64 0, .int .u64 0] 51)).heap.size ((w.alloc (.cells #[.int .i64 4, .int .i64 0, .string ⟨#[97]⟩, .int .u64 0, .int .u64 0, .int .u64 0, .int .u64 0] 51)).alloc (.cells #[.int .i64 4, .int .i64 0, .string ⟨#[98]⟩, .int .u64 0, .int .u64 0, .int .u64 0, .int .u64 0] 51)) w') := fun _ => by
    have h := H1.out ((w.alloc (.cells #[.int .i64 4, .int .i64 0, .string ⟨#[97]⟩, .int .u64 0, .int .u64 0, .int .u64 0, .int .u64 0] 51)).alloc (.cells #[.int .i64 4, .int .i64 0, .string ⟨#[98]⟩, .int .u64 0, .int .u64 0, .int .u64 0, .int .u64 0] 51))
    have e : ((w.alloc (.cells #[.int .i64 4, .int .i64 0, .string ⟨#[97]⟩, .int .u64 0, .int .u64 0, .int .u64 0, .int .u64 0] 51)).alloc (.cells #[.int .i64 4, .int .i64 0, .string ⟨#[98]⟩, .int .u64 0, .int .u64 0, .int .u64 0, .int .u64 0] 51)).heap.size = w.heap.size + 1 + 1 := by rw [World.size_alloc, World.size_alloc]
    rw [e] at h ⊢
    exact h
  clear H1
  go_enter Tryz.func14, Tryz.ntmps14
  go_wp2_with fail
  refine (H1'.out ()).mono ?_
  rintro e w2 ⟨rfl, b2⟩
  have HA2 := (show Hid _ from HA.out.below b2)
  have HW2 := (show Hid _ from HW.out.trans (b2.mono HW.out.size))
  obtain ⟨a0, a1, a2, a3, a4, a5, a6⟩ := HA2.out
  clear HA HB HW b2 H1'
  go_wp2_with fail
  refine (H2.out _).mono ?_
  rintro e w3 ⟨rfl, b3⟩
  have HA3 := (show Hid _ from HA2.out.below b3)
  have HW3 := (show Hid _ from HW2.out.trans (b3.mono HW2.out.size))
  clear a0 a1 a2 a3 a4 a5 a6 HA2 HW2 b3 H2
  obtain ⟨a0, a1, a2, a3, a4, a5, a6⟩ := HA3.out
  go_wp2_with fail
  refine (H3.out _).mono ?_
  rintro e w4 ⟨rfl, b4⟩
  have HW4 := (show Hid _ from HW3.out.trans (b4.mono HW3.out.size))
  clear a0 a1 a2 a3 a4 a5 a6 HA3 HW3 b4 H3
  go_wp2_with fail
  go_ret
  exact ⟨rfl, HW4.out⟩
end Go.Proofs.YtnpifgcgjgddoaaGreatDoor.N

namespace Go.Proofs.YtnpifgcgjgddoaaGreatDoor.N
open Go.RowKit
set_option maxRecDepth 100000 in
set_option maxHeartbeats 4000000 in
theorem patterns_any (L : List Nd) (A : Option Addr) (c : Nat) (hl : L.length * 64 ≤ 140737488351232) (hT : ∀ n ∈ L, n.tx.size ≤ 140737488355328) (hw : ∀ n ∈ L, NdW n) (w : World) (hWt : WT w) (h0w : 0 < w.heap.size) (hp : T.InP w A c L) : Calls Tryz.prog 3 #[.slice A L.length c] w fun e w' => e = .returned (.bool true) ∧ Below w.heap.size w w' := by
  have HLe : Hid (∀ _ : Unit, Calls Tryz.prog 8 #[.slice A L.length c] w fun e w' => T.Lent w w' L e ∧ Below w.heap.size w w') := fun _ => T.lend_any A c L w hl hp
  have HA : Hid (∀ (w' : World) (Ap : Option Addr) (cp : Nat), T.RdN w' Ap L → Calls Tryz.prog 9 #[.slice Ap L.length cp] w' fun e w'' => e = .returned (.tuple #[.string (shR L).1, .int .i64 (shR L).2]) ∧ Below w'.heap.size w' w'') := fun w' Ap cp h => show_any L Ap cp (by omega) hT hw w' h
  have HD : Hid (∀ (w' : World) (Ap : Option Addr) (cp : Nat), T.RdN w' Ap L → Calls Tryz.prog 10 #[.slice Ap L.length cp] w' fun e w'' => e = .returned (.tuple #[.string (shR L).1, .int .i64 (shR L).2]) ∧ Below w'.heap.size w' w'') := fun w' Ap cp h => patD_any L Ap cp (by omega) hT hw w' h
  have HTa : Hid (∀ (w' : World) (Ap : Option Addr) (cp : Nat), Below w.heap.size w w' → T.RdN w' Ap L → Calls Tryz.prog 11 #[.slice Ap L.length cp] w' fun e w'' => e = .returned (.tuple #[.string (trR L).1, .int .i64 (trR L).2]) ∧ Below w'.heap.size w' w'') := fun w' Ap cp hb h => showTree_any L Ap cp (by omega) hT hw w' (hWt.below hb h0w) (Nat.lt_of_lt_of_le h0w hb.size) h
  have HTd : Hid (∀ (w' : World) (Ap : Option Addr) (cp : Nat), T.RdN w' Ap L → Calls Tryz.prog 12 #[.slice Ap L.length cp] w' fun e w'' => e = .returned (.tuple #[.string (trR L).1, .int .i64 (trR L).2]) ∧ Below w'.heap.size w' w'') := fun w' Ap cp h => treeDR_any L Ap cp (by omega) hT hw w' h
  have HK : Hid (∀ (w' : World) (g cap : Nat), T.RdN w' A L → T.LentR w' w.heap.size g cap L → Calls Tryz.prog 13 #[.slice (some ⟨g, 0, none⟩) L.length cap, .slice A L.length c] w' fun e w'' => e = .returned (.bool true) ∧ Below w'.heap.size w' w'') := fun w' g cap h ho => T.kept_any A c g cap w.heap.size L hl w' h ho
  have HWk := (show Hid (∀ W, Calls Tryz.prog 14 #[] W fun e w' => e = .returned (.bool true) ∧ Below W.heap.size W w') from works_any)
  have HP := (show Hid (T.RdN w A L) from hp.1)
  clear hp hT hw hl hWt h0w
  generalize (shR L).1 = s1 at *
  generalize (shR L).2 = s2 at *
  generalize (trR L).1 = t1 at *
  generalize (trR L).2 = t2 at *
  go_enter Tryz.func3, Tryz.ntmps3
  go_wp2_with fail
  refine (HLe.out ()).mono ?_
  rintro e w1 ⟨⟨g, cap, rfl, ho⟩, b1⟩
  have HO1 := (show Hid (T.LentR w1 w.heap.size g cap L) from ho)
  have HB1 := (show Hid (Below w.heap.size w w1) from b1)
  clear ho b1 HLe
  go_wp2_with fail
  refine (HA.out w1 _ _ HO1.out.rd).mono ?_
  rintro e w2 ⟨rfl, b2⟩
  have HO2 := (show Hid (T.LentR w2 w.heap.size g cap L) from HO1.out.below b2)
  have HB2 := (show Hid (Below w.heap.size w w2) from HB1.out.trans (b2.mono HB1.out.size))
  clear b2 HA HO1 HB1
  go_wp2_with fail
  refine (HD.out w2 _ _ (HP.out.below HB2.out (Nat.le_refl _))).mono ?_
  rintro e w3 ⟨rfl, b3⟩
  have HO3 := (show Hid (T.LentR w3 w.heap.size g cap L) from HO2.out.below b3)
  have HB3 := (show Hid (Below w.heap.size w w3) from HB2.out.trans (b3.mono HB2.out.size))
  clear b3 HD HO2 HB2
  go_wp2_with fail
  refine (HTa.out w3 _ _ HB3.out HO3.out.rd).mono ?_
  rintro e w4 ⟨rfl, b4⟩
  have HO4 := (show Hid (T.LentR w4 w.heap.size g cap L) from HO3.out.below b4)
  have HB4 := (show Hid (Below w.heap.size w w4) from HB3.out.trans (b4.mono HB3.out.size))
  clear b4 HTa HO3 HB3
  go_wp2_with fail
  refine (HTd.out w4 _ _ (HP.out.below HB4.out (Nat.le_refl _))).mono ?_
  rintro e w5 ⟨rfl, b5⟩
  have HO5 := (show Hid (T.LentR w5 w.heap.size g cap L) from HO4.out.below b5)
  have HB5 := (show Hid (Below w.heap.size w w5) from HB4.out.trans (b5.mono HB4.out.size))
  clear b5 HTd HO4 HB4
  go_wp2_with fail
  refine (HK.out w5 g cap (HP.out.below HB5.out (Nat.le_refl _)) HO5.out).mono ?_
  rintro e w6 ⟨rfl, b6⟩
  have HB6 := (show Hid (Below w.heap.size w w6) from HB5.out.trans (b6.mono HB5.out.size))
  clear b6 HK HO5 HB5
  go_wp2_with fail
  refine (HWk.out w6).mono ?_
  rintro e w7 ⟨rfl, b7⟩
  have HB7 := (show Hid (Below w.heap.size w w7) from HB6.out.trans (b7.mono HB6.out.size))
  clear b7 HWk HB6
  go_wp2_with fail
  go_ret
  exact ⟨rfl, HB7.out⟩
end Go.Proofs.YtnpifgcgjgddoaaGreatDoor.N

namespace Go.Proofs.YtnpifgcgjgddoaaGreatDoor
open Go.ChangeShapes Go.WideShapes Go.ChangeAt Go.RowKit
open Go.ChangeMaps (open_string shut_string)
set_option maxRecDepth 100000 in
theorem showPatterns_contract (H : Type) (enc : TypeId × Value → H) (W : World) (base : Nat) (args : Array Value) (ds gs : List (DataW H)) (before : List MemPlace)
    (hval0 : ∀ (j : Nat) t v, Tryz.f3.params[j]? = some t → args[j]? = some v → Value.okWide Tryz.prog W .any base t v)
    (hW : DataW.Whole enc Tryz.prog Tryz.f3.params.toList Rows.showPatternsSpec.vars false W args.toList ds gs before) (hvb : N.WT W)
    (hsz : (DataW.weightsEach Tryz.prog (Tryz.f3.params.toList ++ (OpenSpec.ofChange Rows.showPatternsSpec).bare.plain.varTypes Tryz.prog) (ds ++ gs)).all (· ≤ reachBytes) = true) :
    Calls Tryz.prog 3 args W fun e W' => ∃ v, e = .returned v ∧ Rows.showPatternsSpec.post enc Tryz.prog Tryz.f3 false true false false W args v W' := by
  have hval : ∀ (j : Nat) t v, Tryz.f3.params[j]? = some t → args[j]? = some v → Value.okWide Tryz.prog W .any base t v := hval0
  have hW' := hW
  obtain ⟨p, q, hA0, hV, rfl, hfz, hnd⟩ := hW
  have hA : DataW.TrodAll enc Tryz.prog W 0 (fun _ => true) true Tryz.f3.params.toList args.toList ds p := hA0
  rw [Tryz.params3] at hA hval hsz
  obtain ⟨v0, d0, rfl, rfl, h0⟩ := trodAll_one hA
  obtain ⟨rfl, rfl⟩ := trodVars_none hV
  have lt0 : ∀ x ∈ p, x.block < W.heap.size := by obtain ⟨m, hm⟩ := h0; exact DataW.trod_lt m _ _ _ hm
  obtain ⟨A0, c0, L0, rfl, r0, nl0, s0, w0⟩ := T.open_pat h0 (okWide_slice Tryz.underlying23 (hval 0 23 v0 rfl rfl))
  obtain ⟨a0, b0⟩ := s0 (T.sized_at hsz (j := 0) rfl rfl)
  clear hA0 hval0
  refine (N.patterns_any L0 A0 c0 (by omega) (fun n hn => by have := b0 n hn; omega) (fun n hn => N.nw_of (w0 n hn)) W hvb (World.block_lt_of_cell? W _ (hvb.c 1 (by omega) (by omega))) ⟨r0, nl0⟩).mono fun e W' ⟨he, bel⟩ => ?_
  subst he
  exact ⟨_, rfl, _, _, _, [], _, [], hW', trodAll_mk1 (shut_bool Tryz.underlying4 _), (trodAll_cons_mk (Below.trod laidOut (by kernel_rfl) (of_decide_eq_true (by kernel_rfl)) h0 bel lt0) trodAll_mk0), rfl, bel.frame _, fun h => by cases h⟩

theorem showPatterns_met (os : Os) : laidMet Tryz.prog Rows.showPatternsRow.laid ((layTab (World.holding Tryz.prog os ⟨#[], #[], []⟩)).forCall (fun _ _ => 0) ⟨#[], #[.slice none 0 0], []⟩).memory :=
  laidMet_of_run' 8 (by kernel_rfl) (by kernel_rfl)
theorem showPatterns_reads (os : Os) {H : Type} (enc : TypeId × Value → H) : ∃ places, DataW.whole enc Tryz.prog ((layTab (World.holding Tryz.prog os ⟨#[], #[], []⟩)).forCall (fun _ _ => 0) ⟨#[], #[.slice none 0 0], []⟩).memory Tryz.f3.params.toList Rows.showPatternsSpec.vars false (#[.slice none 0 0] : Array Value).toList 8 = some ([.nil], [], places) :=
  ⟨[], by kernel_rfl⟩

set_option maxRecDepth 100000 in
theorem showPatterns_lifted (os : Os) (started : os.Started) (H : Type) (enc : TypeId × Value → H) (F : Stop.Interp) :
    ReturnsInHanded {} Tryz.checked os 3 .any ((OpenSpec.ofChange Rows.showPatternsSpec).preRow enc Tryz.prog Tryz.f3 Rows.showPatternsRow.domain false Rows.showPatternsRow.laid) (((OpenSpec.ofChange Rows.showPatternsSpec).at F).post enc Tryz.prog Tryz.f3 false true false false) := by
  obtain ⟨places, hx⟩ := showPatterns_reads os enc
  refine returnsInHanded_of_row (C := Tryz.checked) (s := OpenSpec.ofChange Rows.showPatternsSpec) own started (by kernel_rfl) Tryz.func3
    (witness_row_at (enc := enc) (C := Tryz.checked) false (layTab (World.holding Tryz.prog os ⟨#[], #[], []⟩)) #[.slice none 0 0] rfl (by kernel_rfl) (by kernel_rfl) (by kernel_rfl)
      (OpenSpec.preRow_of_cond 8 hx (by kernel_rfl) (fun k hk => by cases hk) (by kernel_rfl) (showPatterns_met os))) ?_
  intro W base args ds gs before hval hW _ hcond hsz hL _ _
  exact showPatterns_contract H enc W base args ds gs before hval hW (wt_of_laid hL) hsz

theorem showPatterns_row : Rows.ShowPatternsSaid :=
  OpenClaim.holds_of_cond 3 Tryz.f3 rfl rfl rfl rfl rfl rfl rfl ⟨rfl, rfl, rfl, rfl, rfl⟩ rfl rfl rfl rfl rfl (by kernel_rfl) Tryz.func3 (by kernel_rfl)
    (of_decide_eq_true (by kernel_rfl)) (by unfold Func.isWrapper; first | (rw [if_pos (by decide +kernel)]; kernel_rfl) | (rw [if_neg (by decide +kernel)]; exact ⟨rfl, rfl⟩))
    (fun os started H enc _ F => by rw [OpenClaim.pre_eq_preRow]; exact showPatterns_lifted os started H enc F)
theorem showPatterns_plain (f : FuncId) (fn : Func) (hf : Tryz.pinned.checked.prog.funcNamed "harrow/harrowlaw07.ShowPatterns" = some f) (hfn : Tryz.pinned.checked.prog.funcs[f]? = some fn) :
    true = Tryz.pinned.checked.prog.looks [] ∧ ∀ (j : Nat) t, fn.params[j]? = some t → Tryz.pinned.checked.prog.wantsStandIn t = false := by
  obtain rfl : f = 3 := Option.some.inj ((show Tryz.prog.funcNamed "harrow/harrowlaw07.ShowPatterns" = some 3 by kernel_rfl).symm.trans hf) |>.symm
  obtain rfl : fn = Tryz.f3 := (Option.some.inj (Tryz.func3.symm.trans hfn)).symm
  refine ⟨by kernel_rfl, fun j t ht => ?_⟩
  rw [Tryz.params3] at ht
  have hm : t ∈ [23] := by simpa using Array.mem_of_getElem? ht
  have hall : ([23].all fun u => !Tryz.prog.wantsStandIn u) = true := by kernel_rfl
  exact (show Tryz.prog.wantsStandIn t = false by simpa using List.all_eq_true.1 hall t hm)
theorem showPatterns_holds : Rows.ShowPatternsCardSaid :=
  Claim7.holds_tied_plain_at .later [] _ _ _ _ showPatterns_row (fun _ h => by cases h) (by kernel_rfl) (fun _ h => by cases h) showPatterns_row_tie rfl ⟨rfl, rfl⟩ (by kernel_rfl) rfl showPatterns_plain (by kernel_rfl)
end Go.Proofs.YtnpifgcgjgddoaaGreatDoor
