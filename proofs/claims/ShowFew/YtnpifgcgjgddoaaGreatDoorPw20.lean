/- DERIVED. Plain mathematics and walks, laid together (20). -/
import Derived.Test.YtnpifgcgjgddoaaGreatDoorPw19
set_option maxRecDepth 100000
set_option maxHeartbeats 8000000
namespace Go.Proofs.YtnpifgcgjgddoaaGreatDoor.N
open Go.RowKit
def wkA : List Nd := [⟨4, 0, ⟨#[97]⟩, 0, 0, 0, 0⟩, ⟨4, 0, ⟨#[98]⟩, 0, 0, 0, 0⟩, ⟨7, 0, ⟨#[]⟩, 0, 0, 0, 0⟩, ⟨9, 0, ⟨#[]⟩, 0, 0, 0, 0⟩]
def wkB : List Nd := [⟨4, 0, ⟨#[97]⟩, 0, 0, 0, 0⟩, ⟨9, 0, ⟨#[]⟩, 0, 0, 0, 0⟩, ⟨13, 0, ⟨#[]⟩, 0, 0, 0, 0⟩]
def wkC : List Nd := [⟨4, 0, ⟨#[97]⟩, 0, 0, 0, 0⟩, ⟨6, 0, ⟨#[115]⟩, 0, 0, 0, 0⟩, ⟨7, 0, ⟨#[]⟩, 0, 0, 0, 0⟩, ⟨1, 0, ⟨#[]⟩, 0, 0, 0, 0⟩, ⟨8, 0, ⟨#[]⟩, 0, 0, 0, 0⟩]
theorem wk_a : shR wkA = (⟨#[40, 39, 97, 39, 32, 39, 98, 39, 41, 42]⟩, 0) := by kernel_rfl
theorem wk_b : shR wkB = (⟨#[33, 39, 97, 39, 42]⟩, 0) := by kernel_rfl
theorem wk_c : grR [(⟨#[115]⟩, wkC)] = (⟨#[115, 32, 60, 45, 32, 39, 97, 39, 32, 115, 32, 47, 32, 37, 101, 10]⟩, 0) := by kernel_rfl
theorem zlK : ∀ n ∈ wkA ++ (wkB ++ wkC), n.tx.size <= 140737488355328 /\ NdW n := by
 intro n hn
 have h : n.tx.size <= 1 /\ n.s0 = 0 /\ n.s1 = 0 /\ n.s2 = 0 /\ n.s3 = 0 := by
  simp only [wkA, wkB, wkC, List.cons_append, List.nil_append, List.mem_cons, List.not_mem_nil, or_false] at hn
  rcases hn with rfl | rfl | rfl | rfl | rfl | rfl | rfl | rfl | rfl | rfl | rfl | rfl <;> exact ⟨by decide, rfl, rfl, rfl, rfl⟩
 exact ⟨by omega, zoH h.2⟩
theorem zeR (w : World) : Calls Tryz.prog 14 #[] w fun e w' => e = .returned (.bool true) /\ Below w.heap.size w w' := by
 have HA : Hid (T.NB ((w.alloc (.cells #[.int .i64 4, .int .i64 0, .string ⟨#[97]⟩, .int .u64 0, .int .u64 0, .int .u64 0, .int .u64 0] 51)).alloc (.cells #[.int .i64 4, .int .i64 0, .string ⟨#[98]⟩, .int .u64 0, .int .u64 0, .int .u64 0, .int .u64 0] 51)) w.heap.size 0 ⟨4, 0, ⟨#[97]⟩, 0, 0, 0, 0⟩) := (T.zgu w ⟨4, 0, ⟨#[97]⟩, 0, 0, 0, 0⟩).below (zaa _ _)
 have HB := (show Hid (T.NB ((w.alloc (.cells #[.int .i64 4, .int .i64 0, .string ⟨#[97]⟩, .int .u64 0, .int .u64 0, .int .u64 0, .int .u64 0] 51)).alloc (.cells #[.int .i64 4, .int .i64 0, .string ⟨#[98]⟩, .int .u64 0, .int .u64 0, .int .u64 0, .int .u64 0] 51)) (w.heap.size + 1) 0 ⟨4, 0, ⟨#[98]⟩, 0, 0, 0, 0⟩) from by
  have h := T.zgu (w.alloc (.cells #[.int .i64 4, .int .i64 0, .string ⟨#[97]⟩, .int .u64 0, .int .u64 0, .int .u64 0, .int .u64 0] 51)) ⟨4, 0, ⟨#[98]⟩, 0, 0, 0, 0⟩
  rw [World.size_alloc] at h
  exact h)
 have HW : Hid (Below w.heap.size w ((w.alloc (.cells #[.int .i64 4, .int .i64 0, .string ⟨#[97]⟩, .int .u64 0, .int .u64 0, .int .u64 0, .int .u64 0] 51)).alloc (.cells #[.int .i64 4, .int .i64 0, .string ⟨#[98]⟩, .int .u64 0, .int .u64 0, .int .u64 0, .int .u64 0] 51))) := (zaa w _).alloc (zaa w _).size _
 have H1 : Hid (∀ W : World, Calls Tryz.prog 9 #[.slice (some ⟨W.heap.size, 0, none⟩) 4 4] (W.alloc (.cells #[.int .i64 4, .int .i64 0, .string ⟨#[97]⟩, .int .u64 0, .int .u64 0, .int .u64 0, .int .u64 0, .int .i64 4, .int .i64 0, .string ⟨#[98]⟩, .int .u64 0, .int .u64 0, .int .u64 0, .int .u64 0, .int .i64 7, .int .i64 0, .string ⟨#[]⟩, .int .u64 0, .int .u64 0, .int .u64 0, .int .u64 0, .int .i64 9, .int .i64 0, .string ⟨#[]⟩, .int .u64 0, .int .u64 0, .int .u64 0, .int .u64 0] 51)) fun e w' => e = .returned (.tuple #[.string ⟨#[40, 39, 97, 39, 32, 39, 98, 39, 41, 42]⟩, .int .i64 0]) /\ Below W.heap.size W w') := fun W => by
  have h := zct wkA (some ⟨W.heap.size, 0, none⟩) 4 (by decide) (fun n hn => (zlK n (List.mem_append_left _ hn)).1) (fun n hn => (zlK n (List.mem_append_left _ hn)).2) (W.alloc (.cells #[.int .i64 4, .int .i64 0, .string ⟨#[97]⟩, .int .u64 0, .int .u64 0, .int .u64 0, .int .u64 0, .int .i64 4, .int .i64 0, .string ⟨#[98]⟩, .int .u64 0, .int .u64 0, .int .u64 0, .int .u64 0, .int .i64 7, .int .i64 0, .string ⟨#[]⟩, .int .u64 0, .int .u64 0, .int .u64 0, .int .u64 0, .int .i64 9, .int .i64 0, .string ⟨#[]⟩, .int .u64 0, .int .u64 0, .int .u64 0, .int .u64 0] 51)) (ziO W wkA (by decide) _ rfl)
  rw [wk_a] at h
  exact h.mono fun e w' ⟨h1, h2⟩ => ⟨h1, (zaa W _).trans (h2.mono (zaa W _).size)⟩
 have H2 : Hid (∀ W : World, Calls Tryz.prog 9 #[.slice (some ⟨W.heap.size, 0, none⟩) 3 3] (W.alloc (.cells #[.int .i64 4, .int .i64 0, .string ⟨#[97]⟩, .int .u64 0, .int .u64 0, .int .u64 0, .int .u64 0, .int .i64 9, .int .i64 0, .string ⟨#[]⟩, .int .u64 0, .int .u64 0, .int .u64 0, .int .u64 0, .int .i64 13, .int .i64 0, .string ⟨#[]⟩, .int .u64 0, .int .u64 0, .int .u64 0, .int .u64 0] 51)) fun e w' => e = .returned (.tuple #[.string ⟨#[33, 39, 97, 39, 42]⟩, .int .i64 0]) /\ Below W.heap.size W w') := fun W => by
  have h := zct wkB (some ⟨W.heap.size, 0, none⟩) 3 (by decide) (fun n hn => (zlK n (List.mem_append_right _ (List.mem_append_left _ hn))).1) (fun n hn => (zlK n (List.mem_append_right _ (List.mem_append_left _ hn))).2) (W.alloc (.cells #[.int .i64 4, .int .i64 0, .string ⟨#[97]⟩, .int .u64 0, .int .u64 0, .int .u64 0, .int .u64 0, .int .i64 9, .int .i64 0, .string ⟨#[]⟩, .int .u64 0, .int .u64 0, .int .u64 0, .int .u64 0, .int .i64 13, .int .i64 0, .string ⟨#[]⟩, .int .u64 0, .int .u64 0, .int .u64 0, .int .u64 0] 51)) (ziO W wkB (by decide) _ rfl)
  rw [wk_b] at h
  exact h.mono fun e w' ⟨h1, h2⟩ => ⟨h1, (zaa W _).trans (h2.mono (zaa W _).size)⟩
 have H3 : Hid (∀ W : World, Calls Tryz.prog 16 #[.agg #[.slice (some ⟨W.heap.size + 1, 0, none⟩) 1 1]] ((W.alloc (.cells #[.int .i64 4, .int .i64 0, .string ⟨#[97]⟩, .int .u64 0, .int .u64 0, .int .u64 0, .int .u64 0, .int .i64 6, .int .i64 0, .string ⟨#[115]⟩, .int .u64 0, .int .u64 0, .int .u64 0, .int .u64 0, .int .i64 7, .int .i64 0, .string ⟨#[]⟩, .int .u64 0, .int .u64 0, .int .u64 0, .int .u64 0, .int .i64 1, .int .i64 0, .string ⟨#[]⟩, .int .u64 0, .int .u64 0, .int .u64 0, .int .u64 0, .int .i64 8, .int .i64 0, .string ⟨#[]⟩, .int .u64 0, .int .u64 0, .int .u64 0, .int .u64 0] 51)).alloc (.cells #[.string ⟨#[115]⟩, .slice (some ⟨W.heap.size, 0, none⟩) 5 5] 73)) fun e w' => e = .returned (.tuple #[.string ⟨#[115, 32, 60, 45, 32, 39, 97, 39, 32, 115, 32, 47, 32, 37, 101, 10]⟩, .int .i64 0]) /\ Below W.heap.size W w') := fun W => by
  have hb1 := zaa W (.cells #[.int .i64 4, .int .i64 0, .string ⟨#[97]⟩, .int .u64 0, .int .u64 0, .int .u64 0, .int .u64 0, .int .i64 6, .int .i64 0, .string ⟨#[115]⟩, .int .u64 0, .int .u64 0, .int .u64 0, .int .u64 0, .int .i64 7, .int .i64 0, .string ⟨#[]⟩, .int .u64 0, .int .u64 0, .int .u64 0, .int .u64 0, .int .i64 1, .int .i64 0, .string ⟨#[]⟩, .int .u64 0, .int .u64 0, .int .u64 0, .int .u64 0, .int .i64 8, .int .i64 0, .string ⟨#[]⟩, .int .u64 0, .int .u64 0, .int .u64 0, .int .u64 0] 51)
  have hb2 := zaa (W.alloc (.cells #[.int .i64 4, .int .i64 0, .string ⟨#[97]⟩, .int .u64 0, .int .u64 0, .int .u64 0, .int .u64 0, .int .i64 6, .int .i64 0, .string ⟨#[115]⟩, .int .u64 0, .int .u64 0, .int .u64 0, .int .u64 0, .int .i64 7, .int .i64 0, .string ⟨#[]⟩, .int .u64 0, .int .u64 0, .int .u64 0, .int .u64 0, .int .i64 1, .int .i64 0, .string ⟨#[]⟩, .int .u64 0, .int .u64 0, .int .u64 0, .int .u64 0, .int .i64 8, .int .i64 0, .string ⟨#[]⟩, .int .u64 0, .int .u64 0, .int .u64 0, .int .u64 0] 51)) (.cells #[.string ⟨#[115]⟩, .slice (some ⟨W.heap.size, 0, none⟩) 5 5] 73)
  have hnew := heap_alloc_new (W.alloc (.cells #[.int .i64 4, .int .i64 0, .string ⟨#[97]⟩, .int .u64 0, .int .u64 0, .int .u64 0, .int .u64 0, .int .i64 6, .int .i64 0, .string ⟨#[115]⟩, .int .u64 0, .int .u64 0, .int .u64 0, .int .u64 0, .int .i64 7, .int .i64 0, .string ⟨#[]⟩, .int .u64 0, .int .u64 0, .int .u64 0, .int .u64 0, .int .i64 1, .int .i64 0, .string ⟨#[]⟩, .int .u64 0, .int .u64 0, .int .u64 0, .int .u64 0, .int .i64 8, .int .i64 0, .string ⟨#[]⟩, .int .u64 0, .int .u64 0, .int .u64 0, .int .u64 0] 51)) (.cells #[.string ⟨#[115]⟩, .slice (some ⟨W.heap.size, 0, none⟩) 5 5] 73)
  rw [World.size_alloc] at hnew
  have hc : ∀ n ∈ wkC, n.tx.size <= 140737488355328 /\ NdW n := fun n hn => zlK n (List.mem_append_right _ (List.mem_append_right _ hn))
  have h := zhY [(⟨#[115]⟩, wkC)] (some ⟨W.heap.size + 1, 0, none⟩) 1 (by decide) (fun g hg => by rw [List.mem_singleton.1 hg]; exact ⟨by decide, by decide, fun n hn => (hc n hn).1⟩) (fun g hg => by rw [List.mem_singleton.1 hg]; exact fun n hn => (hc n hn).2) ((W.alloc (.cells #[.int .i64 4, .int .i64 0, .string ⟨#[97]⟩, .int .u64 0, .int .u64 0, .int .u64 0, .int .u64 0, .int .i64 6, .int .i64 0, .string ⟨#[115]⟩, .int .u64 0, .int .u64 0, .int .u64 0, .int .u64 0, .int .i64 7, .int .i64 0, .string ⟨#[]⟩, .int .u64 0, .int .u64 0, .int .u64 0, .int .u64 0, .int .i64 1, .int .i64 0, .string ⟨#[]⟩, .int .u64 0, .int .u64 0, .int .u64 0, .int .u64 0, .int .i64 8, .int .i64 0, .string ⟨#[]⟩, .int .u64 0, .int .u64 0, .int .u64 0, .int .u64 0] 51)).alloc (.cells #[.string ⟨#[115]⟩, .slice (some ⟨W.heap.size, 0, none⟩) 5 5] 73)) (fun k g hg => by
   have hk : k = 0 := by have := (List.getElem?_eq_some_iff.1 hg).1; simp at this; exact this
   subst hk
   cases hg
   refine ⟨W.heap.size + 1, 0, some ⟨W.heap.size, 0, none⟩, 5, rfl, by rw [World.size_alloc, World.size_alloc]; omega, ?_, ?_, (ziO W wkC (by decide) _ rfl).below hb2 (Nat.le_refl _)⟩
   ·exact (Lib.cell_of_heap hnew 0)
   ·exact (Lib.cell_of_heap hnew 1))
  rw [wk_c] at h
  exact h.mono fun e w' ⟨h1, h2⟩ => ⟨h1, ((hb1.trans (hb2.mono hb1.size))).trans (h2.mono (Nat.le_trans hb1.size hb2.size))⟩
 have H1' : Hid (∀ _ : Unit, Calls Tryz.prog 9 #[.slice (some ⟨w.heap.size + 1 + 1, 0, none⟩) 4 4] (((w.alloc (.cells #[.int .i64 4, .int .i64 0, .string ⟨#[97]⟩, .int .u64 0, .int .u64 0, .int .u64 0, .int .u64 0] 51)).alloc (.cells #[.int .i64 4, .int .i64 0, .string ⟨#[98]⟩, .int .u64 0, .int .u64 0, .int .u64 0, .int .u64 0] 51)).alloc (.cells #[.int .i64 4, .int .i64 0, .string ⟨#[97]⟩, .int .u64 0, .int .u64 0, .int .u64 0, .int .u64 0, .int .i64 4, .int .i64 0, .string ⟨#[98]⟩, .int .u64 0, .int .u64 0, .int .u64 0, .int .u64 0, .int .i64 7, .int .i64 0, .string ⟨#[]⟩, .int .u64 0, .int .u64 0, .int .u64 0, .int .u64 0, .int .i64 9, .int .i64 0, .string ⟨#[]⟩, .int .u64 0, .int .u64 0, .int .u64 0, .int .u64 0] 51)) fun e w' => e = .returned (.tuple #[.string ⟨#[40, 39, 97, 39, 32, 39, 98, 39, 41, 42]⟩, .int .i64 0]) /\ Below ((w.alloc (.cells #[.int .i64 4, .int .i64 0, .string ⟨#[97]⟩, .int .u64 0, .int .u64 0, .int .u64 0, .int .u64 0] 51)).alloc (.cells #[.int .i64 4, .int .i64 0, .string ⟨#[98]⟩, .int .u64 0, .int .u64 0, .int .u64 0, .int .u64 0] 51)).heap.size ((w.alloc (.cells #[.int .i64 4, .int .i64 0, .string ⟨#[97]⟩, .int .u64 0, .int .u64 0, .int .u64 0, .int .u64 0] 51)).alloc (.cells #[.int .i64 4, .int .i64 0, .string ⟨#[98]⟩, .int .u64 0, .int .u64 0, .int .u64 0, .int .u64 0] 51)) w') := fun _ => by
  have h := H1.out ((w.alloc (.cells #[.int .i64 4, .int .i64 0, .string ⟨#[97]⟩, .int .u64 0, .int .u64 0, .int .u64 0, .int .u64 0] 51)).alloc (.cells #[.int .i64 4, .int .i64 0, .string ⟨#[98]⟩, .int .u64 0, .int .u64 0, .int .u64 0, .int .u64 0] 51))
  have e : ((w.alloc (.cells #[.int .i64 4, .int .i64 0, .string ⟨#[97]⟩, .int .u64 0, .int .u64 0, .int .u64 0, .int .u64 0] 51)).alloc (.cells #[.int .i64 4, .int .i64 0, .string ⟨#[98]⟩, .int .u64 0, .int .u64 0, .int .u64 0, .int .u64 0] 51)).heap.size = w.heap.size + 1 + 1 := by rw [World.size_alloc, World.size_alloc]
  rw [e] at h ⊢
  exact h
 clear H1
 go_enter Tryz.func14, Tryz.ntmps14
 go_wp2_with fail
 refine (H1'.out ()).mono ?_
 rintro e w2 ⟨rfl, b2⟩
 have HA2 := hO (HA.out.below b2)
 have HW2 := hO (HW.out.trans (b2.mono HW.out.size))
 obtain ⟨a0, a1, a2, a3, a4, a5, a6⟩ := HA2.out
 clear HA HB HW b2 H1'
 go_wp2_with fail
 refine (H2.out _).mono ?_
 rintro e w3 ⟨rfl, b3⟩
 have HA3 := hO (HA2.out.below b3)
 have HW3 := hO (HW2.out.trans (b3.mono HW2.out.size))
 clear a0 a1 a2 a3 a4 a5 a6 HA2 HW2 b3 H2
 obtain ⟨a0, a1, a2, a3, a4, a5, a6⟩ := HA3.out
 go_wp2_with fail
 refine (H3.out _).mono ?_
 rintro e w4 ⟨rfl, b4⟩
 have HW4 := hO (HW3.out.trans (b4.mono HW3.out.size))
 clear a0 a1 a2 a3 a4 a5 a6 HA3 HW3 b4 H3
 go_wp2_with fail
 go_ret
 exact ⟨rfl, HW4.out⟩
theorem znG {n : Nd} (h : T.alE n = 0) : n.tx.size <= 255 := by
 have hf := (ze8 h).2.1
 unfold T.txF at hf
 split at hf
 ·exact (of_decide_eq_true hf).2
 split at hf
 ·have := zlI hf; omega
 split at hf
 ·rcases Bool.or_eq_true_iff.1 hf with q | q
  ·have := of_decide_eq_true q; omega
  ·have := zlI q; omega
 split at hf
 ·unfold T.tmB at hf
  split at hf
  ·assumption
  ·cases hf
 ·have := of_decide_eq_true hf; omega
theorem rt_tx {L : List Nd} (hr : T.Rt L) : ∀ n ∈ L, n.tx.size <= 140737488355328 := fun n hn => by have := znG (al_in hr n hn); omega
theorem zoI {W : World} {A : Option Addr} {L : List Nd} (h : T.RdN W A L) {b j : Nat} {v : Value} (hb : L ≠ [] -> ∀ a, A = some a -> a.block ≠ b) : T.RdN (W.setCell ⟨b, j, none⟩ v) A L := fun hl => by
 obtain ⟨g, o, e, lt, c⟩ := h hl
 exact ⟨g, o, e, by rw [World.size_setCell]; exact lt, c.same (heap_setCell_other W ⟨b, j, none⟩ g v (hb hl ⟨g, o, none⟩ e))⟩
theorem zq7 (s : ByteArray) (w : World) (hg : GW w) {L : List Nd} (h : paR s = .inl [(⟨#[]⟩, L)]) : Calls Tryz.prog 19 #[.string s] w fun e w' => (∃ A c, e = .returned (.tuple #[.slice A L.length c, .agg #[.int .i64 0, .int .i64 0]]) /\ T.RdN w' A L /\ ∀ a, A = some a -> w.heap.size <= a.block) /\ Below w.heap.size w w' := by
 refine (ziN s w hg).mono ?_
 rintro e w' ⟨h1, h2⟩
 rw [h] at h1
 obtain ⟨v, ns, e1, rfl, ho⟩ := h1
 have e2 : L = ns := by
  injection e1 with h6 _
  injection h6 with _ h8
 subst e2
 have hlt := ho.lt
 obtain ⟨A, c, rfl, hr⟩ := T.zoE ho rfl
 refine ⟨⟨A, c, rfl, hr, fun a ha => ?_⟩, h2⟩
 subst ha
 exact (hlt a.block rfl).1
theorem zq8 (s : ByteArray) (w : World) (hg : GW w) {p : Int × Int} (h : paR s = .inr p) : Calls Tryz.prog 19 #[.string s] w fun e w' => e = .returned (.tuple #[.slice none 0 0, .agg #[.int .i64 p.1, .int .i64 p.2]]) /\ Below w.heap.size w w' := by
 have := ziN s w hg
 rw [h] at this
 exact this
theorem znH {l : List UInt8} (h : 65536 < l.length) : lnR l = (⟨#[]⟩, 2) := by unfold lnR; rw [if_pos h]
theorem zoJ {l : List UInt8} (h : ¬ 65536 < l.length) : lnR l = (txO l, 0) := by unfold lnR; rw [if_neg h]
theorem zlL {L : List Nd} (h : T.Rt L) : shR L = lnR (itT (shI L)) := by unfold shR; rw [if_pos (by rw [h.ck])]
abbrev Cn := Nat × Nat
def pn (k : Nat) (e : Cn) : Nat := e.2 + (if e.1 < k then 1 else 0)
theorem pn_le {k m : Nat} (h : k <= m) (e : Cn) : pn k e <= pn m e := by
 unfold pn
 split
 ·rw [if_pos (by omega)]; exact Nat.le_refl _
 ·omega
theorem pn0 (e : Cn) : pn 0 e = e.2 := by unfold pn; rw [if_neg (by omega)]; rfl
def cnN (op : Int) (a b : Cn) : Nat := if T.arN op = 0 then 0 else if op = 7 then pn 1 a + pn 2 b else if op = 8 then pn 0 a + pn 1 b else if op = 12 ∨ op = 13 then pn 2 a else if hld op = 3 then pn 3 a else pn 0 a
def c0 : Cn := (4, 0)
def stC (n : Nd) (st : List Cn) : List Cn := (hld n.op, cnN n.op (if T.arN n.op = 2 then (st[1]?).getD c0 else (st[0]?).getD c0) ((st[0]?).getD c0)) :: st.drop (T.arN n.op)
def evC : List Nd -> List Cn -> List Cn
 | [], st => st
 | n :: Q, st => evC Q (stC n st)
theorem zcz (Q R : List Nd) : ∀ st, evC (Q ++ R) st = evC R (evC Q st) := by
 induction Q with
 | nil => intro st; rfl
 | cons n Q ih => intro st; exact ih _
theorem zq9 {n : Nd} (h : T.arN n.op = 0) (h4 : hld n.op = 4) (st : List Cn) : evC [n] st = (4, 0) :: st := by
 show stC n st = _
 unfold stC cnN
 rw [h4, h, if_pos rfl]
 rfl
theorem zra {n : Nd} {k : Nat} (h : T.arN n.op = 1) (hk : ∀ a b, cnN n.op a b = pn k a) (e : Cn) (st : List Cn) : evC [n] (e :: st) = (hld n.op, pn k e) :: st := by
 show stC n (e :: st) = _
 unfold stC
 rw [hk, h]
 rfl
theorem ev_7 (e e2 : Cn) (st : List Cn) : evC [nd0 7] (e2 :: e :: st) = (1, pn 1 e + pn 2 e2) :: st := rfl
theorem ev_8 (e e2 : Cn) (st : List Cn) : evC [nd0 8] (e2 :: e :: st) = (0, pn 0 e + pn 1 e2) :: st := rfl
def pc (E : PE) (i : Nat) : Nat := (E.l.take i).countP fun t => t.kd == 16
theorem zlM (E : PE) (i : Nat) : pc E (i + 1) = pc E i + (if kdA E i = 16 then 1 else 0) := by
 unfold pc kdA
 rw [List.take_add_one, List.countP_append]
 cases h : E.l[i]? with
 | none => simp
 | some t =>
  by_cases hk : t.kd = 16
  ·simp [hk]
  ·simp [hk]
theorem zhZ (E : PE) (i : Nat) : ∀ k, pc E i <= pc E (i + k) := by
 intro k
 induction k with
 | zero => exact Nat.le_refl _
 | succ k ih => rw [<- Nat.add_assoc, zlM]; omega
theorem zrb (E : PE) {i j : Nat} (h : i <= j) : pc E i <= pc E j := by
 have := zhZ E i (j - i)
 rwa [Nat.add_sub_cancel' h] at this
def GA (E : PE) (k : Nat) (Q : List Nd) (i a : Nat) : Prop := ∃ e : Cn, (∀ st, evC Q st = e :: st) /\ pn k e + pc E i <= pc E a
def GB (E : PE) (k : Nat) (Q : List Nd) (i a : Nat) : Prop := ∀ e : Cn, ∃ e' : Cn, (∀ st, evC Q (e :: st) = e' :: st) /\ pn k e' + pc E i <= pn k e + pc E a
theorem GA.and {E : PE} {k k2 : Nat} {Q R : List Nd} {i b a : Nat} (h : GA E k Q i b) (g : GB E k2 R b a) (hk : k2 <= k) : GA E k2 (Q ++ R) i a := by
 obtain ⟨e, h1, h2⟩ := h
 obtain ⟨e', g1, g2⟩ := g e
 refine ⟨e', fun st => by rw [zcz, h1, g1], ?_⟩
 have := pn_le hk e
 omega
theorem GA.low {E : PE} {k k2 : Nat} {Q : List Nd} {i a : Nat} (h : GA E k Q i a) (hk : k2 <= k) : GA E k2 Q i a := by
 obtain ⟨e, h1, h2⟩ := h
 exact ⟨e, h1, by have := pn_le hk e; omega⟩
theorem GB.nil (E : PE) (k i : Nat) : GB E k [] i i := fun e => ⟨e, fun _ => rfl, Nat.le_refl _⟩
theorem GB.alt {E : PE} {Q R : List Nd} {i b a : Nat} (h : GA E 1 Q (i + 1) b) (g : GB E 0 R b a) : GB E 0 (Q ++ [nd0 8] ++ R) i a := fun e => by
 obtain ⟨e2, h1, h2⟩ := h
 obtain ⟨e', g1, g2⟩ := g (0, pn 0 e + pn 1 e2)
 refine ⟨e', fun st => by rw [zcz, zcz, h1, ev_8, g1], ?_⟩
 have h3 : pn 0 (0, pn 0 e + pn 1 e2) = pn 0 e + pn 1 e2 := pn0 _
 have := zhZ E i 1
 omega
theorem GB.seq {E : PE} {Q R : List Nd} {i b a : Nat} (h : GA E 2 Q i b) (g : GB E 1 R b a) : GB E 1 (Q ++ [nd0 7] ++ R) i a := fun e => by
 obtain ⟨e2, h1, h2⟩ := h
 obtain ⟨e', g1, g2⟩ := g (1, pn 1 e + pn 2 e2)
 refine ⟨e', fun st => by rw [zcz, zcz, h1, ev_7, g1], ?_⟩
 have h3 : pn 1 (1, pn 1 e + pn 2 e2) = pn 1 e + pn 2 e2 := rfl
 omega
theorem GB.suf {E : PE} {n : Nd} {R : List Nd} {i c a : Nat} (hn : T.arN n.op = 1 /\ hld n.op = 3 /\ ∀ x y, cnN n.op x y = pn 3 x) (g : GB E 3 R (i + c) a) : GB E 3 ([n] ++ R) i a := fun e => by
 obtain ⟨e', g1, g2⟩ := g (3, pn 3 e)
 refine ⟨e', fun st => by rw [zcz, zra hn.1 hn.2.2, hn.2.1, g1], ?_⟩
 have h3 : pn 3 (3, pn 3 e) = pn 3 e := rfl
 have := zhZ E i c
 omega
theorem suf_op {E : PE} {i : Nat} {p : Nd × Nat} (h : zfB E i = .inl p) : T.arN p.1.op = 1 /\ hld p.1.op = 3 /\ ∀ x y, cnN p.1.op x y = pn 3 x := by
 unfold zfB zi2 at h
 split at h
 ·cases h; exact ⟨rfl, rfl, fun _ _ => rfl⟩
 split at h
 ·cases h; exact ⟨rfl, rfl, fun _ _ => rfl⟩
 split at h
 ·cases h; exact ⟨rfl, rfl, fun _ _ => rfl⟩
 split at h
 ·cases h; exact ⟨rfl, rfl, fun _ _ => rfl⟩
 split at h
 ·cases h; exact ⟨rfl, rfl, fun _ _ => rfl⟩
 split at h
 ·cases h; exact ⟨rfl, rfl, fun _ _ => rfl⟩
 split at h
 ·split at h
  ·split at h
   ·cases h; exact ⟨rfl, rfl, fun _ _ => rfl⟩
   ·cases h
  ·split at h
   ·split at h
    ·cases h
    ·cases h; exact ⟨rfl, rfl, fun _ _ => rfl⟩
   ·cases h
 ·cases h
theorem zrc {E : PE} {i : Nat} {p : List Nd × Nat} (h5 : (tkA E i).kd ≠ 5) (h : zbt E i = .inl p) : ∃ n, p.1 = [n] /\ T.arN n.op = 0 /\ hld n.op = 4 := by
 unfold zbt zbW at h
 split at h
 ·cases h
  dsimp only
  split
  ·exact ⟨_, rfl, rfl, rfl⟩
  ·exact ⟨_, rfl, rfl, rfl⟩
 split at h
 ·cases h; exact ⟨_, rfl, rfl, rfl⟩
 split at h
 ·cases h; exact ⟨_, rfl, rfl, rfl⟩
 split at h
 ·cases h; exact ⟨_, rfl, rfl, rfl⟩
 split at h
 ·cases h; exact ⟨_, rfl, rfl, rfl⟩
 split at h
 ·cases h; exact ⟨_, rfl, rfl, rfl⟩
 split at h
 ·cases h
 split at h
 ·split at h
  ·cases h; exact ⟨_, rfl, rfl, rfl⟩
  ·cases h
 split at h
 ·cases h
 split at h
 ·cases h
 ·cases h
theorem zrd {E : PE} {i : Nat} {p : Int × List Nd} (h5 : (tkA E i).kd ≠ 5) (h : zbt E i = .inr p) : (p.2 = [] /\ (tkA E i).kd = 16) ∨ ∃ n, p.2 = [n] /\ T.arN n.op = 1 /\ hld n.op = 4 /\ ∀ x y, cnN n.op x y = pn 0 x := by
 unfold zbt zbW at h
 split at h
 ·cases h
 split at h
 ·cases h
 split at h
 ·cases h
 split at h
 ·cases h
 split at h
 ·cases h
 split at h
 ·cases h
 split at h
 ·next q => cases h; exact .inl ⟨rfl, q⟩
 split at h
 ·split at h
  ·cases h
  ·cases h; exact .inr ⟨_, rfl, rfl, rfl, fun _ _ => rfl⟩
 split at h
 ·cases h; exact .inr ⟨_, rfl, rfl, rfl, fun _ _ => rfl⟩
 split at h
 ·cases h; exact .inr ⟨_, rfl, rfl, rfl, fun _ _ => rfl⟩
 ·cases h; exact .inr ⟨_, rfl, rfl, rfl, fun _ _ => rfl⟩
theorem GA.leaf {E : PE} {n : Nd} {i a : Nat} (h : T.arN n.op = 0) (h4 : hld n.op = 4) (hi : i <= a) : GA E 4 [n] i a :=
 ⟨(4, 0), fun st => zq9 h h4 st, by have := zrb E hi; show 0 + pc E i <= _; omega⟩
theorem GA.around {E : PE} {n : Nd} {Q : List Nd} {i a : Nat} (hn : T.arN n.op = 1 /\ hld n.op = 4 /\ ∀ x y, cnN n.op x y = pn 0 x) (h : GA E 0 Q (i + 1) a) : GA E 4 (Q ++ [n]) i (a + 1) := by
 obtain ⟨e, h1, h2⟩ := h
 refine ⟨(4, pn 0 e), fun st => by rw [zcz, h1, zra hn.1 hn.2.2, hn.2.1], ?_⟩
 have h3 : pn 4 (4, pn 0 e) = pn 0 e := rfl
 have := zhZ E i 1
 have := zhZ E a 1
 omega
theorem GA.round {E : PE} {Q : List Nd} {i a : Nat} (hk : kdA E i = 16) (h : GA E 0 Q (i + 1) a) : GA E 4 (Q ++ []) i (a + 1) := by
 obtain ⟨e, h1, h2⟩ := h
 refine ⟨e, fun st => by rw [List.append_nil, h1], ?_⟩
 have h3 := zlM E i
 rw [if_pos hk] at h3
 have := zhZ E a 1
 rw [pn0] at h2
 unfold pn
 split <;> omega
theorem GA.sign {E : PE} {Q : List Nd} {op : Int} {i a : Nat} (hn : T.arN op = 1 /\ hld op = 2 /\ ∀ x y, cnN op x y = pn 2 x) (h : GA E 2 Q (i + 1) a) : GA E 2 (Q ++ [nd0 op]) i a := by
 obtain ⟨e, h1, h2⟩ := h
 refine ⟨(2, pn 2 e), fun st => by rw [zcz, h1, zra (n := nd0 op) hn.1 hn.2.2]; rw [show hld (nd0 op).op = 2 from hn.2.1], ?_⟩
 have h3 : pn 2 (2, pn 2 e) = pn 2 e := rfl
 have := zhZ E i 1
 omega
def GM (E : PE) (m : Nat) (Q : List Nd) (i a : Nat) : Prop := if m = 0 then GA E 0 Q i a else if m = 1 then GB E 0 Q i a else if m = 2 then GA E 1 Q i a else if m = 3 then GB E 1 Q i a else if m = 4 then GA E 2 Q i a else if m = 5 then GA E 4 Q i a else GB E 3 Q i a
theorem PF_par (E : PE) (h5 : ∀ i, (tkA E i).kd ≠ 5) : ∀ (f m i d a : Nat) (ns : List Nd), i <= E.l.length -> (m = 5 -> i < E.l.length) -> PF E f m i d = .inl (a, ns) -> GM E m ns i a := by
 intro f
 induction f with
 | zero => intro m i d a ns _ _ h; cases h
 | succ f ih =>
  intro m i d a ns hi hm5 h
  rw [PF] at h
  unfold GM
  by_cases m0 : m = 0
  ·rw [if_pos m0] at h ⊢
   obtain ⟨a1, n1, r1, h⟩ := zau h
   obtain ⟨n2, r2, e⟩ := zaF h
   have x2 := (zaL E _ _ _ _ _ _ hi (by omega) r1).2.1
   have g1 := ih _ _ _ _ _ hi (by omega) r1
   have g2 := ih _ _ _ _ _ x2 (by omega) r2
   rw [show ns = n1 ++ n2 from e]
   exact GA.and (show GA E 1 n1 i a1 from g1) (show GB E 0 n2 a1 a from g2) (by omega)
  rw [if_neg m0] at h ⊢
  by_cases m1 : m = 1
  ·rw [if_pos m1] at h ⊢
   by_cases k7 : kdA E i = 7
   ·have hlt := zbl (E := E) (i := i) (by omega)
    rw [if_pos k7] at h
    obtain ⟨a1, n1, r1, h⟩ := zau h
    obtain ⟨n2, r2, e⟩ := zaF h
    have x2 := (zaL E _ _ _ _ _ _ (by omega) (by omega) r1).2.1
    have g1 := ih _ _ _ _ _ (by omega) (by omega) r1
    have g2 := ih _ _ _ _ _ x2 (by omega) r2
    rw [show ns = n1 ++ [nd0 8] ++ n2 from e]
    exact GB.alt (show GA E 1 n1 (i + 1) a1 from g1) (show GB E 0 n2 a1 a from g2)
   ·rw [if_neg k7] at h
    cases h
    exact GB.nil E 0 i
  rw [if_neg m1] at h ⊢
  by_cases m2 : m = 2
  ·rw [if_pos m2] at h ⊢
   obtain ⟨a1, n1, r1, h⟩ := zau h
   obtain ⟨n2, r2, e⟩ := zaF h
   have x2 := (zaL E _ _ _ _ _ _ hi (by omega) r1).2.1
   have g1 := ih _ _ _ _ _ hi (by omega) r1
   have g2 := ih _ _ _ _ _ x2 (by omega) r2
   rw [show ns = n1 ++ n2 from e]
   exact GA.and (show GA E 2 n1 i a1 from g1) (show GB E 1 n2 a1 a from g2) (by omega)
  rw [if_neg m2] at h ⊢
  by_cases m3 : m = 3
  ·rw [if_pos m3] at h ⊢
   by_cases kb : bgn E i = true
   ·have hlt := zcD kb
    rw [if_pos kb] at h
    obtain ⟨a1, n1, r1, h⟩ := zau h
    obtain ⟨n2, r2, e⟩ := zaF h
    have x2 := (zaL E _ _ _ _ _ _ (by omega) (by omega) r1).2.1
    have g1 := ih _ _ _ _ _ (by omega) (by omega) r1
    have g2 := ih _ _ _ _ _ x2 (by omega) r2
    rw [show ns = n1 ++ [nd0 7] ++ n2 from e]
    exact GB.seq (show GA E 2 n1 i a1 from g1) (show GB E 1 n2 a1 a from g2)
   ·rw [if_neg kb] at h
    cases h
    exact GB.nil E 1 i
  rw [if_neg m3] at h ⊢
  by_cases m4 : m = 4
  ·rw [if_pos m4] at h ⊢
   by_cases kb : bgn E i = true
   ·have hlt := zcD kb
    rw [if_pos kb] at h
    by_cases k8 : kdA E i = 8 ∨ kdA E i = 9
    ·rw [if_pos k8] at h
     split at h
     ·cases h
     ·obtain ⟨a1, n1, r1, h⟩ := zau h
      cases h
      have g1 := ih _ _ _ _ _ (by omega) (by omega) r1
      refine GA.sign ?_ (show GA E 2 n1 (i + 1) _ from g1)
      split
      ·exact ⟨rfl, rfl, fun _ _ => rfl⟩
      ·exact ⟨rfl, rfl, fun _ _ => rfl⟩
    ·rw [if_neg k8] at h
     obtain ⟨a1, n1, r1, h⟩ := zau h
     obtain ⟨n2, r2, e⟩ := zaF h
     have x2 := (zaL E _ _ _ _ _ _ (by omega) (fun _ => hlt) r1).2.1
     have g1 := ih _ _ _ _ _ (by omega) (fun _ => hlt) r1
     have g2 := ih _ _ _ _ _ x2 (by omega) r2
     rw [show ns = n1 ++ n2 from e]
     exact (GA.and (show GA E 4 n1 i a1 from g1) (show GB E 3 n2 a1 a from g2) (by omega)).low (by omega)
   ·rw [if_neg kb] at h; cases h
  rw [if_neg m4] at h ⊢
  by_cases m5 : m = 5
  ·rw [if_pos m5] at h ⊢
   have hlt := hm5 m5
   cases hp : zbt E i with
   | inl p =>
    rw [hp] at h
    cases h
    obtain ⟨n, e1, e2, e3⟩ := zrc (h5 i) hp
    rw [e1]
    exact GA.leaf e2 e3 (by omega)
   | inr p =>
    rw [hp] at h
    dsimp only at h
    split at h
    ·cases h
    ·obtain ⟨a1, n1, r1, h⟩ := zau h
     have g1 := ih _ _ _ _ _ (by omega) (by omega) r1
     split at h
     ·cases h
      rcases zrd (h5 i) hp with ⟨e1, e2⟩ | ⟨n, e1, e2⟩
      ·rw [e1]
       refine GA.round ?_ (show GA E 0 n1 (i + 1) a1 from g1)
       unfold kdA
       unfold tkA at e2
       rw [List.getElem?_eq_getElem hlt] at e2 ⊢
       exact e2
      ·rw [e1]
       exact GA.around e2 (show GA E 0 n1 (i + 1) a1 from g1)
     ·cases h
  rw [if_neg m5] at h ⊢
  cases hs : zfB E i with
  | inr o =>
   rw [hs] at h
   cases o with
   | none => cases h; exact GB.nil E 3 i
   | some c => cases h
  | inl p =>
   rw [hs] at h
   dsimp only at h
   obtain ⟨n2, r2, e⟩ := zaF h
   have g2 := ih _ _ _ _ _ (zgo hs).2 (by omega) r2
   have g3 : GB E 3 n2 (i + p.2) a := g2
   rw [show ns = [p.1] ++ n2 from e]
   exact GB.suf (suf_op hs) g3
def par (l : List It) : Nat := (zcn l).countP fun t => t.kd == 16
theorem za7 (a b : List It) : par (a ++ b) = par a + par b := by unfold par; rw [zd6, List.countP_append]
def cnE (x : Ent) : Cn := (x.1, par x.2)
theorem zaU (k : Nat) (x : Ent) : par (zaq k x) = pn k (cnE x) := by
 unfold zaq pn cnE
 dsimp only
 split
 ·rw [za7, za7, show par [sgI 16] = 1 from rfl, show par [sgI 17] = 0 from rfl]; omega
 ·rfl
theorem cn_op1 {n : Nd} (h : n.op = 1) (a b : Cn) : cnN n.op a b = 0 := by rw [h]; rfl
theorem cn_op2 {n : Nd} (h : n.op = 2) (a b : Cn) : cnN n.op a b = 0 := by rw [h]; rfl
theorem cn_op3 {n : Nd} (h : n.op = 3) (a b : Cn) : cnN n.op a b = 0 := by rw [h]; rfl
theorem cn_op4 {n : Nd} (h : n.op = 4) (a b : Cn) : cnN n.op a b = 0 := by rw [h]; rfl
theorem cn_op5 {n : Nd} (h : n.op = 5) (a b : Cn) : cnN n.op a b = 0 := by rw [h]; rfl
theorem cn_op6 {n : Nd} (h : n.op = 6) (a b : Cn) : cnN n.op a b = 0 := by rw [h]; rfl
theorem cn_op7 {n : Nd} (h : n.op = 7) (a b : Cn) : cnN n.op a b = pn 1 a + pn 2 b := by rw [h]; rfl
theorem cn_op8 {n : Nd} (h : n.op = 8) (a b : Cn) : cnN n.op a b = pn 0 a + pn 1 b := by rw [h]; rfl
theorem cn_op9 {n : Nd} (h : n.op = 9) (a b : Cn) : cnN n.op a b = pn 3 a := by rw [h]; rfl
theorem zre {n : Nd} (h : n.op = 10) (a b : Cn) : cnN n.op a b = pn 3 a := by rw [h]; rfl
theorem zrf {n : Nd} (h : n.op = 11) (a b : Cn) : cnN n.op a b = pn 3 a := by rw [h]; rfl
theorem zrg {n : Nd} (h : n.op = 12) (a b : Cn) : cnN n.op a b = pn 2 a := by rw [h]; rfl
theorem zrh {n : Nd} (h : n.op = 13) (a b : Cn) : cnN n.op a b = pn 2 a := by rw [h]; rfl
theorem zri {n : Nd} (h : n.op = 14) (a b : Cn) : cnN n.op a b = pn 3 a := by rw [h]; rfl
theorem zrj {n : Nd} (h : n.op = 15) (a b : Cn) : cnN n.op a b = pn 3 a := by rw [h]; rfl
theorem zrk {n : Nd} (h : n.op = 16) (a b : Cn) : cnN n.op a b = pn 3 a := by rw [h]; rfl
theorem zrl {n : Nd} (h : n.op = 17) (a b : Cn) : cnN n.op a b = 0 := by rw [h]; rfl
theorem zrm {n : Nd} (h : n.op = 18) (a b : Cn) : cnN n.op a b = pn 0 a := by rw [h]; rfl
theorem zrn {n : Nd} (h : n.op = 19) (a b : Cn) : cnN n.op a b = pn 0 a := by rw [h]; rfl
theorem zro {n : Nd} (h : n.op = 20) (a b : Cn) : cnN n.op a b = pn 0 a := by rw [h]; rfl
theorem zrp {n : Nd} (h : n.op = 21) (a b : Cn) : cnN n.op a b = pn 0 a := by rw [h]; rfl
theorem zrq {n : Nd} (h : n.op = 22) (a b : Cn) : cnN n.op a b = pn 3 a := by rw [h]; rfl
theorem zrr {n : Nd} (h : n.op = 23) (a b : Cn) : cnN n.op a b = pn 3 a := by rw [h]; rfl
theorem znI {n : Nd} (h : T.alE n = 0) (a b : Ent) : par (zaB n a b) = cnN n.op (cnE a) (cnE b) := by
 rcases zdP h with ⟨_, o⟩ | ⟨_, o⟩ | ⟨_, o⟩
 ·rcases o with o | o | o | o | o | o | o
  ·rw [zg0 o, cn_op1 o]; rfl
  ·rw [zg1 o, cn_op2 o]; rfl
  ·rw [zg2 o, cn_op3 o]; rfl
  ·rw [zg3 o, cn_op4 o]; rfl
  ·rw [zg4 o, cn_op5 o]; rfl
  ·rw [zg5 o, cn_op6 o]; rfl
  ·rw [zeG o, zrl o]; rfl
 ·rcases o with o | o
  ·rw [zg6 o, cn_op7 o]; simp only [za7, zaU]
   have z0 : par [none] = 0 := rfl
   omega
  ·rw [zg7 o, cn_op8 o]; simp only [za7, zaU]
   have z0 : par [none, sgI 7, none] = 0 := rfl
   omega
 ·rcases o with o | o | o | o | o | o | o | o | o | o | o | o | o | o
  ·rw [zg8 o, cn_op9 o]; simp only [za7, zaU]; rfl
  ·rw [zez o, zre o]; simp only [za7, zaU]; rfl
  ·rw [zeA o, zrf o]; simp only [za7, zaU]; rfl
  ·rw [zeB o, zrg o]; simp only [za7, zaU]
   have z0 : par [sgI 8] = 0 := rfl
   omega
  ·rw [zeC o, zrh o]; simp only [za7, zaU]
   have z0 : par [sgI 9] = 0 := rfl
   omega
  ·rw [zeD o, zri o]; simp only [za7, zaU]; rfl
  ·rw [zeE o, zrj o]; simp only [za7, zaU]; rfl
  ·rw [zeF o, zrk o]; simp only [za7, zaU]; rfl
  ·rw [zeH o, zrm o]; simp only [za7, zaU]
   have z0 : par [sgI 19] = 0 := rfl
   have z1 : par [sgI 20] = 0 := rfl
   omega
  ·rw [zeI o, zrn o]; simp only [za7, zaU]
   have z0 : par [txI 21 n.tx, none] = 0 := rfl
   have z1 : par [none, sgI 22] = 0 := rfl
   omega
  ·rw [zeJ o, zro o]; simp only [za7, zaU]
   have z0 : par [sgI 23, none] = 0 := rfl
   have z1 : par [none, sgI 24] = 0 := rfl
   omega
  ·rw [zeK o, zrp o]; simp only [za7, zaU]
   have z0 : par [sgI 25, none] = 0 := rfl
   have z1 : par [none, sgI 26] = 0 := rfl
   omega
  ·rw [zeL o, zrq o]; simp only [za7, zaU]; rfl
  ·rw [zeM o, zrr o]; simp only [za7, zaU]; rfl
theorem zoK (st : List Ent) (j : Nat) : ((st.map cnE)[j]?).getD c0 = cnE ((st[j]?).getD e0) := by
 rw [List.getElem?_map]
 cases st[j]? with
 | none => rfl
 | some x => rfl
theorem sh_ev {L : List Nd} (he : ∀ j, j < L.length -> T.er L j = 0) : ∀ k, k <= L.length -> (shK L k).map cnE = evC (L.take k) [] := by
 intro k
 induction k with
 | zero => intro _; rw [List.take_zero]; rfl
 | succ k ih =>
  intro hk
  have hn : L[k]? = some L[k] := List.getElem?_eq_getElem (by omega)
  generalize L[k] = n at hn
  have hok := T.zdB hn (he k (by omega))
  have htk : L.take (k + 1) = L.take k ++ [n] := by rw [List.take_add_one, hn]; rfl
  rw [zbN hn, htk, zcz, <- ih (by omega)]
  show (zeN n (shK L k)).map cnE = stC n ((shK L k).map cnE)
  unfold zeN stC
  rw [List.map_cons, List.map_drop, zoK, zoK]
  congr 1
  unfold cnE
  dsimp only
  rw [znI hok.al]
  split <;> rfl
theorem zrs {L : List Nd} (hr : T.Rt L) {l : List Tk} (h5 : ∀ t ∈ l, t.kd ≠ 5) (hw : who (mkE l) L) : par (shI L) <= l.countP fun t => t.kd == 16 := by
 have h6 : ∀ i, (tkA (mkE l) i).kd ≠ 5 := fun i => by
  unfold tkA
  cases hq : (mkE l).l[i]? with
  | none => decide
  | some t => exact h5 t (List.mem_of_getElem? hq)
 have hg : GA (mkE l) 0 L 0 (mkE l).l.length := PF_par (mkE l) h6 _ 0 0 0 _ _ (Nat.zero_le _) (by omega) hw
 obtain ⟨e, h1, h2⟩ := hg
 have h3 := sh_ev hr.each L.length (Nat.le_refl _)
 rw [List.take_length, h1 []] at h3
 have h4 := hr.one
 rw [<- zcN L.length (Nat.le_refl _)] at h4
 have h7 : par (shI L) = e.2 := by
  unfold shI
  obtain ⟨x, hx⟩ := List.length_eq_one_iff.1 h4
  rw [hx] at h3 ⊢
  have : cnE x = e := by simpa using h3
  rw [<- this]
  rfl
 rw [h7]
 rw [pn0] at h2
 have h8 : pc (mkE l) (mkE l).l.length = l.countP fun t => t.kd == 16 := by
  unfold pc
  rw [List.take_length]
  rfl
 omega
def opn : Nat -> List It -> Option Nat
 | k, [] => some k
 | k, none :: r => opn k r
 | k, some t :: r => if t.kd = 16 then opn (k + 1) r else if t.kd = 17 then (if k = 0 then none else opn (k - 1) r) else opn k r
theorem zb3 (k : Nat) (t : Tk) (r : List It) : opn k (some t :: r) = if t.kd = 16 then opn (k + 1) r else if t.kd = 17 then (if k = 0 then none else opn (k - 1) r) else opn k r := rfl
def Bal (l : List It) : Prop := opn 0 l = some 0
theorem zeS (a : List It) : ∀ (k : Nat) (b : List It), opn k (a ++ b) = (opn k a).bind fun j => opn j b := by
 induction a with
 | nil => intro k b; rfl
 | cons x a ih =>
  intro k b
  cases x with
  | none => exact ih k b
  | some t =>
   show opn k (some t :: (a ++ b)) = _
   rw [zb3, zb3]
   split
   ·exact ih _ _
   ·split
    ·split
     ·rfl
     ·exact ih _ _
    ·exact ih _ _
theorem znJ (a : List It) : ∀ (k j m : Nat), opn k a = some j -> opn (k + m) a = some (j + m) := by
 induction a with
 | nil => intro k j m h; cases h; rfl
 | cons x a ih =>
  intro k j m h
  cases x with
  | none => exact ih k j m h
  | some t =>
   rw [zb3] at h ⊢
   split at h
   ·next q => rw [if_pos q]; have := ih _ _ m h; rw [show k + m + 1 = k + 1 + m from by omega]; exact this
   ·next q =>
    rw [if_neg q]
    split at h
    ·next q2 =>
     rw [if_pos q2]
     split at h
     ·cases h
     ·next q3 =>
      rw [if_neg (by omega), show k + m - 1 = k - 1 + m from by omega]
      exact ih _ _ m h
    ·next q2 => rw [if_neg q2]; exact ih _ _ m h
theorem zlN {a : List It} (h : Bal a) (k : Nat) : opn k a = some k := by
 have := znJ a 0 0 k h
 rwa [Nat.zero_add] at this
theorem zaS {a b : List It} (h : Bal a) (g : Bal b) : Bal (a ++ b) := by
 unfold Bal
 rw [zeS, show opn 0 a = some 0 from h]
 exact g
theorem zfr {t : Tk} (h : t.kd ≠ 16 /\ t.kd ≠ 17) : Bal [some t] := by
 unfold Bal
 rw [zb3, if_neg h.1, if_neg h.2]
 rfl
theorem zlO {a : List It} (h : Bal a) : Bal ([sgI 16] ++ (a ++ [sgI 17])) := by
 unfold Bal
 show opn 1 (a ++ [sgI 17]) = _
 rw [zeS, zlN h 1]
 rfl
theorem zaQ {x : Ent} (h : Bal x.2) (k : Nat) : Bal (zaq k x) := by
 unfold zaq
 split
 ·exact zlO h
 ·exact h
theorem znK {n : Nd} (h : T.alE n = 0) (a b : Ent) (ha : 1 <= T.arN n.op -> Bal a.2) (hb : T.arN n.op = 2 -> Bal b.2) : Bal (zaB n a b) := by
 rcases zdP h with ⟨z, o⟩ | ⟨z, o⟩ | ⟨z, o⟩
 ·rcases o with o | o | o | o | o | o | o
  ·rw [zg0 o]; exact zfr (by decide)
  ·rw [zg1 o]; exact zfr (by decide)
  ·rw [zg2 o]; exact zfr (by decide)
  ·rw [zg3 o]; exact zfr (by dsimp only; decide)
  ·rw [zg4 o]; exact zfr (by dsimp only; decide)
  ·rw [zg5 o]; exact zfr (by dsimp only; decide)
  ·rw [zeG o]; exact rfl
 ·rcases o with o | o
  ·rw [zg6 o]; exact zaS (zaQ (ha (by omega)) 1) (zaS rfl (zaQ (hb (by omega)) 2))
  ·rw [zg7 o]; exact zaS (zaQ (ha (by omega)) 0) (zaS rfl (zaQ (hb (by omega)) 1))
 ·rcases o with o | o | o | o | o | o | o | o | o | o | o | o | o | o
  ·rw [zg8 o]; exact zaS (zaQ (ha (by omega)) 3) rfl
  ·rw [zez o]; exact zaS (zaQ (ha (by omega)) 3) rfl
  ·rw [zeA o]; exact zaS (zaQ (ha (by omega)) 3) rfl
  ·rw [zeB o]; exact zaS (show Bal _ from rfl) (zaQ (ha (by omega)) 2)
  ·rw [zeC o]; exact zaS (show Bal _ from rfl) (zaQ (ha (by omega)) 2)
  ·rw [zeD o]; exact zaS (zaQ (ha (by omega)) 3) rfl
  ·rw [zeE o]; exact zaS (zaQ (ha (by omega)) 3) rfl
  ·rw [zeF o]; exact zaS (zaQ (ha (by omega)) 3) rfl
  ·rw [zeH o]; exact zaS (show Bal _ from rfl) (zaS (zaQ (ha (by omega)) 0) rfl)
  ·rw [zeI o]; exact zaS (show Bal _ from rfl) (zaS (zaQ (ha (by omega)) 0) rfl)
  ·rw [zeJ o]; exact zaS (show Bal _ from rfl) (zaS (zaQ (ha (by omega)) 0) rfl)
  ·rw [zeK o]; exact zaS (show Bal _ from rfl) (zaS (zaQ (ha (by omega)) 0) rfl)
  ·rw [zeL o]; exact zaS (zaQ (ha (by omega)) 3) rfl
  ·rw [zeM o]; exact zaS (zaQ (ha (by omega)) 3) rfl
theorem zrt {L : List Nd} (he : ∀ j, j < L.length -> T.er L j = 0) : ∀ k, k <= L.length -> ∀ x ∈ shK L k, Bal x.2 := by
 intro k
 induction k with
 | zero => intro _ x hx; cases hx
 | succ k ih =>
  intro hk x hx
  have hn : L[k]? = some L[k] := List.getElem?_eq_getElem (by omega)
  generalize L[k] = n at hn
  have hok := T.zdB hn (he k (by omega))
  have har := hok.ar
  rw [<- zcN k (by omega)] at har
  have i := ih (by omega)
  rw [zbN hn] at hx
  have key : ∀ j, j < (shK L k).length -> Bal ((shK L k)[j]?.getD e0).2 := fun j hj => by
   rw [List.getElem?_eq_getElem hj]
   exact i _ (List.getElem_mem hj)
  unfold zeN at hx
  rcases List.mem_cons.1 hx with rfl | hx
  ·refine znK hok.al _ _ (fun h1 => ?_) (fun h2 => key 0 (by omega))
   by_cases h2 : T.arN n.op = 2
   ·rw [if_pos h2]; exact key 1 (by omega)
   ·rw [if_neg h2]; exact key 0 (by omega)
  ·exact i x (List.mem_of_mem_drop hx)
theorem sh_bal {L : List Nd} (hr : T.Rt L) : Bal (shI L) := by
 have h1 := hr.one
 rw [<- zcN L.length (Nat.le_refl _)] at h1
 unfold shI
 rw [List.getElem?_eq_getElem (by omega)]
 exact zrt hr.each L.length (Nat.le_refl _) _ (List.getElem_mem (by omega))
theorem zlP : ∀ (n : Nat) (r : List It), r.length <= n -> ∀ (m j : Nat), opn (m + 1) r = some j -> j <= m -> ∃ b c d, r = b ++ some c :: d /\ c.kd = 17 /\ Bal b := by
 intro n
 induction n with
 | zero =>
  intro r hr m j h hj
  cases r with
  | nil => cases h; omega
  | cons x r => simp at hr
 | succ n ih =>
  intro r hr m j h hj
  cases r with
  | nil => cases h; omega
  | cons x r =>
   rw [List.length_cons] at hr
   cases x with
   | none =>
    obtain ⟨b, c, d, e1, e2, e3⟩ := ih r (by omega) m j h hj
    exact ⟨none :: b, c, d, by rw [e1]; rfl, e2, e3⟩
   | some t =>
    rw [zb3] at h
    split at h
    ·next q =>
     obtain ⟨b, c, d, e1, e2, e3⟩ := ih r (by omega) (m + 1) j h (by omega)
     have h2 : opn (m + 1) d = some j := by
      rw [e1, zeS, zlN e3] at h
      have h3 : opn (m + 1 + 1) (some c :: d) = some j := h
      rw [zb3, if_neg (by omega), if_pos e2, if_neg (by omega)] at h3
      exact h3
     obtain ⟨b2, c2, d2, f1, f2, f3⟩ := ih d (by rw [e1] at hr; simp only [List.length_append, List.length_cons] at hr; omega) m j h2 hj
     refine ⟨some t :: (b ++ some c :: b2), c2, d2, by rw [e1, f1]; simp, f2, ?_⟩
     unfold Bal
     rw [zb3, if_pos q, zeS, zlN e3]
     show opn (0 + 1) (some c :: b2) = _
     rw [zb3, if_neg (by omega), if_pos e2, if_neg (by omega)]
     exact f3
    ·next q =>
     split at h
     ·next q2 => exact ⟨[], t, r, rfl, q2, rfl⟩
     ·next q2 =>
      obtain ⟨b, c, d, e1, e2, e3⟩ := ih r (by omega) m j h hj
      refine ⟨some t :: b, c, d, by rw [e1]; rfl, e2, ?_⟩
      unfold Bal
      rw [zb3, if_neg q, if_neg q2]
      exact e3
theorem znL {l a r : List It} {o : Tk} (h : Bal l) (e : l = a ++ some o :: r) (ho : o.kd = 16) : ∃ b c d, r = b ++ some c :: d /\ c.kd = 17 /\ Bal b := by
 unfold Bal at h
 rw [e, zeS] at h
 cases hk : opn 0 a with
 | none => rw [hk] at h; cases h
 | some k =>
  rw [hk] at h
  have h2 : opn k (some o :: r) = some 0 := h
  rw [zb3, if_pos ho] at h2
  exact zlP r.length r (Nat.le_refl _) k 0 h2 (Nat.zero_le _)
def No5 (l : List It) : Prop := (zcn l).all (fun t => !(t.kd == 5) && !(t.kd == 28)) = true
theorem zaG {a b : List It} (h : No5 a) (g : No5 b) : No5 (a ++ b) := by
 unfold No5 at *
 rw [zd6, List.all_append, h, g]
 rfl
theorem zaR {x : Ent} (h : No5 x.2) (k : Nat) : No5 (zaq k x) := by
 unfold zaq
 split
 ·exact zaG rfl (zaG h rfl)
 ·exact h
theorem znM {n : Nd} (h : T.alE n = 0) (a b : Ent) (ha : 1 <= T.arN n.op -> No5 a.2) (hb : T.arN n.op = 2 -> No5 b.2) : No5 (zaB n a b) := by
 rcases zdP h with ⟨z, o⟩ | ⟨z, o⟩ | ⟨z, o⟩
 ·rcases o with o | o | o | o | o | o | o
  ·rw [zg0 o]; exact rfl
  ·rw [zg1 o]; exact rfl
  ·rw [zg2 o]; exact rfl
  ·rw [zg3 o]; exact rfl
  ·rw [zg4 o]; exact rfl
  ·rw [zg5 o]; exact rfl
  ·rw [zeG o]; exact rfl
 ·rcases o with o | o
  ·rw [zg6 o]; exact zaG (zaR (ha (by omega)) 1) (zaG rfl (zaR (hb (by omega)) 2))
  ·rw [zg7 o]; exact zaG (zaR (ha (by omega)) 0) (zaG rfl (zaR (hb (by omega)) 1))
 ·rcases o with o | o | o | o | o | o | o | o | o | o | o | o | o | o
  ·rw [zg8 o]; exact zaG (zaR (ha (by omega)) 3) rfl
  ·rw [zez o]; exact zaG (zaR (ha (by omega)) 3) rfl
  ·rw [zeA o]; exact zaG (zaR (ha (by omega)) 3) rfl
  ·rw [zeB o]; exact zaG (show No5 _ from rfl) (zaR (ha (by omega)) 2)
  ·rw [zeC o]; exact zaG (show No5 _ from rfl) (zaR (ha (by omega)) 2)
  ·rw [zeD o]; exact zaG (zaR (ha (by omega)) 3) rfl
  ·rw [zeE o]; exact zaG (zaR (ha (by omega)) 3) rfl
  ·rw [zeF o]; exact zaG (zaR (ha (by omega)) 3) rfl
  ·rw [zeH o]; exact zaG (show No5 _ from rfl) (zaG (zaR (ha (by omega)) 0) rfl)
  ·rw [zeI o]; exact zaG (show No5 _ from rfl) (zaG (zaR (ha (by omega)) 0) rfl)
  ·rw [zeJ o]; exact zaG (show No5 _ from rfl) (zaG (zaR (ha (by omega)) 0) rfl)
  ·rw [zeK o]; exact zaG (show No5 _ from rfl) (zaG (zaR (ha (by omega)) 0) rfl)
  ·rw [zeL o]; exact zaG (zaR (ha (by omega)) 3) rfl
  ·rw [zeM o]; exact zaG (zaR (ha (by omega)) 3) rfl
theorem zru {L : List Nd} (he : ∀ j, j < L.length -> T.er L j = 0) : ∀ k, k <= L.length -> ∀ x ∈ shK L k, No5 x.2 := by
 intro k
 induction k with
 | zero => intro _ x hx; cases hx
 | succ k ih =>
  intro hk x hx
  have hn : L[k]? = some L[k] := List.getElem?_eq_getElem (by omega)
  generalize L[k] = n at hn
  have hok := T.zdB hn (he k (by omega))
  have har := hok.ar
  rw [<- zcN k (by omega)] at har
  have i := ih (by omega)
  rw [zbN hn] at hx
  have key : ∀ j, j < (shK L k).length -> No5 ((shK L k)[j]?.getD e0).2 := fun j hj => by
   rw [List.getElem?_eq_getElem hj]
   exact i _ (List.getElem_mem hj)
  unfold zeN at hx
  rcases List.mem_cons.1 hx with rfl | hx
  ·refine znM hok.al _ _ (fun h1 => ?_) (fun h2 => key 0 (by omega))
   by_cases h2 : T.arN n.op = 2
   ·rw [if_pos h2]; exact key 1 (by omega)
   ·rw [if_neg h2]; exact key 0 (by omega)
  ·exact i x (List.mem_of_mem_drop hx)
theorem zh0 {L : List Nd} (hr : T.Rt L) : ∀ t ∈ zcn (shI L), t.kd ≠ 5 /\ t.kd ≠ 28 := fun t ht => by
 have h1 := hr.one
 rw [<- zcN L.length (Nat.le_refl _)] at h1
 have h2 : No5 (shI L) := by
  unfold shI
  rw [List.getElem?_eq_getElem (by omega)]
  exact zru hr.each L.length (Nat.le_refl _) _ (List.getElem_mem (by omega))
 have := List.all_eq_true.1 h2 t ht
 simpa using this
theorem sh_no5 {L : List Nd} (hr : T.Rt L) : ∀ t ∈ zcn (shI L), t.kd ≠ 5 := fun t ht => (zh0 hr t ht).1
theorem ziQ {a r : List It} {t : Tk} (h : okI (a ++ some t :: r)) : okI (a ++ none :: r) := by
 induction a with
 | nil => exact h.2
 | cons x a ih =>
  cases x with
  | none => exact ih h
  | some u =>
   refine ⟨fun v hv => ?_, ih h.2⟩
   cases a with
   | nil => cases hv
   | cons y a => exact h.1 v hv
theorem ziR (a r : List It) : zcn (a ++ none :: r) = zcn a ++ zcn r := by
 rw [zd6]
 rfl
theorem ziS (a r : List It) (t : Tk) : zcn (a ++ some t :: r) = zcn a ++ t :: zcn r := by
 rw [zd6]
 rfl
theorem znN {L : List Nd} (hr : T.Rt L) (hw : ∀ n ∈ L, NdW n) {a b d : List It} {o c : Tk} (e : shI L = a ++ some o :: (b ++ some c :: d)) (ho : o.kd = 16) (hc : c.kd = 17) (hl : (itT (a ++ none :: (b ++ none :: d))).length <= 65536) : paR (txO (itT (a ++ none :: (b ++ none :: d)))) ≠ .inl [(⟨#[]⟩, L)] := by
 intro hp
 have hs := zg9 hr hw
 have hok := hs.ok
 rw [e] at hok
 have k1 : okI (a ++ none :: (b ++ some c :: d)) := ziQ hok
 have k2 : okI (a ++ none :: (b ++ none :: d)) := by
  have : okI ((a ++ none :: b) ++ some c :: d) := by simpa using k1
  have := ziQ this
  simpa using this
 have ht1 : zcn (shI L) = zcn a ++ o :: (zcn b ++ c :: zcn d) := by rw [e, ziS, ziS]
 have ht2 : zcn (a ++ none :: (b ++ none :: d)) = zcn a ++ (zcn b ++ zcn d) := by rw [ziR, ziR]
 have hsub : ∀ t ∈ zcn (a ++ none :: (b ++ none :: d)), t ∈ zcn (shI L) := fun t ht => by
  rw [ht2] at ht
  rw [ht1]
  simp only [List.mem_append, List.mem_cons] at ht ⊢
  rcases ht with q | q | q
  ·exact .inl q
  ·exact .inr (.inr (.inl q))
  ·exact .inr (.inr (.inr (.inr q)))
 have en : tx8 ([] ++ (itT (a ++ none :: (b ++ none :: d)) ++ [])) = txO (itT (a ++ none :: (b ++ none :: d))) := by rw [List.nil_append, List.append_nil]; rfl
 obtain ⟨M, h1, h2⟩ := zqJ _ k2 (fun t ht => ⟨(hs.rt t (hsub t ht)).r, (hs.rt t (hsub t ht)).b⟩) [] [] [] (fun _ _ => by decide) (by
  rw [en]
  show zb5 (txO _) (0 + _) = (txO _).size
  rw [Nat.zero_add]
  exact zqx (txO (itT (a ++ none :: (b ++ none :: d)))))
 rw [en, List.append_nil] at h1
 have hlx := zjq (s := txO (itT (a ++ none :: (b ++ none :: d)))) hl h1
 obtain ⟨l, ns, q1, q2, q3, _, _⟩ := zoy hp
 rw [hlx] at q1
 cases q1
 have q2 : L = ns := by
  injection q2 with q4 _
  injection q4 with _ q5
 subst q2
 have h5 : ∀ t ∈ M, t.kd ≠ 5 := fun t ht => by
  obtain ⟨j, hj, rfl⟩ := List.mem_iff_getElem.1 ht
  obtain ⟨u, hu, hk⟩ := lk_get h2 (List.getElem?_eq_getElem hj)
  have := sh_no5 hr u (hsub u (List.mem_of_getElem? hu))
  have hk2 : u.kd = M[j].kd := by have hk3 := congrArg Tk.kd hk; exact hk3
  rw [<- hk2]
  exact this
 have hf := zrs hr h5 q3
 have hcm : M.countP (fun t => t.kd == 16) = (zcn (a ++ none :: (b ++ none :: d))).countP fun t => t.kd == 16 := by
  have hcp : ∀ l : List Tk, l.countP (fun t => t.kd == 16) = (l.map lkT).countP fun t => t.kd == 16 := fun l => by
   rw [List.countP_map]
   rfl
  rw [hcp M, h2, <- hcp]
 have hpr : par (shI L) = (zcn (a ++ none :: (b ++ none :: d))).countP (fun t => t.kd == 16) + 1 := by
  unfold par
  rw [ht1, ht2]
  simp only [List.countP_append, List.countP_cons]
  have z1 : (o.kd == 16) = true := by rw [ho]; rfl
  have z2 : (c.kd == 16) = false := by rw [hc]; rfl
  rw [z1, z2]
  simp only [if_true, Bool.false_eq_true, if_false]
  omega
 omega
def skG (s : ByteArray) (e : Int) : Nat -> Nat -> Nat
 | 0, _ => s.size
 | f + 1, i => if i < s.size then (if chr s i = 92 then skG s e f (i + 2) else if chr s i = e then i + 1 else skG s e f (i + 1)) else s.size
def skN (s : ByteArray) (i : Nat) : Nat := skG s (if chr s i = 91 then 93 else chr s i) s.size (i + 1)
def skL (e : UInt8) : Bool -> List UInt8 -> Option Nat
 | _, [] => none
 | true, _ :: r => (skL e false r).map (· + 1)
 | false, c :: r => if c = 92 then (skL e true r).map (· + 1) else if c = e then some 1 else (skL e false r).map (· + 1)
def stA (e : UInt8) : Bool -> List UInt8 -> Option Bool
 | b, [] => some b
 | true, _ :: r => stA e false r
 | false, c :: r => if c = 92 then stA e true r else if c = e then none else stA e false r
theorem zlQ (e : UInt8) : ∀ (x q : List UInt8) (b b' : Bool), stA e b x = some b' -> skL e b (x ++ q) = (skL e b' q).map (· + x.length) := by
 intro x
 induction x with
 | nil =>
  intro q b b' h
  cases h
  show skL e b q = _
  cases skL e b q <;> rfl
 | cons c x ih =>
  intro q b b' h
  have hm : ∀ o : Option Nat, (o.map (· + x.length)).map (· + 1) = o.map (· + (c :: x).length) := fun o => by
   cases o with
   | none => rfl
   | some n => show some (n + x.length + 1) = some (n + (x.length + 1)); rw [Nat.add_assoc]
  cases b with
  | true =>
   show (skL e false (x ++ q)).map (· + 1) = _
   rw [ih q false b' h]
   exact hm _
  | false =>
   show (if c = 92 then (skL e true (x ++ q)).map (· + 1) else if c = e then some 1 else (skL e false (x ++ q)).map (· + 1)) = _
   have h2 : (if c = 92 then stA e true x else if c = e then none else stA e false x) = some b' := h
   by_cases c1 : c = 92
   ·rw [if_pos c1] at h2 ⊢
    rw [ih q true b' h2]
    exact hm _
   ·rw [if_neg c1] at h2 ⊢
    by_cases c2 : c = e
    ·rw [if_pos c2] at h2; cases h2
    ·rw [if_neg c2] at h2 ⊢
     rw [ih q false b' h2]
     exact hm _
theorem zrv (e : UInt8) : ∀ (x y : List UInt8) (b b' : Bool), stA e b x = some b' -> stA e b (x ++ y) = stA e b' y := by
 intro x
 induction x with
 | nil => intro y b b' h; cases h; rfl
 | cons c x ih =>
  intro y b b' h
  cases b with
  | true => exact ih y false b' h
  | false =>
   show (if c = 92 then stA e true (x ++ y) else if c = e then none else stA e false (x ++ y)) = _
   have h2 : (if c = 92 then stA e true x else if c = e then none else stA e false x) = some b' := h
   by_cases c1 : c = 92
   ·rw [if_pos c1] at h2 ⊢
    exact ih y true b' h2
   ·rw [if_neg c1] at h2 ⊢
    by_cases c2 : c = e
    ·rw [if_pos c2] at h2; cases h2
    ·rw [if_neg c2] at h2 ⊢
     exact ih y false b' h2
theorem ziT {e : UInt8} {x y : List UInt8} (h : stA e false x = some false) (g : stA e false y = some false) : stA e false (x ++ y) = some false := by rw [zrv e x y false false h, g]
theorem zlR {α : Type} {e : UInt8} {f : α -> List UInt8} : ∀ (l : List α), (∀ a ∈ l, stA e false (f a) = some false) -> stA e false (l.flatMap f) = some false := by
 intro l
 induction l with
 | nil => intro _; rfl
 | cons a l ih => intro h; exact ziT (h a (List.mem_cons_self)) (ih (fun b hb => h b (List.mem_cons_of_mem _ hb)))
theorem zoL : ∀ b : Fin 256, stA 93 false (itm b.val) = some false := by decide +kernel
theorem st_shB : ∀ b : Fin 256, stA 39 false ((Q.shB (b.val : Int)).map fun n => UInt8.ofNat n.toNat) = some false := by decide +kernel
theorem zrw {lo hi : Nat} (h1 : lo < 256) (h2 : hi < 256) : stA 93 false (spT lo hi) = some false := by
 have a := zoL ⟨lo, h1⟩
 have b := zoL ⟨hi, h2⟩
 unfold spT
 split
 ·exact a
 ·split
  ·exact ziT a b
  ·exact ziT (ziT a rfl) b
theorem sk_cls (x : BitVec 256) (q : List UInt8) : ∃ r, shT x = 91 :: r /\ skL 93 false (r ++ q) = some r.length := by
 unfold shT
 split
 ·exact ⟨[94, 93], rfl, rfl⟩
 ·refine ⟨zcB (spL (bys x)) ++ [93], rfl, ?_⟩
  have h : stA 93 false (zcB (spL (bys x))) = some false := zlR _ (fun p hp => by
   have := zd2 x p hp
   exact zrw (by omega) (by omega))
  rw [List.append_assoc, zlQ 93 _ _ false false h]
  show some (1 + _) = _
  rw [List.length_append, List.length_singleton, Nat.add_comm]
theorem sk_lit (s : ByteArray) (q : List UInt8) : ∃ r, (Q.zac (Q.qT s)).data.toList = 39 :: r /\ skL 39 false (r ++ q) = some r.length := by
 rw [Q.za0]
 unfold Q.qT
 refine ⟨((Q.byl s).flatMap Q.shB ++ [39]).map (fun n : Int => UInt8.ofNat n.toNat), rfl, ?_⟩
 have h : stA 39 false (((Q.byl s).flatMap Q.shB).map fun n => UInt8.ofNat n.toNat) = some false := by
  rw [List.map_flatMap]
  refine zlR _ (fun b hb => ?_)
  unfold Q.byl at hb
  obtain ⟨u, _, rfl⟩ := List.mem_map.1 hb
  exact st_shB ⟨u.toNat, u.toNat_lt⟩
 rw [List.map_append, List.append_assoc, zlQ 39 _ _ false false h]
 show some (1 + _) = _
 rw [List.length_append, Nat.add_comm]
 rfl
theorem sk_run (e : UInt8) : ∀ (m : Nat) (r p : List UInt8) (f n : Nat), r.length <= m -> r.length <= f -> skL e false r = some n -> skG (tx8 (p ++ r)) (e.toNat : Int) f p.length = p.length + n := by
 intro m
 induction m with
 | zero =>
  intro r p f n hm hf h
  cases r with
  | nil => cases h
  | cons c r => simp at hm
 | succ m ih =>
  intro r p f n hm hf h
  cases r with
  | nil => cases h
  | cons c r =>
   rw [List.length_cons] at hm hf
   obtain ⟨f, rfl⟩ : ∃ f', f = f' + 1 := ⟨f - 1, by omega⟩
   have h2 : (if c = 92 then (skL e true r).map (· + 1) else if c = e then some 1 else (skL e false r).map (· + 1)) = some n := h
   have hc : chr (tx8 (p ++ c :: r)) p.length = (c.toNat : Int) := by rw [at0]; rfl
   have hlt : p.length < (tx8 (p ++ c :: r)).size := by rw [zb2, List.length_append, List.length_cons]; omega
   rw [skG, if_pos hlt, hc]
   by_cases c1 : c = 92
   ·rw [if_pos c1] at h2
    rw [if_pos (by rw [c1]; rfl)]
    cases r with
    | nil => cases h2
    | cons d r =>
     have h3 : ((skL e false r).map (· + 1)).map (· + 1) = some n := h2
     cases hq : skL e false r with
     | none => rw [hq] at h3; cases h3
     | some k =>
      rw [hq] at h3
      have hk : k + 1 + 1 = n := by simpa using h3
      have := ih r (p ++ [c, d]) f k (by rw [List.length_cons] at hm; omega) (by rw [List.length_cons] at hf; omega) hq
      rw [show p ++ [c, d] ++ r = p ++ c :: d :: r from by simp, show (p ++ [c, d]).length = p.length + 2 from by rw [List.length_append]; rfl] at this
      rw [this]
      omega
   ·rw [if_neg c1] at h2
    rw [if_neg (fun q => c1 (UInt8.toNat_inj.1 (by show c.toNat = 92; omega)))]
    by_cases c2 : c = e
    ·rw [if_pos c2] at h2
     cases h2
     rw [if_pos (by rw [c2])]
    ·rw [if_neg c2] at h2
     rw [if_neg (fun q => c2 (UInt8.toNat_inj.1 (by omega)))]
     cases hq : skL e false r with
     | none => rw [hq] at h2; cases h2
     | some k =>
      rw [hq] at h2
      have hk : k + 1 = n := by simpa using h2
      have := ih r (p ++ [c]) f k (by omega) (by omega) hq
      rw [show p ++ [c] ++ r = p ++ c :: r from by simp, show (p ++ [c]).length = p.length + 1 from by rw [List.length_append]; rfl] at this
      rw [this]
      omega
theorem zoM {t : Tk} (hk : t.kd = 2 ∨ t.kd = 3) (p q : List UInt8) : skN (tx8 (p ++ ((tkX t).data.toList ++ q))) p.length = p.length + (tkX t).data.toList.length /\ (chr (tx8 (p ++ ((tkX t).data.toList ++ q))) p.length = 39 ∨ chr (tx8 (p ++ ((tkX t).data.toList ++ q))) p.length = 91) := by
 have key : ∀ (c e : UInt8) (r : List UInt8), (tkX t).data.toList = c :: r -> skL e false (r ++ q) = some r.length -> ((c.toNat : Int) = 91 /\ (e.toNat : Int) = 93 ∨ (c.toNat : Int) = 39 /\ e = c) -> skN (tx8 (p ++ ((tkX t).data.toList ++ q))) p.length = p.length + (tkX t).data.toList.length /\ (chr (tx8 (p ++ ((tkX t).data.toList ++ q))) p.length = 39 ∨ chr (tx8 (p ++ ((tkX t).data.toList ++ q))) p.length = 91) := by
  intro c e r hx hs hc
  rw [hx]
  have h0 : chr (tx8 (p ++ (c :: r ++ q))) p.length = (c.toNat : Int) := by rw [at0]; rfl
  have hsz : (tx8 (p ++ (c :: r ++ q))).size = p.length + 1 + (r ++ q).length := by rw [zb2]; simp only [List.length_append, List.length_cons]; omega
  unfold skN
  rw [h0]
  have h1 := sk_run e (r ++ q).length (r ++ q) (p ++ [c]) (tx8 (p ++ (c :: r ++ q))).size r.length (Nat.le_refl _) (by omega) hs
  rw [show p ++ [c] ++ (r ++ q) = p ++ (c :: r ++ q) from by simp, show (p ++ [c]).length = p.length + 1 from by rw [List.length_append]; rfl] at h1
  rcases hc with ⟨q1, q2⟩ | ⟨q1, q2⟩
  ·rw [if_pos q1, <- q2, h1]
   exact ⟨by rw [List.length_cons]; omega, .inr q1⟩
  ·rw [if_neg (by omega)]
   subst q2
   rw [h1]
   exact ⟨by rw [List.length_cons]; omega, .inl q1⟩
 unfold tkX at key ⊢
 rcases hk with q2 | q2
 ·rw [if_neg (by omega), if_neg (by omega), if_pos q2] at key ⊢
  obtain ⟨r, h1, h2⟩ := sk_lit t.tx q
  exact key 39 39 r h1 h2 (.inr ⟨rfl, rfl⟩)
 ·rw [if_neg (by omega), if_neg (by omega), if_neg (by omega), if_pos q2] at key ⊢
  obtain ⟨r, h1, h2⟩ := sk_cls (mkS t.s0 t.s1 t.s2 t.s3) q
  exact key 91 93 r h1 h2 (.inl ⟨rfl, rfl⟩)
def mtO (c o : Int) : Int := if c = 40 then o + 1 else if c = 41 then o - 1 else o
def mtG (s : ByteArray) : Nat -> Nat -> Int -> Int
 | 0, _, _ => -1
 | f + 1, i, o => if i < s.size then (if chr s i = 39 ∨ chr s i = 91 then mtG s f (skN s i) o else if mtO (chr s i) o = 0 then (i : Int) else mtG s f (i + 1) (mtO (chr s i) o)) else -1
def plB (c : UInt8) : Bool := !(c == 39) && !(c == 91) && !(c == 40) && !(c == 41)
theorem zrx {c : UInt8} (h : plB c = true) : (c.toNat : Int) ≠ 39 /\ (c.toNat : Int) ≠ 91 /\ (c.toNat : Int) ≠ 40 /\ (c.toNat : Int) ≠ 41 := by
 unfold plB at h
 simp only [Bool.and_eq_true, Bool.not_eq_true', beq_eq_false_iff_ne] at h
 obtain ⟨⟨⟨a, b⟩, c1⟩, d⟩ := h
 refine ⟨fun q => a ?_, fun q => b ?_, fun q => c1 ?_, fun q => d ?_⟩
 ·exact UInt8.toNat_inj.1 (by show c.toNat = 39; omega)
 ·exact UInt8.toNat_inj.1 (by show c.toNat = 91; omega)
 ·exact UInt8.toNat_inj.1 (by show c.toNat = 40; omega)
 ·exact UInt8.toNat_inj.1 (by show c.toNat = 41; omega)
theorem pl_of {c : UInt8} (h : (c.toNat : Int) ≠ 39 /\ (c.toNat : Int) ≠ 91 /\ (c.toNat : Int) ≠ 40 /\ (c.toNat : Int) ≠ 41) : plB c = true := by
 unfold plB
 simp only [Bool.and_eq_true, Bool.not_eq_true', beq_eq_false_iff_ne]
 refine ⟨⟨⟨?_, ?_⟩, ?_⟩, ?_⟩
 ·rintro rfl; exact h.1 rfl
 ·rintro rfl; exact h.2.1 rfl
 ·rintro rfl; exact h.2.2.1 rfl
 ·rintro rfl; exact h.2.2.2 rfl
theorem zlS {s : ByteArray} (h : zfo s = true) : ∀ c ∈ s.data.toList, plB c = true := fun c hc => by
 unfold zfo at h
 simp only [Bool.and_eq_true, decide_eq_true_eq, beq_iff_eq] at h
 obtain ⟨⟨⟨h1, h2⟩, h3⟩, h4⟩ := h
 obtain ⟨j, hj, rfl⟩ := List.mem_iff_getElem.1 hc
 have hj2 : j < s.size := hj
 have h5 := (za8 nmB s rfl _ 0 rfl).2.2.2 j (Nat.zero_le _) (by rw [h4]; exact hj2)
 rw [zai hj2] at h5
 have h6 : s[j] = s.data.toList[j] := rfl
 rw [h6] at h5
 unfold nmB hdB dgB at h5
 simp only [Bool.or_eq_true, Bool.and_eq_true, decide_eq_true_eq, beq_iff_eq] at h5
 exact pl_of (by omega)
theorem znO (n : Nat) : ∀ c ∈ dgT 10 n, plB c = true := fun c hc => by
 obtain ⟨d, hd, rfl⟩ := zk6 10 (by omega) (by omega) n c hc
 have : ∀ d : Fin 10, plB (zb4 d.val) = true := by decide
 exact this ⟨d, hd⟩
theorem sgn_pl : ∀ k : Fin 31, k.val ≠ 16 -> k.val ≠ 17 -> (sgn k.val).all plB = true := by decide +kernel
theorem zeT {a b : ByteArray} {c : UInt8} (h : c ∈ (a ++ b).data.toList) : c ∈ a.data.toList ∨ c ∈ b.data.toList := by
 rw [ByteArray.data_append, Array.toList_append] at h
 exact List.mem_append.1 h
def PlK (k : Int) : Prop := k ≠ 2 /\ k ≠ 3 /\ k ≠ 16 /\ k ≠ 17
theorem zry {t : Tk} (hr : Rgt t) (hk : PlK t.kd) (h5 : t.kd ≠ 5 /\ t.kd ≠ 28) : ∀ c ∈ (tkX t).data.toList, plB c = true := fun c hc => by
 obtain ⟨k2, k3, k16, k17⟩ := hk
 have hn := zop hr.r
 unfold tkX at hc
 by_cases q1 : t.kd = 1
 ·rw [if_pos q1] at hc
  have := hn.2.2.1
  unfold txF at this
  rw [if_pos q1] at this
  exact zlS this c hc
 rw [if_neg q1] at hc
 by_cases q21 : t.kd = 21
 ·rw [if_pos q21] at hc
  have := hn.2.2.1
  unfold txF at this
  rw [if_neg q1, if_pos q21, Bool.or_eq_true] at this
  rcases zeT hc with z | z
  ·have : ∀ x ∈ [123, 58], plB x = true := by decide
   exact this c z
  ·unfold gnm at z
   split at z
   ·cases z
   ·next q0 =>
    rcases this with w | w
    ·exact absurd (zd4 w) q0
    ·rcases zeT z with z | z
     ·exact zlS w c z
     ·have : ∀ x ∈ [58], plB x = true := by decide
      exact this c z
 rw [if_neg q21, if_neg k2, if_neg k3, if_neg h5.2, if_neg h5.1] at hc
 by_cases q4 : t.kd = 4
 ·rw [if_pos q4] at hc; exact znO _ c hc
 rw [if_neg q4] at hc
 by_cases q13 : t.kd = 13
 ·rw [if_pos q13] at hc
  rcases zeT hc with z | z
  ·have : ∀ x ∈ [94], plB x = true := by decide
   exact this c z
  ·exact znO _ c z
 rw [if_neg q13] at hc
 by_cases q14 : t.kd = 14
 ·rw [if_pos q14] at hc
  rcases zeT hc with z | z
  ·have : ∀ x ∈ [94, 43], plB x = true := by decide
   exact this c z
  ·exact znO _ c z
 rw [if_neg q14] at hc
 by_cases q15 : t.kd = 15
 ·rw [if_pos q15] at hc
  rcases zeT hc with z | z
  ·have : ∀ x ∈ [94, 45], plB x = true := by decide
   exact this c z
  ·exact znO _ c z
 rw [if_neg q15] at hc
 by_cases q29 : t.kd = 29
 ·rw [if_pos q29] at hc
  have : ∀ x ∈ [37, 101], plB x = true := by decide
  exact this c hc
 rw [if_neg q29] at hc
 by_cases q30 : t.kd = 30
 ·rw [if_pos q30] at hc
  have : ∀ x ∈ [37, 102], plB x = true := by decide
  exact this c hc
 rw [if_neg q30] at hc
 have := sgn_pl ⟨t.kd.toNat, by omega⟩ (by show t.kd.toNat ≠ 16; omega) (by show t.kd.toNat ≠ 17; omega)
 exact List.all_eq_true.1 this c hc
theorem ziU : ∀ (x p q : List UInt8) (f : Nat) (o : Int), (∀ c ∈ x, plB c = true) -> o ≠ 0 -> (tx8 (p ++ (x ++ q))).size < f + p.length -> ∃ f', (tx8 (p ++ (x ++ q))).size < f' + (p.length + x.length) /\ mtG (tx8 (p ++ (x ++ q))) f p.length o = mtG (tx8 (p ++ (x ++ q))) f' (p.length + x.length) o := by
 intro x
 induction x with
 | nil => intro p q f o _ _ hf; exact ⟨f, hf, rfl⟩
 | cons c x ih =>
  intro p q f o hx ho hf
  have hlt : p.length < (tx8 (p ++ (c :: x ++ q))).size := by rw [zb2]; simp only [List.length_append, List.length_cons]; omega
  obtain ⟨f, rfl⟩ : ∃ f', f = f' + 1 := ⟨f - 1, by omega⟩
  have hc : chr (tx8 (p ++ (c :: x ++ q))) p.length = (c.toNat : Int) := by rw [at0]; rfl
  have hp := zrx (hx c (List.mem_cons_self))
  have e1 : p ++ (c :: x ++ q) = p ++ [c] ++ (x ++ q) := by simp
  have e2 : (p ++ [c]).length = p.length + 1 := by rw [List.length_append]; rfl
  obtain ⟨f', h1, h2⟩ := ih (p ++ [c]) q f o (fun d hd => hx d (List.mem_cons_of_mem _ hd)) ho (by rw [<- e1, e2]; omega)
  rw [<- e1, e2] at h1 h2
  refine ⟨f', by rw [List.length_cons]; omega, ?_⟩
  rw [mtG, if_pos hlt, hc, if_neg (by omega)]
  have hm : mtO (c.toNat : Int) o = o := by unfold mtO; rw [if_neg hp.2.2.1, if_neg hp.2.2.2]
  rw [hm, if_neg ho, h2, List.length_cons, show p.length + 1 + x.length = p.length + (x.length + 1) from by omega]
theorem znP {t : Tk} (h : t.kd = 16) : (tkX t).data.toList = [40] := by rw [zeO (.inl h), h]; rfl
theorem znQ {t : Tk} (h : t.kd = 17) : (tkX t).data.toList = [41] := by
 unfold tkX
 rw [if_neg (by omega), if_neg (by omega), if_neg (by omega), if_neg (by omega), if_neg (by omega), if_neg (by omega), if_neg (by omega), if_neg (by omega), if_neg (by omega), if_neg (by omega), if_neg (by omega), if_neg (by omega), h]
 rfl
theorem znR : ∀ (X : List It), (∀ t ∈ zcn X, Rgt t /\ t.kd ≠ 5 /\ t.kd ≠ 28) -> ∀ (p q : List UInt8) (f k j : Nat), opn k X = some j -> (tx8 (p ++ (itT X ++ q))).size < f + p.length -> ∃ f', (tx8 (p ++ (itT X ++ q))).size < f' + (p.length + (itT X).length) /\ mtG (tx8 (p ++ (itT X ++ q))) f p.length ((k : Int) + 1) = mtG (tx8 (p ++ (itT X ++ q))) f' (p.length + (itT X).length) ((j : Int) + 1) := by
 intro X
 induction X with
 | nil => intro _ p q f k j h hf; cases h; exact ⟨f, hf, rfl⟩
 | cons x X ih =>
  intro hr p q f k j h hf
  have e1 : p ++ (itT (x :: X) ++ q) = (p ++ itX x) ++ (itT X ++ q) := by rw [zaf]; simp only [List.append_assoc]
  have e2 : p.length + (itT (x :: X)).length = (p ++ itX x).length + (itT X).length := by rw [zaf]; simp only [List.length_append]; omega
  have e3 : p ++ (itT (x :: X) ++ q) = p ++ (itX x ++ (itT X ++ q)) := by rw [zaf]; simp only [List.append_assoc]
  -- one item, then the rest
  have go : ∀ k2 : Nat, opn k2 X = some j -> (∀ t ∈ zcn X, Rgt t /\ t.kd ≠ 5 /\ t.kd ≠ 28) -> (∃ f1, (tx8 (p ++ (itX x ++ (itT X ++ q)))).size < f1 + (p.length + (itX x).length) /\ mtG (tx8 (p ++ (itX x ++ (itT X ++ q)))) f p.length ((k : Int) + 1) = mtG (tx8 (p ++ (itX x ++ (itT X ++ q)))) f1 (p.length + (itX x).length) ((k2 : Int) + 1)) -> ∃ f', (tx8 (p ++ (itT (x :: X) ++ q))).size < f' + (p.length + (itT (x :: X)).length) /\ mtG (tx8 (p ++ (itT (x :: X) ++ q))) f p.length ((k : Int) + 1) = mtG (tx8 (p ++ (itT (x :: X) ++ q))) f' (p.length + (itT (x :: X)).length) ((j : Int) + 1) := by
   intro k2 hk2 hr2 hx
   obtain ⟨f1, a1, a2⟩ := hx
   rw [<- e3] at a1 a2
   obtain ⟨f', b1, b2⟩ := ih hr2 (p ++ itX x) q f1 k2 j hk2 (by rw [<- e1, List.length_append]; exact a1)
   rw [<- e1, <- e2] at b1 b2
   rw [List.length_append] at b2
   exact ⟨f', b1, a2.trans b2⟩
  rw [e3] at hf
  cases x with
  | none =>
   refine go k h hr ?_
   exact ziU [32] p (itT X ++ q) f ((k : Int) + 1) (by decide) (by omega) hf
  | some t =>
   have hrt := hr t (mem_tks.2 (List.mem_cons_self))
   have hr2 : ∀ u ∈ zcn X, Rgt u /\ u.kd ≠ 5 /\ u.kd ≠ 28 := fun u hu => hr u (mem_tks.2 (List.mem_cons_of_mem _ (mem_tks.1 hu)))
   have hpos := (zfq hrt.1.r hrt.1.b).p
   have hlen : (itX (some t)).length = (tkX t).size := rfl
   have hlt : p.length < (tx8 (p ++ (itX (some t) ++ (itT X ++ q)))).size := by rw [zb2]; simp only [List.length_append]; omega
   rw [zb3] at h
   by_cases q16 : t.kd = 16
   ·rw [if_pos q16] at h
    refine go (k + 1) h hr2 ?_
    obtain ⟨f, rfl⟩ : ∃ f', f = f' + 1 := ⟨f - 1, by omega⟩
    have hx : itX (some t) = [40] := znP q16
    rw [hx] at hf hlt ⊢
    have hc : chr (tx8 (p ++ ([40] ++ (itT X ++ q)))) p.length = 40 := by rw [at0]; rfl
    refine ⟨f, by show _ < f + (p.length + 1); omega, ?_⟩
    rw [mtG, if_pos hlt, hc, if_neg (by omega), show mtO 40 ((k : Int) + 1) = (k : Int) + 1 + 1 from rfl, if_neg (by omega)]
    rfl
   ·rw [if_neg q16] at h
    by_cases q17 : t.kd = 17
    ·rw [if_pos q17] at h
     by_cases k0 : k = 0
     ·rw [if_pos k0] at h; cases h
     rw [if_neg k0] at h
     refine go (k - 1) h hr2 ?_
     obtain ⟨f, rfl⟩ : ∃ f', f = f' + 1 := ⟨f - 1, by omega⟩
     have hx : itX (some t) = [41] := znQ q17
     rw [hx] at hf hlt ⊢
     have hc : chr (tx8 (p ++ ([41] ++ (itT X ++ q)))) p.length = 41 := by rw [at0]; rfl
     refine ⟨f, by show _ < f + (p.length + 1); omega, ?_⟩
     rw [mtG, if_pos hlt, hc, if_neg (by omega), show mtO 41 ((k : Int) + 1) = (k : Int) + 1 - 1 from rfl, if_neg (by omega), show (k : Int) + 1 - 1 = ((k - 1 : Nat) : Int) + 1 from by omega]
     rfl
    ·rw [if_neg q17] at h
     refine go k h hr2 ?_
     by_cases q2 : t.kd = 2 ∨ t.kd = 3
     ·obtain ⟨f, rfl⟩ : ∃ f', f = f' + 1 := ⟨f - 1, by omega⟩
      have hs := zoM q2 p (itT X ++ q)
      have hs1 : skN (tx8 (p ++ (itX (some t) ++ (itT X ++ q)))) p.length = p.length + (itX (some t)).length := hs.1
      have hs2 : chr (tx8 (p ++ (itX (some t) ++ (itT X ++ q)))) p.length = 39 ∨ chr (tx8 (p ++ (itX (some t) ++ (itT X ++ q)))) p.length = 91 := hs.2
      refine ⟨f, by omega, ?_⟩
      rw [mtG, if_pos hlt, if_pos hs2, hs1]
     ·exact ziU (itX (some t)) p (itT X ++ q) f ((k : Int) + 1) (zry hrt.1 ⟨by omega, by omega, by omega, by omega⟩ hrt.2) (by omega) hf
theorem zrz {a b d : List It} {o c : Tk} (hr : ∀ t ∈ zcn b, Rgt t /\ t.kd ≠ 5 /\ t.kd ≠ 28) (ho : o.kd = 16) (hc : c.kd = 17) (hb : Bal b) {f : Nat} (hf : (tx8 (itT (a ++ some o :: (b ++ some c :: d)))).size < f + (itT a).length) : mtG (tx8 (itT (a ++ some o :: (b ++ some c :: d)))) f (itT a).length 0 = (((itT a).length + 1 + (itT b).length : Nat) : Int) := by
 have e1 : itT (a ++ some o :: (b ++ some c :: d)) = itT a ++ ([40] ++ (itT b ++ (41 :: itT d))) := by
  rw [zar, zaf, zar, zaf, show itX (some o) = [40] from znP ho, show itX (some c) = [41] from znQ hc]
  rfl
 rw [e1] at hf ⊢
 have hlt : (itT a).length < (tx8 (itT a ++ ([40] ++ (itT b ++ (41 :: itT d))))).size := by rw [zb2]; simp only [List.length_append, List.length_cons]; omega
 obtain ⟨f, rfl⟩ : ∃ f', f = f' + 1 := ⟨f - 1, by omega⟩
 have h0 : chr (tx8 (itT a ++ ([40] ++ (itT b ++ (41 :: itT d))))) (itT a).length = 40 := by rw [at0]; rfl
 rw [mtG, if_pos hlt, h0, if_neg (by omega), show mtO 40 0 = 1 from rfl, if_neg (by omega)]
 have e2 : itT a ++ ([40] ++ (itT b ++ (41 :: itT d))) = (itT a ++ [40]) ++ (itT b ++ (41 :: itT d)) := by simp
 have e3 : (itT a ++ [40]).length = (itT a).length + 1 := by rw [List.length_append]; rfl
 obtain ⟨f', h1, h2⟩ := znR b hr (itT a ++ [40]) (41 :: itT d) f 0 0 hb (by rw [<- e2, e3]; omega)
 rw [<- e2, e3] at h1 h2
 have h3 : mtG (tx8 (itT a ++ ([40] ++ (itT b ++ (41 :: itT d))))) f ((itT a).length + 1) 1 = mtG (tx8 (itT a ++ ([40] ++ (itT b ++ (41 :: itT d))))) f' ((itT a).length + 1 + (itT b).length) 1 := h2
 rw [h3]
 have hsz : (tx8 (itT a ++ ([40] ++ (itT b ++ (41 :: itT d))))).size = (itT a).length + 1 + (itT b).length + 1 + (itT d).length := by rw [zb2]; simp only [List.length_append, List.length_cons, List.length_nil]; omega
 obtain ⟨f', rfl⟩ : ∃ f2, f' = f2 + 1 := ⟨f' - 1, by omega⟩
 have hc2 : chr (tx8 (itT a ++ ([40] ++ (itT b ++ (41 :: itT d))))) ((itT a).length + 1 + (itT b).length) = 41 := by
  rw [show itT a ++ ([40] ++ (itT b ++ (41 :: itT d))) = (itT a ++ [40] ++ itT b) ++ (41 :: itT d) from by simp, show (itT a).length + 1 + (itT b).length = (itT a ++ [40] ++ itT b).length from by simp only [List.length_append, List.length_singleton], at0]
  rfl
 rw [mtG, if_pos (by omega), hc2, if_neg (by omega), show mtO 41 1 = 0 from rfl, if_pos rfl]
end Go.Proofs.YtnpifgcgjgddoaaGreatDoor.N
