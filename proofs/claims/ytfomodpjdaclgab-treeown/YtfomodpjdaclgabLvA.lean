/- DERIVED. Walks: lives. -/
import Derived.Test.YtfomodpjdaclgabSpA
namespace Go.Proofs.Ytfomodpjdaclgab
open Go.RowKit

def zN (op : Int) : Nd := ⟨op, 0, ⟨#[]⟩, 0, 0, 0, 0⟩
theorem ck_any1 : ck [zN 3] = (0, 0) := by
  have ha : alE (zN 3) = 0 := by
    unfold alE zN
    rw [if_neg (by decide), if_pos (by unfold fdF txF nuF seF; decide)]
  have he : er [zN 3] 0 = 0 := by
    rw [er_of (n := zN 3) rfl, ha]
    decide
  refine (Rt.ck ⟨by decide, fun j hj => ?_, by decide⟩)
  have : j = 0 := by simp at hj; omega
  rw [this]
  exact he
theorem ck_star1 : ck [zN 9] = (0, 42) := by
  have ha : alE (zN 9) = 0 := by
    unfold alE zN
    rw [if_neg (by decide), if_pos (by unfold fdF txF nuF seF; decide)]
  have he : er [zN 9] 0 = 42 := by
    rw [er_of (n := zN 9) rfl, ha]
    decide
  rw [ck_bad (k := 0) (by decide) (by decide) (fun j hj => by omega) (by rw [he]; decide), he]
theorem rd_one (w : World) (n : Nd) : RdN (w.alloc (ndO n)) (some ⟨w.heap.size, 0, none⟩) [n] := fun _ => ⟨w.heap.size, 0, rfl, by rw [World.size_alloc]; omega, fun j m hj => by
  cases j with
  | zero => cases hj; exact nb_new w n
  | succ j => simp at hj⟩
theorem one_len (n : Nd) : [n].length ≤ 140737488355328 := by rw [List.length_singleton]; omega
theorem one_tx (op : Int) : ∀ n ∈ [zN op], n.tx.size ≤ 140737488355328 := by
  intro n hn
  have e : n = zN op := List.mem_singleton.1 hn
  have e2 : n.tx.size = 0 := by rw [e]; rfl
  rw [e2]
  exact Nat.zero_le _
theorem check_one (op : Int) (r : Nat × Int) (h : ck [zN op] = r) (w : World) : Calls Try.prog 12 #[.slice (some ⟨w.heap.size, 0, none⟩) 1 1] (w.alloc (ndO (zN op))) fun e w' => e = .returned (.tuple #[.int .i64 r.1, .int .i64 r.2]) ∧ Below (w.alloc (ndO (zN op))).heap.size (w.alloc (ndO (zN op))) w' := by
  have hh := check_any [zN op] (some ⟨w.heap.size, 0, none⟩) 1 (one_len _) (one_tx op) (w.alloc (ndO (zN op))) (rd_one w (zN op))
  rw [h] at hh
  exact hh
set_option maxRecDepth 100000 in
set_option maxHeartbeats 1000000 in
theorem lives_any (w : World) : Calls Try.prog 8 #[] w fun e w' => e = .returned (.bool true) ∧ Below w.heap.size w w' := by
  have H1 : Hid (∀ w, Calls Try.prog 12 #[.slice (some ⟨w.heap.size, 0, none⟩) 1 1] (w.alloc (.cells #[.int .i64 3, .int .i64 0, .string ⟨#[]⟩, .int .u64 0, .int .u64 0, .int .u64 0, .int .u64 0] 37)) fun e w' => e = .returned (.tuple #[.int .i64 0, .int .i64 0]) ∧ Below w.heap.size w w') := fun w => (check_one 3 (0, 0) ck_any1 w).mono fun e w' ⟨h1, h2⟩ => ⟨h1, (below_box w _).trans (h2.mono (below_box w _).size)⟩
  have H2 : Hid (∀ w, Calls Try.prog 12 #[.slice (some ⟨w.heap.size, 0, none⟩) 1 1] (w.alloc (.cells #[.int .i64 9, .int .i64 0, .string ⟨#[]⟩, .int .u64 0, .int .u64 0, .int .u64 0, .int .u64 0] 37)) fun e w' => e = .returned (.tuple #[.int .i64 0, .int .i64 42]) ∧ Below w.heap.size w w') := fun w => (check_one 9 (0, 42) ck_star1 w).mono fun e w' ⟨h1, h2⟩ => ⟨h1, (below_box w _).trans (h2.mono (below_box w _).size)⟩
  go_enter Try.func8, Try.ntmps8
  go_wp2_with fail
  refine (H1.out _).mono ?_
  rintro e w2 ⟨rfl, b2⟩
  have HB := (show Hid (Below w.heap.size w w2) from b2)
  clear H1 b2
  go_wp2_with fail
  refine (H2.out _).mono ?_
  rintro e w3 ⟨rfl, b3⟩
  have HB3 := (show Hid (Below w.heap.size w w3) from HB.out.trans (b3.mono HB.out.size))
  clear H2 b3 HB
  go_wp2_with fail
  go_ret
  exact ⟨rfl, HB3.out⟩
end Go.Proofs.Ytfomodpjdaclgab
