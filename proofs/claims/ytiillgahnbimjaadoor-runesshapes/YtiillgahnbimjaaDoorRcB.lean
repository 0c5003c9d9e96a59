/- DERIVED. Walks: Code, ref.Encode. -/
import Derived.Test.YtiillgahnbimjaaDoorRcA
import Derived.Laws.MakeOwn
import Derived.LoopN
import Derived.ProofKit
namespace Go.Proofs.YtiillgahnbimjaaDoor
open Go.RowKit

/-- A cell's byte. -/
def byO : Option Value → Int
  | some (.int .u8 x) => x
  | _ => 0
def isO : Option Value → Bool
  | some (.int .u8 _) => true
  | _ => false
theorem byO_some (x : Int) : byO (some (.int .u8 x)) = x := rfl
theorem isO_some (x : Int) : isO (some (.int .u8 x)) = true := rfl
theorem isO_eq {o : Option Value} (h : isO o = true) : o = some (.int .u8 (byO o)) := by
  cases o with
  | none => cases h
  | some v =>
    cases v with
    | int k x => cases k <;> first | rfl | cases h
    | _ => cases h
/-- The text of bytes that lie one behind the other. -/
theorem conv_cells (W : World) (B c : Nat) (l : List Int) (h : ∀ (j : Nat) (x : Int), l[j]? = some x → W.cell? ⟨B, j, none⟩ = some (.int .u8 x)) :
    (convert 65 9 (.slice (some ⟨B, 0, none⟩) l.length c)).run Tryd.prog W = .ok (.string (asText l)) W := by
  rw [run_convert_bytes_string W 65 9 5 _ _ _ Tryd.underlying65 Tryd.underlying5 Tryd.underlying9]
  refine run_bytesToString W ⟨B, 0, none⟩ l.length c l ?_
  have h2 := run_loadCells_list (P := Tryd.prog) (w := W) ⟨B, 0, none⟩ (l.map (Value.int .u8)) (fun j u hj => by
    rw [List.getElem?_map] at hj
    cases hq : l[j]? with
    | none => rw [hq] at hj; cases hj
    | some x => rw [hq] at hj; cases hj; rw [Addr.add_lit, Nat.zero_add]; exact h j x hq)
  rwa [List.length_map] at h2
theorem conv1 (W : World) (B c : Nat) (h0 : isO (W.cell? ⟨B, 0, none⟩) = true) :
    (convert 65 9 (.slice (some ⟨B, 0, none⟩) 1 c)).run Tryd.prog W = .ok (.string (asText [byO (W.cell? ⟨B, 0, none⟩)])) W :=
  conv_cells W B c [_] fun j x hj => by
    match j, hj with
    | 0, hj => cases hj; exact isO_eq h0
theorem conv2 (W : World) (B c : Nat) (h0 : isO (W.cell? ⟨B, 0, none⟩) = true) (h1 : isO (W.cell? ⟨B, 1, none⟩) = true) :
    (convert 65 9 (.slice (some ⟨B, 0, none⟩) 2 c)).run Tryd.prog W = .ok (.string (asText [byO (W.cell? ⟨B, 0, none⟩), byO (W.cell? ⟨B, 1, none⟩)])) W :=
  conv_cells W B c [_, _] fun j x hj => by
    match j, hj with
    | 0, hj => cases hj; exact isO_eq h0
    | 1, hj => cases hj; exact isO_eq h1
theorem conv3 (W : World) (B c : Nat) (h0 : isO (W.cell? ⟨B, 0, none⟩) = true) (h1 : isO (W.cell? ⟨B, 1, none⟩) = true) (h2 : isO (W.cell? ⟨B, 2, none⟩) = true) :
    (convert 65 9 (.slice (some ⟨B, 0, none⟩) 3 c)).run Tryd.prog W = .ok (.string (asText [byO (W.cell? ⟨B, 0, none⟩), byO (W.cell? ⟨B, 1, none⟩), byO (W.cell? ⟨B, 2, none⟩)])) W :=
  conv_cells W B c [_, _, _] fun j x hj => by
    match j, hj with
    | 0, hj => cases hj; exact isO_eq h0
    | 1, hj => cases hj; exact isO_eq h1
    | 2, hj => cases hj; exact isO_eq h2
theorem conv4 (W : World) (B c : Nat) (h0 : isO (W.cell? ⟨B, 0, none⟩) = true) (h1 : isO (W.cell? ⟨B, 1, none⟩) = true) (h2 : isO (W.cell? ⟨B, 2, none⟩) = true) (h3 : isO (W.cell? ⟨B, 3, none⟩) = true) :
    (convert 65 9 (.slice (some ⟨B, 0, none⟩) 4 c)).run Tryd.prog W = .ok (.string (asText [byO (W.cell? ⟨B, 0, none⟩), byO (W.cell? ⟨B, 1, none⟩), byO (W.cell? ⟨B, 2, none⟩), byO (W.cell? ⟨B, 3, none⟩)])) W :=
  conv_cells W B c [_, _, _, _] fun j x hj => by
    match j, hj with
    | 0, hj => cases hj; exact isO_eq h0
    | 1, hj => cases hj; exact isO_eq h1
    | 2, hj => cases hj; exact isO_eq h2
    | 3, hj => cases hj; exact isO_eq h3
attribute [local go_sem] byO_some isO_some conv1 conv2 conv3 conv4

theorem Tryd.info5 : (Tryd.prog.info? 5).map (fun i => (i.zero, i.size, i.bytes)) = some (some (.int .u8 0), 1, 1) := by kernel_rfl
theorem make2 (w : World) : (Instr.makeSlice 65 (.int .i64 2) (.int .i64 2)).run Tryd.prog w = .ok (.slice (some ⟨w.heap.size, 0, none⟩) 2 2) (w.alloc (.cells #[.int .u8 0, .int .u8 0] 5)) := by
  obtain ⟨i0, hinf, hz0, hz1, hz2⟩ := info_parts Tryd.info5
  rw [run_make w 65 5 i0 (.int .u8 0) Tryd.underlying65 hinf hz0 .i64 .i64 2 2 (by omega) (by omega) (by rw [hz2]; decide) (by omega), hz1]
  kernel_rfl
theorem make3 (w : World) : (Instr.makeSlice 65 (.int .i64 3) (.int .i64 3)).run Tryd.prog w = .ok (.slice (some ⟨w.heap.size, 0, none⟩) 3 3) (w.alloc (.cells #[.int .u8 0, .int .u8 0, .int .u8 0] 5)) := by
  obtain ⟨i0, hinf, hz0, hz1, hz2⟩ := info_parts Tryd.info5
  rw [run_make w 65 5 i0 (.int .u8 0) Tryd.underlying65 hinf hz0 .i64 .i64 3 3 (by omega) (by omega) (by rw [hz2]; decide) (by omega), hz1]
  kernel_rfl
theorem make4 (w : World) : (Instr.makeSlice 65 (.int .i64 4) (.int .i64 4)).run Tryd.prog w = .ok (.slice (some ⟨w.heap.size, 0, none⟩) 4 4) (w.alloc (.cells #[.int .u8 0, .int .u8 0, .int .u8 0, .int .u8 0] 5)) := by
  obtain ⟨i0, hinf, hz0, hz1, hz2⟩ := info_parts Tryd.info5
  rw [run_make w 65 5 i0 (.int .u8 0) Tryd.underlying65 hinf hz0 .i64 .i64 4 4 (by omega) (by omega) (by rw [hz2]; decide) (by omega), hz1]
  kernel_rfl
attribute [local go_sem] make2 make3 make4

set_option maxRecDepth 100000 in
set_option maxHeartbeats 4000000 in
theorem code_one (n : Int) (h0 : 0 ≤ n) (h1 : n ≤ 127) (w : World) : Calls Tryd.prog 37 #[.int .i64 n] w fun e w' => e = .returned (.string (asText [n])) ∧ Below w.heap.size w w' := by
  have HS : Hid (∀ w, Calls Tryd.prog 45 #[.int .i64 n] w fun e w' => e = .returned (.int .i64 1) ∧ w' = w) := fun w => by
    have h := sizeR_any n w
    rwa [show szI n = 1 from by unfold szI; rw [if_pos h1]] at h
  have q1 : IntKind.u8.wrap n = n := by rw [IntKind.wrap_u8']; omega
  go_enter Tryd.func37, Tryd.ntmps37
  go_wp2_with fail
  refine (HS.out _).mono ?_
  rintro e w' ⟨rfl, rfl⟩
  go_wp2
  go_ret
  exact ⟨rfl, (Below.refl _ _).alloc (Nat.le_refl _) _⟩

set_option maxRecDepth 100000 in
set_option maxHeartbeats 4000000 in
theorem code_two (n : Int) (h0 : 128 ≤ n) (h1 : n ≤ 2047) (w : World) : Calls Tryd.prog 37 #[.int .i64 n] w fun e w' => e = .returned (.string (asText [192 + n / 64, 128 + n % 64])) ∧ Below w.heap.size w w' := by
  have HS : Hid (∀ w, Calls Tryd.prog 45 #[.int .i64 n] w fun e w' => e = .returned (.int .i64 2) ∧ w' = w) := fun w => by
    have h := sizeR_any n w
    rwa [show szI n = 2 from by unfold szI; rw [if_neg (by omega), if_pos (by omega)]] at h
  have p0 : (n).tmod 64 = n % 64 := Int.tmod_eq_emod_of_nonneg (by omega)
  have q0 : (n).tdiv 64 = n / 64 := by rw [Int.tdiv_eq_ediv_of_nonneg (by omega)]
  have r0 : IntKind.u8.wrap (128 + n % 64) = 128 + n % 64 := by rw [IntKind.wrap_u8']; omega
  have v0 : IntKind.i64.wrap (128 + n % 64) = 128 + n % 64 := by rw [IntKind.wrap_i64]; omega
  have v10 : IntKind.i64.wrap (n / 64) = n / 64 := by rw [IntKind.wrap_i64]; omega
  have r9 : IntKind.u8.wrap (192 + n / 64) = 192 + n / 64 := by rw [IntKind.wrap_u8']; omega
  have v9 : IntKind.i64.wrap (192 + n / 64) = 192 + n / 64 := by rw [IntKind.wrap_i64]; omega
  clear h0 h1
  go_enter Tryd.func37, Tryd.ntmps37
  go_wp2_with fail
  refine (HS.out _).mono ?_
  rintro e w' ⟨rfl, rfl⟩
  go_wp2_with fail
  refine wp_loop_rounds 2 ?_
  rw [rounds_succ]
  go_wp2_with fail
  rw [rounds_succ]
  go_wp2_with fail
  go_ret
  exact ⟨rfl, ((Below.refl _ _).alloc (Nat.le_refl _) _).alloc (by simp) _⟩

set_option maxRecDepth 100000 in
set_option maxHeartbeats 4000000 in
theorem code_three (n : Int) (h0 : 2048 ≤ n) (h1 : n ≤ 65535) (w : World) : Calls Tryd.prog 37 #[.int .i64 n] w fun e w' => e = .returned (.string (asText [224 + n / 4096, 128 + n / 64 % 64, 128 + n % 64])) ∧ Below w.heap.size w w' := by
  have HS : Hid (∀ w, Calls Tryd.prog 45 #[.int .i64 n] w fun e w' => e = .returned (.int .i64 3) ∧ w' = w) := fun w => by
    have h := sizeR_any n w
    rwa [show szI n = 3 from by unfold szI; rw [if_neg (by omega), if_neg (by omega), if_pos (by omega)]] at h
  have p0 : (n).tmod 64 = n % 64 := Int.tmod_eq_emod_of_nonneg (by omega)
  have q0 : (n).tdiv 64 = n / 64 := by rw [Int.tdiv_eq_ediv_of_nonneg (by omega)]
  have r0 : IntKind.u8.wrap (128 + n % 64) = 128 + n % 64 := by rw [IntKind.wrap_u8']; omega
  have v0 : IntKind.i64.wrap (128 + n % 64) = 128 + n % 64 := by rw [IntKind.wrap_i64]; omega
  have v10 : IntKind.i64.wrap (n / 64) = n / 64 := by rw [IntKind.wrap_i64]; omega
  have p1 : (n / 64).tmod 64 = n / 64 % 64 := Int.tmod_eq_emod_of_nonneg (by omega)
  have q1 : (n / 64).tdiv 64 = n / 4096 := by rw [Int.tdiv_eq_ediv_of_nonneg (by omega)]; omega
  have r1 : IntKind.u8.wrap (128 + n / 64 % 64) = 128 + n / 64 % 64 := by rw [IntKind.wrap_u8']; omega
  have v1 : IntKind.i64.wrap (128 + n / 64 % 64) = 128 + n / 64 % 64 := by rw [IntKind.wrap_i64]; omega
  have v11 : IntKind.i64.wrap (n / 4096) = n / 4096 := by rw [IntKind.wrap_i64]; omega
  have r9 : IntKind.u8.wrap (224 + n / 4096) = 224 + n / 4096 := by rw [IntKind.wrap_u8']; omega
  have v9 : IntKind.i64.wrap (224 + n / 4096) = 224 + n / 4096 := by rw [IntKind.wrap_i64]; omega
  clear h0 h1
  go_enter Tryd.func37, Tryd.ntmps37
  go_wp2_with fail
  refine (HS.out _).mono ?_
  rintro e w' ⟨rfl, rfl⟩
  go_wp2_with fail
  refine wp_loop_rounds 3 ?_
  rw [rounds_succ]
  go_wp2_with fail
  rw [rounds_succ]
  go_wp2_with fail
  rw [rounds_succ]
  go_wp2_with fail
  go_ret
  exact ⟨rfl, ((Below.refl _ _).alloc (Nat.le_refl _) _).alloc (by simp) _⟩

set_option maxRecDepth 100000 in
set_option maxHeartbeats 4000000 in
theorem code_four (n : Int) (h0 : 65536 ≤ n) (h1 : n ≤ 1114111) (w : World) : Calls Tryd.prog 37 #[.int .i64 n] w fun e w' => e = .returned (.string (asText [240 + n / 262144, 128 + n / 4096 % 64, 128 + n / 64 % 64, 128 + n % 64])) ∧ Below w.heap.size w w' := by
  have HS : Hid (∀ w, Calls Tryd.prog 45 #[.int .i64 n] w fun e w' => e = .returned (.int .i64 4) ∧ w' = w) := fun w => by
    have h := sizeR_any n w
    rwa [show szI n = 4 from by unfold szI; rw [if_neg (by omega), if_neg (by omega), if_neg (by omega)]] at h
  have p0 : (n).tmod 64 = n % 64 := Int.tmod_eq_emod_of_nonneg (by omega)
  have q0 : (n).tdiv 64 = n / 64 := by rw [Int.tdiv_eq_ediv_of_nonneg (by omega)]
  have r0 : IntKind.u8.wrap (128 + n % 64) = 128 + n % 64 := by rw [IntKind.wrap_u8']; omega
  have v0 : IntKind.i64.wrap (128 + n % 64) = 128 + n % 64 := by rw [IntKind.wrap_i64]; omega
  have v10 : IntKind.i64.wrap (n / 64) = n / 64 := by rw [IntKind.wrap_i64]; omega
  have p1 : (n / 64).tmod 64 = n / 64 % 64 := Int.tmod_eq_emod_of_nonneg (by omega)
  have q1 : (n / 64).tdiv 64 = n / 4096 := by rw [Int.tdiv_eq_ediv_of_nonneg (by omega)]; omega
  have r1 : IntKind.u8.wrap (128 + n / 64 % 64) = 128 + n / 64 % 64 := by rw [IntKind.wrap_u8']; omega
  have v1 : IntKind.i64.wrap (128 + n / 64 % 64) = 128 + n / 64 % 64 := by rw [IntKind.wrap_i64]; omega
  have v11 : IntKind.i64.wrap (n / 4096) = n / 4096 := by rw [IntKind.wrap_i64]; omega
  have p2 : (n / 4096).tmod 64 = n / 4096 % 64 := Int.tmod_eq_emod_of_nonneg (by omega)
  have q2 : (n / 4096).tdiv 64 = n / 262144 := by rw [Int.tdiv_eq_ediv_of_nonneg (by omega)]; omega
  have r2 : IntKind.u8.wrap (128 + n / 4096 % 64) = 128 + n / 4096 % 64 := by rw [IntKind.wrap_u8']; omega
  have v2 : IntKind.i64.wrap (128 + n / 4096 % 64) = 128 + n / 4096 % 64 := by rw [IntKind.wrap_i64]; omega
  have v12 : IntKind.i64.wrap (n / 262144) = n / 262144 := by rw [IntKind.wrap_i64]; omega
  have r9 : IntKind.u8.wrap (240 + n / 262144) = 240 + n / 262144 := by rw [IntKind.wrap_u8']; omega
  have v9 : IntKind.i64.wrap (240 + n / 262144) = 240 + n / 262144 := by rw [IntKind.wrap_i64]; omega
  clear h0 h1
  go_enter Tryd.func37, Tryd.ntmps37
  go_wp2_with fail
  refine (HS.out _).mono ?_
  rintro e w' ⟨rfl, rfl⟩
  go_wp2_with fail
  refine wp_loop_rounds 4 ?_
  rw [rounds_succ]
  go_wp2_with fail
  rw [rounds_succ]
  go_wp2_with fail
  rw [rounds_succ]
  go_wp2_with fail
  rw [rounds_succ]
  go_wp2_with fail
  go_ret
  exact ⟨rfl, ((Below.refl _ _).alloc (Nat.le_refl _) _).alloc (by simp) _⟩

theorem codeR_any (n : Int) (h : cp n) (w : World) : Calls Tryd.prog 37 #[.int .i64 n] w fun e w' => e = .returned (.string (Utf8.encode n)) ∧ Below w.heap.size w w' := by
  rw [encode_eq h]
  rcases cp_cases h with q | q | q | q
  · rw [enL_one q.1 q.2]; exact code_one n q.1 q.2 w
  · rw [enL_two q.1 q.2]; exact code_two n q.1 q.2 w
  · rw [enL_three q]; exact code_three n (by omega) (by omega) w
  · rw [enL_four q.1 q.2]; exact code_four n q.1 q.2 w
end Go.Proofs.YtiillgahnbimjaaDoor
