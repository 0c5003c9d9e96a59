/- DERIVED. Walks: Code, ref.Encode. -/
import Derived.Test.YtiillgahnbimjabDoorRcA
import Derived.Laws.MakeOwn
import Derived.LoopN
import Derived.ProofKit
namespace Go.Proofs.YtiillgahnbimjabDoor
open Go.RowKit

/-- A cell's byte. -/
def byO : Option Value → Int
  | some (.int .u8 x) => x
  | _ => 0
def isO : Option Value → Bool
  | some (.int .u8 _) => true
  | _ => false
theorem byO_some (x : Int) : byO (some (.int .u8 x)) = x := rfl
theorem isO_some (x : Int) : isO (some (.int .u8 x)) = true := rfl
theorem isO_eq {o : Option Value} (h : isO o = true) : o = some (.int .u8 (byO o)) := by
  cases o with
  | none => cases h
  | some v =>
    cases v with
    | int k x => cases k <;> first | rfl | cases h
    | _ => cases h
/-- The text of bytes that lie one behind the other. -/
theorem conv_cells (W : World) (B c : Nat) (l : List Int) (h : ∀ (j : Nat) (x : Int), l[j]? = some x → W.cell? ⟨B, j, none⟩ = some (.int .u8 x)) :
    (convert 32 9 (.slice (some ⟨B, 0, none⟩) l.length c)).run Tryd.prog W = .ok (.string (asText l)) W := by
  rw [run_convert_bytes_string W 32 9 5 _ _ _ Tryd.underlying32 Tryd.underlying5 Tryd.underlying9]
  refine run_bytesToString W ⟨B, 0, none⟩ l.length c l ?_
  have h2 := run_loadCells_list (P := Tryd.prog) (w := W) ⟨B, 0, none⟩ (l.map (Value.int .u8)) (fun j u hj => by
    rw [List.getElem?_map] at hj
    cases hq : l[j]? with
    | none => rw [hq] at hj; cases hj
    | some x => rw [hq] at hj; cases hj; rw [Addr.add_lit, Nat.zero_add]; exact h j x hq)
  rwa [List.length_map] at h2
theorem conv1 (W : World) (B c : Nat) (h0 : isO (W.cell? ⟨B, 0, none⟩) = true) :
    (convert 32 9 (.slice (some ⟨B, 0, none⟩) 1 c)).run Tryd.prog W = .ok (.string (asText [byO (W.cell? ⟨B, 0, none⟩)])) W :=
  conv_cells W B c [_] fun j x hj => by
    match j, hj with
    | 0, hj => cases hj; exact isO_eq h0
theorem conv2 (W : World) (B c : Nat) (h0 : isO (W.cell? ⟨B, 0, none⟩) = true) (h1 : isO (W.cell? ⟨B, 1, none⟩) = true) :
    (convert 32 9 (.slice (some ⟨B, 0, none⟩) 2 c)).run Tryd.prog W = .ok (.string (asText [byO (W.cell? ⟨B, 0, none⟩), byO (W.cell? ⟨B, 1, none⟩)])) W :=
  conv_cells W B c [_, _] fun j x hj => by
    match j, hj with
    | 0, hj => cases hj; exact isO_eq h0
    | 1, hj => cases hj; exact isO_eq h1
theorem conv3 (W : World) (B c : Nat) (h0 : isO (W.cell? ⟨B, 0, none⟩) = true) (h1 : isO (W.cell? ⟨B, 1, none⟩) = true) (h2 : isO (W.cell? ⟨B, 2, none⟩) = true) :
    (convert 32 9 (.slice (some ⟨B, 0, none⟩) 3 c)).run Tryd.prog W = .ok (.string (asText [byO (W.cell? ⟨B, 0, none⟩), byO (W.cell? ⟨B, 1, none⟩), byO (W.cell? ⟨B, 2, none⟩)])) W :=
  conv_cells W B c [_, _, _] fun j x hj => by
    match j, hj with
    | 0, hj => cases hj; exact isO_eq h0
    | 1, hj => cases hj; exact isO_eq h1
    | 2, hj => cases hj; exact isO_eq h2
theorem conv4 (W : World) (B c : Nat) (h0 : isO (W.cell? ⟨B, 0, none⟩) = true) (h1 : isO (W.cell? ⟨B, 1, none⟩) = true) (h2 : isO (W.cell? ⟨B, 2, none⟩) = true) (h3 : isO (W.cell? ⟨B, 3, none⟩) = true) :
    (convert 32 9 (.slice (some ⟨B, 0, none⟩) 4 c)).run Tryd.prog W = .ok (.string (asText [byO (W.cell? ⟨B, 0, none⟩), byO (W.cell? ⟨B, 1, none⟩), byO (W.cell? ⟨B, 2, none⟩), byO (W.cell? ⟨B, 3, none⟩)])) W :=
  conv_cells W B c [_, _, _, _] fun j x hj => by
    match j, hj with
    | 0, hj => cases hj; exact isO_eq h0
    | 1, hj => cases hj; exact isO_eq h1
    | 2, hj => cases hj; exact isO_eq h2
    | 3, hj => cases hj; exact isO_eq h3
attribute [local go_sem] byO_some isO_some conv1 conv2 conv3 conv4

theorem Tryd.info5 : (Tryd.prog.info? 5).map (fun i => (i.zero, i.size, i.bytes)) = some (some (.int .u8 0), 1, 1) := by kernel_rfl
theorem make2 (w : World) : (Instr.makeSlice 32 (.int .i64 2) (.int .i64 2)).run Tryd.prog w = .ok (.slice (some ⟨w.heap.size, 0, none⟩) 2 2) (w.alloc (.cells #[.int .u8 0, .int .u8 0] 5)) := by
  obtain ⟨i0, hinf, hz0, hz1, hz2⟩ := info_parts Tryd.info5
  rw [run_make w 32 5 i0 (.int .u8 0) Tryd.underlying32 hinf hz0 .i64 .i64 2 2 (by omega) (by omega) (by rw [hz2]; decide) (by omega), hz1]
  kernel_rfl
theorem make3 (w : World) : (Instr.makeSlice 32 (.int .i64 3) (.int .i64 3)).run Tryd.prog w = .ok (.slice (some ⟨w.heap.size, 0, none⟩) 3 3) (w.alloc (.cells #[.int .u8 0, .int .u8 0, .int .u8 0] 5)) := by
  obtain ⟨i0, hinf, hz0, hz1, hz2⟩ := info_parts Tryd.info5
  rw [run_make w 32 5 i0 (.int .u8 0) Tryd.underlying32 hinf hz0 .i64 .i64 3 3 (by omega) (by omega) (by rw [hz2]; decide) (by omega), hz1]
  kernel_rfl
theorem make4 (w : World) : (Instr.makeSlice 32 (.int .i64 4) (.int .i64 4)).run Tryd.prog w = .ok (.slice (some ⟨w.heap.size, 0, none⟩) 4 4) (w.alloc (.cells #[.int .u8 0, .int .u8 0, .int .u8 0, .int .u8 0] 5)) := by
  obtain ⟨i0, hinf, hz0, hz1, hz2⟩ := info_parts Tryd.info5
  rw [run_make w 32 5 i0 (.int .u8 0) Tryd.underlying32 hinf hz0 .i64 .i64 4 4 (by omega) (by omega) (by rw [hz2]; decide) (by omega), hz1]
  kernel_rfl
attribute [local go_sem] make2 make3 make4
end Go.Proofs.YtiillgahnbimjabDoor
