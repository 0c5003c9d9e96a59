/- DERIVED. Walks: Decode, by the program. -/
import Derived.Test.YtiillgahnbimjabDoorPlD
import Derived.Test.YtiillgahnbimjabDoorRcA
import Derived.LoopN
import Derived.Lib.OthersKept
namespace Go.Proofs.YtiillgahnbimjabDoor
open Go.RowKit Go.Shelf

attribute [local go_sem] Oper.semAt_some

theorem iter_below (w : World) (s : ByteArray) (p : Nat) : Below w.heap.size w (w.iter s p) := (Below.refl _ _).alloc (Nat.le_refl _) _

set_option maxRecDepth 100000 in
set_option maxHeartbeats 4000000 in
theorem decode_in (s : ByteArray) (i : Nat) (h : i < s.size) (w : World) :
    Calls Tryd.prog 8 #[.string s, .int .i64 (i : Int)] w fun e w' => e = .returned (deV (dcd s i)) ∧ Below w.heap.size w w' := by
  have HB : Hid (∀ w, Calls Tryd.prog 13 #[.string (s.extract i s.size), .int .i32 ((Utf8.decode (s.extract i s.size) 0).1 : Int)] w fun e w' => e = .returned (.bool (dcd s i).isSome) ∧ w' = w) := fun w => by
    rw [dec_tail s i h, ← begins_eq h]
    exact begins_any _ _ w
  have h0 : (0 : Int) ≤ (i : Int) := by omega
  have h1 : (i : Int) ≤ (s.size : Int) := by omega
  have hT := ext_pos s i h
  have HW := (show Hid _ from iter_below w (s.extract i s.size) 0)
  have hnx : ∀ ty, (Instr.next (.pointer (some ⟨w.heap.size, 0, none⟩)) true ty).run Tryd.prog (w.iter (s.extract i s.size) 0) = _ := fun ty => Lib.run_next_any_at _ w.heap.size (s.extract i s.size) 0 ty (World.iter_heap w _ 0) hT
  have HW2 := (show Hid (∀ q, Below w.heap.size w ((w.iter (s.extract i s.size) 0).iterAt w.heap.size (s.extract i s.size) q)) from fun q => Lib.below_iterAt HW.out (Nat.le_refl _) _ _)
  cases hd : dcd s i with
  | none =>
    rw [hd] at HB
    dsimp only [Option.isSome] at HB
    clear hd
    generalize (Utf8.decode (s.extract i s.size) 0).1 = r at *
    generalize (Utf8.decode (s.extract i s.size) 0).2 = n at *
    go_enter Tryd.func8, Tryd.ntmps8
    go_wp2_with fail
    refine wp_loop_rounds 1 ?_
    rw [rounds_succ]
    go_wp2_with fail
    refine (HB.out _).mono ?_
    rintro e w2 ⟨rfl, rfl⟩
    go_wp2
    go_ret3
    exact ⟨rfl, HW2.out _⟩
  | some p =>
    obtain ⟨r, n⟩ := p
    rw [hd] at HB
    dsimp only [Option.isSome] at HB
    obtain ⟨e1, e2⟩ := dcd_dec h hd
    obtain ⟨hcp, rfl, _⟩ := dcd_some hd
    have e3 := (show Hid _ from (dec_tail s i h).trans e1)
    rw [e3.out] at HB hnx
    have HL : Hid (∀ w, Calls Tryd.prog 14 #[.int .i32 r] w fun e w' => e = .returned (.int .i64 (szI r : Int)) ∧ w' = w) := fun w => by
      have hh := Tryd.utf8_RuneLen r w
      rwa [runeLen_eq hcp] at hh
    have q1 : IntKind.i64.wrap r = r := by unfold cp at hcp; rw [IntKind.wrap_i64]; omega
    clear hd e1 e2 e3 hcp
    generalize (Utf8.decode (s.extract i s.size) 0).2 = n at *
    generalize szI r = m at *
    go_enter Tryd.func8, Tryd.ntmps8
    go_wp2_with fail
    refine wp_loop_rounds 1 ?_
    rw [rounds_succ]
    go_wp2_with fail
    refine (HB.out _).mono ?_
    rintro e w2 ⟨rfl, rfl⟩
    go_wp2_with fail
    refine (HL.out _).mono ?_
    rintro e w2 ⟨rfl, rfl⟩
    go_wp2
    go_ret3
    exact ⟨rfl, HW2.out _⟩
set_option maxRecDepth 100000 in
set_option maxHeartbeats 4000000 in
theorem decode_any (s : ByteArray) (a : Int) (w : World) :
    Calls Tryd.prog 8 #[.string s, .int .i64 a] w fun e w' => e = .returned (deV (dcI s a)) ∧ Below w.heap.size w w' := by
  by_cases h0 : a < 0
  · rw [dcI_neg h0]
    go_enter Tryd.func8, Tryd.ntmps8
    go_wp2
    go_ret3
    exact ⟨rfl, Below.refl _ _⟩
  · by_cases h1 : (s.size : Int) < a
    · rw [dcI_out (by omega)]
      have d0 : decide (a < 0) = false := decide_eq_false h0
      clear h0
      go_enter Tryd.func8, Tryd.ntmps8
      go_wp2
      go_ret3
      exact ⟨rfl, Below.refl _ _⟩
    · obtain ⟨i, rfl⟩ : ∃ i : Nat, a = (i : Int) := ⟨a.toNat, by omega⟩
      rw [dcI_in]
      by_cases h : i < s.size
      · exact decode_in s i h w
      · rw [dcd_out h]
        have z0 : (0 : Int) ≤ (i : Int) := by omega
        have z1 : (i : Int) ≤ (s.size : Int) := by omega
        have hT := ext_zero s i h
        have HW := (show Hid _ from iter_below w (s.extract i s.size) 0)
        have hnx : ∀ ty, (Instr.next (.pointer (some ⟨w.heap.size, 0, none⟩)) true ty).run Tryd.prog (w.iter (s.extract i s.size) 0) = _ := fun ty => Lib.run_next_end_at _ w.heap.size (s.extract i s.size) 0 ty (World.iter_heap w _ 0) hT
        clear h h0 h1
        go_enter Tryd.func8, Tryd.ntmps8
        go_wp2_with fail
        refine wp_loop_rounds 1 ?_
        rw [rounds_succ]
        go_wp2
        go_ret3
        exact ⟨rfl, HW.out⟩
end Go.Proofs.YtiillgahnbimjabDoor
