/- DERIVED. Walks: shapeOf. -/
import Derived.Test.YtiillgahnbimjabDoorPlF
import Derived.Test.YtiillgahnbimjabDoorSmA
import Derived.Deep.RegionHeld3
import Derived.ProofKit
namespace Go.Proofs.YtiillgahnbimjabDoor
open Go.RowKit

theorem Tryd.info56 : (Tryd.prog.info? 34).map (fun i => (i.zero, i.size, i.bytes)) = some (some (.agg #[.int .i64 0, .int .i64 0]), 2, 16) := by kernel_rfl

/-- What holds while a shape is laid. -/
structure AtS (w wr : World) (v : Value) (s : Shape) : Prop where
  o : wr.ownsRow (w.heap.size + 1) 34 2 v s.length (spc s)
  lt : w.heap.size < wr.heap.size
  b : Below w.heap.size w wr

set_option maxRecDepth 100000 in
set_option maxHeartbeats 8000000 in
theorem shapeOf_any (lo hi : Int) (h : Blk lo hi) (w : World) :
    Calls Tryd.prog 17 #[.agg #[.int .i32 lo, .int .i32 hi]] w fun e w' => ∃ v, e = .returned v ∧ w'.ownsRow (w.heap.size + 1) 34 2 v (shp (lo, hi)).length (spc (shp (lo, hi))) ∧ Below w.heap.size w w' := by
  obtain ⟨i0, hinf, hz0, hz1, hz2⟩ := info_parts Tryd.info56
  have hsz := szI_bd lo
  have HG := (show Hid (∀ k, k < szI lo → (shp (lo, hi)).take (k + 1) = (shp (lo, hi)).take k ++ [(chr (Utf8.encode lo) k, chr (Utf8.encode hi) k)]) from fun k hk => shp_take h k hk)
  have HL := (show Hid ((shp (lo, hi)).length = szI lo) from shp_len h)
  have hX := enc_size h.cpl.1
  have hY := enc_size h.cpl.2.1
  rw [← h.cpl.2.2.1] at hY
  have c0 := (RBox.new w lo hi).c0
  have c1 := (RBox.new w lo hi).c1
  have HA := (show Hid (AtS w (w.alloc (.cells #[.int .i32 lo, .int .i32 hi] 42)) (.slice none 0 0) []) from ⟨World.ownsRow_nil _ _ _ _, by simp, (Below.refl _ _).alloc (Nat.le_refl _) _⟩)
  generalize shp (lo, hi) = S at *
  generalize szI lo = K at *
  generalize hXe : Utf8.encode lo = X at *
  generalize hYe : Utf8.encode hi = Y at *
  clear h
  have hXi : (X.size : Int) = (K : Int) := by omega
  go_enter Tryd.func17, Tryd.ntmps17
  go_wp2_with fail
  go_quiet (fail)
  have HA1 := (show Hid (AtS w ((w.alloc (.cells #[.int .i32 lo, .int .i32 hi] 42)).drewN nq) (.slice none 0 0) []) from ⟨World.ownsRow_nil _ _ _ _, HA.out.lt, HA.out.b.trans (below_drewN (Below.refl _ _) _)⟩)
  clear HA c0 c1
  generalize (w.alloc (.cells #[.int .i32 lo, .int .i32 hi] 42)).drewN nq = w0 at *
  go_wp2_with fail
  go_loopw [5, 15] (fun v t wr => ∃ k : Nat, k ≤ K ∧ t = .int .i64 k ∧ Hid (AtS w wr v (S.take k))) (fun _ t _ => 5 - (intOf t).toNat)
  case atStart => exact ⟨0, by omega, by go_num, HA1⟩
  case round =>
    obtain ⟨k, hk, rfl, HW⟩ := hrel
    clear HA1
    by_cases hlt : k < K
    · have z0 : (0 : Int) ≤ (k : Int) := by omega
      have z1 : (k : Int) < (X.size : Int) := by omega
      have z2 : (k : Int) < (Y.size : Int) := by omega
      have z3 : (k : Int) < (K : Int) := by omega
      have hxk : k < X.size := by omega
      have hyk : k < Y.size := by omega
      have HT := (show Hid _ from HG.out k hlt)
      have e1 := chr_in hxk
      have e2 := chr_in hyk
      rw [e1, e2] at HT
      clear e1 e2
      have hO := HW.out.o
      have hbl := HW.out.lt
      have HTl := (show Hid ((S.take k).length ≤ 4) from (by show _ ≤ _; have := List.length_take_le k S; omega))
      have wa : IntKind.i64.wrap (X[k].toNat : Int) = (X[k].toNat : Int) := by have := X[k].toNat_lt; rw [IntKind.wrap_i64]; omega
      have wb : IntKind.i64.wrap (Y[k].toNat : Int) = (Y[k].toNat : Int) := by have := Y[k].toNat_lt; rw [IntKind.wrap_i64]; omega
      generalize hxx : (X[k].toNat : Int) = a at *
      generalize hyy : (Y[k].toNat : Int) = b at *
      generalize S.take k = T at *
      go_wp2_with fail
      go_region_held3 (fun _ => True) (trivial) ((refine step_append_lies _ (by rfl) _ _ _ (by rfl) (w.heap.size + 1) 34 i0 _ 2 16 Tryd.underlying30 hinf hz0 hz1 hz2 rfl (by omega) _ _ (spc T) (by rfl) ((hO.alloc _).drew) ⟨wr.heap.size, 0, none⟩ 1 1 [.int .i64 a, .int .i64 b] (by rfl) (by rfl) (World.news_of_block (cs := #[.int .i64 a, .int .i64 b]) (t := 34) (fr := (0, 0)) (heap_alloc_new wr _)) (by simp [Value.oneCell']) (by omega) (by have := HTl.out; unfold maxLen; omega) (by have := HTl.out; omega) (by simp; omega) (wr.heap.size + 1) (by simp) ?_; intro g cap w1 hown1 hgrow hat hltg))
      all_goals
        have hle := fun j e => (hO.lt j e).1
        have HW2 := (show Hid (AtS w w1 (.slice (some ⟨g, 0, none⟩) (T.length + 1) cap) (S.take (k + 1))) from (by
          rw [HT.out]
          refine ⟨?_, Nat.lt_of_lt_of_le (by simp; omega) hgrow.size, ?_⟩
          · rw [List.length_append, spc_append]; exact hown1
          · exact ((HW.out.b.alloc (by omega) (.cells #[.int .i64 a, .int .i64 b] 34)).drew).grown hgrow (by simp; omega) (fun j e => by have := hle j e; omega)))
        clear hown1 hgrow hat hltg hO HT HTl HW hle hxx hyy wa wb
        go_wp2
        go_roundw
        case rel => exact ⟨k + 1, by omega, by go_num, HW2⟩
        case measure => simp [intOf]; omega
    · obtain rfl : K = k := by omega
      have HE := (show Hid (S.take K = S) from List.take_of_length_le (by have := HL.out; omega))
      rw [HE.out] at HW
      have o := HW.out.o
      have b := HW.out.b
      clear HG HL HE
      go_wp2
      go_ret
      exact ⟨_, rfl, o, b⟩
end Go.Proofs.YtiillgahnbimjabDoor
