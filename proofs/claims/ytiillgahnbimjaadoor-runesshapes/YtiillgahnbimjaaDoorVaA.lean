/- DERIVED. Walks: Valid, by the program and by the document. -/
import Derived.Test.YtiillgahnbimjaaDoorPlG
import Derived.Test.YtiillgahnbimjaaDoorRcC
import Derived.Test.YtiillgahnbimjaaDoorRcD
namespace Go.Proofs.YtiillgahnbimjaaDoor
open Go.RowKit Go.Shelf

attribute [local go_sem] Oper.semAt_some

/-- Within a range over a text. -/
structure AtI (B k0 : Nat) (w wr : World) (s : ByteArray) (p : Nat) : Prop where
  i : wr.heap[k0]? = some (.stringIter s p)
  b : Below B w wr
  le : B ≤ k0
theorem AtI.new (w : World) (s : ByteArray) : AtI w.heap.size w.heap.size w (w.iter s 0) s 0 := ⟨World.iter_heap w s 0, iter_below w s 0, Nat.le_refl _⟩
theorem AtI.next {B k0 : Nat} {w wr : World} {s : ByteArray} {p : Nat} (h : AtI B k0 w wr s p) (q : Nat) : AtI B k0 w (wr.iterAt k0 s q) s q :=
  ⟨Lib.iterAt_heap wr k0 s p q h.i, Lib.below_iterAt h.b h.le _ _, h.le⟩
theorem AtI.pos {B k0 : Nat} {w wr : World} {s : ByteArray} {p : Nat} (h : AtI B k0 w wr s p) : wr.iterPos k0 = p := by unfold World.iterPos; rw [h.i]

theorem begins_at (s : ByteArray) (p : Nat) (h : p < s.size) (w : World) : Calls Tryd.prog 32 #[.string (s.extract p s.size), .int .i32 ((Utf8.decode s p).1 : Int)] w fun e w' => e = .returned (.bool (dcd s p).isSome) ∧ w' = w := by
  rw [← begins_eq h]
  exact begins_any _ _ w

set_option maxRecDepth 100000 in
set_option maxHeartbeats 4000000 in
theorem valid_any (s : ByteArray) (w : World) : Calls Tryd.prog 12 #[.string s] w fun e w' => e = .returned (.bool (vld s)) ∧ Below w.heap.size w w' := by
  have HA := (show Hid _ from AtI.new w s)
  generalize hR : vld s = R
  have HR := (show Hid (vlF s s.size 0 = R) from hR)
  clear hR
  go_enter Tryd.func12, Tryd.ntmps12
  go_wp2_with fail
  go_loopw [3] (fun _ wr => ∃ f p : Nat, Hid (s.size ≤ f + p) ∧ Hid (vlF s f p = R) ∧ Hid (AtI w.heap.size w.heap.size w wr s p)) (fun _ wr => s.size - wr.iterPos w.heap.size)
  case atStart => exact ⟨s.size, 0, (show _ ≤ _ by omega), HR, HA⟩
  case round =>
    obtain ⟨f, p, HF, HV, HW⟩ := hrel
    clear HA HR
    by_cases hp : p < s.size
    · obtain ⟨g, rfl⟩ : ∃ g, f = g + 1 := ⟨f - 1, by have h := HF.out; omega⟩
      have HBg : Hid (∀ w, Calls Tryd.prog 32 #[.string (s.extract p s.size), .int .i32 ((Utf8.decode s p).1 : Int)] w fun e w' => e = .returned (.bool (dcd s p).isSome) ∧ w' = w) := fun w => begins_at s p hp w
      have hnx : ∀ ty, (Instr.next (.pointer (some ⟨w.heap.size, 0, none⟩)) true ty).run Tryd.prog wr = _ := fun ty => Lib.run_next_any_at wr w.heap.size s p ty HW.out.i hp
      have z0 : (0 : Int) ≤ (p : Int) := by omega
      have z1 : (p : Int) ≤ (s.size : Int) := by omega
      have HW2 := (show Hid _ from HW.out.next (p + (Utf8.decode s p).2))
      have HP := (show Hid _ from HW.out.pos)
      cases hd : dcd s p with
      | none =>
        have HE := (show Hid (R = false) from HV.out.symm.trans (vlF_bad hp hd))
        rw [hd] at HBg
        dsimp only [Option.isSome] at HBg
        clear HV HF HW hd
        generalize (Utf8.decode s p).1 = r at *
        generalize (Utf8.decode s p).2 = wd at *
        generalize wr.iterAt w.heap.size s (p + wd) = w1 at *
        go_wp2_with fail
        refine (HBg.out _).mono ?_
        rintro e w2 ⟨rfl, rfl⟩
        go_wp2
        go_ret
        exact ⟨by rw [HE.out]; rfl, HW2.out.b⟩
      | some x =>
        obtain ⟨r, n⟩ := x
        have HV2 := (show Hid (vlF s g (p + n) = R) from (vlF_step hp hd).symm.trans HV.out)
        obtain ⟨e1, e2⟩ := dcd_dec hp hd
        have hbd := dcd_bd hd
        have HF2 := (show Hid (s.size ≤ g + (p + n)) from (by have h := HF.out; show _ ≤ _; omega))
        rw [hd] at HBg
        dsimp only [Option.isSome] at HBg
        rw [e1] at HBg hnx
        rw [e2] at HW2 hnx
        have hn1 : 1 ≤ n := hbd.2.1
        clear HV HF HW hd hbd e1 e2
        generalize wr.iterAt w.heap.size s (p + n) = w1 at *
        have HP2 := (show Hid _ from HW2.out.pos)
        go_wp2_with fail
        refine (HBg.out _).mono ?_
        rintro e w2 ⟨rfl, rfl⟩
        go_wp2
        go_roundw
        case rel => exact ⟨g, p + n, HF2, HV2, HW2⟩
        case measure => rw [HP2.out, HP.out]; omega
    · have HE := (show Hid (R = true) from HV.out.symm.trans (vlF_end hp))
      have hnx : ∀ ty, (Instr.next (.pointer (some ⟨w.heap.size, 0, none⟩)) true ty).run Tryd.prog wr = _ := fun ty => Lib.run_next_end_at wr w.heap.size s p ty HW.out.i hp
      have b := HW.out.b
      clear HV HF HW
      go_wp2
      go_ret
      exact ⟨by rw [HE.out]; rfl, b⟩

set_option maxRecDepth 100000 in
set_option maxHeartbeats 4000000 in
theorem validR_any (s : ByteArray) (hs : s.size ≤ 140737488355328) (w : World) : Calls Tryd.prog 13 #[.string s] w fun e w' => e = .returned (.bool (vld s)) ∧ Below w.heap.size w w' := by
  generalize hR : vld s = R
  have HR := (show Hid (vlF s s.size 0 = R) from hR)
  clear hR
  go_enter Tryd.func13, Tryd.ntmps13
  go_wp2_with fail
  go_loopw [3] (fun t wr => ∃ f p : Nat, t = .int .i64 p ∧ p ≤ s.size ∧ Hid (s.size ≤ f + p) ∧ Hid (vlF s f p = R) ∧ Hid (Below w.heap.size w wr)) (fun t _ => s.size - (intOf t).toNat)
  case atStart => exact ⟨s.size, 0, by go_num, by omega, (show _ ≤ _ by omega), HR, Below.refl _ _⟩
  case round =>
    obtain ⟨f, p, rfl, hps, HF, HV, HW⟩ := hrel
    clear HR
    by_cases hp : p < s.size
    · obtain ⟨g, rfl⟩ : ∃ g, f = g + 1 := ⟨f - 1, by have h := HF.out; omega⟩
      have HD : Hid (∀ w, Calls Tryd.prog 33 #[.string s, .int .i64 (p : Int)] w fun e w' => e = .returned (deV (dcd s p)) ∧ Below w.heap.size w w') := fun w => decodeR_in s p hp hs w
      have z1 : (p : Int) < (s.size : Int) := by omega
      cases hd : dcd s p with
      | none =>
        have HE := (show Hid (R = false) from HV.out.symm.trans (vlF_bad hp hd))
        rw [hd] at HD
        dsimp only [deV] at HD
        clear HV HF hd
        go_wp2_with fail
        refine (HD.out _).mono ?_
        rintro e w2 ⟨rfl, hb⟩
        go_wp2
        go_ret
        exact ⟨by rw [HE.out]; rfl, HW.out.trans (hb.mono HW.out.size)⟩
      | some x =>
        obtain ⟨r, n⟩ := x
        have HV2 := (show Hid (vlF s g (p + n) = R) from (vlF_step hp hd).symm.trans HV.out)
        have hbd := dcd_bd hd
        have HF2 := (show Hid (s.size ≤ g + (p + n)) from (by have h := HF.out; show _ ≤ _; omega))
        rw [hd] at HD
        dsimp only [deV] at HD
        have hn1 : 1 ≤ n := hbd.2.1
        have hn2 : p + n ≤ s.size := hbd.2.2.2
        clear HV HF hd hbd
        go_wp2_with fail
        refine (HD.out _).mono ?_
        rintro e w2 ⟨rfl, hb⟩
        have HW2 := (show Hid (Below w.heap.size w w2) from HW.out.trans (hb.mono HW.out.size))
        clear HW hb
        go_wp2
        go_roundw
        case rel => exact ⟨g, p + n, by go_num, by omega, HF2, HV2, HW2⟩
        case measure => simp [intOf]; omega
    · have HE := (show Hid (R = true) from HV.out.symm.trans (vlF_end hp))
      obtain rfl : p = s.size := by omega
      clear HV HF
      go_wp2
      go_ret
      exact ⟨by rw [HE.out]; rfl, HW.out⟩
end Go.Proofs.YtiillgahnbimjaaDoor
