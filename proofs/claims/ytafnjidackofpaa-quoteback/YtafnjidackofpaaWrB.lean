/- DERIVED. Walks: Quote, by the program. -/
import Derived.Test.YtafnjidackofpaaWrA
namespace Go.Proofs.Ytafnjidackofpaa
open Go.RowKit

theorem bld_below {w w' : World} {b : Nat} {bs : List Value} (h : Lib.IsBuilder 46 5 b b bs w) (hb : Below w.heap.size w w') : Lib.IsBuilder 46 5 b b bs w' := by
  have key : ∀ p, Lib.BuilderAt 46 5 b b p bs w → Lib.BuilderAt 46 5 b b p bs w' := fun p hp => by
    have hlt := hp.lt
    obtain ⟨hB, v, hbk, hown, hne⟩ := hp
    exact ⟨hB, v, (hb.block b hlt).trans hbk, own_below hown hb, hne⟩
  exact h.imp (key _) (key _)

theorem quV_long {s : ByteArray} (h : 65536 < s.size ∨ 65536 < (qT s).length) : quV s = .tuple #[.string ⟨#[]⟩, .int .i64 2] := by unfold quV; rw [if_pos h]
theorem quV_fits {s : ByteArray} (h : ¬ (65536 < s.size ∨ 65536 < (qT s).length)) : quV s = .tuple #[.string (asText (qT s)), .int .i64 0] := by unfold quV; rw [if_neg h]

set_option maxRecDepth 100000 in
set_option maxHeartbeats 4000000 in
theorem quote_any (s : ByteArray) (w : World) :
    Calls Try.prog 9 #[.string s] w fun e w' => e = .returned (quV s) ∧ Below w.heap.size w w' := by
  by_cases h : 65536 < s.size
  · have HE := (show Hid _ from quV_long (.inl h))
    have h1 : (65536 : Int) < (s.size : Int) := by omega
    go_enter Try.func9, Try.ntmps9
    go_wp2
    go_ret2
    exact ⟨by rw [HE.out]; rfl, Below.refl _ _⟩
  · have h1 : ¬ (65536 : Int) < (s.size : Int) := by omega
    have t1 : decide ((65536 : Int) < (s.size : Int)) = false := decide_eq_false (by omega)
    have HK := (show Hid _ from Lib.fresh_isBuilder 46 5 w)
    have HB := (show Hid _ from below1 w (.cells #[.pointer none, .slice none 0 0] 46))
    go_enter Try.func9, Try.ntmps9
    go_wp2_with fail
    refine (writeByte_any w.heap.size [] 39 _ HK.out (by simp)).mono ?_
    rintro e w1 ⟨rfl, hk1, hb1, _⟩
    have HK1 := (show Hid (Lib.IsBuilder 46 5 w.heap.size w.heap.size ((qTo s 0).map (Value.int .u8)) w1) from hk1)
    have HB1 := (show Hid _ from HB.out.trans (hb1.mono (Nat.le_refl _)))
    clear hk1 hb1 HK HB
    go_wp2_with fail
    go_loopw [5] (fun t wr => ∃ k : Nat, k ≤ s.size ∧ t = .int .i64 k ∧ Hid (Lib.IsBuilder 46 5 w.heap.size w.heap.size ((qTo s k).map (Value.int .u8)) wr ∧ Below w.heap.size w wr)) (fun t _ => s.size - (intOf t).toNat)
    case atStart => exact ⟨0, by omega, rfl, HK1.out, HB1.out⟩
    case round =>
      obtain ⟨k, hk, rfl, HI⟩ := hrel
      clear HK1 HB1
      have hql := qTo_len s k
      by_cases hlt : k < s.size
      · have HS := (show Hid _ from qTo_succ s k hlt)
        have hbb : s[k].toNat < 256 := s[k].toNat_lt
        have HW : Hid (∀ w, Calls Try.prog 26 #[.int .u8 (s[k].toNat : Int)] w fun e w' => e = .returned (.string (asText (shB (s[k].toNat : Int)))) ∧ Below w.heap.size w w') := fun w => showB_any _ hbb w
        have HT : Hid ((asText (shB (s[k].toNat : Int))).size ≤ 4) := (by show _ ≤ 4; rw [asText_size]; exact (shB_len _).2)
        have HC : Hid (Lib.strCells (asText (shB (s[k].toNat : Int))) = (shB (s[k].toNat : Int)).map (Value.int .u8)) := strCells_text (shB_by (by omega) (by omega))
        go_wp2_with fail
        refine (HW.out _).mono ?_
        rintro e w2 ⟨rfl, hb2⟩
        have HJ := (show Hid _ from (⟨bld_below HI.out.1 hb2, HI.out.2.trans (hb2.mono HI.out.2.size)⟩ : _ ∧ _))
        clear hb2 HI HW
        go_wp2_with fail
        refine (writeString_any w.heap.size _ _ _ HJ.out.1 (by have h := HT.out; rw [List.length_map]; omega)).mono ?_
        rintro e w3 ⟨rfl, hk3, hb3, _⟩
        have HI3 := (show Hid (Lib.IsBuilder 46 5 w.heap.size w.heap.size ((qTo s (k + 1)).map (Value.int .u8)) w3 ∧ Below w.heap.size w w3) from (by
          refine ⟨?_, HJ.out.2.trans (hb3.mono (Nat.le_refl _))⟩
          rw [HS.out, List.map_append, ← HC.out]
          exact hk3))
        clear hk3 hb3 HJ
        go_wp2
        go_roundw
        case rel => exact ⟨k + 1, by omega, by go_num, HI3⟩
        case measure => simp [intOf]; omega
      · have HA := (show Hid _ from qTo_all s k (by omega))
        go_wp2_with fail
        refine (writeByte_any w.heap.size _ 39 _ HI.out.1 (by rw [List.length_map]; omega)).mono ?_
        rintro e w3 ⟨rfl, hk3, hb3, _⟩
        have HI3 := (show Hid (Lib.IsBuilder 46 5 w.heap.size w.heap.size ((qT s).map (Value.int .u8)) w3 ∧ Below w.heap.size w w3) from (by
          refine ⟨?_, HI.out.2.trans (hb3.mono (Nat.le_refl _))⟩
          rw [← HA.out, List.map_append]
          exact hk3))
        clear hk3 hb3 HI HA
        go_wp2_with fail
        refine (Try.Builder_Len w.heap.size w.heap.size _ _ HI3.out.1).mono ?_
        rintro e w4 ⟨rfl, rfl⟩
        rw [List.length_map]
        by_cases hq : 65536 < (qT s).length
        · have HE := (show Hid _ from quV_long (.inr hq))
          have hqI : (65536 : Int) < ((qT s).length : Int) := by omega
          go_wp2
          go_ret2
          exact ⟨by rw [HE.out]; rfl, HI3.out.2⟩
        · have HE := (show Hid _ from quV_fits (s := s) (by omega))
          have hqI : ¬ (65536 : Int) < ((qT s).length : Int) := by omega
          have HX := (show Hid (Lib.IsBuilder 46 5 w.heap.size w.heap.size (Lib.byteCells ((qT s).map fun n => UInt8.ofNat n.toNat)) w4) from (by
            show Lib.IsBuilder _ _ _ _ _ _
            rw [by_cells (qT_by s)]
            exact HI3.out.1))
          clear hq
          generalize (qT s).length = L at *
          go_wp2_with fail
          refine (Try.Builder_String_any w.heap.size w.heap.size _ _ HX.out HI3.out.2.size).mono ?_
          rintro e w5 ⟨rfl, hb5⟩
          go_wp2
          go_ret2
          exact ⟨by rw [HE.out, asText_eq]; rfl, HI3.out.2.trans hb5⟩
end Go.Proofs.Ytafnjidackofpaa
