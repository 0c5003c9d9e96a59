/- DERIVED. Walks, laid together: TxB, TxC. -/
import Derived.Test.YtlcmlipldkpliaaTmItem
import Derived.Test.YtlcmlipldkpliaaItem
import Derived.Test.YtlcmlipldkpliaaShow
import Derived.Test.YtlcmlipldkpliaaSpanR
import Derived.Test.YtlcmlipldkpliaaSmallB
import Derived.Test.YtlcmlipldkpliaaSingle
namespace Go.Proofs.Ytlcmlipldkpliaa
open Go.RowKit

theorem ext_dig : ∀ m : Fin 16, digs.extract m.val (m.val + 1) = ⟨#[hexD m.val]⟩ := by decide

set_option maxRecDepth 100000 in
set_option maxHeartbeats 2000000 in
theorem hexR_any (b : Nat) (hb : b < 256) (w : World) :
    Calls Try.prog 84 #[.int .i64 b] w fun e w' => e = .returned (.string ⟨#[hexD (b / 16), hexD (b % 16)]⟩) ∧ Below w.heap.size w w' := by
  have t1 : IntKind.i64.wrap ((b : Int) / 16) = ((b / 16 : Nat) : Int) := by rw [IntKind.wrap_i64]; omega
  have t2 : IntKind.i64.wrap ((b : Int) % 16) = ((b % 16 : Nat) : Int) := by rw [IntKind.wrap_i64]; omega
  have t3 : (b : Int) / 16 = ((b / 16 : Nat) : Int) := by omega
  have t4 : (b : Int) % 16 = ((b % 16 : Nat) : Int) := by omega
  have k0 : (0 : Int) ≤ ((b / 16 : Nat) : Int) := by omega
  have k1 : ((b / 16 : Nat) : Int) < 16 := by omega
  have k2 : (0 : Int) ≤ ((b % 16 : Nat) : Int) := by omega
  have k3 : ((b % 16 : Nat) : Int) < 16 := by omega
  have q1 : b / 16 < 16 := by omega
  have q2 : b % 16 < 16 := by omega
  have HM := (show Hid _ from ext_dig ⟨b / 16, q1⟩)
  have HN := (show Hid _ from ext_dig ⟨b % 16, q2⟩)
  generalize b / 16 = m at *
  generalize b % 16 = n at *
  have v1 : IntKind.i64.wrap ((m : Int) + 1) = (m : Int) + 1 := by rw [IntKind.wrap_i64]; omega
  have v2 : IntKind.i64.wrap ((n : Int) + 1) = (n : Int) + 1 := by rw [IntKind.wrap_i64]; omega
  have y1 : ((m : Int) + 1).toNat = m + 1 := by omega
  have y2 : ((n : Int) + 1).toNat = n + 1 := by omega
  have l1 : (m : Int) ≤ (m : Int) + 1 := by omega
  have l2 : (n : Int) ≤ (n : Int) + 1 := by omega
  have l3 : (m : Int) + 1 ≤ 16 := by omega
  have l4 : (n : Int) + 1 ≤ 16 := by omega
  have l5 : (0 : Int) ≤ (m : Int) + 1 := by omega
  have l6 : (0 : Int) ≤ (n : Int) + 1 := by omega
  go_enter Try.func84, Try.ntmps84
  go_wp2_with fail
  go_region
  all_goals
    go_wp2
    go_ret
    exact ⟨ret_str (by show digs.extract m (m + 1) ++ digs.extract n (n + 1) = _; rw [HM.out, HN.out]; exact cat11 _ _), (Below.refl _ _).drew⟩

set_option maxRecDepth 100000 in
set_option maxHeartbeats 1000000 in
theorem itemR_sign (b : Nat) (hb : b < 256) (w : World) (h1 : ((b : Int) == 10) = false) (h2 : ((b : Int) == 13) = false) (h3 : ((b : Int) == 9) = false) (h4 : signB (b : Int) = true) :
    Calls Try.prog 74 #[.int .i64 b] w fun e w' => e = .returned (.string ⟨#[92, UInt8.ofNat b]⟩) ∧ Below w.heap.size w w' := by
  have hw8 : IntKind.u8.wrap (b : Int) = (b : Int) := by rw [IntKind.wrap_u8']; omega
  have hcv := conv1 b w
  rw [Int.toNat_natCast] at hcv
  go_enter Try.func74, Try.ntmps74
  go_wp2_with fail
  refine (special_any _ _).mono ?_
  rintro e w' ⟨rfl, rfl⟩
  go_wp2
  go_ret
  exact ⟨ret_str (cat11 _ _), below1 _ _⟩

set_option maxRecDepth 100000 in
set_option maxHeartbeats 1000000 in
theorem itemR_prn (b : Nat) (hb : b < 256) (w : World) (h1 : ((b : Int) == 10) = false) (h2 : ((b : Int) == 13) = false) (h3 : ((b : Int) == 9) = false) (h4 : signB (b : Int) = false) (h5 : prnB (b : Int) = true) :
    Calls Try.prog 74 #[.int .i64 b] w fun e w' => e = .returned (.string ⟨#[UInt8.ofNat b]⟩) ∧ Below w.heap.size w w' := by
  have hw8 : IntKind.u8.wrap (b : Int) = (b : Int) := by rw [IntKind.wrap_u8']; omega
  have hp : 32 ≤ (b : Int) ∧ (b : Int) ≤ 126 := by simpa [prnB] using h5
  obtain ⟨p1, p2⟩ := hp
  have hcv := conv1 b w
  rw [Int.toNat_natCast] at hcv
  go_enter Try.func74, Try.ntmps74
  go_wp2_with fail
  refine (special_any _ _).mono ?_
  rintro e w' ⟨rfl, rfl⟩
  go_wp2
  go_ret
  exact ⟨rfl, below1 _ _⟩

set_option maxRecDepth 100000 in
set_option maxHeartbeats 1000000 in
theorem itemR_hex (b : Nat) (hb : b < 256) (w : World) (h1 : ((b : Int) == 10) = false) (h2 : ((b : Int) == 13) = false) (h3 : ((b : Int) == 9) = false) (h4 : signB (b : Int) = false) (h5 : prnB (b : Int) = false) :
    Calls Try.prog 74 #[.int .i64 b] w fun e w' => e = .returned (.string ⟨#[92, 120, hexD (b / 16), hexD (b % 16)]⟩) ∧ Below w.heap.size w w' := by
  have hp : ¬ (32 ≤ (b : Int) ∧ (b : Int) ≤ 126) := by intro h; have : prnB (b : Int) = true := by simpa [prnB] using h
                                                       rw [this] at h5; cases h5
  have HX : Hid (∀ w, Calls Try.prog 84 #[.int .i64 b] w fun e w' => e = .returned (.string ⟨#[hexD (b / 16), hexD (b % 16)]⟩) ∧ Below w.heap.size w w') := fun w => hexR_any b hb w
  by_cases p1 : 32 ≤ (b : Int)
  · have p2 : ¬ (b : Int) ≤ 126 := fun h => hp ⟨p1, h⟩
    clear hp h5
    go_enter Try.func74, Try.ntmps74
    go_wp2_with fail
    refine (special_any _ _).mono ?_
    rintro e w' ⟨rfl, rfl⟩
    go_wp2_with fail
    refine (HX.out _).mono ?_
    rintro e w1 ⟨rfl, hb1⟩
    have HB := (show Hid _ from hb1)
    clear hb1
    go_wp2
    go_ret
    exact ⟨ret_str (cat22 _ _ _ _), HB.out⟩
  · clear hp h5
    go_enter Try.func74, Try.ntmps74
    go_wp2_with fail
    refine (special_any _ _).mono ?_
    rintro e w' ⟨rfl, rfl⟩
    go_wp2_with fail
    refine (HX.out _).mono ?_
    rintro e w1 ⟨rfl, hb1⟩
    have HB := (show Hid _ from hb1)
    clear hb1
    go_wp2
    go_ret
    exact ⟨ret_str (cat22 _ _ _ _), HB.out⟩

theorem itmR_any (b : Nat) (hb : b < 256) (w : World) :
    Calls Try.prog 74 #[.int .i64 b] w fun e w' => e = .returned (.string ⟨(itm b).toArray⟩) ∧ Below w.heap.size w w' := by
  unfold itm
  by_cases h1 : b = 10
  · subst h1; rw [if_pos rfl]
    go_enter Try.func74, Try.ntmps74
    go_wp2
    go_ret
    exact ⟨rfl, Below.refl _ _⟩
  rw [if_neg h1]
  by_cases h2 : b = 13
  · subst h2; rw [if_pos rfl]
    go_enter Try.func74, Try.ntmps74
    go_wp2
    go_ret
    exact ⟨rfl, Below.refl _ _⟩
  rw [if_neg h2]
  by_cases h3 : b = 9
  · subst h3; rw [if_pos rfl]
    go_enter Try.func74, Try.ntmps74
    go_wp2
    go_ret
    exact ⟨rfl, Below.refl _ _⟩
  rw [if_neg h3]
  have e1 : ((b : Int) == 10) = false := beq_eq_false_iff_ne.2 (by omega)
  have e2 : ((b : Int) == 13) = false := beq_eq_false_iff_ne.2 (by omega)
  have e3 : ((b : Int) == 9) = false := beq_eq_false_iff_ne.2 (by omega)
  cases h4 : signB (b : Int)
  · rw [if_neg (by simp)]
    cases h5 : prnB (b : Int)
    · rw [if_neg (by simp)]; exact itemR_hex b hb w e1 e2 e3 h4 h5
    · rw [if_pos rfl]; exact itemR_prn b hb w e1 e2 e3 h4 h5
  · rw [if_pos rfl]; exact itemR_sign b hb w e1 e2 e3 h4
end Go.Proofs.Ytlcmlipldkpliaa

namespace Go.Proofs.Ytlcmlipldkpliaa
open Go.RowKit

theorem drewN_own {w : World} {b e sz n : Nat} {v : Value} {xs : List Value} (k : Nat) (h : w.ownsRow b e sz v n xs) : (w.drewN k).ownsRow b e sz v n xs := h
theorem str_eq {a b : ByteArray} (h : a = b) : Value.string a = .string b := by rw [h]

set_option maxRecDepth 100000 in
set_option maxHeartbeats 4000000 in
theorem showR_any (x : BitVec 256) (w : World) :
    Calls Try.prog 51 #[sv x] w fun e w' => e = .returned (.string ⟨(shT x).toArray⟩) ∧ Below w.heap.size w w' := by
  have HX := (show Hid _ from Holds.new w x)
  have HB := (show Hid _ from below1 w (c4 x))
  have HC := (show Hid (∀ w, Calls Try.prog 31 #[sv x] w fun e w' => e = .returned (.int .i64 (cnt x)) ∧ Below w.heap.size w w') from countR_any x)
  cases hf : fulB x
  · have HE : Hid (shT x = 91 :: mems (spL (bys x)) ++ [93]) := (by show shT x = _; unfold shT; rw [hf]; rfl)
    have hcf : ((cnt x : Int) == 256) = false := by rw [← cnt_full]; exact hf
    clear hf
    go_enter Try.func51, Try.ntmps51
    go_wp2_with fail
    refine (HC.out _).mono ?_
    rintro e w1 ⟨rfl, hb⟩
    have HX1 := (show Hid _ from HX.out.below hb (by simp))
    have HB1 := (show Hid _ from HB.out.trans (hb.mono (by simp)))
    clear hb HX HB HC
    obtain ⟨_, x0, x1, x2, x3, _, _, _, _⟩ := HX1.out
    go_wp2_with fail
    refine (spansR_any x _).mono ?_
    rintro e w3 ⟨v, rfl, hro, hnil, hb3⟩
    have HB3 := (show Hid _ from HB1.out.trans (hb3.mono HB1.out.size))
    have hs3 := hb3.size
    have HR := (show Hid _ from hro)
    have hsl : ∃ g cap, v = .slice g (spL (bys x)).length cap := by
      rcases hro.2 with ⟨hv, h0⟩ | ⟨g, cap, cur, hv, _⟩
      · exact ⟨_, _, by rw [h0]; exact hv⟩
      · exact ⟨_, _, hv⟩
    obtain ⟨g, cap, rfl⟩ := hsl
    have HZ : Hid ((spL (bys x)).length ≤ 256) := (show (spL (bys x)).length ≤ 256 from spL_len256 x)
    have HOK : Hid (∀ p ∈ spL (bys x), 0 ≤ p.1 ∧ p.1 ≤ p.2 ∧ p.2 < 256) := (fun p hp => spL_byte x p hp)
    clear hro hnil hb3 HX1 x0 x1 x2 x3 HB1 hcf
    generalize spL (bys x) = SL at *
    go_wp2
    go_loopw [4, 5] (fun o t wr => ∃ k : Nat, ∃ A : ByteArray, k ≤ SL.length ∧ o = .string A ∧ t = .int .i64 k ∧ A.size ≤ 1 + 9 * k ∧ Hid (A = ⟨(91 :: mems (SL.take k)).toArray⟩) ∧ Hid (wr.ownsRow (w1.heap.size + 1) 52 2 (.slice g SL.length cap) SL.length (spc SL) ∧ Below w.heap.size w wr)) (fun _ t _ => SL.length - (intOf t).toNat)
    case atStart => exact ⟨0, _, by omega, rfl, rfl, by decide, rfl, HR.out, HB3.out⟩
    case round =>
      obtain ⟨k, A, hk, rfl, rfl, hA, HAE, HI⟩ := hrel
      have hz := HZ.out
      by_cases hlt : k < SL.length
      · have hk0 : (0 : Int) ≤ (k : Int) := by omega
        have hk1 : (k : Int) < (SL.length : Int) := by omega
        obtain ⟨lo, hi, hle, hh, e1, e2, hmem⟩ := step_at SL k hlt HOK.out
        obtain ⟨g', rfl, c0, c1⟩ := read_at HI.out.1 hlt
        rw [e1] at c0
        rw [e2] at c1
        have hkl : k * 2 + 1 < 2 * SL.length := by omega
        have hLs := itB_size lo
        have hMs := itB_size hi
        have HL : Hid (∀ w, Calls Try.prog 74 #[.int .i64 lo] w fun e w' => e = .returned (.string (itB lo)) ∧ Below w.heap.size w w') := fun w => itmR_any lo (by omega) w
        have HM : Hid (∀ w, Calls Try.prog 74 #[.int .i64 hi] w fun e w' => e = .returned (.string (itB hi)) ∧ Below w.heap.size w w') := fun w => itmR_any hi (by omega) w
        have HLE : Hid (itB lo = ⟨(itm lo).toArray⟩) := rfl
        have HME : Hid (itB hi = ⟨(itm hi).toArray⟩) := rfl
        generalize itB lo = L at *
        generalize itB hi = M at *
        have hw1 : IntKind.i64.wrap ((lo : Int) + 1) = (lo : Int) + 1 := by rw [IntKind.wrap_i64]; omega
        by_cases d0 : hi - lo = 0
        · have hsp : spT lo hi = itm lo := by unfold spT; rw [if_pos d0]
          have n1 : ¬ (lo : Int) + 1 < (hi : Int) := by omega
          have n2 : ¬ (lo : Int) < (hi : Int) := by omega
          go_wp2_with fail
          refine (HL.out _).mono ?_
          rintro e w4 ⟨rfl, hb4⟩
          have HJ := (show Hid _ from (⟨own_below' HI.out.1 hb4, HI.out.2.trans (hb4.mono HI.out.2.size)⟩ : _ ∧ _))
          obtain ⟨_, hg2, c0, c1⟩ := read_at HJ.out.1 hlt
          cases hg2
          rw [e1] at c0
          rw [e2] at c1
          clear hb4 HI
          go_wp2_with fail
          go_quiet (fail)
          go_wp2_with fail
          go_quiet (fail)
          replace HJ := (show Hid (∀ n, (w4.drewN n).ownsRow (w1.heap.size + 1) 52 2 (.slice (some ⟨g', 0, none⟩) SL.length cap) SL.length (spc SL) ∧ Below w.heap.size w (w4.drewN n)) from fun n => ⟨drewN_own n HJ.out.1, Go.below_drewN HJ.out.2 n⟩)
          go_wp2_with fail
          go_roundw
          case rel => exact ⟨k + 1, _, by omega, rfl, by go_num, by simp only [ByteArray.size_append]; omega, (show _ = _ by rw [hmem, hsp, HAE.out, HLE.out, catL]; rfl), HJ.out _⟩
          case measure => simp [intOf]; omega
        · by_cases d1 : hi - lo = 1
          · have hsp : spT lo hi = itm lo ++ itm hi := by unfold spT; rw [if_neg d0, if_pos d1]
            have n1 : ¬ (lo : Int) + 1 < (hi : Int) := by omega
            have n2 : (lo : Int) < (hi : Int) := by omega
            go_wp2_with fail
            refine (HL.out _).mono ?_
            rintro e w4 ⟨rfl, hb4⟩
            have HJ := (show Hid _ from (⟨own_below' HI.out.1 hb4, HI.out.2.trans (hb4.mono HI.out.2.size)⟩ : _ ∧ _))
            obtain ⟨_, hg2, c0, c1⟩ := read_at HJ.out.1 hlt
            cases hg2
            rw [e1] at c0
            rw [e2] at c1
            clear hb4 HI
            go_wp2_with fail
            go_quiet (fail)
            go_wp2_with fail
            go_quiet (fail)
            replace HJ := (show Hid (∀ n, (w4.drewN n).ownsRow (w1.heap.size + 1) 52 2 (.slice (some ⟨g', 0, none⟩) SL.length cap) SL.length (spc SL) ∧ Below w.heap.size w (w4.drewN n)) from fun n => ⟨drewN_own n HJ.out.1, Go.below_drewN HJ.out.2 n⟩)
            go_wp2_with fail
            refine (HM.out _).mono ?_
            rintro e w5 ⟨rfl, hb5⟩
            have HK := (show Hid _ from (⟨own_below' (HJ.out _).1 hb5, (HJ.out _).2.trans (hb5.mono (HJ.out _).2.size)⟩ : _ ∧ _))
            clear hb5 HJ c0 c1
            go_wp2_with fail
            go_roundw
            case rel => exact ⟨k + 1, _, by omega, rfl, by go_num, by simp only [ByteArray.size_append]; omega, (show _ = _ by rw [hmem, hsp, HAE.out, HLE.out, HME.out, catL, catL]; simp), HK⟩
            case measure => simp [intOf]; omega
          · have hsp : spT lo hi = itm lo ++ [45] ++ itm hi := by unfold spT; rw [if_neg d0, if_neg d1]
            have n1 : (lo : Int) + 1 < (hi : Int) := by omega
            have n2 : (lo : Int) < (hi : Int) := by omega
            go_wp2_with fail
            refine (HL.out _).mono ?_
            rintro e w4 ⟨rfl, hb4⟩
            have HJ := (show Hid _ from (⟨own_below' HI.out.1 hb4, HI.out.2.trans (hb4.mono HI.out.2.size)⟩ : _ ∧ _))
            obtain ⟨_, hg2, c0, c1⟩ := read_at HJ.out.1 hlt
            cases hg2
            rw [e1] at c0
            rw [e2] at c1
            clear hb4 HI
            go_wp2_with fail
            go_quiet (fail)
            go_wp2_with fail
            go_quiet (fail)
            replace HJ := (show Hid (∀ n, (w4.drewN n).ownsRow (w1.heap.size + 1) 52 2 (.slice (some ⟨g', 0, none⟩) SL.length cap) SL.length (spc SL) ∧ Below w.heap.size w (w4.drewN n)) from fun n => ⟨drewN_own n HJ.out.1, Go.below_drewN HJ.out.2 n⟩)
            go_wp2_with fail
            refine (HM.out _).mono ?_
            rintro e w5 ⟨rfl, hb5⟩
            have HK := (show Hid _ from (⟨own_below' (HJ.out _).1 hb5, (HJ.out _).2.trans (hb5.mono (HJ.out _).2.size)⟩ : _ ∧ _))
            clear hb5 HJ c0 c1
            go_wp2_with fail
            go_roundw
            case rel => exact ⟨k + 1, _, by omega, rfl, by go_num, by simp only [ByteArray.size_append]; have h45 : (⟨#[45]⟩ : ByteArray).size = 1 := rfl; omega, (show _ = _ by rw [hmem, hsp, HAE.out, HLE.out, HME.out, catL, show (⟨#[45]⟩ : ByteArray) = ⟨[45].toArray⟩ from rfl, catL, catL]; simp), HK⟩
            case measure => simp [intOf]; omega
      · obtain rfl : k = SL.length := by omega
        rw [List.take_length] at HAE
        go_wp2
        go_ret
        exact ⟨ret_str (by rw [HE.out, HAE.out]; rw [show (⟨#[93]⟩ : ByteArray) = ⟨[93].toArray⟩ from rfl, catL]), HI.out.2⟩
  · have HE : Hid (shT x = [91, 94, 93]) := (by show shT x = _; unfold shT; rw [hf]; rfl)
    have hcf : ((cnt x : Int) == 256) = true := by rw [← cnt_full]; exact hf
    clear hf
    go_enter Try.func51, Try.ntmps51
    go_wp2_with fail
    refine (HC.out _).mono ?_
    rintro e w1 ⟨rfl, hb⟩
    have HB1 := (show Hid _ from HB.out.trans (hb.mono (by simp)))
    clear hb
    go_wp2
    go_ret
    exact ⟨by rw [HE.out]; rfl, HB1.out⟩
end Go.Proofs.Ytlcmlipldkpliaa
