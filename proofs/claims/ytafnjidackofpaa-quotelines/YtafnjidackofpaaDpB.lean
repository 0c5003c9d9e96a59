/- DERIVED. Walks: begins, Place, At, by the document. -/
import Derived.Test.YtafnjidackofpaaDpA
import Derived.Test.YtafnjidackofpaaPlJ
import Derived.Test.YtafnjidackofpaaSpC
namespace Go.Proofs.Ytafnjidackofpaa
open Go.RowKit

/-- What begins answers. -/
def bgV : Option (Nat × Nat) → Value
  | some (f, t) => .tuple #[.int .i64 (f : Int), .int .i64 (t : Int), .bool true]
  | none => .tuple #[.int .i64 0, .int .i64 0, .bool false]

set_option maxRecDepth 100000 in
set_option maxHeartbeats 2000000 in
theorem begins_any (s : ByteArray) (ln : Int) (hs : s.size ≤ 65536) (w : World) :
    Calls Try.prog 35 #[.string s, .int .i64 ln] w fun e w' => e = .returned (bgV (begins s ln)) ∧ w' = w := by
  generalize hR : begins s ln = R
  have HR := (show Hid (bgF s ln 0 0 1 = R) from hR)
  clear hR
  go_enter Try.func35, Try.ntmps35
  go_wp2_with fail
  go_loop [7, 8, 9] (fun u v t => ∃ i fr n : Nat, (i ≤ s.size + 1 ∧ fr ≤ s.size + 1 ∧ n ≤ s.size + 2 + i) ∧ u = .int .i64 fr ∧ v = .int .i64 n ∧ t = .int .i64 i ∧ Hid (bgF s ln i fr n = R)) (fun _ _ t => s.size + 1 - (intOf t).toNat)
  case atStart => exact ⟨0, 0, 1, by omega, rfl, rfl, rfl, HR⟩
  case round =>
    obtain ⟨i, fr, n, ⟨hi, hf, hn⟩, rfl, rfl, rfl, hr⟩ := hrel
    clear HR
    by_cases h : i < s.size
    · have h1 : (i : Int) ≤ (s.size : Int) := by omega
      have h2 : (i : Int) < (s.size : Int) := by omega
      by_cases hc : chr s i = 10
      · have hc' : ((s[i].toNat : Int) != 10) = false := bne_eq_false_iff_eq.2 (by rw [← chr_in h]; exact hc)
        by_cases hl : (n : Int) = ln
        · have HE := (show Hid (R = some (fr, i)) from (hr.out.symm.trans (bgF_at (by omega) (fun q => q.2 hc) hl)))
          have el : ((n : Int) == ln) = true := beq_iff_eq.2 hl
          clear hr hc hl
          go_wp2
          go_ret3
          exact ⟨by rw [HE.out]; rfl, rfl⟩
        · have hr' := (show Hid (bgF s ln (i + 1) (i + 1) (n + 1) = R) from ((bgF_past (by omega) (fun q => q.2 hc) hl).symm.trans hr.out))
          have el : ((n : Int) == ln) = false := beq_eq_false_iff_ne.2 hl
          clear hr hc hl
          go_wp2
          go_round
          case rel => exact ⟨i + 1, i + 1, n + 1, by omega, by go_num, by go_num, by go_num, hr'⟩
          case measure => simp [intOf]; omega
      · have hr' := (show Hid (bgF s ln (i + 1) fr n = R) from ((bgF_go h hc).symm.trans hr.out))
        have hc' : ((s[i].toNat : Int) != 10) = true := bne_iff_ne.2 (by rw [← chr_in h]; exact hc)
        clear hr hc
        go_wp2
        go_round
        case rel => exact ⟨i + 1, fr, n, by omega, rfl, rfl, by go_num, hr'⟩
        case measure => simp [intOf]; omega
    · by_cases he : i = s.size
      · have h1 : (i : Int) ≤ (s.size : Int) := by omega
        have h2 : ¬ (i : Int) < (s.size : Int) := by omega
        by_cases hl : (n : Int) = ln
        · have HE := (show Hid (R = some (fr, i)) from (hr.out.symm.trans (bgF_at (by omega) (fun q => h q.1) hl)))
          have el : ((n : Int) == ln) = true := beq_iff_eq.2 hl
          clear hr hl he
          go_wp2
          go_ret3
          exact ⟨by rw [HE.out]; rfl, rfl⟩
        · have hr' := (show Hid (bgF s ln (i + 1) (i + 1) (n + 1) = R) from ((bgF_past (by omega) (fun q => h q.1) hl).symm.trans hr.out))
          have el : ((n : Int) == ln) = false := beq_eq_false_iff_ne.2 hl
          have hi' : i + 1 ≤ s.size + 1 := by omega
          clear hr hl he
          go_wp2
          go_round
          case rel => exact ⟨i + 1, i + 1, n + 1, by omega, by go_num, by go_num, by go_num, hr'⟩
          case measure => simp [intOf]; omega
      · have h1 : ¬ (i : Int) ≤ (s.size : Int) := by omega
        have HE := (show Hid (R = none) from (hr.out.symm.trans (bgF_out (by omega))))
        clear hr
        go_wp2
        go_ret3
        exact ⟨by rw [HE.out]; rfl, rfl⟩

set_option maxRecDepth 100000 in
set_option maxHeartbeats 2000000 in
theorem placeR_bad (s : ByteArray) (i : Int) (h : cpE s i ≠ 0) (w : World) :
    Calls Try.prog 17 #[.string s, .int .i64 i] w fun e w' => e = .returned (placeV s i) ∧ w' = w := by
  by_cases h1 : 65536 < s.size
  · have hv : cpE s i = 2 := by unfold cpE; rw [if_pos h1]
    have HE := (show Hid (placeV s i = .tuple #[.int .i64 0, .int .i64 0, .int .i64 2]) from (by show _ = _; unfold placeV; rw [if_neg h, hv]))
    have hI : (65536 : Int) < (s.size : Int) := by omega
    clear h hv
    go_enter Try.func17, Try.ntmps17
    go_wp2
    go_ret3
    exact ⟨by rw [HE.out]; rfl, rfl⟩
  · have hI : ¬ (65536 : Int) < (s.size : Int) := by omega
    have hc : i < 0 ∨ (s.size : Int) < i := by
      by_cases q : i < 0 ∨ (s.size : Int) < i
      · exact q
      · exact absurd (by unfold cpE; rw [if_neg h1, if_neg q]) h
    have hv : cpE s i = 1 := by unfold cpE; rw [if_neg h1, if_pos hc]
    have HE := (show Hid (placeV s i = .tuple #[.int .i64 0, .int .i64 0, .int .i64 1]) from (by show _ = _; unfold placeV; rw [if_neg h, hv]))
    have hg : i < 0 ∨ (¬ i < 0 ∧ (s.size : Int) < i) := by omega
    clear h hv hc
    rcases hg with hg | ⟨hg, hg2⟩
    all_goals
      go_enter Try.func17, Try.ntmps17
      go_wp2
      go_ret3
      exact ⟨by rw [HE.out]; rfl, rfl⟩

set_option maxRecDepth 100000 in
set_option maxHeartbeats 4000000 in
theorem placeR_ok (s : ByteArray) (m : Nat) (hs : s.size ≤ 65536) (hm : m ≤ s.size) (w : World) :
    Calls Try.prog 17 #[.string s, .int .i64 m] w fun e w' => e = .returned (plV (plP s m)) ∧ w' = w := by
  obtain ⟨f, t, q, hb, hf, ht, hlt, hpl⟩ := plP_ref s m hm
  have HB : Hid (∀ w, Calls Try.prog 35 #[.string s, .int .i64 ((1 + cnt10 s m : Nat) : Int)] w fun e w' => e = .returned (.tuple #[.int .i64 (f : Int), .int .i64 (t : Int), .bool true]) ∧ w' = w) := fun w => by
    have h := begins_any s ((1 + cnt10 s m : Nat) : Int) hs w
    rw [hb] at h
    exact h
  have HP := (show Hid _ from hpl)
  have HL := (show Hid _ from hlt)
  clear hb hpl hlt
  have t1 : decide ((65536 : Int) < (s.size : Int)) = false := decide_eq_false (by omega)
  have t2 : decide ((m : Int) < 0) = false := decide_eq_false (by omega)
  have t3 : decide (s.size < m) = false := decide_eq_false (by omega)
  have t4 : decide ((s.size : Int) < (m : Int)) = false := decide_eq_false (by omega)
  go_enter Try.func17, Try.ntmps17
  go_wp2_with fail
  go_loop [7, 8] (fun u v => ∃ k : Nat, k ≤ m ∧ u = .int .i64 ((1 + cnt10 s k : Nat) : Int) ∧ v = .int .i64 k) (fun _ v => m - (intOf v).toNat)
  case atStart => exact ⟨0, by omega, rfl, rfl⟩
  case round =>
    obtain ⟨k, hk, rfl, rfl⟩ := hrel
    have hcl := cnt10_le s k
    by_cases hkm : k < m
    · have hks : k < s.size := by omega
      have HC := (show Hid (cnt10 s (k + 1) = if chr s k = 10 then cnt10 s k + 1 else cnt10 s k) from rfl)
      by_cases h10 : chr s k = 10
      · have HD := (show Hid (cnt10 s (k + 1) = cnt10 s k + 1) from (HC.out.trans (if_pos h10)))
        have e10 : ((s[k].toNat : Int) == 10) = true := beq_iff_eq.2 (by rw [← chr_in hks]; exact h10)
        clear HC h10
        go_wp2
        go_round
        case rel => exact ⟨k + 1, by omega, by rw [HD.out]; go_num, by go_num⟩
        case measure => simp [intOf]; omega
      · have HD := (show Hid (cnt10 s (k + 1) = cnt10 s k) from (HC.out.trans (if_neg h10)))
        have e10 : ((s[k].toNat : Int) == 10) = false := beq_eq_false_iff_ne.2 (by rw [← chr_in hks]; exact h10)
        clear HC h10
        go_wp2
        go_round
        case rel => exact ⟨k + 1, by omega, by rw [HD.out], by go_num⟩
        case measure => simp [intOf]; omega
    · obtain rfl : k = m := by omega
      go_wp2_with fail
      refine (HB.out _).mono ?_
      rintro e w' ⟨rfl, rfl⟩
      generalize hC : rcF s t k f 1 = C at HP
      have HC := (show Hid _ from hC)
      generalize cnt10 s k = L at *
      clear hC HB
      go_wp2_with fail
      go_loop [12, 13] (fun u v => ∃ i c : Nat, (f ≤ i ∧ i ≤ t ∧ c ≤ i + 1) ∧ u = .int .i64 c ∧ v = .int .i64 i ∧ Hid (rcF s t k i c = C)) (fun _ v => t - (intOf v).toNat)
      case atStart => exact ⟨f, 1, ⟨Nat.le_refl _, by have h := HL.out; have := lnE_ge (s := s) (p := f) (by omega); omega, by omega⟩, rfl, rfl, HC⟩
      case round =>
        obtain ⟨i, c, ⟨hfi, hit, hci⟩, rfl, rfl, hr⟩ := hrel
        clear HC
        by_cases hlt : i < t
        · have HW : Hid (∀ w, Calls Try.prog 36 #[.string (s.extract 0 t), .int .i64 i] w fun e w' => e = .returned (.int .i64 (chW s i : Int)) ∧ w' = w) := fun w => by
            have h := length_any (s.extract 0 t) i (by rw [ext_size _ _ _ ht]; omega) (by rw [ext_size _ _ _ ht]; omega) w
            have h2 := chW_ext (s := s) (p := f) (i := i) (by omega) hfi (by rw [HL.out]; exact hlt)
            rw [HL.out] at h2
            rw [h2] at h
            exact h
          have hst : i + chW s i ≤ t := by
            have h := lnE_mid (s := s) (p := f) (q := i) (by omega) hfi (by rw [HL.out]; omega)
            rw [HL.out] at h
            have h2 := (lnE_step (s := s) (p := i) (by omega) (by omega)).2.1
            omega
          have hbd := chW_bd s i
          have HN := (show Hid _ from (rcF_go (m := k) (col := c) hlt).symm.trans hr.out)
          have z0 : (0 : Int) ≤ (t : Int) := by omega
          have z1 : (t : Int) ≤ (s.size : Int) := by omega
          have z2 : (i : Int) < (t : Int) := by omega
          clear hr
          by_cases hle : i + chW s i ≤ k
          · rw [if_pos hle] at HN
            have hleI : (i : Int) + (chW s i : Int) ≤ (k : Int) := by omega
            generalize chW s i = wd at *
            go_wp2_with fail
            refine (HW.out _).mono ?_
            rintro e w' ⟨rfl, rfl⟩
            go_wp2
            go_round
            case rel => exact ⟨i + wd, c + 1, by omega, by go_num, by go_num, HN⟩
            case measure => simp [intOf]; omega
          · rw [if_neg hle] at HN
            have hleI : ¬ (i : Int) + (chW s i : Int) ≤ (k : Int) := by omega
            generalize chW s i = wd at *
            go_wp2_with fail
            refine (HW.out _).mono ?_
            rintro e w' ⟨rfl, rfl⟩
            go_wp2
            go_round
            case rel => exact ⟨i + wd, c, by omega, rfl, by go_num, HN⟩
            case measure => simp [intOf]; omega
        · have HX := (show Hid (c = C) from ((rcF_end hlt).symm.trans hr.out))
          have z2 : ¬ (i : Int) < (t : Int) := by omega
          clear hr
          go_wp2
          go_ret3
          exact ⟨by rw [HP.out, ← HX.out]; rfl, rfl⟩

theorem placeR_any (s : ByteArray) (i : Int) (w : World) :
    Calls Try.prog 17 #[.string s, .int .i64 i] w fun e w' => e = .returned (placeV s i) ∧ w' = w := by
  by_cases h : cpE s i = 0
  · have hc : ¬ 65536 < s.size ∧ ¬ (i < 0 ∨ (s.size : Int) < i) := by
      unfold cpE at h; split at h
      · omega
      · split at h
        · omega
        · next a b => exact ⟨a, b⟩
    obtain ⟨n, rfl⟩ := Int.eq_ofNat_of_zero_le (show 0 ≤ i by omega)
    unfold placeV
    rw [if_pos h, Int.toNat_natCast]
    exact placeR_ok s n (by omega) (by omega) w
  · exact placeR_bad s i h w
end Go.Proofs.Ytafnjidackofpaa
