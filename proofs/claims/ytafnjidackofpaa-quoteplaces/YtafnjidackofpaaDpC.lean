/- DERIVED. Walks: At, by the document; the law QuotePlaces. -/
import Derived.Test.YtafnjidackofpaaDpB
import Derived.Test.YtafnjidackofpaaRdC
namespace Go.Proofs.Ytafnjidackofpaa
open Go.RowKit

def atN : Option Nat → Value
  | some x => .tuple #[.int .i64 (x : Int), .int .i64 0]
  | none => .tuple #[.int .i64 0, .int .i64 1]
theorem atV_N (o : Option Spot) : atV o = atN (o.map (·.1)) := by cases o <;> rfl
theorem atVV_ref (s : ByteArray) (ln co : Int) (h : ¬ 65536 < s.size) : atVV s ln co = atN (raP s co (begins s ln)) := by
  unfold atVV; rw [if_neg h, atV_N, atP_ref]

set_option maxRecDepth 100000 in
set_option maxHeartbeats 4000000 in
theorem atR_any (s : ByteArray) (ln co : Int) (w : World) :
    Calls Try.prog 19 #[.string s, .int .i64 ln, .int .i64 co] w fun e w' => e = .returned (atVV s ln co) ∧ w' = w := by
  by_cases h : 65536 < s.size
  · have HE := (show Hid (atVV s ln co = .tuple #[.int .i64 0, .int .i64 2]) from (by show _ = _; unfold atVV; rw [if_pos h]))
    have hI : (65536 : Int) < (s.size : Int) := by omega
    clear h
    go_enter Try.func19, Try.ntmps19
    go_wp2
    go_ret2
    exact ⟨by rw [HE.out]; rfl, rfl⟩
  · have HE := (show Hid _ from atVV_ref s ln co h)
    have hI : ¬ (65536 : Int) < (s.size : Int) := by omega
    have t1 : decide ((65536 : Int) < (s.size : Int)) = false := decide_eq_false hI
    have HB : Hid (∀ w, Calls Try.prog 35 #[.string s, .int .i64 ln] w fun e w' => e = .returned (bgV (begins s ln)) ∧ w' = w) := fun w => begins_any s ln (by omega) w
    cases hb : begins s ln with
    | none =>
      rw [hb] at HB HE
      dsimp only [bgV] at HB
      clear hb
      go_enter Try.func19, Try.ntmps19
      go_wp2_with fail
      refine (HB.out _).mono ?_
      rintro e w' ⟨rfl, rfl⟩
      go_wp2
      go_ret2
      exact ⟨by rw [HE.out]; rfl, rfl⟩
    | some p =>
      obtain ⟨f, t⟩ := p
      obtain ⟨hft, hts, hlE⟩ := begins_bd hb
      have HL := (show Hid _ from hlE)
      rw [hb] at HB HE
      dsimp only [bgV] at HB
      dsimp only [raP] at HE
      clear hb hlE
      by_cases hco : co < 1
      · have HX := (show Hid (raF s t co f 1 = none) from raF_low s t co _ f 1 (Nat.le_refl _) (by omega))
        go_enter Try.func19, Try.ntmps19
        go_wp2_with fail
        refine (HB.out _).mono ?_
        rintro e w' ⟨rfl, rfl⟩
        go_wp2
        go_ret2
        exact ⟨by rw [HE.out, HX.out]; rfl, rfl⟩
      · have t2 : decide (co < 1) = false := decide_eq_false hco
        generalize hC : raF s t co f 1 = C at HE
        have HC := (show Hid _ from hC)
        clear hC
        go_enter Try.func19, Try.ntmps19
        go_wp2_with fail
        refine (HB.out _).mono ?_
        rintro e w' ⟨rfl, rfl⟩
        go_wp2_with fail
        go_loop [11, 12] (fun u v => ∃ i n : Nat, (f ≤ i ∧ i ≤ t ∧ n ≤ i + 1) ∧ u = .int .i64 n ∧ v = .int .i64 i ∧ Hid (raF s t co i n = C)) (fun _ v => t - (intOf v).toNat)
        case atStart => exact ⟨f, 1, ⟨Nat.le_refl _, hft, by omega⟩, rfl, rfl, HC⟩
        case round =>
          obtain ⟨i, n, ⟨hfi, hit, hni⟩, rfl, rfl, hr⟩ := hrel
          clear HC
          by_cases hlt : i < t
          · have z2 : (i : Int) < (t : Int) := by omega
            by_cases hn : (n : Int) = co
            · have HX := (show Hid (C = some i) from (hr.out.symm.trans ((raF_go hlt).trans (if_pos hn))))
              have en : ((n : Int) == co) = true := beq_iff_eq.2 hn
              clear hr hn
              go_wp2
              go_ret2
              exact ⟨by rw [HE.out, HX.out]; rfl, rfl⟩
            · have hr' := (show Hid (raF s t co (i + chW s i) (n + 1) = C) from (((raF_go hlt).trans (if_neg hn)).symm.trans hr.out))
              have en : ((n : Int) == co) = false := beq_eq_false_iff_ne.2 hn
              have HW : Hid (∀ w, Calls Try.prog 36 #[.string (s.extract 0 t), .int .i64 i] w fun e w' => e = .returned (.int .i64 (chW s i : Int)) ∧ w' = w) := fun w => by
                have h := length_any (s.extract 0 t) i (by rw [ext_size _ _ _ hts]; omega) (by rw [ext_size _ _ _ hts]; omega) w
                have h2 := chW_ext (s := s) (p := f) (i := i) (by omega) hfi (by rw [HL.out]; exact hlt)
                rw [HL.out] at h2
                rw [h2] at h
                exact h
              have hst : i + chW s i ≤ t := by
                have h := lnE_mid (s := s) (p := f) (q := i) (by omega) hfi (by rw [HL.out]; omega)
                rw [HL.out] at h
                have h2 := (lnE_step (s := s) (p := i) (by omega) (by omega)).2.1
                omega
              have hbd := chW_bd s i
              have z0 : (0 : Int) ≤ (t : Int) := by omega
              have z1 : (t : Int) ≤ (s.size : Int) := by omega
              clear hr hn
              generalize chW s i = wd at *
              go_wp2_with fail
              refine (HW.out _).mono ?_
              rintro e w' ⟨rfl, rfl⟩
              go_wp2
              go_round
              case rel => exact ⟨i + wd, n + 1, by omega, by go_num, by go_num, hr'⟩
              case measure => simp [intOf]; omega
          · have z2 : ¬ (i : Int) < (t : Int) := by omega
            by_cases hn : (n : Int) = co
            · have HX := (show Hid (C = some t) from (hr.out.symm.trans ((raF_end hlt).trans (if_pos hn))))
              have en : ((n : Int) != co) = false := bne_eq_false_iff_eq.2 hn
              clear hr hn
              go_wp2
              go_ret2
              exact ⟨by rw [HE.out, HX.out]; rfl, rfl⟩
            · have HX := (show Hid (C = none) from (hr.out.symm.trans ((raF_end hlt).trans (if_neg hn))))
              have en : ((n : Int) != co) = true := bne_iff_ne.2 hn
              clear hr hn
              go_wp2
              go_ret2
              exact ⟨by rw [HE.out, HX.out]; rfl, rfl⟩
end Go.Proofs.Ytafnjidackofpaa
