/- DERIVED. Walks: Decode, by the document. -/
import Derived.Test.YtiillgahnbimjaaDoorRcB
import Derived.Deep.RegionHeld3
import Derived.WalkSmall
namespace Go.Proofs.YtiillgahnbimjaaDoor
open Go.RowKit

/-- The heads' box. -/
structure AtH (w wr : World) : Prop where
  lt : w.heap.size < wr.heap.size
  c : ∀ n, n ≤ 4 → wr.cell? ⟨w.heap.size, n, none⟩ = some (.int .i64 (hdI n))
  b : Below w.heap.size w wr
theorem AtH.new (w : World) : AtH w (w.alloc (.cells #[.int .i64 0, .int .i64 0, .int .i64 192, .int .i64 224, .int .i64 240] 85)) := by
  refine ⟨by simp, fun n hn => ?_, (Below.refl _ _).alloc (Nat.le_refl _) _⟩
  match n, hn with
  | 0, _ => simp [hdI]
  | 1, _ => simp [hdI]
  | 2, _ => simp [hdI]
  | 3, _ => simp [hdI]
  | 4, _ => simp [hdI]
theorem AtH.below {w wr w2 : World} (h : AtH w wr) (hb : Below wr.heap.size wr w2) : AtH w w2 :=
  ⟨Nat.lt_of_lt_of_le h.lt hb.size, fun n hn => (hb.cell (p := ⟨w.heap.size, n, none⟩) h.lt).trans (h.c n hn), h.b.trans (hb.mono (Nat.le_of_lt h.lt))⟩
theorem AtH.drew {w wr : World} (h : AtH w wr) : AtH w wr.drew := h.below (Below.refl _ _).drew

theorem cut_run (s : ByteArray) (p n : Nat) (h : p + n ≤ s.size) (w : World) : (Instr.slice 9 (.string s) (some (.int .i64 (p : Int))) (some (.int .i64 ((p : Int) + (n : Int)))) none).run Tryd.prog w = .ok (.string (s.extract p (p + n))) w := by
  rw [run_slice_string w _ s _ _ _ _ Tryd.underlying9 (by omega) (by omega) (by omega)]
  congr 2
theorem calm {f : FuncId} {args : Array Value} {v : Value} {w : World} (h : Calls Tryd.prog f args w fun e w' => e = .returned v ∧ w' = w) : Calls Tryd.prog f args w fun e w' => e = .returned v ∧ ∃ n, w' = w.drewN n :=
  h.mono fun _ _ ⟨h1, h2⟩ => ⟨h1, 0, h2⟩
/-- What the inner loop holds. -/
def FzBd (i : Nat) (r : Int) : Prop := -300 ≤ r ∧ (i = 1 → r ≤ 255) ∧ (i = 2 → r ≤ 16447) ∧ (i = 3 → r ≤ 1052735) ∧ (i = 4 → r ≤ 67375167)

set_option maxRecDepth 100000 in
set_option maxHeartbeats 8000000 in
theorem decodeR_in (s : ByteArray) (p : Nat) (h : p < s.size) (hs : s.size ≤ 140737488355328) (w : World) :
    Calls Tryd.prog 33 #[.string s, .int .i64 (p : Int)] w fun e w' => e = .returned (deV (dcd s p)) ∧ Below w.heap.size w w' := by
  have HA := (show Hid _ from AtH.new w)
  have z0 : (0 : Int) ≤ (p : Int) := by omega
  have z1 : (p : Int) < (s.size : Int) := by omega
  have d0 : decide ((p : Int) < 0) = false := decide_eq_false (by omega)
  have d1 : decide (s.size ≤ p) = false := decide_eq_false (by omega)
  generalize hD : dcd s p = D
  have HD := (show Hid _ from hD)
  clear hD
  go_enter Tryd.func33, Tryd.ntmps33
  go_wp2_with fail
  go_loopw [8] (fun t wr => ∃ n : Nat, t = .int .i64 n ∧ (1 ≤ n ∧ n ≤ 5) ∧ Hid (∀ m r, 1 ≤ m → m < n → D ≠ some (r, m)) ∧ Hid (AtH w wr)) (fun t _ => 5 - (intOf t).toNat)
  case atStart => exact ⟨1, rfl, by omega, (fun m r h1 h2 => by omega), HA⟩
  case round =>
    obtain ⟨n, rfl, ⟨hn1, hn5⟩, HN, HW⟩ := hrel
    clear HA
    by_cases h4 : n ≤ 4
    · by_cases hpn : p + n ≤ s.size
      · have hI4 : (n : Int) ≤ 4 := by omega
        have hIp : (p : Int) + (n : Int) ≤ (s.size : Int) := by omega
        have y0 : (0 : Int) ≤ (n : Int) := by omega
        have y5 : (n : Int) < 5 := by omega
        have hc := HW.out.c n h4
        have hcb := chr_bd h
        have hcs := chr_in h
        have hhd : 0 ≤ hdI n ∧ hdI n ≤ 240 := by
          unfold hdI
          repeat' split
          all_goals omega
        have HFZ := (show Hid (fzN s p n = fz s p (n - 1) 1 (chr s p - hdI n)) from rfl)
        rw [hcs] at HFZ hcb
        clear hcs
        generalize hdI n = hd at *
        have q1 : IntKind.i64.wrap ((s[p].toNat : Int) - hd) = (s[p].toNat : Int) - hd := by rw [IntKind.wrap_i64]; omega
        go_wp2_with fail
        go_quiet (fail)
        have HW1 := (show Hid (AtH w (wr.drewN nq)) from HW.out.below (below_drewN (Below.refl _ _) _))
        generalize wr.drewN nq = w1 at *
        clear hc q1 HW
        have HB0 := (show Hid (FzBd 1 ((s[p].toNat : Int) - hd)) from (by show FzBd _ _; unfold FzBd; omega))
        generalize (s[p].toNat : Int) - hd = r0 at *
        generalize hR : fzN s p n = R at *
        have HR := (show Hid _ from hR)
        clear hR hcb hhd
        go_wp2_with fail
        go_loop [9, 10] (fun t u => ∃ k : Nat, ∃ r : Int, t = .int .i64 r ∧ u = .int .i64 k ∧ (1 ≤ k ∧ k ≤ n) ∧ Hid (FzBd k r) ∧ Hid (R = fz s p (n - k) k r)) (fun _ u => 5 - (intOf u).toNat)
        case atStart => exact ⟨1, r0, rfl, rfl, by omega, HB0, HFZ⟩
        case round =>
          obtain ⟨k, r, rfl, rfl, ⟨hk1, hkn⟩, HB, HRr⟩ := hrel
          clear HFZ HB0
          by_cases hkr : k < n ∧ 0 ≤ r
          · obtain ⟨hkn2, hr0⟩ := hkr
            have hpk : p + k < s.size := by omega
            have hb2 := fz_bd (s := s) (p := p) (i := k) hr0 ⟨fun e => HB.out.2.1 e, fun e => HB.out.2.2.1 e, fun e => HB.out.2.2.2.1 e⟩ hpk
            have HR2 := (show Hid (R = fz s p (n - (k + 1)) (k + 1) (r * 64 + chr s (p + k) - 128)) from (by
              have e := HRr.out
              rw [show n - k = (n - (k + 1)) + 1 from by omega, fz_step hr0] at e
              exact e))
            have hrb := HB.out
            unfold FzBd at hrb
            have hcb := chr_bd hpk
            have hcs := chr_in hpk
            have hB2 := (show Hid (FzBd (k + 1) (r * 64 + chr s (p + k) - 128)) from (by show FzBd _ _; unfold FzBd; omega))
            rw [hcs] at hB2 hb2 HR2 hcb
            clear hcs HRr HB
            have x0 : (0 : Int) ≤ (p : Int) + (k : Int) := by omega
            have x1 : (p : Int) + (k : Int) < (s.size : Int) := by omega
            have x2 : (k : Int) < (n : Int) := by omega
            have r1 : r * 64 ≤ 70000000 := by omega
            generalize hcc : (s[p + k].toNat : Int) = c at *
            have r2 : r ≤ 1052735 := by omega
            clear hrb hb2 r1
            go_wp2
            go_round
            case rel => exact ⟨k + 1, r * 64 + c - 128, by go_num, by go_num, by omega, hB2, HR2⟩
            case measure => simp [intOf]; omega
          · have hRr : R = r := by
              rw [HRr.out]
              by_cases h0 : 0 ≤ r
              · rw [show n - k = 0 from by omega, fz_zero]
              · exact fz_neg h0
            subst hRr
            clear HRr
            have HI : Hid (∀ w, Calls Tryd.prog 36 #[.int .i64 R] w fun e w' => e = .returned (.bool (cpB R)) ∧ w' = w) := fun w => isR_any R w
            have hR2 : -300 ≤ R ∧ R ≤ 67375167 := by have e := HB.out; unfold FzBd at e; omega
            have hkx : k = n ∨ ((k : Int) < (n : Int) ∧ R < 0) := by omega
            have hsl := cut_run s p n hpn
            have hwr : IntKind.i64.wrap ((p : Int) + (n : Int)) = (p : Int) + (n : Int) := by rw [IntKind.wrap_i64]; omega
            clear HB hkr hR2
            by_cases hit : dcd s p = some (R, n)
            · obtain ⟨c1, c2, c3⟩ := (ref_hit hpn).2 (by rw [HR.out]; exact hit)
              rw [HR.out] at c1 c2 c3
              have HE := (show Hid (D = some (R, n)) from HD.out.symm.trans hit)
              have HS : Hid (∀ w, Calls Tryd.prog 45 #[.int .i64 R] w fun e w' => e = .returned (.int .i64 (n : Int)) ∧ w' = w) := fun w => by
                have e := sizeR_any R w
                rwa [c2] at e
              have HC : Hid (∀ w, Calls Tryd.prog 37 #[.int .i64 R] w fun e w' => e = .returned (.string (Utf8.encode R)) ∧ Below w.heap.size w w') := fun w => codeR_any R c1 w
              rw [cpB_t c1] at HI
              have em : ((Utf8.encode R).toList == (s.extract p (p + n)).toList) = true := by rw [c3]; simp
              have hR0 : 0 ≤ R := c1.1
              clear hit c1 c2 c3 HN HR HD
              generalize Utf8.encode R = X at *
              rcases hkx with hkx | ⟨hkx, hk2⟩
              · subst hkx
                go_wp2_with fail
                go_region_held3 (fun _ => True) (trivial) (first | (go_at_call 36; with_reducible refine (HI.out _).mono ?_; rintro e w' ⟨rfl, rfl⟩) | (go_at_call 45; with_reducible refine (HS.out _).mono ?_; rintro e w' ⟨rfl, rfl⟩) | (go_at_call 37; with_reducible refine (HC.out _).mono ?_; rintro e w' ⟨rfl, hb⟩))
                all_goals
                  go_wp2
                  go_ret3
                  exact ⟨by rw [HE.out]; rfl, (HW1.out.drew.below hb).b⟩
              · exact absurd hR0 (by omega)
            · have HN2 := (show Hid (∀ m r, 1 ≤ m → m < n + 1 → D ≠ some (r, m)) from fun m r h1 h2 hm => by
                by_cases e : m < n
                · exact HN.out m r h1 e hm
                · obtain rfl : m = n := by omega
                  have e2 := HD.out.trans hm
                  rw [← HR.out, ref_num e2] at hit
                  exact hit e2)
              by_cases c1 : cp R
              · rw [cpB_t c1] at HI
                have hkn3 : k = n := by unfold cp at c1; omega
                subst hkn3
                by_cases c2 : szI R = k
                · have HS : Hid (∀ w, Calls Tryd.prog 45 #[.int .i64 R] w fun e w' => e = .returned (.int .i64 (k : Int)) ∧ w' = w) := fun w => by
                    have e := sizeR_any R w
                    rwa [c2] at e
                  have HC : Hid (∀ w, Calls Tryd.prog 37 #[.int .i64 R] w fun e w' => e = .returned (.string (Utf8.encode R)) ∧ Below w.heap.size w w') := fun w => codeR_any R c1 w
                  have em : ((Utf8.encode R).toList == (s.extract p (p + k)).toList) = false := by
                    rw [beq_eq_false_iff_ne, ByteArray.toList_eq, ByteArray.toList_eq]
                    intro e
                    refine hit ?_
                    have := (ref_hit (s := s) (p := p) (n := k) hpn).1
                    rw [HR.out] at this
                    exact this ⟨c1, c2, (ba_ext e).symm⟩
                  clear hit c1 c2 HN HR HD hkx
                  generalize Utf8.encode R = X at *
                  go_wp2_with fail
                  go_region_held3 (fun _ => True) (trivial) (first | (go_at_call 36; with_reducible refine (HI.out _).mono ?_; rintro e w' ⟨rfl, rfl⟩) | (go_at_call 45; with_reducible refine (HS.out _).mono ?_; rintro e w' ⟨rfl, rfl⟩) | (go_at_call 37; with_reducible refine (HC.out _).mono ?_; rintro e w' ⟨rfl, hb⟩))
                  all_goals
                    go_wp2
                    go_roundw
                    case rel => exact ⟨_ + 1, by go_num, by omega, HN2, HW1.out.drew.below hb⟩
                    case measure => simp [intOf]; omega
                · have HS : Hid (∀ w, Calls Tryd.prog 45 #[.int .i64 R] w fun e w' => e = .returned (.int .i64 (szI R : Int)) ∧ w' = w) := fun w => sizeR_any R w
                  have en : ((szI R : Int) == (k : Int)) = false := beq_eq_false_iff_ne.2 (by omega)
                  have en2 : decide ((szI R : Int) = (k : Int)) = false := decide_eq_false (by omega)
                  have en3 : ¬ (szI R : Int) = (k : Int) := by omega
                  clear hit c1 c2 HN HR HD hkx
                  generalize (szI R : Int) = m at *
                  go_wp2_with fail
                  go_quiet (first | (go_at_call 36; exact Calls.quiet_of (calm (HI.out _))) | (go_at_call 45; exact Calls.quiet_of (calm (HS.out _))))
                  all_goals
                    go_wp2
                    go_roundw
                    case rel => exact ⟨_ + 1, by go_num, by omega, HN2, HW1.out.below (below_drewN (Below.refl _ _) _)⟩
                    case measure => simp [intOf]; omega
              · rw [cpB_f c1] at HI
                clear hit c1 HN HR HD
                rcases hkx with hkx | ⟨hkx, hk2⟩
                · subst hkx
                  go_wp2_with fail
                  go_quiet ((go_at_call 36; exact Calls.quiet_of (calm (HI.out _))))
                  all_goals
                    go_wp2
                    go_roundw
                    case rel => exact ⟨_ + 1, by go_num, by omega, HN2, HW1.out.below (below_drewN (Below.refl _ _) _)⟩
                    case measure => simp [intOf]; omega
                · go_wp2_with fail
                  go_quiet ((go_at_call 36; exact Calls.quiet_of (calm (HI.out _))))
                  all_goals
                    go_wp2
                    go_roundw
                    case rel => exact ⟨_ + 1, by go_num, by omega, HN2, HW1.out.below (below_drewN (Below.refl _ _) _)⟩
                    case measure => simp [intOf]; omega
      · have HE := (show Hid (D = none) from (by
          show D = none
          cases hq : D with
          | none => rfl
          | some x =>
            obtain ⟨r, m⟩ := x
            have hb := dcd_bd (HD.out.trans hq)
            exact absurd hq (HN.out m r (by omega) (by omega))))
        have hI4 : (n : Int) ≤ 4 := by omega
        have hIp : ¬ (p : Int) + (n : Int) ≤ (s.size : Int) := by omega
        clear HN HD h4 hpn
        go_wp2
        go_ret3
        exact ⟨by rw [HE.out]; rfl, HW.out.b⟩
    · have HE := (show Hid (D = none) from (by
        show D = none
        cases hq : D with
        | none => rfl
        | some x =>
          obtain ⟨r, m⟩ := x
          have hb := dcd_bd (HD.out.trans hq)
          exact absurd hq (HN.out m r (by omega) (by omega))))
      obtain rfl : n = 5 := by omega
      clear HN HD h4
      go_wp2
      go_ret3
      exact ⟨by rw [HE.out]; rfl, HW.out.b⟩
set_option maxRecDepth 100000 in
set_option maxHeartbeats 2000000 in
theorem decodeR_any (s : ByteArray) (a : Int) (hs : s.size ≤ 140737488355328) (w : World) :
    Calls Tryd.prog 33 #[.string s, .int .i64 a] w fun e w' => e = .returned (deV (dcI s a)) ∧ Below w.heap.size w w' := by
  by_cases h0 : a < 0
  · rw [dcI_neg h0]
    go_enter Tryd.func33, Tryd.ntmps33
    go_wp2
    go_ret3
    exact ⟨rfl, Below.refl _ _⟩
  · by_cases h1 : (s.size : Int) ≤ a
    · rw [dcI_out h1]
      have d0 : decide (a < 0) = false := decide_eq_false h0
      clear h0
      go_enter Tryd.func33, Tryd.ntmps33
      go_wp2
      go_ret3
      exact ⟨rfl, Below.refl _ _⟩
    · obtain ⟨i, rfl⟩ : ∃ i : Nat, a = (i : Int) := ⟨a.toNat, by omega⟩
      rw [dcI_in]
      exact decodeR_in s i (by omega) hs w
end Go.Proofs.YtiillgahnbimjaaDoor
