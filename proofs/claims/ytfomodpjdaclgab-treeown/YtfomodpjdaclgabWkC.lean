/- DERIVED. Walks: names and templates by the document. -/
import Derived.Test.YtfomodpjdaclgabWkB
namespace Go.Proofs.Ytfomodpjdaclgab
open Go.RowKit

set_option maxRecDepth 100000 in
set_option maxHeartbeats 8000000 in
theorem nameR_any (s : ByteArray) (hs : s.size ≤ 140737488355328) (w : World) : Calls Try.prog 43 #[.string s] w fun e w' => e = .returned (.bool (nmB s)) ∧ w' = w := by
  by_cases h0 : s.size = 0
  · have HE : Hid (nmB s = false) := nmB_f (fun h => by have := h.1; omega)
    have z0 : (s.size : Int) < 1 := by omega
    clear h0 hs
    go_enter Try.func43, Try.ntmps43
    go_wp2_with fail
    go_ret
    exact ⟨by rw [HE.out]; rfl, rfl⟩
  have z0 : ¬ (s.size : Int) < 1 := by omega
  by_cases h1 : 32 < s.size
  · have HE : Hid (nmB s = false) := nmB_f (fun h => by have := h.2.1; omega)
    have z1 : (32 : Int) < (s.size : Int) := by omega
    clear h0 hs
    go_enter Try.func43, Try.ntmps43
    go_wp2_with fail
    go_ret
    exact ⟨by rw [HE.out]; rfl, rfl⟩
  have z1 : ¬ (32 : Int) < (s.size : Int) := by omega
  have hp : 0 < s.size := by omega
  have zp : (0 : Int) < (s.size : Int) := by omega
  by_cases hd : (48 : Int) ≤ (s[0].toNat : Int) ∧ (s[0].toNat : Int) ≤ 57
  · obtain ⟨d1, d2⟩ := hd
    have HE : Hid (nmB s = false) := nmB_f (fun h => by have := h.2.2.1 hp; unfold dgB at this; rw [decide_eq_true d1, decide_eq_true d2] at this; cases this)
    go_enter Try.func43, Try.ntmps43
    go_wp2_with fail
    go_ret
    exact ⟨by rw [HE.out]; rfl, rfl⟩
  have HZ : Hid (dgB (s[0].toNat : Int) = false) := (by
    show dgB _ = _
    unfold dgB
    by_cases d1 : (48 : Int) ≤ (s[0].toNat : Int)
    · rw [decide_eq_false (fun d2 => hd ⟨d1, d2⟩), Bool.and_false]
    · rw [decide_eq_false d1, Bool.false_and])
  have HN : Hid ((∀ (j : Nat) (h : j < s.size), nmC (s[j].toNat : Int) = true) → nmB s = true) := fun h => nmB_t ⟨hp, by omega, fun _ => HZ.out, h⟩
  have HM : Hid (∀ (j : Nat) (h : j < s.size), nmC (s[j].toNat : Int) = false → nmB s = false) := fun j h e => nmB_f (fun q => by have := q.2.2.2 j h; rw [e] at this; cases this)
  clear HZ
  go_enter Try.func43, Try.ntmps43
  by_cases d1 : (48 : Int) ≤ (s[0].toNat : Int)
  · have d2 : ¬ (s[0].toNat : Int) ≤ 57 := fun d2 => hd ⟨d1, d2⟩
    have HX := (show Hid _ from hd)
    clear hd HX
    go_wp2_with fail
    go_loopw [3] (fun t wr => ∃ k : Nat, k ≤ s.size ∧ t = .int .i64 k ∧ wr = w ∧ Hid (∀ (j : Nat) (h : j < s.size), j < k → nmC (s[j].toNat : Int) = true)) (fun t _ => s.size - (intOf t).toNat)
    case atStart => exact ⟨0, by omega, by go_num, rfl, fun j h q => by omega⟩
    case round =>
      obtain ⟨k, hk, rfl, rfl, HI⟩ := hrel
      clear d1 d2
      by_cases hlt : k < s.size
      · have z3 : (0 : Int) ≤ (k : Int) := by omega
        have z4 : (k : Int) < (s.size : Int) := by omega
        have HC : Hid (nmC (s[k].toNat : Int) = (dgB (s[k].toNat : Int) || ltB (s[k].toNat : Int) || (s[k].toNat : Int) == 95)) := rfl
        have HG : Hid (nmC (s[k].toNat : Int) = true → ∀ (j : Nat) (h : j < s.size), j < k + 1 → nmC (s[j].toNat : Int) = true) := fun e j h q => by
          by_cases hj : j < k
          · exact HI.out j h hj
          · obtain rfl : j = k := by omega
            exact e
        have HM2 : Hid (nmC (s[k].toNat : Int) = false → nmB s = false) := HM.out k hlt
        clear HI HN HM
        by_cases r0 : (s[k].toNat : Int) < 48
        · have t0 : ¬ (97 : Int) ≤ (s[k].toNat : Int) := by omega
          have t1 : (s[k].toNat : Int) ≤ 122 := by omega
          have t2 : ¬ (65 : Int) ≤ (s[k].toNat : Int) := by omega
          have t3 : (s[k].toNat : Int) ≤ 90 := by omega
          have t4 : ¬ (48 : Int) ≤ (s[k].toNat : Int) := by omega
          have t5 : (s[k].toNat : Int) ≤ 57 := by omega
          have t6 : ((s[k].toNat : Int) == 95) = false := beq_eq_false_iff_ne.2 (by omega)
          have HV : Hid (nmC (s[k].toNat : Int) = false) := (by show nmC _ = _; rw [HC.out]; unfold dgB ltB; rw [t6]; simp [t0, t1, t2, t3, t4, t5])
          have HE : Hid (nmB s = false) := HM2.out HV.out
          clear HC HG HM2 HV
          go_wp2_with fail
          go_ret
          exact ⟨by rw [HE.out]; rfl, rfl⟩
        by_cases r1 : (s[k].toNat : Int) < 58
        · have t0 : ¬ (97 : Int) ≤ (s[k].toNat : Int) := by omega
          have t1 : (s[k].toNat : Int) ≤ 122 := by omega
          have t2 : ¬ (65 : Int) ≤ (s[k].toNat : Int) := by omega
          have t3 : (s[k].toNat : Int) ≤ 90 := by omega
          have t4 : (48 : Int) ≤ (s[k].toNat : Int) := by omega
          have t5 : (s[k].toNat : Int) ≤ 57 := by omega
          have t6 : ((s[k].toNat : Int) == 95) = false := beq_eq_false_iff_ne.2 (by omega)
          have HV : Hid (nmC (s[k].toNat : Int) = true) := (by show nmC _ = _; rw [HC.out]; unfold dgB ltB; rw [t6]; simp [t0, t1, t2, t3, t4, t5])
          have HI2 : Hid (∀ (j : Nat) (h : j < s.size), j < k + 1 → nmC (s[j].toNat : Int) = true) := HG.out HV.out
          clear HC HG HM2 HV
          go_wp2_with fail
          go_roundw
          case rel => exact ⟨k + 1, by omega, by go_num, trivial, HI2⟩
          case measure => simp [intOf]; omega
        by_cases r2 : (s[k].toNat : Int) < 65
        · have t0 : ¬ (97 : Int) ≤ (s[k].toNat : Int) := by omega
          have t1 : (s[k].toNat : Int) ≤ 122 := by omega
          have t2 : ¬ (65 : Int) ≤ (s[k].toNat : Int) := by omega
          have t3 : (s[k].toNat : Int) ≤ 90 := by omega
          have t4 : (48 : Int) ≤ (s[k].toNat : Int) := by omega
          have t5 : ¬ (s[k].toNat : Int) ≤ 57 := by omega
          have t6 : ((s[k].toNat : Int) == 95) = false := beq_eq_false_iff_ne.2 (by omega)
          have HV : Hid (nmC (s[k].toNat : Int) = false) := (by show nmC _ = _; rw [HC.out]; unfold dgB ltB; rw [t6]; simp [t0, t1, t2, t3, t4, t5])
          have HE : Hid (nmB s = false) := HM2.out HV.out
          clear HC HG HM2 HV
          go_wp2_with fail
          go_ret
          exact ⟨by rw [HE.out]; rfl, rfl⟩
        by_cases r3 : (s[k].toNat : Int) < 91
        · have t0 : ¬ (97 : Int) ≤ (s[k].toNat : Int) := by omega
          have t1 : (s[k].toNat : Int) ≤ 122 := by omega
          have t2 : (65 : Int) ≤ (s[k].toNat : Int) := by omega
          have t3 : (s[k].toNat : Int) ≤ 90 := by omega
          have t4 : (48 : Int) ≤ (s[k].toNat : Int) := by omega
          have t5 : ¬ (s[k].toNat : Int) ≤ 57 := by omega
          have t6 : ((s[k].toNat : Int) == 95) = false := beq_eq_false_iff_ne.2 (by omega)
          have HV : Hid (nmC (s[k].toNat : Int) = true) := (by show nmC _ = _; rw [HC.out]; unfold dgB ltB; rw [t6]; simp [t0, t1, t2, t3, t4, t5])
          have HI2 : Hid (∀ (j : Nat) (h : j < s.size), j < k + 1 → nmC (s[j].toNat : Int) = true) := HG.out HV.out
          clear HC HG HM2 HV
          go_wp2_with fail
          go_roundw
          case rel => exact ⟨k + 1, by omega, by go_num, trivial, HI2⟩
          case measure => simp [intOf]; omega
        by_cases r4 : (s[k].toNat : Int) < 95
        · have t0 : ¬ (97 : Int) ≤ (s[k].toNat : Int) := by omega
          have t1 : (s[k].toNat : Int) ≤ 122 := by omega
          have t2 : (65 : Int) ≤ (s[k].toNat : Int) := by omega
          have t3 : ¬ (s[k].toNat : Int) ≤ 90 := by omega
          have t4 : (48 : Int) ≤ (s[k].toNat : Int) := by omega
          have t5 : ¬ (s[k].toNat : Int) ≤ 57 := by omega
          have t6 : ((s[k].toNat : Int) == 95) = false := beq_eq_false_iff_ne.2 (by omega)
          have HV : Hid (nmC (s[k].toNat : Int) = false) := (by show nmC _ = _; rw [HC.out]; unfold dgB ltB; rw [t6]; simp [t0, t1, t2, t3, t4, t5])
          have HE : Hid (nmB s = false) := HM2.out HV.out
          clear HC HG HM2 HV
          go_wp2_with fail
          go_ret
          exact ⟨by rw [HE.out]; rfl, rfl⟩
        by_cases r5 : (s[k].toNat : Int) < 96
        · have t0 : ¬ (97 : Int) ≤ (s[k].toNat : Int) := by omega
          have t1 : (s[k].toNat : Int) ≤ 122 := by omega
          have t2 : (65 : Int) ≤ (s[k].toNat : Int) := by omega
          have t3 : ¬ (s[k].toNat : Int) ≤ 90 := by omega
          have t4 : (48 : Int) ≤ (s[k].toNat : Int) := by omega
          have t5 : ¬ (s[k].toNat : Int) ≤ 57 := by omega
          have t6 : ((s[k].toNat : Int) == 95) = true := beq_iff_eq.2 (by omega)
          have HV : Hid (nmC (s[k].toNat : Int) = true) := (by show nmC _ = _; rw [HC.out]; unfold dgB ltB; rw [t6]; simp [t0, t1, t2, t3, t4, t5])
          have HI2 : Hid (∀ (j : Nat) (h : j < s.size), j < k + 1 → nmC (s[j].toNat : Int) = true) := HG.out HV.out
          clear HC HG HM2 HV
          go_wp2_with fail
          go_roundw
          case rel => exact ⟨k + 1, by omega, by go_num, trivial, HI2⟩
          case measure => simp [intOf]; omega
        by_cases r6 : (s[k].toNat : Int) < 97
        · have t0 : ¬ (97 : Int) ≤ (s[k].toNat : Int) := by omega
          have t1 : (s[k].toNat : Int) ≤ 122 := by omega
          have t2 : (65 : Int) ≤ (s[k].toNat : Int) := by omega
          have t3 : ¬ (s[k].toNat : Int) ≤ 90 := by omega
          have t4 : (48 : Int) ≤ (s[k].toNat : Int) := by omega
          have t5 : ¬ (s[k].toNat : Int) ≤ 57 := by omega
          have t6 : ((s[k].toNat : Int) == 95) = false := beq_eq_false_iff_ne.2 (by omega)
          have HV : Hid (nmC (s[k].toNat : Int) = false) := (by show nmC _ = _; rw [HC.out]; unfold dgB ltB; rw [t6]; simp [t0, t1, t2, t3, t4, t5])
          have HE : Hid (nmB s = false) := HM2.out HV.out
          clear HC HG HM2 HV
          go_wp2_with fail
          go_ret
          exact ⟨by rw [HE.out]; rfl, rfl⟩
        by_cases r7 : (s[k].toNat : Int) < 123
        · have t0 : (97 : Int) ≤ (s[k].toNat : Int) := by omega
          have t1 : (s[k].toNat : Int) ≤ 122 := by omega
          have t2 : (65 : Int) ≤ (s[k].toNat : Int) := by omega
          have t3 : ¬ (s[k].toNat : Int) ≤ 90 := by omega
          have t4 : (48 : Int) ≤ (s[k].toNat : Int) := by omega
          have t5 : ¬ (s[k].toNat : Int) ≤ 57 := by omega
          have t6 : ((s[k].toNat : Int) == 95) = false := beq_eq_false_iff_ne.2 (by omega)
          have HV : Hid (nmC (s[k].toNat : Int) = true) := (by show nmC _ = _; rw [HC.out]; unfold dgB ltB; rw [t6]; simp [t0, t1, t2, t3, t4, t5])
          have HI2 : Hid (∀ (j : Nat) (h : j < s.size), j < k + 1 → nmC (s[j].toNat : Int) = true) := HG.out HV.out
          clear HC HG HM2 HV
          go_wp2_with fail
          go_roundw
          case rel => exact ⟨k + 1, by omega, by go_num, trivial, HI2⟩
          case measure => simp [intOf]; omega
        have t0 : (97 : Int) ≤ (s[k].toNat : Int) := by omega
        have t1 : ¬ (s[k].toNat : Int) ≤ 122 := by omega
        have t2 : (65 : Int) ≤ (s[k].toNat : Int) := by omega
        have t3 : ¬ (s[k].toNat : Int) ≤ 90 := by omega
        have t4 : (48 : Int) ≤ (s[k].toNat : Int) := by omega
        have t5 : ¬ (s[k].toNat : Int) ≤ 57 := by omega
        have t6 : ((s[k].toNat : Int) == 95) = false := beq_eq_false_iff_ne.2 (by omega)
        have HV : Hid (nmC (s[k].toNat : Int) = false) := (by show nmC _ = _; rw [HC.out]; unfold dgB ltB; rw [t6]; simp [t0, t1, t2, t3, t4, t5])
        have HE : Hid (nmB s = false) := HM2.out HV.out
        clear HC HG HM2 HV
        go_wp2_with fail
        go_ret
        exact ⟨by rw [HE.out]; rfl, rfl⟩
      · obtain rfl : k = s.size := by omega
        have HE : Hid (nmB s = true) := HN.out (fun j h => HI.out j h h)
        clear HN HM HI
        go_wp2_with fail
        go_ret
        exact ⟨by rw [HE.out]; rfl, rfl⟩
  · skip
    have HX := (show Hid _ from hd)
    clear hd HX
    go_wp2_with fail
    go_loopw [3] (fun t wr => ∃ k : Nat, k ≤ s.size ∧ t = .int .i64 k ∧ wr = w ∧ Hid (∀ (j : Nat) (h : j < s.size), j < k → nmC (s[j].toNat : Int) = true)) (fun t _ => s.size - (intOf t).toNat)
    case atStart => exact ⟨0, by omega, by go_num, rfl, fun j h q => by omega⟩
    case round =>
      obtain ⟨k, hk, rfl, rfl, HI⟩ := hrel
      clear d1
      by_cases hlt : k < s.size
      · have z3 : (0 : Int) ≤ (k : Int) := by omega
        have z4 : (k : Int) < (s.size : Int) := by omega
        have HC : Hid (nmC (s[k].toNat : Int) = (dgB (s[k].toNat : Int) || ltB (s[k].toNat : Int) || (s[k].toNat : Int) == 95)) := rfl
        have HG : Hid (nmC (s[k].toNat : Int) = true → ∀ (j : Nat) (h : j < s.size), j < k + 1 → nmC (s[j].toNat : Int) = true) := fun e j h q => by
          by_cases hj : j < k
          · exact HI.out j h hj
          · obtain rfl : j = k := by omega
            exact e
        have HM2 : Hid (nmC (s[k].toNat : Int) = false → nmB s = false) := HM.out k hlt
        clear HI HN HM
        by_cases r0 : (s[k].toNat : Int) < 48
        · have t0 : ¬ (97 : Int) ≤ (s[k].toNat : Int) := by omega
          have t1 : (s[k].toNat : Int) ≤ 122 := by omega
          have t2 : ¬ (65 : Int) ≤ (s[k].toNat : Int) := by omega
          have t3 : (s[k].toNat : Int) ≤ 90 := by omega
          have t4 : ¬ (48 : Int) ≤ (s[k].toNat : Int) := by omega
          have t5 : (s[k].toNat : Int) ≤ 57 := by omega
          have t6 : ((s[k].toNat : Int) == 95) = false := beq_eq_false_iff_ne.2 (by omega)
          have HV : Hid (nmC (s[k].toNat : Int) = false) := (by show nmC _ = _; rw [HC.out]; unfold dgB ltB; rw [t6]; simp [t0, t1, t2, t3, t4, t5])
          have HE : Hid (nmB s = false) := HM2.out HV.out
          clear HC HG HM2 HV
          go_wp2_with fail
          go_ret
          exact ⟨by rw [HE.out]; rfl, rfl⟩
        by_cases r1 : (s[k].toNat : Int) < 58
        · have t0 : ¬ (97 : Int) ≤ (s[k].toNat : Int) := by omega
          have t1 : (s[k].toNat : Int) ≤ 122 := by omega
          have t2 : ¬ (65 : Int) ≤ (s[k].toNat : Int) := by omega
          have t3 : (s[k].toNat : Int) ≤ 90 := by omega
          have t4 : (48 : Int) ≤ (s[k].toNat : Int) := by omega
          have t5 : (s[k].toNat : Int) ≤ 57 := by omega
          have t6 : ((s[k].toNat : Int) == 95) = false := beq_eq_false_iff_ne.2 (by omega)
          have HV : Hid (nmC (s[k].toNat : Int) = true) := (by show nmC _ = _; rw [HC.out]; unfold dgB ltB; rw [t6]; simp [t0, t1, t2, t3, t4, t5])
          have HI2 : Hid (∀ (j : Nat) (h : j < s.size), j < k + 1 → nmC (s[j].toNat : Int) = true) := HG.out HV.out
          clear HC HG HM2 HV
          go_wp2_with fail
          go_roundw
          case rel => exact ⟨k + 1, by omega, by go_num, trivial, HI2⟩
          case measure => simp [intOf]; omega
        by_cases r2 : (s[k].toNat : Int) < 65
        · have t0 : ¬ (97 : Int) ≤ (s[k].toNat : Int) := by omega
          have t1 : (s[k].toNat : Int) ≤ 122 := by omega
          have t2 : ¬ (65 : Int) ≤ (s[k].toNat : Int) := by omega
          have t3 : (s[k].toNat : Int) ≤ 90 := by omega
          have t4 : (48 : Int) ≤ (s[k].toNat : Int) := by omega
          have t5 : ¬ (s[k].toNat : Int) ≤ 57 := by omega
          have t6 : ((s[k].toNat : Int) == 95) = false := beq_eq_false_iff_ne.2 (by omega)
          have HV : Hid (nmC (s[k].toNat : Int) = false) := (by show nmC _ = _; rw [HC.out]; unfold dgB ltB; rw [t6]; simp [t0, t1, t2, t3, t4, t5])
          have HE : Hid (nmB s = false) := HM2.out HV.out
          clear HC HG HM2 HV
          go_wp2_with fail
          go_ret
          exact ⟨by rw [HE.out]; rfl, rfl⟩
        by_cases r3 : (s[k].toNat : Int) < 91
        · have t0 : ¬ (97 : Int) ≤ (s[k].toNat : Int) := by omega
          have t1 : (s[k].toNat : Int) ≤ 122 := by omega
          have t2 : (65 : Int) ≤ (s[k].toNat : Int) := by omega
          have t3 : (s[k].toNat : Int) ≤ 90 := by omega
          have t4 : (48 : Int) ≤ (s[k].toNat : Int) := by omega
          have t5 : ¬ (s[k].toNat : Int) ≤ 57 := by omega
          have t6 : ((s[k].toNat : Int) == 95) = false := beq_eq_false_iff_ne.2 (by omega)
          have HV : Hid (nmC (s[k].toNat : Int) = true) := (by show nmC _ = _; rw [HC.out]; unfold dgB ltB; rw [t6]; simp [t0, t1, t2, t3, t4, t5])
          have HI2 : Hid (∀ (j : Nat) (h : j < s.size), j < k + 1 → nmC (s[j].toNat : Int) = true) := HG.out HV.out
          clear HC HG HM2 HV
          go_wp2_with fail
          go_roundw
          case rel => exact ⟨k + 1, by omega, by go_num, trivial, HI2⟩
          case measure => simp [intOf]; omega
        by_cases r4 : (s[k].toNat : Int) < 95
        · have t0 : ¬ (97 : Int) ≤ (s[k].toNat : Int) := by omega
          have t1 : (s[k].toNat : Int) ≤ 122 := by omega
          have t2 : (65 : Int) ≤ (s[k].toNat : Int) := by omega
          have t3 : ¬ (s[k].toNat : Int) ≤ 90 := by omega
          have t4 : (48 : Int) ≤ (s[k].toNat : Int) := by omega
          have t5 : ¬ (s[k].toNat : Int) ≤ 57 := by omega
          have t6 : ((s[k].toNat : Int) == 95) = false := beq_eq_false_iff_ne.2 (by omega)
          have HV : Hid (nmC (s[k].toNat : Int) = false) := (by show nmC _ = _; rw [HC.out]; unfold dgB ltB; rw [t6]; simp [t0, t1, t2, t3, t4, t5])
          have HE : Hid (nmB s = false) := HM2.out HV.out
          clear HC HG HM2 HV
          go_wp2_with fail
          go_ret
          exact ⟨by rw [HE.out]; rfl, rfl⟩
        by_cases r5 : (s[k].toNat : Int) < 96
        · have t0 : ¬ (97 : Int) ≤ (s[k].toNat : Int) := by omega
          have t1 : (s[k].toNat : Int) ≤ 122 := by omega
          have t2 : (65 : Int) ≤ (s[k].toNat : Int) := by omega
          have t3 : ¬ (s[k].toNat : Int) ≤ 90 := by omega
          have t4 : (48 : Int) ≤ (s[k].toNat : Int) := by omega
          have t5 : ¬ (s[k].toNat : Int) ≤ 57 := by omega
          have t6 : ((s[k].toNat : Int) == 95) = true := beq_iff_eq.2 (by omega)
          have HV : Hid (nmC (s[k].toNat : Int) = true) := (by show nmC _ = _; rw [HC.out]; unfold dgB ltB; rw [t6]; simp [t0, t1, t2, t3, t4, t5])
          have HI2 : Hid (∀ (j : Nat) (h : j < s.size), j < k + 1 → nmC (s[j].toNat : Int) = true) := HG.out HV.out
          clear HC HG HM2 HV
          go_wp2_with fail
          go_roundw
          case rel => exact ⟨k + 1, by omega, by go_num, trivial, HI2⟩
          case measure => simp [intOf]; omega
        by_cases r6 : (s[k].toNat : Int) < 97
        · have t0 : ¬ (97 : Int) ≤ (s[k].toNat : Int) := by omega
          have t1 : (s[k].toNat : Int) ≤ 122 := by omega
          have t2 : (65 : Int) ≤ (s[k].toNat : Int) := by omega
          have t3 : ¬ (s[k].toNat : Int) ≤ 90 := by omega
          have t4 : (48 : Int) ≤ (s[k].toNat : Int) := by omega
          have t5 : ¬ (s[k].toNat : Int) ≤ 57 := by omega
          have t6 : ((s[k].toNat : Int) == 95) = false := beq_eq_false_iff_ne.2 (by omega)
          have HV : Hid (nmC (s[k].toNat : Int) = false) := (by show nmC _ = _; rw [HC.out]; unfold dgB ltB; rw [t6]; simp [t0, t1, t2, t3, t4, t5])
          have HE : Hid (nmB s = false) := HM2.out HV.out
          clear HC HG HM2 HV
          go_wp2_with fail
          go_ret
          exact ⟨by rw [HE.out]; rfl, rfl⟩
        by_cases r7 : (s[k].toNat : Int) < 123
        · have t0 : (97 : Int) ≤ (s[k].toNat : Int) := by omega
          have t1 : (s[k].toNat : Int) ≤ 122 := by omega
          have t2 : (65 : Int) ≤ (s[k].toNat : Int) := by omega
          have t3 : ¬ (s[k].toNat : Int) ≤ 90 := by omega
          have t4 : (48 : Int) ≤ (s[k].toNat : Int) := by omega
          have t5 : ¬ (s[k].toNat : Int) ≤ 57 := by omega
          have t6 : ((s[k].toNat : Int) == 95) = false := beq_eq_false_iff_ne.2 (by omega)
          have HV : Hid (nmC (s[k].toNat : Int) = true) := (by show nmC _ = _; rw [HC.out]; unfold dgB ltB; rw [t6]; simp [t0, t1, t2, t3, t4, t5])
          have HI2 : Hid (∀ (j : Nat) (h : j < s.size), j < k + 1 → nmC (s[j].toNat : Int) = true) := HG.out HV.out
          clear HC HG HM2 HV
          go_wp2_with fail
          go_roundw
          case rel => exact ⟨k + 1, by omega, by go_num, trivial, HI2⟩
          case measure => simp [intOf]; omega
        have t0 : (97 : Int) ≤ (s[k].toNat : Int) := by omega
        have t1 : ¬ (s[k].toNat : Int) ≤ 122 := by omega
        have t2 : (65 : Int) ≤ (s[k].toNat : Int) := by omega
        have t3 : ¬ (s[k].toNat : Int) ≤ 90 := by omega
        have t4 : (48 : Int) ≤ (s[k].toNat : Int) := by omega
        have t5 : ¬ (s[k].toNat : Int) ≤ 57 := by omega
        have t6 : ((s[k].toNat : Int) == 95) = false := beq_eq_false_iff_ne.2 (by omega)
        have HV : Hid (nmC (s[k].toNat : Int) = false) := (by show nmC _ = _; rw [HC.out]; unfold dgB ltB; rw [t6]; simp [t0, t1, t2, t3, t4, t5])
        have HE : Hid (nmB s = false) := HM2.out HV.out
        clear HC HG HM2 HV
        go_wp2_with fail
        go_ret
        exact ⟨by rw [HE.out]; rfl, rfl⟩
      · obtain rfl : k = s.size := by omega
        have HE : Hid (nmB s = true) := HN.out (fun j h => HI.out j h h)
        clear HN HM HI
        go_wp2_with fail
        go_ret
        exact ⟨by rw [HE.out]; rfl, rfl⟩

set_option maxRecDepth 100000 in
set_option maxHeartbeats 4000000 in
theorem templateR_any (s : ByteArray) (hs : s.size ≤ 140737488355328) (w : World) : Calls Try.prog 44 #[.string s] w fun e w' => e = .returned (.bool (tmB s)) ∧ w' = w := by
  by_cases h1 : 255 < s.size
  · have HE : Hid (tmB s = false) := (by show tmB s = _; unfold tmB; rw [if_neg (by omega)])
    have z1 : (255 : Int) < (s.size : Int) := by omega
    clear hs
    go_enter Try.func44, Try.ntmps44
    go_wp2_with fail
    go_ret
    exact ⟨by rw [HE.out]; rfl, rfl⟩
  have z1 : ¬ (255 : Int) < (s.size : Int) := by omega
  have HB : Hid (tmB s = tmGo s s.size 0) := (by show tmB s = _; unfold tmB; rw [if_pos (by omega)])
  go_enter Try.func44, Try.ntmps44
  go_wp2_with fail
  go_loopw [3] (fun t wr => ∃ k : Nat, k ≤ s.size ∧ t = .int .i64 k ∧ wr = w ∧ Hid (∃ m, s.size ≤ k + m ∧ tmB s = tmGo s m k)) (fun t _ => s.size - (intOf t).toNat)
  case atStart => exact ⟨0, by omega, by go_num, rfl, ⟨s.size, by omega, HB.out⟩⟩
  case round =>
    obtain ⟨k, hk, rfl, rfl, HI⟩ := hrel
    clear HB
    obtain ⟨m, hm, HJ⟩ := HI.out
    have HJ := (show Hid _ from HJ)
    clear HI
    by_cases hlt : k < s.size
    · have z3 : (0 : Int) ≤ (k : Int) := by omega
      have z4 : (k : Int) < (s.size : Int) := by omega
      by_cases h37 : (s[k].toNat : Int) = 37
      · have e37 : ((s[k].toNat : Int) == 37) = true := beq_iff_eq.2 h37
        by_cases h2 : k + 1 < s.size
        · have z5 : ((k : Int) + 1 == (s.size : Int)) = false := beq_eq_false_iff_ne.2 (by omega)
          have z6 : (k : Int) + 1 < (s.size : Int) := by omega
          by_cases g37 : (s[k + 1].toNat : Int) = 37
          · have f37 : ((s[k + 1].toNat : Int) != 37) = false := by rw [bne, beq_iff_eq.2 g37]; rfl
            have HK : Hid (∃ m2, s.size ≤ k + 2 + m2 ∧ tmB s = tmGo s m2 (k + 2)) := by
              obtain ⟨m2, u, v⟩ := tm_two hlt hm h37 h2 (.inl g37)
              exact ⟨m2, u, HJ.out.trans v⟩
            clear HJ h37 g37
            go_wp2_with fail
            go_roundw
            case rel => exact ⟨k + 2, by omega, by go_num, trivial, HK⟩
            case measure => simp [intOf]; omega
          · have f37 : ((s[k + 1].toNat : Int) != 37) = true := by rw [bne, beq_eq_false_iff_ne.2 g37]; rfl
            by_cases d1 : (s[k + 1].toNat : Int) < 48
            · have HE : Hid (tmB s = false) := HJ.out.trans (tm_bad hlt hm h37 h2 g37 (by unfold dgB; rw [decide_eq_false (by omega)]; rfl))
              clear HJ h37 g37
              go_wp2_with fail
              go_ret
              exact ⟨by rw [HE.out]; rfl, rfl⟩
            · by_cases d2 : 57 < (s[k + 1].toNat : Int)
              · have HE : Hid (tmB s = false) := HJ.out.trans (tm_bad hlt hm h37 h2 g37 (by unfold dgB; rw [decide_eq_false (p := (s[k + 1].toNat : Int) ≤ 57) (by omega), Bool.and_false]))
                clear HJ h37 g37
                go_wp2_with fail
                go_ret
                exact ⟨by rw [HE.out]; rfl, rfl⟩
              · have HK : Hid (∃ m2, s.size ≤ k + 2 + m2 ∧ tmB s = tmGo s m2 (k + 2)) := by
                  obtain ⟨m2, u, v⟩ := tm_two hlt hm h37 h2 (.inr (by unfold dgB; rw [decide_eq_true (by omega), decide_eq_true (by omega)]; rfl))
                  exact ⟨m2, u, HJ.out.trans v⟩
                clear HJ h37 g37
                go_wp2_with fail
                go_roundw
                case rel => exact ⟨k + 2, by omega, by go_num, trivial, HK⟩
                case measure => simp [intOf]; omega
        · have z5 : ((k : Int) + 1 == (s.size : Int)) = true := beq_iff_eq.2 (by omega)
          have HE : Hid (tmB s = false) := HJ.out.trans (tm_cut hlt hm h37 h2)
          clear HJ h37
          go_wp2_with fail
          go_ret
          exact ⟨by rw [HE.out]; rfl, rfl⟩
      · have e37 : ((s[k].toNat : Int) == 37) = false := beq_eq_false_iff_ne.2 h37
        have HK : Hid (∃ m2, s.size ≤ k + 1 + m2 ∧ tmB s = tmGo s m2 (k + 1)) := by
          obtain ⟨m2, u, v⟩ := tm_plain hlt hm h37
          exact ⟨m2, u, HJ.out.trans v⟩
        clear HJ h37
        go_wp2_with fail
        go_roundw
        case rel => exact ⟨k + 1, by omega, by go_num, trivial, HK⟩
        case measure => simp [intOf]; omega
    · obtain rfl : k = s.size := by omega
      have HE : Hid (tmB s = true) := HJ.out.trans (tm_end s m _ (by omega))
      clear HJ
      go_wp2_with fail
      go_ret
      exact ⟨by rw [HE.out]; rfl, rfl⟩
end Go.Proofs.Ytfomodpjdaclgab
