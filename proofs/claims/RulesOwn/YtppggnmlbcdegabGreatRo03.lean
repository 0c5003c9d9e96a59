/- DERIVED. Plain mathematics and walks, laid together (3). -/
import Derived.Test.YtppggnmlbcdegabGreatRo02
namespace Go.Proofs.YtppggnmlbcdegabGreat.T
open Go.RowKit
set_option maxRecDepth 100000 in
set_option maxHeartbeats 8000000 in
theorem nameR_any (s : ByteArray) (hs : s.size ≤ 140737488355328) (w : World) : Calls Tryz.prog 18 #[.string s] w fun e w' => e = .returned (.bool (nmB s)) ∧ w' = w := by
  by_cases h0 : s.size = 0
  · have HE : Hid (nmB s = false) := nmB_f (fun h => by have := h.1; omega)
    have z0 : (s.size : Int) < 1 := by omega
    clear h0 hs
    go_enter Tryz.func18, Tryz.ntmps18
    go_wp2_with fail
    go_ret
    exact ⟨by rw [HE.out]; rfl, rfl⟩
  have z0 : ¬ (s.size : Int) < 1 := by omega
  by_cases h1 : 32 < s.size
  · have HE : Hid (nmB s = false) := nmB_f (fun h => by have := h.2.1; omega)
    have z1 : (32 : Int) < (s.size : Int) := by omega
    clear h0 hs
    go_enter Tryz.func18, Tryz.ntmps18
    go_wp2_with fail
    go_ret
    exact ⟨by rw [HE.out]; rfl, rfl⟩
  have z1 : ¬ (32 : Int) < (s.size : Int) := by omega
  have hp : 0 < s.size := by omega
  have zp : (0 : Int) < (s.size : Int) := by omega
  by_cases hd : (48 : Int) ≤ (s[0].toNat : Int) ∧ (s[0].toNat : Int) ≤ 57
  · obtain ⟨d1, d2⟩ := hd
    have HE : Hid (nmB s = false) := nmB_f (fun h => by have := h.2.2.1 hp; unfold dgB at this; rw [decide_eq_true d1, decide_eq_true d2] at this; cases this)
    go_enter Tryz.func18, Tryz.ntmps18
    go_wp2_with fail
    go_ret
    exact ⟨by rw [HE.out]; rfl, rfl⟩
  have HZ : Hid (dgB (s[0].toNat : Int) = false) := (by
    show dgB _ = _
    unfold dgB
    by_cases d1 : (48 : Int) ≤ (s[0].toNat : Int)
    · rw [decide_eq_false (fun d2 => hd ⟨d1, d2⟩), Bool.and_false]
    · rw [decide_eq_false d1, Bool.false_and])
  have HN : Hid ((∀ (j : Nat) (h : j < s.size), nmC (s[j].toNat : Int) = true) → nmB s = true) := fun h => nmB_t ⟨hp, by omega, fun _ => HZ.out, h⟩
  have HM : Hid (∀ (j : Nat) (h : j < s.size), nmC (s[j].toNat : Int) = false → nmB s = false) := fun j h e => nmB_f (fun q => by have := q.2.2.2 j h; rw [e] at this; cases this)
  clear HZ
  go_enter Tryz.func18, Tryz.ntmps18
  by_cases d1 : (48 : Int) ≤ (s[0].toNat : Int)
  · have d2 : ¬ (s[0].toNat : Int) ≤ 57 := fun d2 => hd ⟨d1, d2⟩
    have HX := (show Hid _ from hd)
    clear hd HX
    go_wp2_with fail
    go_loopw [3] (fun t wr => ∃ k : Nat, k ≤ s.size ∧ t = .int .i64 k ∧ wr = w ∧ Hid (∀ (j : Nat) (h : j < s.size), j < k → nmC (s[j].toNat : Int) = true)) (fun t _ => s.size - (intOf t).toNat)
    case atStart => exact ⟨0, by omega, by go_num, rfl, fun j h q => by omega⟩
    case round =>
      obtain ⟨k, hk, rfl, rfl, HI⟩ := hrel
      clear d1 d2
      by_cases hlt : k < s.size
      · have z3 : (0 : Int) ≤ (k : Int) := by omega
        have z4 : (k : Int) < (s.size : Int) := by omega
        have HC : Hid (nmC (s[k].toNat : Int) = (dgB (s[k].toNat : Int) || ltB (s[k].toNat : Int) || (s[k].toNat : Int) == 95)) := rfl
        have HG : Hid (nmC (s[k].toNat : Int) = true → ∀ (j : Nat) (h : j < s.size), j < k + 1 → nmC (s[j].toNat : Int) = true) := fun e j h q => by
          by_cases hj : j < k
          · exact HI.out j h hj
          · obtain rfl : j = k := by omega
            exact e
        have HM2 : Hid (nmC (s[k].toNat : Int) = false → nmB s = false) := HM.out k hlt
        clear HI HN HM
        by_cases r0 : (s[k].toNat : Int) < 48
        · have t0 : ¬ (97 : Int) ≤ (s[k].toNat : Int) := by omega
          have t1 : (s[k].toNat : Int) ≤ 122 := by omega
          have t2 : ¬ (65 : Int) ≤ (s[k].toNat : Int) := by omega
          have t3 : (s[k].toNat : Int) ≤ 90 := by omega
          have t4 : ¬ (48 : Int) ≤ (s[k].toNat : Int) := by omega
          have t5 : (s[k].toNat : Int) ≤ 57 := by omega
          have t6 : ((s[k].toNat : Int) == 95) = false := beq_eq_false_iff_ne.2 (by omega)
          have HV : Hid (nmC (s[k].toNat : Int) = false) := (by show nmC _ = _; rw [HC.out]; unfold dgB ltB; rw [t6]; simp [t0, t1, t2, t3, t4, t5])
          have HE : Hid (nmB s = false) := HM2.out HV.out
          clear HC HG HM2 HV
          go_wp2_with fail
          go_ret
          exact ⟨by rw [HE.out]; rfl, rfl⟩
        by_cases r1 : (s[k].toNat : Int) < 58
        · have t0 : ¬ (97 : Int) ≤ (s[k].toNat : Int) := by omega
          have t1 : (s[k].toNat : Int) ≤ 122 := by omega
          have t2 : ¬ (65 : Int) ≤ (s[k].toNat : Int) := by omega
          have t3 : (s[k].toNat : Int) ≤ 90 := by omega
          have t4 : (48 : Int) ≤ (s[k].toNat : Int) := by omega
          have t5 : (s[k].toNat : Int) ≤ 57 := by omega
          have t6 : ((s[k].toNat : Int) == 95) = false := beq_eq_false_iff_ne.2 (by omega)
          have HV : Hid (nmC (s[k].toNat : Int) = true) := (by show nmC _ = _; rw [HC.out]; unfold dgB ltB; rw [t6]; simp [t0, t1, t2, t3, t4, t5])
          have HI2 : Hid (∀ (j : Nat) (h : j < s.size), j < k + 1 → nmC (s[j].toNat : Int) = true) := HG.out HV.out
          clear HC HG HM2 HV
          go_wp2_with fail
          go_roundw
          case rel => exact ⟨k + 1, by omega, by go_num, trivial, HI2⟩
          case measure => simp [intOf]; omega
        by_cases r2 : (s[k].toNat : Int) < 65
        · have t0 : ¬ (97 : Int) ≤ (s[k].toNat : Int) := by omega
          have t1 : (s[k].toNat : Int) ≤ 122 := by omega
          have t2 : ¬ (65 : Int) ≤ (s[k].toNat : Int) := by omega
          have t3 : (s[k].toNat : Int) ≤ 90 := by omega
          have t4 : (48 : Int) ≤ (s[k].toNat : Int) := by omega
          have t5 : ¬ (s[k].toNat : Int) ≤ 57 := by omega
          have t6 : ((s[k].toNat : Int) == 95) = false := beq_eq_false_iff_ne.2 (by omega)
          have HV : Hid (nmC (s[k].toNat : Int) = false) := (by show nmC _ = _; rw [HC.out]; unfold dgB ltB; rw [t6]; simp [t0, t1, t2, t3, t4, t5])
          have HE : Hid (nmB s = false) := HM2.out HV.out
          clear HC HG HM2 HV
          go_wp2_with fail
          go_ret
          exact ⟨by rw [HE.out]; rfl, rfl⟩
        by_cases r3 : (s[k].toNat : Int) < 91
        · have t0 : ¬ (97 : Int) ≤ (s[k].toNat : Int) := by omega
          have t1 : (s[k].toNat : Int) ≤ 122 := by omega
          have t2 : (65 : Int) ≤ (s[k].toNat : Int) := by omega
          have t3 : (s[k].toNat : Int) ≤ 90 := by omega
          have t4 : (48 : Int) ≤ (s[k].toNat : Int) := by omega
          have t5 : ¬ (s[k].toNat : Int) ≤ 57 := by omega
          have t6 : ((s[k].toNat : Int) == 95) = false := beq_eq_false_iff_ne.2 (by omega)
          have HV : Hid (nmC (s[k].toNat : Int) = true) := (by show nmC _ = _; rw [HC.out]; unfold dgB ltB; rw [t6]; simp [t0, t1, t2, t3, t4, t5])
          have HI2 : Hid (∀ (j : Nat) (h : j < s.size), j < k + 1 → nmC (s[j].toNat : Int) = true) := HG.out HV.out
          clear HC HG HM2 HV
          go_wp2_with fail
          go_roundw
          case rel => exact ⟨k + 1, by omega, by go_num, trivial, HI2⟩
          case measure => simp [intOf]; omega
        by_cases r4 : (s[k].toNat : Int) < 95
        · have t0 : ¬ (97 : Int) ≤ (s[k].toNat : Int) := by omega
          have t1 : (s[k].toNat : Int) ≤ 122 := by omega
          have t2 : (65 : Int) ≤ (s[k].toNat : Int) := by omega
          have t3 : ¬ (s[k].toNat : Int) ≤ 90 := by omega
          have t4 : (48 : Int) ≤ (s[k].toNat : Int) := by omega
          have t5 : ¬ (s[k].toNat : Int) ≤ 57 := by omega
          have t6 : ((s[k].toNat : Int) == 95) = false := beq_eq_false_iff_ne.2 (by omega)
          have HV : Hid (nmC (s[k].toNat : Int) = false) := (by show nmC _ = _; rw [HC.out]; unfold dgB ltB; rw [t6]; simp [t0, t1, t2, t3, t4, t5])
          have HE : Hid (nmB s = false) := HM2.out HV.out
          clear HC HG HM2 HV
          go_wp2_with fail
          go_ret
          exact ⟨by rw [HE.out]; rfl, rfl⟩
        by_cases r5 : (s[k].toNat : Int) < 96
        · have t0 : ¬ (97 : Int) ≤ (s[k].toNat : Int) := by omega
          have t1 : (s[k].toNat : Int) ≤ 122 := by omega
          have t2 : (65 : Int) ≤ (s[k].toNat : Int) := by omega
          have t3 : ¬ (s[k].toNat : Int) ≤ 90 := by omega
          have t4 : (48 : Int) ≤ (s[k].toNat : Int) := by omega
          have t5 : ¬ (s[k].toNat : Int) ≤ 57 := by omega
          have t6 : ((s[k].toNat : Int) == 95) = true := beq_iff_eq.2 (by omega)
          have HV : Hid (nmC (s[k].toNat : Int) = true) := (by show nmC _ = _; rw [HC.out]; unfold dgB ltB; rw [t6]; simp [t0, t1, t2, t3, t4, t5])
          have HI2 : Hid (∀ (j : Nat) (h : j < s.size), j < k + 1 → nmC (s[j].toNat : Int) = true) := HG.out HV.out
          clear HC HG HM2 HV
          go_wp2_with fail
          go_roundw
          case rel => exact ⟨k + 1, by omega, by go_num, trivial, HI2⟩
          case measure => simp [intOf]; omega
        by_cases r6 : (s[k].toNat : Int) < 97
        · have t0 : ¬ (97 : Int) ≤ (s[k].toNat : Int) := by omega
          have t1 : (s[k].toNat : Int) ≤ 122 := by omega
          have t2 : (65 : Int) ≤ (s[k].toNat : Int) := by omega
          have t3 : ¬ (s[k].toNat : Int) ≤ 90 := by omega
          have t4 : (48 : Int) ≤ (s[k].toNat : Int) := by omega
          have t5 : ¬ (s[k].toNat : Int) ≤ 57 := by omega
          have t6 : ((s[k].toNat : Int) == 95) = false := beq_eq_false_iff_ne.2 (by omega)
          have HV : Hid (nmC (s[k].toNat : Int) = false) := (by show nmC _ = _; rw [HC.out]; unfold dgB ltB; rw [t6]; simp [t0, t1, t2, t3, t4, t5])
          have HE : Hid (nmB s = false) := HM2.out HV.out
          clear HC HG HM2 HV
          go_wp2_with fail
          go_ret
          exact ⟨by rw [HE.out]; rfl, rfl⟩
        by_cases r7 : (s[k].toNat : Int) < 123
        · have t0 : (97 : Int) ≤ (s[k].toNat : Int) := by omega
          have t1 : (s[k].toNat : Int) ≤ 122 := by omega
          have t2 : (65 : Int) ≤ (s[k].toNat : Int) := by omega
          have t3 : ¬ (s[k].toNat : Int) ≤ 90 := by omega
          have t4 : (48 : Int) ≤ (s[k].toNat : Int) := by omega
          have t5 : ¬ (s[k].toNat : Int) ≤ 57 := by omega
          have t6 : ((s[k].toNat : Int) == 95) = false := beq_eq_false_iff_ne.2 (by omega)
          have HV : Hid (nmC (s[k].toNat : Int) = true) := (by show nmC _ = _; rw [HC.out]; unfold dgB ltB; rw [t6]; simp [t0, t1, t2, t3, t4, t5])
          have HI2 : Hid (∀ (j : Nat) (h : j < s.size), j < k + 1 → nmC (s[j].toNat : Int) = true) := HG.out HV.out
          clear HC HG HM2 HV
          go_wp2_with fail
          go_roundw
          case rel => exact ⟨k + 1, by omega, by go_num, trivial, HI2⟩
          case measure => simp [intOf]; omega
        have t0 : (97 : Int) ≤ (s[k].toNat : Int) := by omega
        have t1 : ¬ (s[k].toNat : Int) ≤ 122 := by omega
        have t2 : (65 : Int) ≤ (s[k].toNat : Int) := by omega
        have t3 : ¬ (s[k].toNat : Int) ≤ 90 := by omega
        have t4 : (48 : Int) ≤ (s[k].toNat : Int) := by omega
        have t5 : ¬ (s[k].toNat : Int) ≤ 57 := by omega
        have t6 : ((s[k].toNat : Int) == 95) = false := beq_eq_false_iff_ne.2 (by omega)
        have HV : Hid (nmC (s[k].toNat : Int) = false) := (by show nmC _ = _; rw [HC.out]; unfold dgB ltB; rw [t6]; simp [t0, t1, t2, t3, t4, t5])
        have HE : Hid (nmB s = false) := HM2.out HV.out
        clear HC HG HM2 HV
        go_wp2_with fail
        go_ret
        exact ⟨by rw [HE.out]; rfl, rfl⟩
      · obtain rfl : k = s.size := by omega
        have HE : Hid (nmB s = true) := HN.out (fun j h => HI.out j h h)
        clear HN HM HI
        go_wp2_with fail
        go_ret
        exact ⟨by rw [HE.out]; rfl, rfl⟩
  · skip
    have HX := (show Hid _ from hd)
    clear hd HX
    go_wp2_with fail
    go_loopw [3] (fun t wr => ∃ k : Nat, k ≤ s.size ∧ t = .int .i64 k ∧ wr = w ∧ Hid (∀ (j : Nat) (h : j < s.size), j < k → nmC (s[j].toNat : Int) = true)) (fun t _ => s.size - (intOf t).toNat)
    case atStart => exact ⟨0, by omega, by go_num, rfl, fun j h q => by omega⟩
    case round =>
      obtain ⟨k, hk, rfl, rfl, HI⟩ := hrel
      clear d1
      by_cases hlt : k < s.size
      · have z3 : (0 : Int) ≤ (k : Int) := by omega
        have z4 : (k : Int) < (s.size : Int) := by omega
        have HC : Hid (nmC (s[k].toNat : Int) = (dgB (s[k].toNat : Int) || ltB (s[k].toNat : Int) || (s[k].toNat : Int) == 95)) := rfl
        have HG : Hid (nmC (s[k].toNat : Int) = true → ∀ (j : Nat) (h : j < s.size), j < k + 1 → nmC (s[j].toNat : Int) = true) := fun e j h q => by
          by_cases hj : j < k
          · exact HI.out j h hj
          · obtain rfl : j = k := by omega
            exact e
        have HM2 : Hid (nmC (s[k].toNat : Int) = false → nmB s = false) := HM.out k hlt
        clear HI HN HM
        by_cases r0 : (s[k].toNat : Int) < 48
        · have t0 : ¬ (97 : Int) ≤ (s[k].toNat : Int) := by omega
          have t1 : (s[k].toNat : Int) ≤ 122 := by omega
          have t2 : ¬ (65 : Int) ≤ (s[k].toNat : Int) := by omega
          have t3 : (s[k].toNat : Int) ≤ 90 := by omega
          have t4 : ¬ (48 : Int) ≤ (s[k].toNat : Int) := by omega
          have t5 : (s[k].toNat : Int) ≤ 57 := by omega
          have t6 : ((s[k].toNat : Int) == 95) = false := beq_eq_false_iff_ne.2 (by omega)
          have HV : Hid (nmC (s[k].toNat : Int) = false) := (by show nmC _ = _; rw [HC.out]; unfold dgB ltB; rw [t6]; simp [t0, t1, t2, t3, t4, t5])
          have HE : Hid (nmB s = false) := HM2.out HV.out
          clear HC HG HM2 HV
          go_wp2_with fail
          go_ret
          exact ⟨by rw [HE.out]; rfl, rfl⟩
        by_cases r1 : (s[k].toNat : Int) < 58
        · have t0 : ¬ (97 : Int) ≤ (s[k].toNat : Int) := by omega
          have t1 : (s[k].toNat : Int) ≤ 122 := by omega
          have t2 : ¬ (65 : Int) ≤ (s[k].toNat : Int) := by omega
          have t3 : (s[k].toNat : Int) ≤ 90 := by omega
          have t4 : (48 : Int) ≤ (s[k].toNat : Int) := by omega
          have t5 : (s[k].toNat : Int) ≤ 57 := by omega
          have t6 : ((s[k].toNat : Int) == 95) = false := beq_eq_false_iff_ne.2 (by omega)
          have HV : Hid (nmC (s[k].toNat : Int) = true) := (by show nmC _ = _; rw [HC.out]; unfold dgB ltB; rw [t6]; simp [t0, t1, t2, t3, t4, t5])
          have HI2 : Hid (∀ (j : Nat) (h : j < s.size), j < k + 1 → nmC (s[j].toNat : Int) = true) := HG.out HV.out
          clear HC HG HM2 HV
          go_wp2_with fail
          go_roundw
          case rel => exact ⟨k + 1, by omega, by go_num, trivial, HI2⟩
          case measure => simp [intOf]; omega
        by_cases r2 : (s[k].toNat : Int) < 65
        · have t0 : ¬ (97 : Int) ≤ (s[k].toNat : Int) := by omega
          have t1 : (s[k].toNat : Int) ≤ 122 := by omega
          have t2 : ¬ (65 : Int) ≤ (s[k].toNat : Int) := by omega
          have t3 : (s[k].toNat : Int) ≤ 90 := by omega
          have t4 : (48 : Int) ≤ (s[k].toNat : Int) := by omega
          have t5 : ¬ (s[k].toNat : Int) ≤ 57 := by omega
          have t6 : ((s[k].toNat : Int) == 95) = false := beq_eq_false_iff_ne.2 (by omega)
          have HV : Hid (nmC (s[k].toNat : Int) = false) := (by show nmC _ = _; rw [HC.out]; unfold dgB ltB; rw [t6]; simp [t0, t1, t2, t3, t4, t5])
          have HE : Hid (nmB s = false) := HM2.out HV.out
          clear HC HG HM2 HV
          go_wp2_with fail
          go_ret
          exact ⟨by rw [HE.out]; rfl, rfl⟩
        by_cases r3 : (s[k].toNat : Int) < 91
        · have t0 : ¬ (97 : Int) ≤ (s[k].toNat : Int) := by omega
          have t1 : (s[k].toNat : Int) ≤ 122 := by omega
          have t2 : (65 : Int) ≤ (s[k].toNat : Int) := by omega
          have t3 : (s[k].toNat : Int) ≤ 90 := by omega
          have t4 : (48 : Int) ≤ (s[k].toNat : Int) := by omega
          have t5 : ¬ (s[k].toNat : Int) ≤ 57 := by omega
          have t6 : ((s[k].toNat : Int) == 95) = false := beq_eq_false_iff_ne.2 (by omega)
          have HV : Hid (nmC (s[k].toNat : Int) = true) := (by show nmC _ = _; rw [HC.out]; unfold dgB ltB; rw [t6]; simp [t0, t1, t2, t3, t4, t5])
          have HI2 : Hid (∀ (j : Nat) (h : j < s.size), j < k + 1 → nmC (s[j].toNat : Int) = true) := HG.out HV.out
          clear HC HG HM2 HV
          go_wp2_with fail
          go_roundw
          case rel => exact ⟨k + 1, by omega, by go_num, trivial, HI2⟩
          case measure => simp [intOf]; omega
        by_cases r4 : (s[k].toNat : Int) < 95
        · have t0 : ¬ (97 : Int) ≤ (s[k].toNat : Int) := by omega
          have t1 : (s[k].toNat : Int) ≤ 122 := by omega
          have t2 : (65 : Int) ≤ (s[k].toNat : Int) := by omega
          have t3 : ¬ (s[k].toNat : Int) ≤ 90 := by omega
          have t4 : (48 : Int) ≤ (s[k].toNat : Int) := by omega
          have t5 : ¬ (s[k].toNat : Int) ≤ 57 := by omega
          have t6 : ((s[k].toNat : Int) == 95) = false := beq_eq_false_iff_ne.2 (by omega)
          have HV : Hid (nmC (s[k].toNat : Int) = false) := (by show nmC _ = _; rw [HC.out]; unfold dgB ltB; rw [t6]; simp [t0, t1, t2, t3, t4, t5])
          have HE : Hid (nmB s = false) := HM2.out HV.out
          clear HC HG HM2 HV
          go_wp2_with fail
          go_ret
          exact ⟨by rw [HE.out]; rfl, rfl⟩
        by_cases r5 : (s[k].toNat : Int) < 96
        · have t0 : ¬ (97 : Int) ≤ (s[k].toNat : Int) := by omega
          have t1 : (s[k].toNat : Int) ≤ 122 := by omega
          have t2 : (65 : Int) ≤ (s[k].toNat : Int) := by omega
          have t3 : ¬ (s[k].toNat : Int) ≤ 90 := by omega
          have t4 : (48 : Int) ≤ (s[k].toNat : Int) := by omega
          have t5 : ¬ (s[k].toNat : Int) ≤ 57 := by omega
          have t6 : ((s[k].toNat : Int) == 95) = true := beq_iff_eq.2 (by omega)
          have HV : Hid (nmC (s[k].toNat : Int) = true) := (by show nmC _ = _; rw [HC.out]; unfold dgB ltB; rw [t6]; simp [t0, t1, t2, t3, t4, t5])
          have HI2 : Hid (∀ (j : Nat) (h : j < s.size), j < k + 1 → nmC (s[j].toNat : Int) = true) := HG.out HV.out
          clear HC HG HM2 HV
          go_wp2_with fail
          go_roundw
          case rel => exact ⟨k + 1, by omega, by go_num, trivial, HI2⟩
          case measure => simp [intOf]; omega
        by_cases r6 : (s[k].toNat : Int) < 97
        · have t0 : ¬ (97 : Int) ≤ (s[k].toNat : Int) := by omega
          have t1 : (s[k].toNat : Int) ≤ 122 := by omega
          have t2 : (65 : Int) ≤ (s[k].toNat : Int) := by omega
          have t3 : ¬ (s[k].toNat : Int) ≤ 90 := by omega
          have t4 : (48 : Int) ≤ (s[k].toNat : Int) := by omega
          have t5 : ¬ (s[k].toNat : Int) ≤ 57 := by omega
          have t6 : ((s[k].toNat : Int) == 95) = false := beq_eq_false_iff_ne.2 (by omega)
          have HV : Hid (nmC (s[k].toNat : Int) = false) := (by show nmC _ = _; rw [HC.out]; unfold dgB ltB; rw [t6]; simp [t0, t1, t2, t3, t4, t5])
          have HE : Hid (nmB s = false) := HM2.out HV.out
          clear HC HG HM2 HV
          go_wp2_with fail
          go_ret
          exact ⟨by rw [HE.out]; rfl, rfl⟩
        by_cases r7 : (s[k].toNat : Int) < 123
        · have t0 : (97 : Int) ≤ (s[k].toNat : Int) := by omega
          have t1 : (s[k].toNat : Int) ≤ 122 := by omega
          have t2 : (65 : Int) ≤ (s[k].toNat : Int) := by omega
          have t3 : ¬ (s[k].toNat : Int) ≤ 90 := by omega
          have t4 : (48 : Int) ≤ (s[k].toNat : Int) := by omega
          have t5 : ¬ (s[k].toNat : Int) ≤ 57 := by omega
          have t6 : ((s[k].toNat : Int) == 95) = false := beq_eq_false_iff_ne.2 (by omega)
          have HV : Hid (nmC (s[k].toNat : Int) = true) := (by show nmC _ = _; rw [HC.out]; unfold dgB ltB; rw [t6]; simp [t0, t1, t2, t3, t4, t5])
          have HI2 : Hid (∀ (j : Nat) (h : j < s.size), j < k + 1 → nmC (s[j].toNat : Int) = true) := HG.out HV.out
          clear HC HG HM2 HV
          go_wp2_with fail
          go_roundw
          case rel => exact ⟨k + 1, by omega, by go_num, trivial, HI2⟩
          case measure => simp [intOf]; omega
        have t0 : (97 : Int) ≤ (s[k].toNat : Int) := by omega
        have t1 : ¬ (s[k].toNat : Int) ≤ 122 := by omega
        have t2 : (65 : Int) ≤ (s[k].toNat : Int) := by omega
        have t3 : ¬ (s[k].toNat : Int) ≤ 90 := by omega
        have t4 : (48 : Int) ≤ (s[k].toNat : Int) := by omega
        have t5 : ¬ (s[k].toNat : Int) ≤ 57 := by omega
        have t6 : ((s[k].toNat : Int) == 95) = false := beq_eq_false_iff_ne.2 (by omega)
        have HV : Hid (nmC (s[k].toNat : Int) = false) := (by show nmC _ = _; rw [HC.out]; unfold dgB ltB; rw [t6]; simp [t0, t1, t2, t3, t4, t5])
        have HE : Hid (nmB s = false) := HM2.out HV.out
        clear HC HG HM2 HV
        go_wp2_with fail
        go_ret
        exact ⟨by rw [HE.out]; rfl, rfl⟩
      · obtain rfl : k = s.size := by omega
        have HE : Hid (nmB s = true) := HN.out (fun j h => HI.out j h h)
        clear HN HM HI
        go_wp2_with fail
        go_ret
        exact ⟨by rw [HE.out]; rfl, rfl⟩

set_option maxRecDepth 100000 in
set_option maxHeartbeats 4000000 in
theorem templateR_any (s : ByteArray) (hs : s.size ≤ 140737488355328) (w : World) : Calls Tryz.prog 81 #[.string s] w fun e w' => e = .returned (.bool (tmB s)) ∧ w' = w := by
  by_cases h1 : 255 < s.size
  · have HE : Hid (tmB s = false) := (by show tmB s = _; unfold tmB; rw [if_neg (by omega)])
    have z1 : (255 : Int) < (s.size : Int) := by omega
    clear hs
    go_enter Tryz.func81, Tryz.ntmps81
    go_wp2_with fail
    go_ret
    exact ⟨by rw [HE.out]; rfl, rfl⟩
  have z1 : ¬ (255 : Int) < (s.size : Int) := by omega
  have HB : Hid (tmB s = tmGo s s.size 0) := (by show tmB s = _; unfold tmB; rw [if_pos (by omega)])
  go_enter Tryz.func81, Tryz.ntmps81
  go_wp2_with fail
  go_loopw [3] (fun t wr => ∃ k : Nat, k ≤ s.size ∧ t = .int .i64 k ∧ wr = w ∧ Hid (∃ m, s.size ≤ k + m ∧ tmB s = tmGo s m k)) (fun t _ => s.size - (intOf t).toNat)
  case atStart => exact ⟨0, by omega, by go_num, rfl, ⟨s.size, by omega, HB.out⟩⟩
  case round =>
    obtain ⟨k, hk, rfl, rfl, HI⟩ := hrel
    clear HB
    obtain ⟨m, hm, HJ⟩ := HI.out
    have HJ := (show Hid _ from HJ)
    clear HI
    by_cases hlt : k < s.size
    · have z3 : (0 : Int) ≤ (k : Int) := by omega
      have z4 : (k : Int) < (s.size : Int) := by omega
      by_cases h37 : (s[k].toNat : Int) = 37
      · have e37 : ((s[k].toNat : Int) == 37) = true := beq_iff_eq.2 h37
        by_cases h2 : k + 1 < s.size
        · have z5 : ((k : Int) + 1 == (s.size : Int)) = false := beq_eq_false_iff_ne.2 (by omega)
          have z6 : (k : Int) + 1 < (s.size : Int) := by omega
          by_cases g37 : (s[k + 1].toNat : Int) = 37
          · have f37 : ((s[k + 1].toNat : Int) != 37) = false := by rw [bne, beq_iff_eq.2 g37]; rfl
            have HK : Hid (∃ m2, s.size ≤ k + 2 + m2 ∧ tmB s = tmGo s m2 (k + 2)) := by
              obtain ⟨m2, u, v⟩ := tm_two hlt hm h37 h2 (.inl g37)
              exact ⟨m2, u, HJ.out.trans v⟩
            clear HJ h37 g37
            go_wp2_with fail
            go_roundw
            case rel => exact ⟨k + 2, by omega, by go_num, trivial, HK⟩
            case measure => simp [intOf]; omega
          · have f37 : ((s[k + 1].toNat : Int) != 37) = true := by rw [bne, beq_eq_false_iff_ne.2 g37]; rfl
            by_cases d1 : (s[k + 1].toNat : Int) < 48
            · have HE : Hid (tmB s = false) := HJ.out.trans (tm_bad hlt hm h37 h2 g37 (by unfold dgB; rw [decide_eq_false (by omega)]; rfl))
              clear HJ h37 g37
              go_wp2_with fail
              go_ret
              exact ⟨by rw [HE.out]; rfl, rfl⟩
            · by_cases d2 : 57 < (s[k + 1].toNat : Int)
              · have HE : Hid (tmB s = false) := HJ.out.trans (tm_bad hlt hm h37 h2 g37 (by unfold dgB; rw [decide_eq_false (p := (s[k + 1].toNat : Int) ≤ 57) (by omega), Bool.and_false]))
                clear HJ h37 g37
                go_wp2_with fail
                go_ret
                exact ⟨by rw [HE.out]; rfl, rfl⟩
              · have HK : Hid (∃ m2, s.size ≤ k + 2 + m2 ∧ tmB s = tmGo s m2 (k + 2)) := by
                  obtain ⟨m2, u, v⟩ := tm_two hlt hm h37 h2 (.inr (by unfold dgB; rw [decide_eq_true (by omega), decide_eq_true (by omega)]; rfl))
                  exact ⟨m2, u, HJ.out.trans v⟩
                clear HJ h37 g37
                go_wp2_with fail
                go_roundw
                case rel => exact ⟨k + 2, by omega, by go_num, trivial, HK⟩
                case measure => simp [intOf]; omega
        · have z5 : ((k : Int) + 1 == (s.size : Int)) = true := beq_iff_eq.2 (by omega)
          have HE : Hid (tmB s = false) := HJ.out.trans (tm_cut hlt hm h37 h2)
          clear HJ h37
          go_wp2_with fail
          go_ret
          exact ⟨by rw [HE.out]; rfl, rfl⟩
      · have e37 : ((s[k].toNat : Int) == 37) = false := beq_eq_false_iff_ne.2 h37
        have HK : Hid (∃ m2, s.size ≤ k + 1 + m2 ∧ tmB s = tmGo s m2 (k + 1)) := by
          obtain ⟨m2, u, v⟩ := tm_plain hlt hm h37
          exact ⟨m2, u, HJ.out.trans v⟩
        clear HJ h37
        go_wp2_with fail
        go_roundw
        case rel => exact ⟨k + 1, by omega, by go_num, trivial, HK⟩
        case measure => simp [intOf]; omega
    · obtain rfl : k = s.size := by omega
      have HE : Hid (tmB s = true) := HJ.out.trans (tm_end s m _ (by omega))
      clear HJ
      go_wp2_with fail
      go_ret
      exact ⟨by rw [HE.out]; rfl, rfl⟩
end Go.Proofs.YtppggnmlbcdegabGreat.T

namespace Go.Proofs.YtppggnmlbcdegabGreat.T
open Go.RowKit
theorem below_two (w : World) (o p : Obj) : Below w.heap.size w ((w.alloc o).alloc p) := by
  have h := below_box w o
  exact h.alloc h.size _

set_option maxRecDepth 100000 in
set_option maxHeartbeats 8000000 in
theorem fieldR_4 (nn : Int) (tx : ByteArray) (a b c d : Int) (_hs : tx.size ≤ 140737488355328) (w : World) : Calls Tryz.prog 72 #[.agg #[.int .i64 4, .int .i64 nn, .string tx, .int .u64 a, .int .u64 b, .int .u64 c, .int .u64 d]] w fun e w' => e = .returned (.bool (txF 4 tx && nuF 4 nn && seF 4 a b c d)) ∧ Below w.heap.size w w' := by
  have sq := seE_zero 4 a b c d (by decide)
  have hq := set_neq a b c d 0 0 0 0
  cases hz : seE a b c d 0 0 0 0 with
  | false =>
    have HF : Hid ((txF 4 tx && nuF 4 nn && seF 4 a b c d) = false) := (by show (_ && _) = _; rw [← sq, hz, Bool.and_false])
    rw [hz] at hq
    clear sq hz
    go_enter Tryz.func72, Tryz.ntmps72
    go_wp2_with fail
    go_ret
    exact ⟨by rw [HF.out]; rfl, below_two _ _ _⟩
  | true =>
    have hse : seF 4 a b c d = true := by rw [← sq, hz]
    rw [hz] at hq
    clear sq hz
    have HU : Hid (nuF 4 nn = decide (nn = 0)) := rfl
    by_cases n1 : nn < 0
    · have HF : Hid ((txF 4 tx && nuF 4 nn && seF 4 a b c d) = false) := (by show (_ && _) = _; rw [hse, HU.out, decide_eq_false (by omega), Bool.and_true, Bool.and_false])
      clear HU hse
      go_enter Tryz.func72, Tryz.ntmps72
      go_wp2_with fail
      go_ret
      exact ⟨by rw [HF.out]; rfl, below_two _ _ _⟩
    by_cases n2 : 50 < nn
    · have HF : Hid ((txF 4 tx && nuF 4 nn && seF 4 a b c d) = false) := (by show (_ && _) = _; rw [hse, HU.out, decide_eq_false (by omega), Bool.and_true, Bool.and_false])
      clear HU hse
      go_enter Tryz.func72, Tryz.ntmps72
      go_wp2_with fail
      go_ret
      exact ⟨by rw [HF.out]; rfl, below_two _ _ _⟩
    by_cases n3 : nn = 0
    rotate_left
    · have HF : Hid ((txF 4 tx && nuF 4 nn && seF 4 a b c d) = false) := (by show (_ && _) = _; rw [hse, HU.out, decide_eq_false n3, Bool.and_true, Bool.and_false])
      have f3 : (nn == 0) = false := beq_eq_false_iff_ne.2 n3
      clear HU hse n3
      go_enter Tryz.func72, Tryz.ntmps72
      go_wp2_with fail
      go_ret
      exact ⟨by rw [HF.out]; rfl, below_two _ _ _⟩
    have f3 : (nn == 0) = true := beq_iff_eq.2 n3
    have HF : Hid ((txF 4 tx && nuF 4 nn && seF 4 a b c d) = txF 4 tx) := (by show (_ && _) = _; rw [hse, HU.out, decide_eq_true (by omega), Bool.and_true, Bool.and_true])
    clear hse HU n3
    by_cases q0 : (tx.size : Int) < 1
    · have HG : Hid (txF 4 tx = false) := (by show txF 4 tx = _; unfold txF; rw [if_pos rfl, decide_eq_false (by omega)])
      go_enter Tryz.func72, Tryz.ntmps72
      go_wp2_with fail
      go_ret
      exact ⟨by rw [HF.out, HG.out]; rfl, below_two _ _ _⟩
    · have HG : Hid (txF 4 tx = decide ((tx.size : Int) ≤ 255)) := (by
        show txF 4 tx = _
        unfold txF
        rw [if_pos rfl]
        by_cases q : tx.size ≤ 255
        · rw [decide_eq_true (by omega), decide_eq_true (by omega)]
        · rw [decide_eq_false (by omega), decide_eq_false (by omega)])
      go_enter Tryz.func72, Tryz.ntmps72
      go_wp2_with fail
      go_ret
      exact ⟨by rw [HF.out, HG.out]; rfl, below_two _ _ _⟩

set_option maxRecDepth 100000 in
set_option maxHeartbeats 8000000 in
theorem fieldR_6 (nn : Int) (tx : ByteArray) (a b c d : Int) (hs : tx.size ≤ 140737488355328) (w : World) : Calls Tryz.prog 72 #[.agg #[.int .i64 6, .int .i64 nn, .string tx, .int .u64 a, .int .u64 b, .int .u64 c, .int .u64 d]] w fun e w' => e = .returned (.bool (txF 6 tx && nuF 6 nn && seF 6 a b c d)) ∧ Below w.heap.size w w' := by
  have sq := seE_zero 6 a b c d (by decide)
  have hq := set_neq a b c d 0 0 0 0
  cases hz : seE a b c d 0 0 0 0 with
  | false =>
    have HF : Hid ((txF 6 tx && nuF 6 nn && seF 6 a b c d) = false) := (by show (_ && _) = _; rw [← sq, hz, Bool.and_false])
    rw [hz] at hq
    clear sq hz
    go_enter Tryz.func72, Tryz.ntmps72
    go_wp2_with fail
    go_ret
    exact ⟨by rw [HF.out]; rfl, below_two _ _ _⟩
  | true =>
    have hse : seF 6 a b c d = true := by rw [← sq, hz]
    rw [hz] at hq
    clear sq hz
    have HU : Hid (nuF 6 nn = decide (nn = 0)) := rfl
    by_cases n1 : nn < 0
    · have HF : Hid ((txF 6 tx && nuF 6 nn && seF 6 a b c d) = false) := (by show (_ && _) = _; rw [hse, HU.out, decide_eq_false (by omega), Bool.and_true, Bool.and_false])
      clear HU hse
      go_enter Tryz.func72, Tryz.ntmps72
      go_wp2_with fail
      go_ret
      exact ⟨by rw [HF.out]; rfl, below_two _ _ _⟩
    by_cases n2 : 50 < nn
    · have HF : Hid ((txF 6 tx && nuF 6 nn && seF 6 a b c d) = false) := (by show (_ && _) = _; rw [hse, HU.out, decide_eq_false (by omega), Bool.and_true, Bool.and_false])
      clear HU hse
      go_enter Tryz.func72, Tryz.ntmps72
      go_wp2_with fail
      go_ret
      exact ⟨by rw [HF.out]; rfl, below_two _ _ _⟩
    by_cases n3 : nn = 0
    rotate_left
    · have HF : Hid ((txF 6 tx && nuF 6 nn && seF 6 a b c d) = false) := (by show (_ && _) = _; rw [hse, HU.out, decide_eq_false n3, Bool.and_true, Bool.and_false])
      have f3 : (nn == 0) = false := beq_eq_false_iff_ne.2 n3
      clear HU hse n3
      go_enter Tryz.func72, Tryz.ntmps72
      go_wp2_with fail
      go_ret
      exact ⟨by rw [HF.out]; rfl, below_two _ _ _⟩
    have f3 : (nn == 0) = true := beq_iff_eq.2 n3
    have HF : Hid ((txF 6 tx && nuF 6 nn && seF 6 a b c d) = txF 6 tx) := (by show (_ && _) = _; rw [hse, HU.out, decide_eq_true (by omega), Bool.and_true, Bool.and_true])
    clear hse HU n3
    have HN : Hid (∀ w, Calls Tryz.prog 18 #[.string tx] w fun e w' => e = .returned (.bool (nmB tx)) ∧ w' = w) := fun w => nameR_any tx hs w
    have HG : Hid (txF 6 tx = nmB tx) := rfl
    go_enter Tryz.func72, Tryz.ntmps72
    go_wp2_with fail
    refine (HN.out _).mono ?_
    rintro e w2 ⟨rfl, rfl⟩
    clear HN
    go_wp2_with fail
    go_ret
    exact ⟨by rw [HF.out, HG.out]; rfl, below_two _ _ _⟩

set_option maxRecDepth 100000 in
set_option maxHeartbeats 8000000 in
theorem fieldR_19 (nn : Int) (tx : ByteArray) (a b c d : Int) (hs : tx.size ≤ 140737488355328) (w : World) : Calls Tryz.prog 72 #[.agg #[.int .i64 19, .int .i64 nn, .string tx, .int .u64 a, .int .u64 b, .int .u64 c, .int .u64 d]] w fun e w' => e = .returned (.bool (txF 19 tx && nuF 19 nn && seF 19 a b c d)) ∧ Below w.heap.size w w' := by
  have sq := seE_zero 19 a b c d (by decide)
  have hq := set_neq a b c d 0 0 0 0
  cases hz : seE a b c d 0 0 0 0 with
  | false =>
    have HF : Hid ((txF 19 tx && nuF 19 nn && seF 19 a b c d) = false) := (by show (_ && _) = _; rw [← sq, hz, Bool.and_false])
    rw [hz] at hq
    clear sq hz
    go_enter Tryz.func72, Tryz.ntmps72
    go_wp2_with fail
    go_ret
    exact ⟨by rw [HF.out]; rfl, below_two _ _ _⟩
  | true =>
    have hse : seF 19 a b c d = true := by rw [← sq, hz]
    rw [hz] at hq
    clear sq hz
    have HU : Hid (nuF 19 nn = decide (nn = 0)) := rfl
    by_cases n1 : nn < 0
    · have HF : Hid ((txF 19 tx && nuF 19 nn && seF 19 a b c d) = false) := (by show (_ && _) = _; rw [hse, HU.out, decide_eq_false (by omega), Bool.and_true, Bool.and_false])
      clear HU hse
      go_enter Tryz.func72, Tryz.ntmps72
      go_wp2_with fail
      go_ret
      exact ⟨by rw [HF.out]; rfl, below_two _ _ _⟩
    by_cases n2 : 50 < nn
    · have HF : Hid ((txF 19 tx && nuF 19 nn && seF 19 a b c d) = false) := (by show (_ && _) = _; rw [hse, HU.out, decide_eq_false (by omega), Bool.and_true, Bool.and_false])
      clear HU hse
      go_enter Tryz.func72, Tryz.ntmps72
      go_wp2_with fail
      go_ret
      exact ⟨by rw [HF.out]; rfl, below_two _ _ _⟩
    by_cases n3 : nn = 0
    rotate_left
    · have HF : Hid ((txF 19 tx && nuF 19 nn && seF 19 a b c d) = false) := (by show (_ && _) = _; rw [hse, HU.out, decide_eq_false n3, Bool.and_true, Bool.and_false])
      have f3 : (nn == 0) = false := beq_eq_false_iff_ne.2 n3
      clear HU hse n3
      go_enter Tryz.func72, Tryz.ntmps72
      go_wp2_with fail
      go_ret
      exact ⟨by rw [HF.out]; rfl, below_two _ _ _⟩
    have f3 : (nn == 0) = true := beq_iff_eq.2 n3
    have HF : Hid ((txF 19 tx && nuF 19 nn && seF 19 a b c d) = txF 19 tx) := (by show (_ && _) = _; rw [hse, HU.out, decide_eq_true (by omega), Bool.and_true, Bool.and_true])
    clear hse HU n3
    by_cases q0 : tx.size = 0
    · have HG : Hid (txF 19 tx = true) := (by show txF 19 tx = _; unfold txF; rw [if_neg (by decide), if_neg (by decide), if_pos rfl, decide_eq_true q0]; rfl)
      have t0 := emp_t q0
      clear q0
      go_enter Tryz.func72, Tryz.ntmps72
      go_wp2_with fail
      go_ret
      exact ⟨by rw [HF.out, HG.out]; rfl, below_two _ _ _⟩
    · have HG : Hid (txF 19 tx = nmB tx) := (by show txF 19 tx = _; unfold txF; rw [if_neg (by decide), if_neg (by decide), if_pos rfl, decide_eq_false q0]; rfl)
      have t0 := emp_f q0
      have HN : Hid (∀ w, Calls Tryz.prog 18 #[.string tx] w fun e w' => e = .returned (.bool (nmB tx)) ∧ w' = w) := fun w => nameR_any tx hs w
      clear q0
      go_enter Tryz.func72, Tryz.ntmps72
      go_wp2_with fail
      refine (HN.out _).mono ?_
      rintro e w2 ⟨rfl, rfl⟩
      clear HN
      go_wp2_with fail
      go_ret
      exact ⟨by rw [HF.out, HG.out]; rfl, below_two _ _ _⟩

set_option maxRecDepth 100000 in
set_option maxHeartbeats 8000000 in
theorem fieldR_22 (nn : Int) (tx : ByteArray) (a b c d : Int) (hs : tx.size ≤ 140737488355328) (w : World) : Calls Tryz.prog 72 #[.agg #[.int .i64 22, .int .i64 nn, .string tx, .int .u64 a, .int .u64 b, .int .u64 c, .int .u64 d]] w fun e w' => e = .returned (.bool (txF 22 tx && nuF 22 nn && seF 22 a b c d)) ∧ Below w.heap.size w w' := by
  have sq := seE_zero 22 a b c d (by decide)
  have hq := set_neq a b c d 0 0 0 0
  cases hz : seE a b c d 0 0 0 0 with
  | false =>
    have HF : Hid ((txF 22 tx && nuF 22 nn && seF 22 a b c d) = false) := (by show (_ && _) = _; rw [← sq, hz, Bool.and_false])
    rw [hz] at hq
    clear sq hz
    go_enter Tryz.func72, Tryz.ntmps72
    go_wp2_with fail
    go_ret
    exact ⟨by rw [HF.out]; rfl, below_two _ _ _⟩
  | true =>
    have hse : seF 22 a b c d = true := by rw [← sq, hz]
    rw [hz] at hq
    clear sq hz
    have HU : Hid (nuF 22 nn = decide (nn = 0)) := rfl
    by_cases n1 : nn < 0
    · have HF : Hid ((txF 22 tx && nuF 22 nn && seF 22 a b c d) = false) := (by show (_ && _) = _; rw [hse, HU.out, decide_eq_false (by omega), Bool.and_true, Bool.and_false])
      clear HU hse
      go_enter Tryz.func72, Tryz.ntmps72
      go_wp2_with fail
      go_ret
      exact ⟨by rw [HF.out]; rfl, below_two _ _ _⟩
    by_cases n2 : 50 < nn
    · have HF : Hid ((txF 22 tx && nuF 22 nn && seF 22 a b c d) = false) := (by show (_ && _) = _; rw [hse, HU.out, decide_eq_false (by omega), Bool.and_true, Bool.and_false])
      clear HU hse
      go_enter Tryz.func72, Tryz.ntmps72
      go_wp2_with fail
      go_ret
      exact ⟨by rw [HF.out]; rfl, below_two _ _ _⟩
    by_cases n3 : nn = 0
    rotate_left
    · have HF : Hid ((txF 22 tx && nuF 22 nn && seF 22 a b c d) = false) := (by show (_ && _) = _; rw [hse, HU.out, decide_eq_false n3, Bool.and_true, Bool.and_false])
      have f3 : (nn == 0) = false := beq_eq_false_iff_ne.2 n3
      clear HU hse n3
      go_enter Tryz.func72, Tryz.ntmps72
      go_wp2_with fail
      go_ret
      exact ⟨by rw [HF.out]; rfl, below_two _ _ _⟩
    have f3 : (nn == 0) = true := beq_iff_eq.2 n3
    have HF : Hid ((txF 22 tx && nuF 22 nn && seF 22 a b c d) = txF 22 tx) := (by show (_ && _) = _; rw [hse, HU.out, decide_eq_true (by omega), Bool.and_true, Bool.and_true])
    clear hse HU n3
    have HN : Hid (∀ w, Calls Tryz.prog 81 #[.string tx] w fun e w' => e = .returned (.bool (tmB tx)) ∧ w' = w) := fun w => templateR_any tx hs w
    have HG : Hid (txF 22 tx = tmB tx) := rfl
    go_enter Tryz.func72, Tryz.ntmps72
    go_wp2_with fail
    refine (HN.out _).mono ?_
    rintro e w2 ⟨rfl, rfl⟩
    clear HN
    go_wp2_with fail
    go_ret
    exact ⟨by rw [HF.out, HG.out]; rfl, below_two _ _ _⟩

set_option maxRecDepth 100000 in
set_option maxHeartbeats 8000000 in
theorem fieldR_5 (nn : Int) (tx : ByteArray) (a b c d : Int) (_hs : tx.size ≤ 140737488355328) (w : World) : Calls Tryz.prog 72 #[.agg #[.int .i64 5, .int .i64 nn, .string tx, .int .u64 a, .int .u64 b, .int .u64 c, .int .u64 d]] w fun e w' => e = .returned (.bool (txF 5 tx && nuF 5 nn && seF 5 a b c d)) ∧ Below w.heap.size w w' := by
  have hse : seF 5 a b c d = true := rfl
  have HU : Hid (nuF 5 nn = decide (nn = 0)) := rfl
  by_cases n1 : nn < 0
  · have HF : Hid ((txF 5 tx && nuF 5 nn && seF 5 a b c d) = false) := (by show (_ && _) = _; rw [hse, HU.out, decide_eq_false (by omega), Bool.and_true, Bool.and_false])
    clear HU hse
    go_enter Tryz.func72, Tryz.ntmps72
    go_wp2_with fail
    go_ret
    exact ⟨by rw [HF.out]; rfl, below_two _ _ _⟩
  by_cases n2 : 50 < nn
  · have HF : Hid ((txF 5 tx && nuF 5 nn && seF 5 a b c d) = false) := (by show (_ && _) = _; rw [hse, HU.out, decide_eq_false (by omega), Bool.and_true, Bool.and_false])
    clear HU hse
    go_enter Tryz.func72, Tryz.ntmps72
    go_wp2_with fail
    go_ret
    exact ⟨by rw [HF.out]; rfl, below_two _ _ _⟩
  by_cases n3 : nn = 0
  rotate_left
  · have HF : Hid ((txF 5 tx && nuF 5 nn && seF 5 a b c d) = false) := (by show (_ && _) = _; rw [hse, HU.out, decide_eq_false n3, Bool.and_true, Bool.and_false])
    have f3 : (nn == 0) = false := beq_eq_false_iff_ne.2 n3
    clear HU hse n3
    go_enter Tryz.func72, Tryz.ntmps72
    go_wp2_with fail
    go_ret
    exact ⟨by rw [HF.out]; rfl, below_two _ _ _⟩
  have f3 : (nn == 0) = true := beq_iff_eq.2 n3
  have HF : Hid ((txF 5 tx && nuF 5 nn && seF 5 a b c d) = txF 5 tx) := (by show (_ && _) = _; rw [hse, HU.out, decide_eq_true (by omega), Bool.and_true, Bool.and_true])
  clear hse HU n3
  have HT : Hid (txF 5 tx = decide (tx.size = 0)) := rfl
  by_cases q0 : tx.size = 0
  · have HG : Hid (txF 5 tx = true) := (by show txF _ tx = _; rw [HT.out, decide_eq_true q0])
    have t0 := emp_t q0
    clear q0
    go_enter Tryz.func72, Tryz.ntmps72
    go_wp2_with fail
    go_ret
    exact ⟨by rw [HF.out, HG.out]; rfl, below_two _ _ _⟩
  · have HG : Hid (txF 5 tx = false) := (by show txF _ tx = _; rw [HT.out, decide_eq_false q0])
    have t0 := emp_f q0
    clear q0
    go_enter Tryz.func72, Tryz.ntmps72
    go_wp2_with fail
    go_ret
    exact ⟨by rw [HF.out, HG.out]; rfl, below_two _ _ _⟩

set_option maxRecDepth 100000 in
set_option maxHeartbeats 8000000 in
theorem fieldR_14 (nn : Int) (tx : ByteArray) (a b c d : Int) (_hs : tx.size ≤ 140737488355328) (w : World) : Calls Tryz.prog 72 #[.agg #[.int .i64 14, .int .i64 nn, .string tx, .int .u64 a, .int .u64 b, .int .u64 c, .int .u64 d]] w fun e w' => e = .returned (.bool (txF 14 tx && nuF 14 nn && seF 14 a b c d)) ∧ Below w.heap.size w w' := by
  have sq := seE_zero 14 a b c d (by decide)
  have hq := set_neq a b c d 0 0 0 0
  cases hz : seE a b c d 0 0 0 0 with
  | false =>
    have HF : Hid ((txF 14 tx && nuF 14 nn && seF 14 a b c d) = false) := (by show (_ && _) = _; rw [← sq, hz, Bool.and_false])
    rw [hz] at hq
    clear sq hz
    go_enter Tryz.func72, Tryz.ntmps72
    go_wp2_with fail
    go_ret
    exact ⟨by rw [HF.out]; rfl, below_two _ _ _⟩
  | true =>
    have hse : seF 14 a b c d = true := by rw [← sq, hz]
    rw [hz] at hq
    clear sq hz
    have HU : Hid (nuF 14 nn = decide (0 ≤ nn ∧ nn ≤ 50)) := rfl
    by_cases n1 : nn < 0
    · have HF : Hid ((txF 14 tx && nuF 14 nn && seF 14 a b c d) = false) := (by show (_ && _) = _; rw [hse, HU.out, decide_eq_false (by omega), Bool.and_true, Bool.and_false])
      clear HU hse
      go_enter Tryz.func72, Tryz.ntmps72
      go_wp2_with fail
      go_ret
      exact ⟨by rw [HF.out]; rfl, below_two _ _ _⟩
    by_cases n2 : 50 < nn
    · have HF : Hid ((txF 14 tx && nuF 14 nn && seF 14 a b c d) = false) := (by show (_ && _) = _; rw [hse, HU.out, decide_eq_false (by omega), Bool.and_true, Bool.and_false])
      clear HU hse
      go_enter Tryz.func72, Tryz.ntmps72
      go_wp2_with fail
      go_ret
      exact ⟨by rw [HF.out]; rfl, below_two _ _ _⟩
    have HF : Hid ((txF 14 tx && nuF 14 nn && seF 14 a b c d) = txF 14 tx) := (by show (_ && _) = _; rw [hse, HU.out, decide_eq_true (by omega), Bool.and_true, Bool.and_true])
    clear hse HU
    have HT : Hid (txF 14 tx = decide (tx.size = 0)) := rfl
    by_cases q0 : tx.size = 0
    · have HG : Hid (txF 14 tx = true) := (by show txF _ tx = _; rw [HT.out, decide_eq_true q0])
      have t0 := emp_t q0
      clear q0
      go_enter Tryz.func72, Tryz.ntmps72
      go_wp2_with fail
      go_ret
      exact ⟨by rw [HF.out, HG.out]; rfl, below_two _ _ _⟩
    · have HG : Hid (txF 14 tx = false) := (by show txF _ tx = _; rw [HT.out, decide_eq_false q0])
      have t0 := emp_f q0
      clear q0
      go_enter Tryz.func72, Tryz.ntmps72
      go_wp2_with fail
      go_ret
      exact ⟨by rw [HF.out, HG.out]; rfl, below_two _ _ _⟩

set_option maxRecDepth 100000 in
set_option maxHeartbeats 8000000 in
theorem fieldR_15 (nn : Int) (tx : ByteArray) (a b c d : Int) (_hs : tx.size ≤ 140737488355328) (w : World) : Calls Tryz.prog 72 #[.agg #[.int .i64 15, .int .i64 nn, .string tx, .int .u64 a, .int .u64 b, .int .u64 c, .int .u64 d]] w fun e w' => e = .returned (.bool (txF 15 tx && nuF 15 nn && seF 15 a b c d)) ∧ Below w.heap.size w w' := by
  have sq := seE_zero 15 a b c d (by decide)
  have hq := set_neq a b c d 0 0 0 0
  cases hz : seE a b c d 0 0 0 0 with
  | false =>
    have HF : Hid ((txF 15 tx && nuF 15 nn && seF 15 a b c d) = false) := (by show (_ && _) = _; rw [← sq, hz, Bool.and_false])
    rw [hz] at hq
    clear sq hz
    go_enter Tryz.func72, Tryz.ntmps72
    go_wp2_with fail
    go_ret
    exact ⟨by rw [HF.out]; rfl, below_two _ _ _⟩
  | true =>
    have hse : seF 15 a b c d = true := by rw [← sq, hz]
    rw [hz] at hq
    clear sq hz
    have HU : Hid (nuF 15 nn = decide (0 ≤ nn ∧ nn ≤ 50)) := rfl
    by_cases n1 : nn < 0
    · have HF : Hid ((txF 15 tx && nuF 15 nn && seF 15 a b c d) = false) := (by show (_ && _) = _; rw [hse, HU.out, decide_eq_false (by omega), Bool.and_true, Bool.and_false])
      clear HU hse
      go_enter Tryz.func72, Tryz.ntmps72
      go_wp2_with fail
      go_ret
      exact ⟨by rw [HF.out]; rfl, below_two _ _ _⟩
    by_cases n2 : 50 < nn
    · have HF : Hid ((txF 15 tx && nuF 15 nn && seF 15 a b c d) = false) := (by show (_ && _) = _; rw [hse, HU.out, decide_eq_false (by omega), Bool.and_true, Bool.and_false])
      clear HU hse
      go_enter Tryz.func72, Tryz.ntmps72
      go_wp2_with fail
      go_ret
      exact ⟨by rw [HF.out]; rfl, below_two _ _ _⟩
    have HF : Hid ((txF 15 tx && nuF 15 nn && seF 15 a b c d) = txF 15 tx) := (by show (_ && _) = _; rw [hse, HU.out, decide_eq_true (by omega), Bool.and_true, Bool.and_true])
    clear hse HU
    have HT : Hid (txF 15 tx = decide (tx.size = 0)) := rfl
    by_cases q0 : tx.size = 0
    · have HG : Hid (txF 15 tx = true) := (by show txF _ tx = _; rw [HT.out, decide_eq_true q0])
      have t0 := emp_t q0
      clear q0
      go_enter Tryz.func72, Tryz.ntmps72
      go_wp2_with fail
      go_ret
      exact ⟨by rw [HF.out, HG.out]; rfl, below_two _ _ _⟩
    · have HG : Hid (txF 15 tx = false) := (by show txF _ tx = _; rw [HT.out, decide_eq_false q0])
      have t0 := emp_f q0
      clear q0
      go_enter Tryz.func72, Tryz.ntmps72
      go_wp2_with fail
      go_ret
      exact ⟨by rw [HF.out, HG.out]; rfl, below_two _ _ _⟩

set_option maxRecDepth 100000 in
set_option maxHeartbeats 8000000 in
theorem fieldR_16 (nn : Int) (tx : ByteArray) (a b c d : Int) (_hs : tx.size ≤ 140737488355328) (w : World) : Calls Tryz.prog 72 #[.agg #[.int .i64 16, .int .i64 nn, .string tx, .int .u64 a, .int .u64 b, .int .u64 c, .int .u64 d]] w fun e w' => e = .returned (.bool (txF 16 tx && nuF 16 nn && seF 16 a b c d)) ∧ Below w.heap.size w w' := by
  have sq := seE_zero 16 a b c d (by decide)
  have hq := set_neq a b c d 0 0 0 0
  cases hz : seE a b c d 0 0 0 0 with
  | false =>
    have HF : Hid ((txF 16 tx && nuF 16 nn && seF 16 a b c d) = false) := (by show (_ && _) = _; rw [← sq, hz, Bool.and_false])
    rw [hz] at hq
    clear sq hz
    go_enter Tryz.func72, Tryz.ntmps72
    go_wp2_with fail
    go_ret
    exact ⟨by rw [HF.out]; rfl, below_two _ _ _⟩
  | true =>
    have hse : seF 16 a b c d = true := by rw [← sq, hz]
    rw [hz] at hq
    clear sq hz
    have HU : Hid (nuF 16 nn = decide (0 ≤ nn ∧ nn ≤ 50)) := rfl
    by_cases n1 : nn < 0
    · have HF : Hid ((txF 16 tx && nuF 16 nn && seF 16 a b c d) = false) := (by show (_ && _) = _; rw [hse, HU.out, decide_eq_false (by omega), Bool.and_true, Bool.and_false])
      clear HU hse
      go_enter Tryz.func72, Tryz.ntmps72
      go_wp2_with fail
      go_ret
      exact ⟨by rw [HF.out]; rfl, below_two _ _ _⟩
    by_cases n2 : 50 < nn
    · have HF : Hid ((txF 16 tx && nuF 16 nn && seF 16 a b c d) = false) := (by show (_ && _) = _; rw [hse, HU.out, decide_eq_false (by omega), Bool.and_true, Bool.and_false])
      clear HU hse
      go_enter Tryz.func72, Tryz.ntmps72
      go_wp2_with fail
      go_ret
      exact ⟨by rw [HF.out]; rfl, below_two _ _ _⟩
    have HF : Hid ((txF 16 tx && nuF 16 nn && seF 16 a b c d) = txF 16 tx) := (by show (_ && _) = _; rw [hse, HU.out, decide_eq_true (by omega), Bool.and_true, Bool.and_true])
    clear hse HU
    have HT : Hid (txF 16 tx = decide (tx.size = 0)) := rfl
    by_cases q0 : tx.size = 0
    · have HG : Hid (txF 16 tx = true) := (by show txF _ tx = _; rw [HT.out, decide_eq_true q0])
      have t0 := emp_t q0
      clear q0
      go_enter Tryz.func72, Tryz.ntmps72
      go_wp2_with fail
      go_ret
      exact ⟨by rw [HF.out, HG.out]; rfl, below_two _ _ _⟩
    · have HG : Hid (txF 16 tx = false) := (by show txF _ tx = _; rw [HT.out, decide_eq_false q0])
      have t0 := emp_f q0
      clear q0
      go_enter Tryz.func72, Tryz.ntmps72
      go_wp2_with fail
      go_ret
      exact ⟨by rw [HF.out, HG.out]; rfl, below_two _ _ _⟩

set_option maxRecDepth 100000 in
set_option maxHeartbeats 8000000 in
theorem fieldR_23 (nn : Int) (tx : ByteArray) (a b c d : Int) (_hs : tx.size ≤ 140737488355328) (w : World) : Calls Tryz.prog 72 #[.agg #[.int .i64 23, .int .i64 nn, .string tx, .int .u64 a, .int .u64 b, .int .u64 c, .int .u64 d]] w fun e w' => e = .returned (.bool (txF 23 tx && nuF 23 nn && seF 23 a b c d)) ∧ Below w.heap.size w w' := by
  have sq := seE_zero 23 a b c d (by decide)
  have hq := set_neq a b c d 0 0 0 0
  cases hz : seE a b c d 0 0 0 0 with
  | false =>
    have HF : Hid ((txF 23 tx && nuF 23 nn && seF 23 a b c d) = false) := (by show (_ && _) = _; rw [← sq, hz, Bool.and_false])
    rw [hz] at hq
    clear sq hz
    go_enter Tryz.func72, Tryz.ntmps72
    go_wp2_with fail
    go_ret
    exact ⟨by rw [HF.out]; rfl, below_two _ _ _⟩
  | true =>
    have hse : seF 23 a b c d = true := by rw [← sq, hz]
    rw [hz] at hq
    clear sq hz
    have HU : Hid (nuF 23 nn = decide (0 ≤ nn ∧ nn ≤ 50)) := rfl
    by_cases n1 : nn < 0
    · have HF : Hid ((txF 23 tx && nuF 23 nn && seF 23 a b c d) = false) := (by show (_ && _) = _; rw [hse, HU.out, decide_eq_false (by omega), Bool.and_true, Bool.and_false])
      clear HU hse
      go_enter Tryz.func72, Tryz.ntmps72
      go_wp2_with fail
      go_ret
      exact ⟨by rw [HF.out]; rfl, below_two _ _ _⟩
    by_cases n2 : 50 < nn
    · have HF : Hid ((txF 23 tx && nuF 23 nn && seF 23 a b c d) = false) := (by show (_ && _) = _; rw [hse, HU.out, decide_eq_false (by omega), Bool.and_true, Bool.and_false])
      clear HU hse
      go_enter Tryz.func72, Tryz.ntmps72
      go_wp2_with fail
      go_ret
      exact ⟨by rw [HF.out]; rfl, below_two _ _ _⟩
    have HF : Hid ((txF 23 tx && nuF 23 nn && seF 23 a b c d) = txF 23 tx) := (by show (_ && _) = _; rw [hse, HU.out, decide_eq_true (by omega), Bool.and_true, Bool.and_true])
    clear hse HU
    have HT : Hid (txF 23 tx = decide (tx.size = 0)) := rfl
    by_cases q0 : tx.size = 0
    · have HG : Hid (txF 23 tx = true) := (by show txF _ tx = _; rw [HT.out, decide_eq_true q0])
      have t0 := emp_t q0
      clear q0
      go_enter Tryz.func72, Tryz.ntmps72
      go_wp2_with fail
      go_ret
      exact ⟨by rw [HF.out, HG.out]; rfl, below_two _ _ _⟩
    · have HG : Hid (txF 23 tx = false) := (by show txF _ tx = _; rw [HT.out, decide_eq_false q0])
      have t0 := emp_f q0
      clear q0
      go_enter Tryz.func72, Tryz.ntmps72
      go_wp2_with fail
      go_ret
      exact ⟨by rw [HF.out, HG.out]; rfl, below_two _ _ _⟩

set_option maxRecDepth 100000 in
set_option maxHeartbeats 8000000 in
theorem fieldR_any (op nn : Int) (tx : ByteArray) (a b c d : Int) (_hs : tx.size ≤ 140737488355328) (h4 : ¬ op = 4) (h6 : ¬ op = 6) (h19 : ¬ op = 19) (h22 : ¬ op = 22) (h5 : ¬ op = 5) (h14 : ¬ op = 14) (h15 : ¬ op = 15) (h16 : ¬ op = 16) (h23 : ¬ op = 23) (w : World) : Calls Tryz.prog 72 #[.agg #[.int .i64 op, .int .i64 nn, .string tx, .int .u64 a, .int .u64 b, .int .u64 c, .int .u64 d]] w fun e w' => e = .returned (.bool (txF op tx && nuF op nn && seF op a b c d)) ∧ Below w.heap.size w w' := by
  have e4 : (op == 4) = false := beq_eq_false_iff_ne.2 h4
  have e6 : (op == 6) = false := beq_eq_false_iff_ne.2 h6
  have e19 : (op == 19) = false := beq_eq_false_iff_ne.2 h19
  have e22 : (op == 22) = false := beq_eq_false_iff_ne.2 h22
  have e5 : (op != 5) = true := by rw [bne, beq_eq_false_iff_ne.2 h5]; rfl
  have e14 : (op == 14) = false := beq_eq_false_iff_ne.2 h14
  have e15 : (op == 15) = false := beq_eq_false_iff_ne.2 h15
  have e16 : (op == 16) = false := beq_eq_false_iff_ne.2 h16
  have e23 : (op == 23) = false := beq_eq_false_iff_ne.2 h23
  have sq := seE_zero op a b c d h5
  have hq := set_neq a b c d 0 0 0 0
  cases hz : seE a b c d 0 0 0 0 with
  | false =>
    have HF : Hid ((txF op tx && nuF op nn && seF op a b c d) = false) := (by show (_ && _) = _; rw [← sq, hz, Bool.and_false])
    rw [hz] at hq
    clear sq hz h4 h6 h19 h22 h5 h14 h15 h16 h23
    go_enter Tryz.func72, Tryz.ntmps72
    go_wp2_with fail
    go_ret
    exact ⟨by rw [HF.out]; rfl, below_two _ _ _⟩
  | true =>
    have hse : seF op a b c d = true := by rw [← sq, hz]
    rw [hz] at hq
    clear sq hz
    have HU : Hid (nuF op nn = decide (nn = 0)) := (by show nuF op nn = _; unfold nuF; rw [if_neg (by omega)])
    by_cases n1 : nn < 0
    · have HF : Hid ((txF op tx && nuF op nn && seF op a b c d) = false) := (by show (_ && _) = _; rw [hse, HU.out, decide_eq_false (by omega), Bool.and_true, Bool.and_false])
      clear HU hse h4 h6 h19 h22 h5 h14 h15 h16 h23
      go_enter Tryz.func72, Tryz.ntmps72
      go_wp2_with fail
      go_ret
      exact ⟨by rw [HF.out]; rfl, below_two _ _ _⟩
    by_cases n2 : 50 < nn
    · have HF : Hid ((txF op tx && nuF op nn && seF op a b c d) = false) := (by show (_ && _) = _; rw [hse, HU.out, decide_eq_false (by omega), Bool.and_true, Bool.and_false])
      clear HU hse h4 h6 h19 h22 h5 h14 h15 h16 h23
      go_enter Tryz.func72, Tryz.ntmps72
      go_wp2_with fail
      go_ret
      exact ⟨by rw [HF.out]; rfl, below_two _ _ _⟩
    by_cases n3 : nn = 0
    rotate_left
    · have HF : Hid ((txF op tx && nuF op nn && seF op a b c d) = false) := (by show (_ && _) = _; rw [hse, HU.out, decide_eq_false n3, Bool.and_true, Bool.and_false])
      have f3 : (nn == 0) = false := beq_eq_false_iff_ne.2 n3
      clear HU hse n3 h4 h6 h19 h22 h5 h14 h15 h16 h23
      go_enter Tryz.func72, Tryz.ntmps72
      go_wp2_with fail
      go_ret
      exact ⟨by rw [HF.out]; rfl, below_two _ _ _⟩
    have f3 : (nn == 0) = true := beq_iff_eq.2 n3
    have HF : Hid ((txF op tx && nuF op nn && seF op a b c d) = txF op tx) := (by show (_ && _) = _; rw [hse, HU.out, decide_eq_true (by omega), Bool.and_true, Bool.and_true])
    clear hse HU n3
    have HT : Hid (txF op tx = decide (tx.size = 0)) := (by show txF op tx = _; unfold txF; rw [if_neg h4, if_neg h6, if_neg h19, if_neg h22])
    clear h4 h6 h19 h22 h5 h14 h15 h16 h23
    by_cases q0 : tx.size = 0
    · have HG : Hid (txF op tx = true) := (by show txF _ tx = _; rw [HT.out, decide_eq_true q0])
      have t0 := emp_t q0
      clear q0
      go_enter Tryz.func72, Tryz.ntmps72
      go_wp2_with fail
      go_ret
      exact ⟨by rw [HF.out, HG.out]; rfl, below_two _ _ _⟩
    · have HG : Hid (txF op tx = false) := (by show txF _ tx = _; rw [HT.out, decide_eq_false q0])
      have t0 := emp_f q0
      clear q0
      go_enter Tryz.func72, Tryz.ntmps72
      go_wp2_with fail
      go_ret
      exact ⟨by rw [HF.out, HG.out]; rfl, below_two _ _ _⟩

theorem fieldR (n : Nd) (hs : n.tx.size ≤ 140737488355328) (w : World) : Calls Tryz.prog 72 #[ndG n] w fun e w' => e = .returned (.bool (fdF n)) ∧ Below w.heap.size w w' := by
  obtain ⟨op, nn, tx, a, b, c, d⟩ := n
  show Calls Tryz.prog 72 #[.agg #[.int .i64 op, .int .i64 nn, .string tx, .int .u64 a, .int .u64 b, .int .u64 c, .int .u64 d]] w fun e w' => e = .returned (.bool (txF op tx && nuF op nn && seF op a b c d)) ∧ Below w.heap.size w w'
  by_cases h4 : op = 4
  · subst h4; exact fieldR_4 nn tx a b c d hs w
  by_cases h6 : op = 6
  · subst h6; exact fieldR_6 nn tx a b c d hs w
  by_cases h19 : op = 19
  · subst h19; exact fieldR_19 nn tx a b c d hs w
  by_cases h22 : op = 22
  · subst h22; exact fieldR_22 nn tx a b c d hs w
  by_cases h5 : op = 5
  · subst h5; exact fieldR_5 nn tx a b c d hs w
  by_cases h14 : op = 14
  · subst h14; exact fieldR_14 nn tx a b c d hs w
  by_cases h15 : op = 15
  · subst h15; exact fieldR_15 nn tx a b c d hs w
  by_cases h16 : op = 16
  · subst h16; exact fieldR_16 nn tx a b c d hs w
  by_cases h23 : op = 23
  · subst h23; exact fieldR_23 nn tx a b c d hs w
  exact fieldR_any op nn tx a b c d hs h4 h6 h19 h22 h5 h14 h15 h16 h23 w
end Go.Proofs.YtppggnmlbcdegabGreat.T
