/- DERIVED. Walks: names and templates, by the program and by the document. -/
import Derived.Test.YtfomodpjdaclgabWkA
namespace Go.Proofs.Ytfomodpjdaclgab
open Go.RowKit

set_option maxRecDepth 100000 in
set_option maxHeartbeats 4000000 in
theorem isName_any (s : ByteArray) (hs : s.size ≤ 140737488355328) (w : World) : Calls Try.prog 45 #[.string s] w fun e w' => e = .returned (.bool (nmB s)) ∧ w' = w := by
  have HD : Hid (∀ c w, Calls Try.prog 47 #[.int .u8 c] w fun e w' => e = .returned (.bool (dgB c)) ∧ w' = w) := fun c w => isDigit_any c w
  have HL : Hid (∀ c w, Calls Try.prog 48 #[.int .u8 c] w fun e w' => e = .returned (.bool (ltB c)) ∧ w' = w) := fun c w => isLetter_any c w
  by_cases h0 : s.size = 0
  · have HE : Hid (nmB s = false) := nmB_f (fun h => by have := h.1; omega)
    have q0 := emp_t h0
    clear h0 HD HL hs
    go_enter Try.func45, Try.ntmps45
    go_wp2_with fail
    go_ret
    exact ⟨by rw [HE.out]; rfl, rfl⟩
  have q0 := emp_f h0
  by_cases h1 : 32 < s.size
  · have HE : Hid (nmB s = false) := nmB_f (fun h => by have := h.2.1; omega)
    have z1 : (32 : Int) < (s.size : Int) := by omega
    clear h0 HD HL hs
    go_enter Try.func45, Try.ntmps45
    go_wp2_with fail
    go_ret
    exact ⟨by rw [HE.out]; rfl, rfl⟩
  have z1 : ¬ (32 : Int) < (s.size : Int) := by omega
  have hp : 0 < s.size := by omega
  cases hd : dgB (s[0].toNat : Int) with
  | true =>
    have HE : Hid (nmB s = false) := nmB_f (fun h => by have := h.2.2.1 hp; rw [hd] at this; cases this)
    go_enter Try.func45, Try.ntmps45
    go_wp2_with fail
    refine (HD.out _ _).mono ?_
    rintro e w ⟨rfl, rfl⟩
    rw [hd]
    clear HD HL hd
    go_wp2_with fail
    go_ret
    exact ⟨by rw [HE.out]; rfl, rfl⟩
  | false =>
    have HN : Hid ((∀ (j : Nat) (h : j < s.size), nmC (s[j].toNat : Int) = true) → nmB s = true) := fun h => nmB_t ⟨hp, by omega, fun _ => hd, h⟩
    have HM : Hid (∀ (j : Nat) (h : j < s.size), nmC (s[j].toNat : Int) = false → nmB s = false) := fun j h e => nmB_f (fun q => by have := q.2.2.2 j h; rw [e] at this; cases this)
    go_enter Try.func45, Try.ntmps45
    go_wp2_with fail
    refine (HD.out _ _).mono ?_
    rintro e w ⟨rfl, rfl⟩
    rw [hd]
    clear hd
    go_wp2_with fail
    go_loopw [18] (fun t wr => ∃ k : Nat, k ≤ s.size ∧ t = .int .i64 k ∧ wr = w ∧ Hid (∀ (j : Nat) (h : j < s.size), j < k → nmC (s[j].toNat : Int) = true)) (fun t _ => s.size - (intOf t).toNat)
    case atStart => exact ⟨0, by omega, by go_num, rfl, fun j h q => by omega⟩
    case round =>
      obtain ⟨k, hk, rfl, rfl, HI⟩ := hrel
      by_cases hlt : k < s.size
      · have z3 : (0 : Int) ≤ (k : Int) := by omega
        have z4 : (k : Int) < (s.size : Int) := by omega
        have HC : Hid (nmC (s[k].toNat : Int) = (dgB (s[k].toNat : Int) || ltB (s[k].toNat : Int) || (s[k].toNat : Int) == 95)) := rfl
        cases hd2 : dgB (s[k].toNat : Int) with
        | true =>
          have HI2 : Hid (∀ (j : Nat) (h : j < s.size), j < k + 1 → nmC (s[j].toNat : Int) = true) := fun j h q => by
            by_cases hj : j < k
            · exact HI.out j h hj
            · obtain rfl : j = k := by omega
              rw [HC.out, hd2]; rfl
          clear HI HC HN HM
          go_wp2_with fail
          refine (HD.out _ _).mono ?_
          rintro e w ⟨rfl, rfl⟩
          rw [hd2]
          clear hd2 HD HL
          go_wp2_with fail
          go_roundw
          case rel => exact ⟨k + 1, by omega, by go_num, trivial, HI2⟩
          case measure => simp [intOf]; omega
        | false =>
          cases hl2 : ltB (s[k].toNat : Int) with
          | true =>
            have HI2 : Hid (∀ (j : Nat) (h : j < s.size), j < k + 1 → nmC (s[j].toNat : Int) = true) := fun j h q => by
              by_cases hj : j < k
              · exact HI.out j h hj
              · obtain rfl : j = k := by omega
                rw [HC.out, hd2, hl2]; rfl
            clear HI HC HN HM
            go_wp2_with fail
            refine (HD.out _ _).mono ?_
            rintro e w ⟨rfl, rfl⟩
            rw [hd2]
            clear hd2 HD
            go_wp2_with fail
            refine (HL.out _ _).mono ?_
            rintro e w ⟨rfl, rfl⟩
            rw [hl2]
            clear hl2 HL
            go_wp2_with fail
            go_roundw
            case rel => exact ⟨k + 1, by omega, by go_num, trivial, HI2⟩
            case measure => simp [intOf]; omega
          | false =>
            by_cases h95 : (s[k].toNat : Int) = 95
            · have e95 : ((s[k].toNat : Int) == 95) = true := beq_iff_eq.2 h95
              have HI2 : Hid (∀ (j : Nat) (h : j < s.size), j < k + 1 → nmC (s[j].toNat : Int) = true) := fun j h q => by
                by_cases hj : j < k
                · exact HI.out j h hj
                · obtain rfl : j = k := by omega
                  rw [HC.out, hd2, hl2, e95]; rfl
              clear HI HC HN HM h95
              go_wp2_with fail
              refine (HD.out _ _).mono ?_
              rintro e w ⟨rfl, rfl⟩
              rw [hd2]
              clear hd2 HD
              go_wp2_with fail
              refine (HL.out _ _).mono ?_
              rintro e w ⟨rfl, rfl⟩
              rw [hl2]
              clear hl2 HL
              go_wp2_with fail
              go_roundw
              case rel => exact ⟨k + 1, by omega, by go_num, trivial, HI2⟩
              case measure => simp [intOf]; omega
            · have e95 : ((s[k].toNat : Int) == 95) = false := beq_eq_false_iff_ne.2 h95
              have HE : Hid (nmB s = false) := HM.out k hlt (by rw [HC.out, hd2, hl2, e95]; rfl)
              clear HI HC HN HM h95
              go_wp2_with fail
              refine (HD.out _ _).mono ?_
              rintro e w ⟨rfl, rfl⟩
              rw [hd2]
              clear hd2 HD
              go_wp2_with fail
              refine (HL.out _ _).mono ?_
              rintro e w ⟨rfl, rfl⟩
              rw [hl2]
              clear hl2 HL
              go_wp2_with fail
              go_ret
              exact ⟨by rw [HE.out]; rfl, rfl⟩
      · obtain rfl : k = s.size := by omega
        have HE : Hid (nmB s = true) := HN.out (fun j h => HI.out j h h)
        clear HD HL HN HM HI
        go_wp2_with fail
        go_ret
        exact ⟨by rw [HE.out]; rfl, rfl⟩

theorem tm_end (s : ByteArray) (m i : Nat) (h : ¬ i < s.size) : tmGo s m i = true := by
  cases m with
  | zero => rfl
  | succ m => rw [tmGo, dif_neg h]
theorem tm_plain {s : ByteArray} {m i : Nat} (h : i < s.size) (q : s.size ≤ i + m) (e : ¬ (s[i].toNat : Int) = 37) : ∃ m2, s.size ≤ i + 1 + m2 ∧ tmGo s m i = tmGo s m2 (i + 1) := by
  cases m with
  | zero => omega
  | succ m => exact ⟨m, by omega, by rw [tmGo, dif_pos h, if_neg e]⟩
theorem tm_two {s : ByteArray} {m i : Nat} (h : i < s.size) (q : s.size ≤ i + m) (e : (s[i].toNat : Int) = 37) (h2 : i + 1 < s.size) (d : (s[i + 1].toNat : Int) = 37 ∨ dgB (s[i + 1].toNat : Int) = true) : ∃ m2, s.size ≤ i + 2 + m2 ∧ tmGo s m i = tmGo s m2 (i + 2) := by
  cases m with
  | zero => omega
  | succ m => exact ⟨m, by omega, by rw [tmGo, dif_pos h, if_pos e, dif_pos h2, if_pos d]⟩
theorem tm_cut {s : ByteArray} {m i : Nat} (h : i < s.size) (q : s.size ≤ i + m) (e : (s[i].toNat : Int) = 37) (h2 : ¬ i + 1 < s.size) : tmGo s m i = false := by
  cases m with
  | zero => omega
  | succ m => rw [tmGo, dif_pos h, if_pos e, dif_neg h2]
theorem tm_bad {s : ByteArray} {m i : Nat} (h : i < s.size) (q : s.size ≤ i + m) (e : (s[i].toNat : Int) = 37) (h2 : i + 1 < s.size) (d : ¬ (s[i + 1].toNat : Int) = 37) (d2 : dgB (s[i + 1].toNat : Int) = false) : tmGo s m i = false := by
  cases m with
  | zero => omega
  | succ m => rw [tmGo, dif_pos h, if_pos e, dif_pos h2, if_neg (by rw [d2]; simp only [Bool.false_eq_true, or_false]; exact d)]

set_option maxRecDepth 100000 in
set_option maxHeartbeats 4000000 in
theorem isTemplate_any (s : ByteArray) (hs : s.size ≤ 140737488355328) (w : World) : Calls Try.prog 46 #[.string s] w fun e w' => e = .returned (.bool (tmB s)) ∧ w' = w := by
  have HD : Hid (∀ c w, Calls Try.prog 47 #[.int .u8 c] w fun e w' => e = .returned (.bool (dgB c)) ∧ w' = w) := fun c w => isDigit_any c w
  by_cases h1 : 255 < s.size
  · have HE : Hid (tmB s = false) := (by show tmB s = _; unfold tmB; rw [if_neg (by omega)])
    have z1 : (255 : Int) < (s.size : Int) := by omega
    clear HD hs
    go_enter Try.func46, Try.ntmps46
    go_wp2_with fail
    go_ret
    exact ⟨by rw [HE.out]; rfl, rfl⟩
  have z1 : ¬ (255 : Int) < (s.size : Int) := by omega
  have HB : Hid (tmB s = tmGo s s.size 0) := (by show tmB s = _; unfold tmB; rw [if_pos (by omega)])
  go_enter Try.func46, Try.ntmps46
  go_wp2_with fail
  go_loopw [3] (fun t wr => ∃ k : Nat, k ≤ s.size ∧ t = .int .i64 k ∧ wr = w ∧ Hid (∃ m, s.size ≤ k + m ∧ tmB s = tmGo s m k)) (fun t _ => s.size - (intOf t).toNat)
  case atStart => exact ⟨0, by omega, by go_num, rfl, ⟨s.size, by omega, HB.out⟩⟩
  case round =>
    obtain ⟨k, hk, rfl, rfl, HI⟩ := hrel
    clear HB
    obtain ⟨m, hm, HJ⟩ := HI.out
    have HJ := (show Hid _ from HJ)
    clear HI
    by_cases hlt : k < s.size
    · have z3 : (0 : Int) ≤ (k : Int) := by omega
      have z4 : (k : Int) < (s.size : Int) := by omega
      by_cases h37 : (s[k].toNat : Int) = 37
      · have e37 : ((s[k].toNat : Int) == 37) = true := beq_iff_eq.2 h37
        by_cases h2 : k + 1 < s.size
        · have z5 : ((k : Int) + 1 == (s.size : Int)) = false := beq_eq_false_iff_ne.2 (by omega)
          have z6 : (k : Int) + 1 < (s.size : Int) := by omega
          by_cases g37 : (s[k + 1].toNat : Int) = 37
          · have f37 : ((s[k + 1].toNat : Int) != 37) = false := by rw [bne, beq_iff_eq.2 g37]; rfl
            have HK : Hid (∃ m2, s.size ≤ k + 2 + m2 ∧ tmB s = tmGo s m2 (k + 2)) := by
              obtain ⟨m2, u, v⟩ := tm_two hlt hm h37 h2 (.inl g37)
              exact ⟨m2, u, HJ.out.trans v⟩
            clear HJ h37 g37 HD
            go_wp2_with fail
            go_roundw
            case rel => exact ⟨k + 2, by omega, by go_num, trivial, HK⟩
            case measure => simp [intOf]; omega
          · have f37 : ((s[k + 1].toNat : Int) != 37) = true := by rw [bne, beq_eq_false_iff_ne.2 g37]; rfl
            cases hd : dgB (s[k + 1].toNat : Int) with
            | true =>
              have HK : Hid (∃ m2, s.size ≤ k + 2 + m2 ∧ tmB s = tmGo s m2 (k + 2)) := by
                obtain ⟨m2, u, v⟩ := tm_two hlt hm h37 h2 (.inr hd)
                exact ⟨m2, u, HJ.out.trans v⟩
              clear HJ h37 g37
              go_wp2_with fail
              refine (HD.out _ _).mono ?_
              rintro e w ⟨rfl, rfl⟩
              rw [hd]
              clear hd HD
              go_wp2_with fail
              go_roundw
              case rel => exact ⟨k + 2, by omega, by go_num, trivial, HK⟩
              case measure => simp [intOf]; omega
            | false =>
              have HE : Hid (tmB s = false) := HJ.out.trans (tm_bad hlt hm h37 h2 g37 hd)
              clear HJ h37 g37
              go_wp2_with fail
              refine (HD.out _ _).mono ?_
              rintro e w ⟨rfl, rfl⟩
              rw [hd]
              clear hd HD
              go_wp2_with fail
              go_ret
              exact ⟨by rw [HE.out]; rfl, rfl⟩
        · have z5 : ((k : Int) + 1 == (s.size : Int)) = true := beq_iff_eq.2 (by omega)
          have HE : Hid (tmB s = false) := HJ.out.trans (tm_cut hlt hm h37 h2)
          clear HJ h37 HD
          go_wp2_with fail
          go_ret
          exact ⟨by rw [HE.out]; rfl, rfl⟩
      · have e37 : ((s[k].toNat : Int) == 37) = false := beq_eq_false_iff_ne.2 h37
        have HK : Hid (∃ m2, s.size ≤ k + 1 + m2 ∧ tmB s = tmGo s m2 (k + 1)) := by
          obtain ⟨m2, u, v⟩ := tm_plain hlt hm h37
          exact ⟨m2, u, HJ.out.trans v⟩
        clear HJ h37 HD
        go_wp2_with fail
        go_roundw
        case rel => exact ⟨k + 1, by omega, by go_num, trivial, HK⟩
        case measure => simp [intOf]; omega
    · obtain rfl : k = s.size := by omega
      have HE : Hid (tmB s = true) := HJ.out.trans (tm_end s m _ (by omega))
      clear HD HJ
      go_wp2_with fail
      go_ret
      exact ⟨by rw [HE.out]; rfl, rfl⟩
end Go.Proofs.Ytfomodpjdaclgab
