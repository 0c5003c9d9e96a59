/- DERIVED. Plain mathematics and walks, laid together (14). -/
import Derived.LoopN
import Derived.Test.YthffklhojdldkaaDoorLx13
namespace Go.Proofs.YthffklhojdldkaaDoor
open Go.RowKit
/-- Does the sign of a kind fit, of so many bytes? -/
def sgF (s : ByteArray) (b n k : Nat) : Bool := decide ((sgn k).length = n) && pfx s b (sgn k)
def sgL (s : ByteArray) (b n : Nat) : Nat → Nat → Option Nat
  | 0, _ => none
  | f + 1, k => if sgF s b n k = true then some k else sgL s b n f (k + 1)
abbrev sgT (b n k : Nat) : Tk := ⟨k, 0, b, (b + n : Nat), ⟨#[]⟩, 0, 0, 0, 0⟩
def sgR (s : ByteArray) (b : Nat) : Sum Tk (Nat × Int) := match sgL s b 2 30 1 with
  | some k => .inl (sgT b 2 k)
  | none => match sgL s b 1 30 1 with
    | some k => .inl (sgT b 1 k)
    | none => .inr (b, 50)
def sgLC (c0 c1 : Int) (n : Nat) : Nat → Nat → Option Nat
  | 0, _ => none
  | f + 1, k => if (sgn k).length = n ∧ pfC c0 c1 (sgn k) = true then some k else sgLC c0 c1 n f (k + 1)
theorem sgn_len (k : Nat) : (sgn k).length ≤ 2 := by
  by_cases h6 : k = 6
  · subst h6; decide
  by_cases h27 : k = 27
  · subst h27; decide
  by_cases h7 : k = 7
  · subst h7; decide
  by_cases h8 : k = 8
  · subst h8; decide
  by_cases h9 : k = 9
  · subst h9; decide
  by_cases h10 : k = 10
  · subst h10; decide
  by_cases h11 : k = 11
  · subst h11; decide
  by_cases h12 : k = 12
  · subst h12; decide
  by_cases h16 : k = 16
  · subst h16; decide
  by_cases h17 : k = 17
  · subst h17; decide
  by_cases h18 : k = 18
  · subst h18; decide
  by_cases h22 : k = 22
  · subst h22; decide
  by_cases h23 : k = 23
  · subst h23; decide
  by_cases h24 : k = 24
  · subst h24; decide
  by_cases h25 : k = 25
  · subst h25; decide
  by_cases h26 : k = 26
  · subst h26; decide
  by_cases h19 : k = 19
  · subst h19; decide
  by_cases h20 : k = 20
  · subst h20; decide
  unfold sgn
  simp [*]
theorem sgL_C (s : ByteArray) (b n : Nat) : ∀ f k, sgL s b n f k = sgLC (chr s b) (chr s (b + 1)) n f k := by
  intro f
  induction f with
  | zero => intro k; rfl
  | succ f ih =>
    intro k
    rw [sgL, sgLC, ih, sgF, pfx_C s b (sgn k) (sgn_len k)]
    simp only [Bool.and_eq_true, decide_eq_true_eq]
def sgRC (c0 c1 : Int) : Int × Nat := match sgLC c0 c1 2 30 1 with
  | some k => (k, 2)
  | none => match sgLC c0 c1 1 30 1 with
    | some k => (k, 1)
    | none => (0, 0)
set_option maxHeartbeats 4000000 in
theorem sgRC_C (c0 c1 : Int) (h37 : c0 ≠ 37) (h94 : c0 ≠ 94) (hg : ¬ (c0 = 123 ∧ c1 = 58)) : sgRC c0 c1 = ((sgC c0 c1).1, (sgC c0 c1).2.length) := by
  unfold sgRC sgC
  rw [if_neg h37, if_neg h94]
  by_cases h60 : c0 = 60
  · subst h60
    by_cases a45 : c1 = 45 <;> first | (exfalso; exact hg ⟨rfl, by assumption⟩) | (simp [sgLC, sgn, pfC, *])
  by_cases h45 : c0 = 45
  · subst h45
    by_cases a62 : c1 = 62 <;> first | (exfalso; exact hg ⟨rfl, by assumption⟩) | (simp [sgLC, sgn, pfC, *])
  by_cases h47 : c0 = 47
  · subst h47
    simp [sgLC, sgn, pfC]
  by_cases h38 : c0 = 38
  · subst h38
    simp [sgLC, sgn, pfC]
  by_cases h33 : c0 = 33
  · subst h33
    simp [sgLC, sgn, pfC]
  by_cases h63 : c0 = 63
  · subst h63
    simp [sgLC, sgn, pfC]
  by_cases h42 : c0 = 42
  · subst h42
    simp [sgLC, sgn, pfC]
  by_cases h43 : c0 = 43
  · subst h43
    simp [sgLC, sgn, pfC]
  by_cases h40 : c0 = 40
  · subst h40
    simp [sgLC, sgn, pfC]
  by_cases h41 : c0 = 41
  · subst h41
    simp [sgLC, sgn, pfC]
  by_cases h46 : c0 = 46
  · subst h46
    simp [sgLC, sgn, pfC]
  by_cases h123 : c0 = 123
  · subst h123
    by_cases a58 : c1 = 58 <;> by_cases a124 : c1 = 124 <;> by_cases a126 : c1 = 126 <;> first | (exfalso; exact hg ⟨rfl, by assumption⟩) | (simp [sgLC, sgn, pfC, *])
  by_cases h58 : c0 = 58
  · subst h58
    by_cases a125 : c1 = 125 <;> first | (exfalso; exact hg ⟨rfl, by assumption⟩) | (simp [sgLC, sgn, pfC, *])
  by_cases h124 : c0 = 124
  · subst h124
    by_cases a125 : c1 = 125 <;> first | (exfalso; exact hg ⟨rfl, by assumption⟩) | (simp [sgLC, sgn, pfC, *])
  by_cases h126 : c0 = 126
  · subst h126
    by_cases a125 : c1 = 125 <;> first | (exfalso; exact hg ⟨rfl, by assumption⟩) | (simp [sgLC, sgn, pfC, *])
  by_cases h125 : c0 = 125
  · subst h125
    simp [sgLC, sgn, pfC]
  simp [sgLC, sgn, pfC, *]
theorem sgR_C (s : ByteArray) (b : Nat) : sgR s b = if (sgRC (chr s b) (chr s (b + 1))).1 = 0 then .inr (b, 50) else .inl ⟨(sgRC (chr s b) (chr s (b + 1))).1, 0, b, (b + (sgRC (chr s b) (chr s (b + 1))).2 : Nat), ⟨#[]⟩, 0, 0, 0, 0⟩ := by
  have hpos : ∀ n f k j, 1 ≤ k → sgLC (chr s b) (chr s (b + 1)) n f k = some j → 1 ≤ j := by
    intro n f
    induction f with
    | zero => intro k j _ h; cases h
    | succ f ih =>
      intro k j hk h
      rw [sgLC] at h
      split at h
      · cases h; exact hk
      · exact ih _ _ (by omega) h
  unfold sgR sgRC
  rw [sgL_C, sgL_C]
  cases h2 : sgLC (chr s b) (chr s (b + 1)) 2 30 1 with
  | some k =>
    have := hpos _ _ _ _ (by omega) h2
    dsimp only
    rw [if_neg (by omega)]
  | none =>
    dsimp only
    cases h1 : sgLC (chr s b) (chr s (b + 1)) 1 30 1 with
    | some k =>
      have := hpos _ _ _ _ (by omega) h1
      dsimp only
      rw [if_neg (by omega)]
    | none => dsimp only; rw [if_pos rfl]
end Go.Proofs.YthffklhojdldkaaDoor

namespace Go.Proofs.YthffklhojdldkaaDoor
open Go.RowKit
theorem pfx_ext (s : ByteArray) (b : Nat) (l : List UInt8) (h : b + l.length ≤ s.size) : pfx s b l = ((s.extract b (b + l.length)).data.toList == l) := by
  induction l generalizing b with
  | nil =>
    have : (s.extract b (b + ([] : List UInt8).length)).data.toList = [] := by
      have h1 : (s.extract b (b + ([] : List UInt8).length)).size = 0 := by rw [ByteArray.size_extract]; simp; omega
      exact List.eq_nil_of_length_eq_zero h1
    rw [this]; rfl
  | cons c l ih =>
    rw [List.length_cons] at h
    have hb : b < s.size := by omega
    have e : (s.extract b (b + (c :: l).length)).data.toList = s[b] :: (s.extract (b + 1) (b + 1 + l.length)).data.toList := by
      have h1 : s.data.size = s.size := rfl
      have hd : b < s.data.size := hb
      rw [ByteArray.data_extract, ByteArray.data_extract, Array.toList_extract, Array.toList_extract, List.extract_eq_take_drop, List.extract_eq_take_drop, List.length_cons,
        List.drop_eq_getElem_cons (by rw [Array.length_toList]; omega), show b + (l.length + 1) - b = l.length + 1 from by omega, show b + 1 + l.length - (b + 1) = l.length from by omega, List.take_succ_cons]
      rfl
    rw [pfx, e, ih (b + 1) (by omega), chr_in hb]
    show _ = (s[b] == c && _)
    congr 1
    by_cases q : s[b] = c
    · rw [q]; simp
    · have h2 : ¬ (s[b].toNat : Int) = (c.toNat : Int) := fun e => q (UInt8.toNat_inj.1 (by omega))
      rw [beq_eq_false_iff_ne.2 q, beq_eq_false_iff_ne.2 h2]
theorem pfx_past (s : ByteArray) (b : Nat) : ∀ (l : List UInt8), b ≤ s.size → s.size < b + l.length → pfx s b l = false := by
  intro l hb h
  cases hp : pfx s b l with
  | false => rfl
  | true =>
    exfalso
    have key : ∀ (l : List UInt8) (i : Nat), i ≤ s.size → pfx s i l = true → i + l.length ≤ s.size := by
      intro l
      induction l with
      | nil => intro i h _; exact h
      | cons c l ih =>
        intro i h hp
        rw [pfx, Bool.and_eq_true] at hp
        have h1 : i < s.size := chr_lt (by rw [beq_iff_eq.1 hp.1]; omega)
        have := ih (i + 1) (by omega) hp.2
        rw [List.length_cons]; omega
    have := key l b hb hp
    omega
/-- While signs are tried. -/
structure AtZ (w wr : World) : Prop where
  b : Below w.heap.size w wr
  x : TX wr w.heap.size tk0
theorem AtZ.step {w wr W : World} (h : AtZ w wr) (hb : Below wr.heap.size wr W) : AtZ w W := ⟨h.b.trans (hb.mono h.b.size), h.x.below hb⟩
set_option maxRecDepth 100000 in
set_option maxHeartbeats 16000000 in
theorem sign_any (s : ByteArray) (b : Nat) (hs : s.size ≤ 140737488355000) (hb : b < s.size) (w : World) : Calls Tryd.prog 41 #[.string s, .int .i64 b] w fun e w' => e = .returned (tokV (sgR s b)) ∧ Below w.heap.size w w' := by
  have HWr : Hid (∀ i e w, Calls Tryd.prog 32 #[.int .i64 i, .int .i64 e] w fun e' w' => e' = .returned (.tuple #[tkG tk0, .int .i64 i, .int .i64 e]) ∧ Below w.heap.size w w') := fun i e w => wrong_any i e w
  have HSi : Hid (∀ k w, 1 ≤ k → k ≤ 30 → Calls Tryd.prog 63 #[.int .i64 ((k : Nat) : Int)] w fun e w' => e = .returned (.string ⟨(sgn k).toArray⟩) ∧ Below w.heap.size w w') := fun k w h1 h2 => sign_in k h1 h2 w
  have H0 := (show Hid (AtZ w (w.alloc (tkO tk0))) from ⟨below_box w _, TX.new w tk0⟩)
  have HR := (show Hid (sgR s b = match sgL s b 2 30 1 with
    | some k => .inl (sgT b 2 k)
    | none => match sgL s b 1 30 1 with
      | some k => .inl (sgT b 1 k)
      | none => .inr (b, 50)) from rfl)
  go_enter Tryd.func41, Tryd.ntmps41
  go_wp2_with fail
  go_loopw [7] (fun t wr => ∃ n : Nat, n ≤ 2 ∧ t = .int .i64 n ∧ Hid (AtZ w wr) ∧ Hid ((n ≤ 1 → sgL s b 2 30 1 = none) ∧ (n = 0 → sgL s b 1 30 1 = none))) (fun t _ => (intOf t).toNat)
  case atStart => exact ⟨2, by omega, rfl, H0, ⟨fun q => by omega, fun q => by omega⟩⟩
  case round =>
    obtain ⟨n, hn, rfl, HW, HP⟩ := hrel
    clear H0
    by_cases hn0 : n = 0
    · subst hn0
      have HE : Hid (sgR s b = .inr (b, 50)) := by show sgR s b = _; rw [HR.out, HP.out.1 (by omega), HP.out.2 rfl]
      clear HSi HR HP
      go_wp2_with fail
      refine (HWr.out _ _ _).mono ?_
      rintro e w3 ⟨rfl, b3⟩
      have HX3 := (show Hid (AtZ w w3) from HW.out.step b3)
      clear b3 HW HWr
      obtain ⟨c0, c1, c2, c3, c4, c5, c6, c7, c8⟩ := HX3.out.x.cells
      obtain ⟨f0, f1', f2', f3, f4, f5, f6, f7, f8⟩ := HX3.out.x.fz
      go_wp2_with fail
      exact ret_tok rfl rfl rfl rfl rfl (st9_tx HX3.out.x tk0) ⟨by rw [HE.out]; rfl, st9_below HX3.out.b (Nat.le_refl _) tk0⟩
    · have t1 : (1 : Int) ≤ (n : Int) := by omega
      go_wp2_with fail
      obtain ⟨wO, rfl⟩ : ∃ W, W = wr := ⟨wr, rfl⟩
      go_loopw [8] (fun t wr => ∃ k : Nat, 1 ≤ k ∧ k ≤ 31 ∧ t = .int .i64 k ∧ Hid (AtZ w wr) ∧ Hid (sgL s b n (31 - k) k = sgL s b n 30 1)) (fun t _ => 31 - (intOf t).toNat)
      case atStart => exact ⟨1, by omega, by omega, by go_num, HW, rfl⟩
      case round =>
        obtain ⟨k, hk1, hk2, rfl, HV, HK⟩ := hrel
        clear HW
        by_cases hk : k ≤ 30
        · have z1 : (k : Int) ≤ 30 := by omega
          have HSk := (show Hid _ from fun w => HSi.out k w hk1 hk)
          have HU : Hid (sgL s b n 30 1 = if sgF s b n k = true then some k else sgL s b n (31 - (k + 1)) (k + 1)) := by
            show sgL s b n 30 1 = _
            rw [← HK.out, show 31 - k = (31 - (k + 1)) + 1 from by omega, sgL]
          have hsz : (⟨(sgn k).toArray⟩ : ByteArray).size = (sgn k).length := by show (sgn k).toArray.size = _; simp
          have HF1 := (show Hid (¬ (sgn k).length = n → sgF s b n k = false) from fun q => by unfold sgF; rw [decide_eq_false q]; rfl)
          have HF2 := (show Hid ((sgn k).length = n → ¬ b + n ≤ s.size → sgF s b n k = false) from fun q q2 => by unfold sgF; rw [pfx_past s b _ (by omega) (by omega), Bool.and_false])
          have HF3 := (show Hid ((sgn k).length = n → b + n ≤ s.size → sgF s b n k = ((s.extract b (b + n)).toList == sgn k)) from fun q q2 => by unfold sgF; rw [decide_eq_true q, Bool.true_and, pfx_ext s b _ (by omega), q, ByteArray.toList_eq])
          by_cases hl : (sgn k).length = n
          · by_cases hin : b + n ≤ s.size
            · have hf := HF3.out hl hin
              have z2 : (b : Int) + (n : Int) ≤ (s.size : Int) := by omega
              have z3 : (0 : Int) ≤ (b : Int) := by omega
              have z4 : (b : Int) ≤ (b : Int) + (n : Int) := by omega
              have v1 : (((⟨(sgn k).toArray⟩ : ByteArray).size : Int) == (n : Int)) = true := by rw [hsz, hl]; exact beq_self_eq_true _
              cases hq : ((s.extract b (b + n)).toList == sgn k) with
              | true =>
                rw [hq] at hf
                have HE : Hid (sgR s b = .inl (sgT b n k)) := by
                  show sgR s b = _
                  have hL : sgL s b n 30 1 = some k := by rw [HU.out, if_pos hf]
                  by_cases h2 : n = 2
                  · subst h2; rw [HR.out, hL]
                  · obtain rfl : n = 1 := by omega
                    rw [HR.out, HP.out.1 (by omega), hL]
                clear HF1 HF2 HF3 HU HK HSi HWr HR HP hf hin hsz
                go_wp2_with fail
                refine (HSk.out _).mono ?_
                rintro e w3 ⟨rfl, b3⟩
                have HV3 := (show Hid (AtZ w w3) from HV.out.step b3)
                clear b3 HV HSk
                obtain ⟨c0, c1, c2, c3, c4, c5, c6, c7, c8⟩ := HV3.out.x.cells
                obtain ⟨f0, f1', f2', f3, f4, f5, f6, f7, f8⟩ := HV3.out.x.fz
                go_wp2_with fail
                exact ret_tok rfl rfl rfl rfl rfl (st9_tx HV3.out.x (sgT b n k)) ⟨by rw [HE.out]; rfl, st9_below HV3.out.b (Nat.le_refl _) (sgT b n k)⟩
              | false =>
                rw [hq] at hf
                have HK2 : Hid (sgL s b n (31 - (k + 1)) (k + 1) = sgL s b n 30 1) := by show _ = sgL s b n 30 1; rw [HU.out, if_neg (by rw [hf]; decide)]
                clear HF1 HF2 HF3 HU HK HSi HWr HR HP hf hin hsz
                go_wp2_with fail
                refine (HSk.out _).mono ?_
                rintro e w3 ⟨rfl, b3⟩
                have HV3 := (show Hid (AtZ w w3) from HV.out.step b3)
                clear b3 HV HSk
                go_wp2_with fail
                go_roundw
                case rel => exact ⟨k + 1, by omega, by omega, by go_num, HV3, HK2⟩
                case measure => simp [intOf]; omega
            · have hf := HF2.out hl hin
              have z2 : ¬ (b : Int) + (n : Int) ≤ (s.size : Int) := by omega
              have v1 : (((⟨(sgn k).toArray⟩ : ByteArray).size : Int) == (n : Int)) = true := by rw [hsz, hl]; exact beq_self_eq_true _
              have HK2 : Hid (sgL s b n (31 - (k + 1)) (k + 1) = sgL s b n 30 1) := by show _ = sgL s b n 30 1; rw [HU.out, if_neg (by rw [hf]; decide)]
              clear HF1 HF2 HF3 HU HK HSi HWr HR HP hf hin hsz
              go_wp2_with fail
              refine (HSk.out _).mono ?_
              rintro e w3 ⟨rfl, b3⟩
              have HV3 := (show Hid (AtZ w w3) from HV.out.step b3)
              clear b3 HV HSk
              go_wp2_with fail
              go_roundw
              case rel => exact ⟨k + 1, by omega, by omega, by go_num, HV3, HK2⟩
              case measure => simp [intOf]; omega
          · have hf := HF1.out hl
            have v1 : (((⟨(sgn k).toArray⟩ : ByteArray).size : Int) == (n : Int)) = false := by rw [hsz, beq_eq_false_iff_ne]; omega
            have HK2 : Hid (sgL s b n (31 - (k + 1)) (k + 1) = sgL s b n 30 1) := by show _ = sgL s b n 30 1; rw [HU.out, if_neg (by rw [hf]; decide)]
            clear HF1 HF2 HF3 HU HK HSi HWr HR HP hf hsz hl
            generalize ByteArray.mk (sgn k).toArray = tx at *
            go_wp2_with fail
            refine (HSk.out _).mono ?_
            rintro e w3 ⟨rfl, b3⟩
            have HV3 := (show Hid (AtZ w w3) from HV.out.step b3)
            clear b3 HV HSk
            go_wp2_with fail
            go_roundw
            case rel => exact ⟨k + 1, by omega, by omega, by go_num, HV3, HK2⟩
            case measure => simp [intOf]; omega
        · obtain rfl : k = 31 := by omega
          have z1 : ¬ ((31 : Nat) : Int) ≤ 30 := by omega
          have HK2 := (show Hid (sgL s b n 30 1 = none) from HK.out.symm.trans rfl)
          have HP2 := (show Hid ((n - 1 ≤ 1 → sgL s b 2 30 1 = none) ∧ (n - 1 = 0 → sgL s b 1 30 1 = none)) from by
            by_cases h2 : n = 2
            · subst h2; exact ⟨fun _ => HK2.out, fun q => by omega⟩
            · obtain rfl : n = 1 := by omega
              exact ⟨fun _ => HP.out.1 (by omega), fun _ => HK2.out⟩)
          clear HK HK2 HSi HWr HR HP
          obtain ⟨n1, hn1⟩ : ∃ m, m = n - 1 := ⟨_, rfl⟩
          rw [← hn1] at HP2
          have u1 : IntKind.i64.wrap ((n : Int) - 1) = (n1 : Int) := by rw [IntKind.wrap_i64]; omega
          have hn2 : n1 < n := by omega
          clear hn1
          go_wp2_with fail
          go_roundw
          case rel => exact ⟨n1, by omega, rfl, HV, HP2⟩
          case measure => simp [intOf]; omega
end Go.Proofs.YthffklhojdldkaaDoor

namespace Go.Proofs.YthffklhojdldkaaDoor
open Go.RowKit
theorem Ag.in {s s' : ByteArray} {b b' m : Nat} (h : Ag s b s' b' m) (hm : 1 ≤ m) (hs : b + m ≤ s.size) : b' + m ≤ s'.size := by
  have h1 := h (m - 1) (by omega)
  have h2 := chr_in (s := s) (i := b + (m - 1)) (by omega)
  have := chr_lt (s := s') (i := b' + (m - 1)) (by rw [h1, h2]; omega)
  omega
end Go.Proofs.YthffklhojdldkaaDoor

namespace Go.Proofs.YthffklhojdldkaaDoor
open Go.RowKit
/-- Tokens one behind the other, from a place on. -/
def Chn (s : ByteArray) (i : Nat) : List Tk → Prop
  | [] => gapN s i = s.size
  | t :: l => gapN s i < s.size ∧ oneP s (gapN s i) = .inl t ∧ ∃ e : Nat, t.en = e ∧ gapN s i < e ∧ e ≤ s.size ∧ Chn s e l
theorem chn_of (s : ByteArray) : ∀ (f : Nat) (out : List Tk) (i : Nat) (l : List Tk), i ≤ s.size → s.size < f + gapN s i → lexGo (oneP s) s f out (gapN s i) = .inl l → ∃ l2, l = out ++ l2 ∧ Chn s i l2 := by
  intro f
  induction f with
  | zero => intro out i l hi hf h; have := (gapN_bd hi).2; omega
  | succ f ih =>
    intro out i l hi hf h
    have hb := gapN_bd hi
    rw [lexGo] at h
    by_cases hlt : gapN s i < s.size
    · rw [if_pos hlt] at h
      cases ho : oneP s (gapN s i) with
      | inr q => rw [ho] at h; cases h
      | inl t =>
        rw [ho] at h
        dsimp only at h
        obtain ⟨e, e1, e2, e3⟩ := oneP_en s _ t hlt ho
        rw [e1, Int.toNat_natCast] at h
        have hge := gapN_ge s e e3
        obtain ⟨l2, h2, h3⟩ := ih (out ++ [t]) e l e3 (by omega) h
        refine ⟨t :: l2, by rw [h2, List.append_assoc]; rfl, hlt, ho, e, e1, e2, e3, h3⟩
    · rw [if_neg hlt] at h
      cases h
      exact ⟨[], by rw [List.append_nil], by show gapN s i = s.size; omega⟩
theorem lex_chn {s : ByteArray} {l : List Tk} (h : lexR (oneP s) s = .inl l) : s.size ≤ 65536 ∧ Chn s 0 l := by
  unfold lexR at h
  split at h
  · cases h
  · next q =>
    obtain ⟨l2, h2, h3⟩ := chn_of s _ _ 0 l (by omega) (by have := (gapN_bd (s := s) (i := 0) (by omega)).1; omega) h
    rw [h2]
    exact ⟨by omega, h3⟩
end Go.Proofs.YthffklhojdldkaaDoor

namespace Go.Proofs.YthffklhojdldkaaDoor
open Go.RowKit
theorem hx7_sp (s : ByteArray) : ∀ (k i : Nat), hx7 s i k = if spN hxB s i - i ≤ k then spN hxB s i else i + k := by
  intro k
  induction k with
  | zero =>
    intro i
    have := spN_ge hxB s (by decide) i
    rw [hx7]
    split <;> omega
  | succ k ih =>
    intro i
    rw [hx7]
    by_cases h : 0 ≤ hexV (chr s i)
    · rw [if_pos h, ih (i + 1)]
      have h1 := (spN_next (P := hxB) (s := s) (i := i) (by decide) (hxB_hexV.2 h)).2
      have := spN_ge hxB s (by decide) (i + 1)
      rw [h1]
      by_cases q : spN hxB s (i + 1) - (i + 1) ≤ k
      · rw [if_pos q, if_pos (by omega)]
      · rw [if_neg q, if_neg (by omega)]; omega
    · have h1 : spN hxB s i = i := spN_stop (by
        cases hh : hxB (chr s i) with
        | false => rfl
        | true => exact absurd (hxB_hexV.1 hh) h)
      rw [if_neg h, h1, if_pos (by omega)]
theorem hexN_sp (s : ByteArray) (i : Nat) : hexN s i = if spN hxB s i - i ≤ 7 then spN hxB s i else i + 7 := hx7_sp s 7 i
/-- A point that is read by both. -/
theorem pt_ok {s : ByteArray} {a : Nat} (h : (ptP s a).2.2 = true) : hexN s a = (ptP s a).2.1 ∧ hexN s a ≠ a ∧ ¬ a + 6 < hexN s a ∧ wthR s a 16 (hexN s a - a) = (ptP s a).1 ∧ (ptP s a).1 ≤ 1114111 := by
  have hbd := ptP_bd h
  have hge := spN_ge hxB s (by decide) a
  rw [hexN_sp]
  unfold ptP at h hbd ⊢
  split at h
  · cases h
  · next q =>
    rw [if_neg q] at hbd
    rw [if_neg q, if_pos (by omega)]
    exact ⟨rfl, by omega, by omega, rfl, hbd⟩
theorem pt_no {s : ByteArray} {a : Nat} (h : (ptP s a).2.2 = false) : hexN s a = a ∨ a + 6 < hexN s a ∨ 1114111 < wthR s a 16 (hexN s a - a) := by
  have hge := spN_ge hxB s (by decide) a
  rw [hexN_sp]
  unfold ptP at h
  split at h
  · next q =>
    rcases q with q | q
    · left; rw [q]; rw [if_pos (by omega)]
    · right; left
      split <;> omega
  · next q =>
    right; right
    rw [if_pos (by omega)]
    have := of_decide_eq_false h
    omega
theorem pts_same (s : ByteArray) (b : Nat) : ptsP s b = ptsR s b := by
  unfold ptsP ptsR
  dsimp only
  cases h1 : (ptP s (b + 3)).2.2 with
  | false =>
    rw [if_pos rfl]
    rcases pt_no h1 with q | q | q
    · rw [if_pos (.inl q)]
    · rw [if_pos (.inr (.inl q))]
    · by_cases c : hexN s (b + 3) = b + 3 ∨ b + 3 + 6 < hexN s (b + 3) ∨ (if chr s (hexN s (b + 3)) = 45 then hexN s (hexN s (b + 3) + 1) else hexN s (b + 3)) = (if chr s (hexN s (b + 3)) = 45 then hexN s (b + 3) + 1 else b + 3) ∨ (if chr s (hexN s (b + 3)) = 45 then hexN s (b + 3) + 1 else b + 3) + 6 < (if chr s (hexN s (b + 3)) = 45 then hexN s (hexN s (b + 3) + 1) else hexN s (b + 3)) ∨ chr s (if chr s (hexN s (b + 3)) = 45 then hexN s (hexN s (b + 3) + 1) else hexN s (b + 3)) ≠ 125
      · rw [if_pos c]
      · rw [if_neg c, if_pos (by omega)]
  | true =>
    obtain ⟨a1, a2, a3, a4, a5⟩ := pt_ok h1
    rw [if_neg (by decide), a1, ← a4, a1]
    rw [a1] at a2 a3 a4
    by_cases h45 : chr s (ptP s (b + 3)).2.1 = 45
    · rw [if_pos h45, if_pos h45, if_pos h45]
      cases h2 : (ptP s ((ptP s (b + 3)).2.1 + 1)).2.2 with
      | false =>
        rw [if_pos (.inl rfl)]
        rcases pt_no h2 with q | q | q
        · rw [if_pos (.inr (.inr (.inl q)))]
        · rw [if_pos (.inr (.inr (.inr (.inl q))))]
        · split
          · rfl
          · rw [if_pos (.inr q)]
      | true =>
        obtain ⟨b1, b2, b3, b4, b5⟩ := pt_ok h2
        rw [b1]
        rw [b1] at b2 b3 b4
        rw [b4]
        by_cases hlt : (ptP s ((ptP s (b + 3)).2.1 + 1)).1 < wthR s (b + 3) 16 ((ptP s (b + 3)).2.1 - (b + 3))
        · rw [if_pos (.inr hlt)]
          split
          · rfl
          · rw [if_pos (.inl hlt)]
        · rw [if_neg (by simp; omega)]
          by_cases h125 : chr s (ptP s ((ptP s (b + 3)).2.1 + 1)).2.1 = 125
          · rw [if_pos h125, if_neg (by omega), if_neg (by omega)]; rfl
          · rw [if_neg h125, if_pos (by omega)]
    · rw [if_neg h45, if_neg h45, if_neg h45]
      by_cases h125 : chr s (ptP s (b + 3)).2.1 = 125
      · rw [if_pos h125, if_neg (by omega), if_neg (by omega)]; rfl
      · rw [if_neg h125, if_pos (by omega)]
theorem sgC_kinds (c0 c1 : Int) : (((sgC c0 c1).1 = 13 ∨ (sgC c0 c1).1 = 14 ∨ (sgC c0 c1).1 = 15) → c0 = 94) ∧ ((sgC c0 c1).1 = 21 → c0 = 123 ∧ c1 = 58) := by
  unfold sgC
  by_cases h37 : c0 = 37
  · subst h37
    by_cases a101 : c1 = 101 <;> by_cases a102 : c1 = 102 <;> simp_all
  by_cases h94 : c0 = 94
  · subst h94
    by_cases a43 : c1 = 43 <;> by_cases a45 : c1 = 45 <;> simp_all
  by_cases h60 : c0 = 60
  · subst h60
    by_cases a45 : c1 = 45 <;> simp_all
  by_cases h45 : c0 = 45
  · subst h45
    by_cases a62 : c1 = 62 <;> simp_all
  by_cases h47 : c0 = 47
  · subst h47
    simp
  by_cases h38 : c0 = 38
  · subst h38
    simp
  by_cases h33 : c0 = 33
  · subst h33
    simp
  by_cases h63 : c0 = 63
  · subst h63
    simp
  by_cases h42 : c0 = 42
  · subst h42
    simp
  by_cases h43 : c0 = 43
  · subst h43
    simp
  by_cases h40 : c0 = 40
  · subst h40
    simp
  by_cases h41 : c0 = 41
  · subst h41
    simp
  by_cases h46 : c0 = 46
  · subst h46
    simp
  by_cases h123 : c0 = 123
  · subst h123
    by_cases a58 : c1 = 58 <;> by_cases a124 : c1 = 124 <;> by_cases a126 : c1 = 126 <;> simp_all
  by_cases h58 : c0 = 58
  · subst h58
    by_cases a125 : c1 = 125 <;> simp_all
  by_cases h124 : c0 = 124
  · subst h124
    by_cases a125 : c1 = 125 <;> simp_all
  by_cases h126 : c0 = 126
  · subst h126
    by_cases a125 : c1 = 125 <;> simp_all
  by_cases h125 : c0 = 125
  · subst h125
    simp
  simp [*]
/-- A group's name that is too long, with no colon behind it. -/
def lgG (s : ByteArray) (b : Nat) : Prop := chr s b = 123 ∧ chr s (b + 1) = 58 ∧ hdB (chr s (b + 2)) = true ∧ 32 < spN nmB s (b + 2) - (b + 2) ∧ chr s (spN nmB s (b + 2)) ≠ 58
theorem cnt_same (s : ByteArray) (b : Nat) (h : chr s b = 94) : sigP s b = cntR s b := by
  have e : sgAt s b = if chr s (b + 1) = 43 then (14, [94, 43]) else if chr s (b + 1) = 45 then (15, [94, 45]) else (13, [94]) := by
    rw [sgAt_C, h]; unfold sgC; rw [if_neg (by decide), if_pos rfl]
  unfold sigP cntR
  rw [e]
  dsimp only
  by_cases h43 : chr s (b + 1) = 43
  · rw [if_pos h43]; simp only [h43]; rfl
  · by_cases h45 : chr s (b + 1) = 45
    · rw [if_neg h43, if_pos h45]; simp only [h45]; rfl
    · have ho : ¬ (chr s (b + 1) = 43 ∨ chr s (b + 1) = 45) := by omega
      rw [if_neg h43, if_neg h45, if_neg h43, if_neg h45, if_neg ho]; rfl
theorem grp_same (s : ByteArray) (b : Nat) (h : chr s b = 123) (h2 : chr s (b + 1) = 58) : (lgG s b → sigP s b = .inr (b + 2, 2) ∧ grpR s b = .inl (nlT b (b + 2))) ∧ (¬ lgG s b → sigP s b = grpR s b) := by
  have e : sgAt s b = (21, [123, 58]) := by
    rw [sgAt_C, h, h2]; rfl
  have es : sigP s b = grpP s b (b + 2) := by
    unfold sigP
    rw [e]
    rfl
  rw [es]
  unfold grpP grpR lgG
  have e2 : spN nmB s (b + 2) - b - 2 = spN nmB s (b + 2) - (b + 2) := by omega
  rw [e2]
  refine ⟨fun ⟨_, _, q3, q4, q5⟩ => ?_, fun hn => ?_⟩
  · have hA : ¬ (hdB (chr s (b + 2)) = true ∧ chr s (spN nmB s (b + 2)) = 58) := fun q => q5 q.2
    rw [if_pos q3, if_pos q4, if_neg hA]; exact ⟨rfl, rfl⟩
  · by_cases q1 : hdB (chr s (b + 2)) = true
    · rw [if_pos q1]
      by_cases q3 : chr s (spN nmB s (b + 2)) = 58
      · have hA : hdB (chr s (b + 2)) = true ∧ chr s (spN nmB s (b + 2)) = 58 := ⟨q1, q3⟩
        rw [if_pos hA, if_pos q3]
        by_cases q2 : 32 < spN nmB s (b + 2) - (b + 2)
        · rw [if_pos q2, if_pos q2]
        · rw [if_neg q2, if_neg q2]; rfl
      · have hA : ¬ (hdB (chr s (b + 2)) = true ∧ chr s (spN nmB s (b + 2)) = 58) := fun q => q3 q.2
        have q2 : ¬ 32 < spN nmB s (b + 2) - (b + 2) := fun q => hn ⟨h, h2, q1, q, q3⟩
        rw [if_neg hA, if_neg q2, if_neg q3]; rfl
    · have hA : ¬ (hdB (chr s (b + 2)) = true ∧ chr s (spN nmB s (b + 2)) = 58) := fun q => q1 q.1
      rw [if_neg q1, if_neg hA]; rfl
theorem pct_same (s : ByteArray) (b : Nat) (h : chr s b = 37) : pctP s b = pctR s b := by
  have e : sgAt s b = if chr s (b + 1) = 101 then (29, [37, 101]) else if chr s (b + 1) = 102 then (30, [37, 102]) else (0, []) := by
    rw [sgAt_C, h]; unfold sgC; rw [if_pos rfl]
  have ep : pfx s b [37, 117, 123] = (chr s (b + 1) == 117 && chr s (b + 2) == 123) := by
    show (chr s b == 37 && (chr s (b + 1) == 117 && (chr s (b + 1 + 1) == 123 && true))) = _
    rw [h, Bool.and_true]; rfl
  unfold pctP pctR
  rw [ep]
  by_cases hu : chr s (b + 1) = 117 ∧ chr s (b + 2) = 123
  · rw [if_pos hu, hu.1, hu.2, if_pos (by decide)]; exact pts_same s b
  · have hu2 : ¬ (chr s (b + 1) == 117 && chr s (b + 2) == 123) = true := by simpa using hu
    rw [if_neg hu, if_neg hu2, e]
    by_cases h1 : chr s (b + 1) = 101
    · rw [if_pos h1, if_pos h1, if_pos (by simp)]
      unfold sigP
      rw [e, if_pos h1]; rfl
    · rw [if_neg h1, if_neg h1]
      by_cases h2 : chr s (b + 1) = 102
      · rw [if_pos h2, if_pos h2, if_pos (by simp)]
        unfold sigP
        rw [e, if_neg h1, if_pos h2]; rfl
      · rw [if_neg h2, if_neg h2, if_neg (by simp)]
        by_cases hs : b + 1 < s.size
        · have hp : 0 ≤ chr s (b + 1) := by rw [chr_in hs]; omega
          by_cases hc : (cls (chr s (b + 1)).toNat).2 = 0
          · rw [if_pos ⟨hs, hc⟩, if_pos ⟨hp, hc⟩]; rfl
          · rw [if_neg (fun q => hc q.2), if_neg (fun q => hc q.2)]
        · have hp : ¬ 0 ≤ chr s (b + 1) := by rw [chr_out hs]; omega
          rw [if_neg (fun q => hs q.1), if_neg (fun q => hp q.1)]
theorem one_same (s : ByteArray) (b : Nat) : (lgG s b → oneP s b = .inr (b + 2, 2) ∧ oneR (sgR s) s b = .inl (nlT b (b + 2))) ∧ (¬ lgG s b → oneP s b = oneR (sgR s) s b) := by
  unfold oneP oneR
  by_cases h1 : hdB (chr s b) = true
  · have hn : ¬ lgG s b := fun q => by rw [q.1] at h1; exact absurd h1 (by decide)
    refine ⟨fun q => absurd q hn, fun _ => ?_⟩
    rw [if_pos h1, if_pos h1]; rfl
  rw [if_neg h1, if_neg h1]
  by_cases h2 : dgB (chr s b) = true
  · have hn : ¬ lgG s b := fun q => by rw [q.1] at h2; exact absurd h2 (by decide)
    refine ⟨fun q => absurd q hn, fun _ => ?_⟩
    rw [if_pos h2, if_pos h2]; rfl
  rw [if_neg h2, if_neg h2]
  by_cases h3 : chr s b = 39 ∨ chr s b = 34
  · have hn : ¬ lgG s b := fun q => by have := q.1; omega
    refine ⟨fun q => absurd q hn, fun _ => ?_⟩
    rw [if_pos h3, if_pos h3]
  rw [if_neg h3, if_neg h3]
  by_cases h4 : chr s b = 91
  · have hn : ¬ lgG s b := fun q => by have := q.1; omega
    refine ⟨fun q => absurd q hn, fun _ => ?_⟩
    rw [if_pos h4, if_pos h4]
  rw [if_neg h4, if_neg h4]
  by_cases h5 : chr s b = 37
  · have hn : ¬ lgG s b := fun q => by have := q.1; omega
    refine ⟨fun q => absurd q hn, fun _ => ?_⟩
    rw [if_pos h5, if_pos h5]; exact pct_same s b h5
  rw [if_neg h5, if_neg h5]
  by_cases h6 : chr s b = 94
  · have hn : ¬ lgG s b := fun q => by have := q.1; omega
    refine ⟨fun q => absurd q hn, fun _ => ?_⟩
    rw [if_pos h6]; exact cnt_same s b h6
  rw [if_neg h6]
  by_cases h7 : chr s b = 123 ∧ chr s (b + 1) = 58
  · rw [if_pos h7]; exact grp_same s b h7.1 h7.2
  · have hn : ¬ lgG s b := fun q => h7 ⟨q.1, q.2.1⟩
    refine ⟨fun q => absurd q hn, fun _ => ?_⟩
    rw [if_neg h7, sgR_C, sgRC_C _ _ h5 h6 h7]
    obtain ⟨k1, k2⟩ := sgC_kinds (chr s b) (chr s (b + 1))
    unfold sigP
    rw [sgAt_C]
    dsimp only
    rw [if_neg (fun q => h6 (k1 q)), if_neg (fun q => h7 (k2 q))]
end Go.Proofs.YthffklhojdldkaaDoor

namespace Go.Proofs.YthffklhojdldkaaDoor
open Go.RowKit
theorem lg_in {s : ByteArray} {b : Nat} (h : lgG s b) : b + 2 < s.size := by
  have h3 := h.2.2.1
  by_cases q : b + 2 < s.size
  · exact q
  · rw [chr_out q] at h3; exact absurd h3 (by decide)
theorem oneR_en (s : ByteArray) (b : Nat) (t : Tk) (hb : b < s.size) (h : oneR (sgR s) s b = .inl t) : ∃ e : Nat, t.en = e ∧ b < e ∧ e ≤ s.size := by
  by_cases q : lgG s b
  · have h1 := lg_in q
    rw [((one_same s b).1 q).2] at h
    cases h
    exact ⟨b + 2, rfl, by omega, by omega⟩
  · rw [← (one_same s b).2 q] at h
    exact oneP_en s b t hb h
theorem oneR_no (s : ByteArray) (b : Nat) (p : Nat × Int) (h : oneR (sgR s) s b = .inr p) : p.2 ≠ 0 := by
  by_cases q : lgG s b
  · rw [((one_same s b).1 q).2] at h; cases h
  · rw [← (one_same s b).2 q] at h; exact oneP_no s b p h
theorem lexGo_same (s : ByteArray) : ∀ (f : Nat) (out : List Tk) (i : Nat), s.size < f + i → lexGo (oneP s) s f out i = lexGo (oneR (sgR s) s) s f out i := by
  intro f
  induction f with
  | zero => intro out i h; rfl
  | succ f ih =>
    intro out i h
    rw [lexGo, lexGo]
    by_cases hi : i < s.size
    · rw [if_pos hi, if_pos hi]
      by_cases q : lgG s i
      · have h1 := lg_in q
        obtain ⟨e1, e2⟩ := (one_same s i).1 q
        rw [e1, e2]
        dsimp only
        have hd := q.2.2.1
        have hg : gapN s (i + 2) = i + 2 := by
          rw [gapN_unf, if_pos h1]
          have hr : 65 ≤ chr s (i + 2) := by
            unfold hdB at hd
            simp at hd
            omega
          rw [if_neg (by omega), if_neg (by omega)]
        obtain ⟨f, rfl⟩ : ∃ g, f = g + 1 := ⟨f - 1, by omega⟩
        show _ = lexGo (oneR (sgR s) s) s (f + 1) (out ++ [nlT i (i + 2)]) (gapN s (i + 2))
        rw [hg, lexGo, if_pos h1]
        have ho : oneR (sgR s) s (i + 2) = .inr (i + 2, 2) := by
          unfold oneR
          rw [if_pos hd, if_pos (by have := q.2.2.2.1; omega)]
        rw [ho]
      · rw [(one_same s i).2 q]
        cases ho : oneR (sgR s) s i with
        | inr p => rfl
        | inl t =>
          obtain ⟨e, e1, e2, e3⟩ := oneR_en s i t hi ho
          have hge := gapN_ge s e e3
          dsimp only
          exact ih _ _ (by rw [e1, Int.toNat_natCast]; omega)
    · rw [if_neg hi, if_neg hi]
theorem lex_same (s : ByteArray) : lexR (oneP s) s = lexR (oneR (sgR s) s) s := by
  unfold lexR
  split
  · rfl
  · exact lexGo_same s _ _ _ (by omega)
end Go.Proofs.YthffklhojdldkaaDoor

namespace Go.Proofs.YthffklhojdldkaaDoor
open Go.RowKit
theorem eq26 (a b c d : Int) (w : World) : (Op.equalIn 10000 26 (.agg #[.int .i64 a, .int .i64 b]) (.agg #[.int .i64 c, .int .i64 d])).run Tryd.prog w = .ok (a == c && b == d) w := by
  have u3 := Tryd.underlying3
  have a3 := Tryd.isAgg3
  have z3 := Tryd.sizeOf3
  have u4 := Tryd.underlying24
  have a4 := Tryd.isAgg24
  have z4 := Tryd.sizeOf24
  have hS : Tryd.prog.underlying 26 = some (.struct (Tryd.prog.fieldsOf 26)) := by kernel_rfl
  have hp : Tryd.prog.stoodInHeld 26 = false := by kernel_rfl
  rw [show (10000 : Nat) = 9999 + 1 from rfl, run_equalIn_agg w 9999 26 _ _ hS hp]
  simp only [Program.fieldsOf, Tryd.underlying26]
  go_simp
  by_cases h1 : a = c <;> by_cases h2 : b = d <;> simp [h1, h2]
theorem eqSet (a b c d : Int) (w : World) : (Op.equalIn 9999 34 (.agg #[.int .u64 a, .int .u64 b, .int .u64 c, .int .u64 d]) (.agg #[.int .u64 a, .int .u64 b, .int .u64 c, .int .u64 d])).run Tryd.prog w = .ok true w := by
  have u3 := Tryd.underlying32
  have a3 := Tryd.isAgg32
  have z3 := Tryd.sizeOf32
  rw [show (9999 : Nat) = 9998 + 1 from rfl, Op.equalIn]
  simp only [Sem.run_bind, run_underlying Tryd.underlying34, Result.andThen_ok]
  simp only [Std.Legacy.Range.forIn_eq_forIn_range', Std.Legacy.Range.size, Nat.sub_zero, Nat.add_sub_cancel, Nat.div_one, List.range'_succ, List.range'_zero, List.forIn_cons, List.forIn_nil]
  go_simp
set_option maxRecDepth 100000 in
theorem tok_neq (t : Tk) (W : World) : (binOp .neq 36 (tkG t) (tkG t)).run Tryd.prog W = .ok (.bool false) W := by
  have hp : Tryd.prog.stoodInHeld 36 = false := by kernel_rfl
  simp [go_sem, Tryd.underlying36, Tryd.underlying3, Tryd.underlying9, Tryd.isAgg34, Tryd.isAgg3, Tryd.isAgg9, Tryd.sizeOf34, hp, eqSet]
set_option maxRecDepth 100000 in
theorem tok_eql (t : Tk) (W : World) : (binOp .eql 36 (tkG t) (tkG t)).run Tryd.prog W = .ok (.bool true) W := by
  have hp : Tryd.prog.stoodInHeld 36 = false := by kernel_rfl
  simp [go_sem, Tryd.underlying36, Tryd.underlying3, Tryd.underlying9, Tryd.isAgg34, Tryd.isAgg3, Tryd.isAgg9, Tryd.sizeOf34, hp, eqSet]
/-- A token's cells in a row. -/
structure TR (W : World) (g o : Nat) (t : Tk) : Prop where
  c0 : W.cell? ⟨g, o, none⟩ = some (.int .i64 t.kd)
  c1 : W.cell? ⟨g, o + 1, none⟩ = some (.int .i64 t.nn)
  c2 : W.cell? ⟨g, o + 2, none⟩ = some (.int .i64 t.fr)
  c3 : W.cell? ⟨g, o + 3, none⟩ = some (.int .i64 t.en)
  c4 : W.cell? ⟨g, o + 4, none⟩ = some (.string t.tx)
  c5 : W.cell? ⟨g, o + 5, none⟩ = some (.int .u64 t.s0)
  c6 : W.cell? ⟨g, o + 6, none⟩ = some (.int .u64 t.s1)
  c7 : W.cell? ⟨g, o + 7, none⟩ = some (.int .u64 t.s2)
  c8 : W.cell? ⟨g, o + 8, none⟩ = some (.int .u64 t.s3)
/-- A slice reads as a list of tokens. -/
structure RdT (W : World) (A : Option Addr) (L : List Tk) : Prop where
  rd : L ≠ [] → ∃ g, A = some ⟨g, 0, none⟩ ∧ g < W.heap.size ∧ ∀ (k : Nat) t, L[k]? = some t → TR W g (k * 9) t
theorem RdT.later {W W' : World} {A : Option Addr} {L : List Tk} (h : RdT W A L) (hb : Below W.heap.size W W') : RdT W' A L := ⟨fun hne => by
  obtain ⟨g, e, lt, hc⟩ := h.rd hne
  have key : ∀ j, W'.cell? ⟨g, j, none⟩ = W.cell? ⟨g, j, none⟩ := fun j => hb.cell (p := ⟨g, j, none⟩) lt
  refine ⟨g, e, Nat.lt_of_lt_of_le lt hb.size, fun k t hk => ?_⟩
  obtain ⟨c0, c1, c2, c3, c4, c5, c6, c7, c8⟩ := hc k t hk
  exact ⟨(key _).trans c0, (key _).trans c1, (key _).trans c2, (key _).trans c3, (key _).trans c4, (key _).trans c5, (key _).trans c6, (key _).trans c7, (key _).trans c8⟩⟩
theorem tkc_get (L : List Tk) : ∀ (k j : Nat) (t : Tk) (u : Value), L[k]? = some t → (tkV t)[j]? = some u → (tkc L)[k * 9 + j]? = some u := by
  induction L with
  | nil => intro k j t u h; simp at h
  | cons a L ih =>
    intro k j t u h hj
    have e : tkc (a :: L) = tkV a ++ tkc L := by unfold tkc; rw [List.flatMap_cons]
    have hl : (tkV a).length = 9 := rfl
    rw [e]
    cases k with
    | zero =>
      have h : a = t := by simpa using h
      subst h
      rw [Nat.zero_mul, Nat.zero_add, List.getElem?_append_left (by have := (List.getElem?_eq_some_iff.1 hj).1; omega)]
      exact hj
    | succ k =>
      rw [List.getElem?_append_right (by omega), hl, show (k + 1) * 9 + j - 9 = k * 9 + j from by omega]
      exact ih k j t u (by simpa using h) hj
theorem own_rdt {W : World} {B n : Nat} {v : Value} {L : List Tk} (h : W.ownsRow B 36 9 v n (tkc L)) (hn : n = L.length) : ∃ A c, v = .slice A L.length c ∧ RdT W A L := by
  subst hn
  have hc := h
  rcases h.2 with ⟨rfl, h0⟩ | ⟨g, cap, cur, rfl, _⟩
  · exact ⟨none, 0, by rw [h0], ⟨fun hl => absurd (List.eq_nil_of_length_eq_zero h0) hl⟩⟩
  · refine ⟨_, cap, rfl, ⟨fun _ => ⟨g, rfl, (hc.lt g rfl).2, fun k t hk => ?_⟩⟩⟩
    have key : ∀ j u, (tkV t)[j]? = some u → W.cell? ⟨g, k * 9 + j, none⟩ = some u := fun j u hj => by
      have := (hc.cells (g := g) rfl) (k * 9 + j) u (tkc_get L k j t u hk hj)
      rwa [Addr.add_lit, Nat.zero_add] at this
    exact ⟨key 0 _ rfl, key 1 _ rfl, key 2 _ rfl, key 3 _ rfl, key 4 _ rfl, key 5 _ rfl, key 6 _ rfl, key 7 _ rfl, key 8 _ rfl⟩
end Go.Proofs.YthffklhojdldkaaDoor

namespace Go.Proofs.YthffklhojdldkaaDoor
open Go.RowKit
theorem lexD_any (s : ByteArray) (hs : s.size ≤ 140737488355000) (w : World) : Calls Tryd.prog 8 #[.string s] w fun e w' => LxV w w' (lexR (oneP s) s) e ∧ Below w.heap.size w w' := by
  rw [lex_same]
  exact lex_of (oneR (sgR s) s) s hs (fun b hb _ w => one_of (sgR s) s b hs hb (fun w => sign_any s b hs hb w) w) (fun b t hb h => oneR_en s b t hb h) (fun b q h => oneR_no s b q h) w
set_option maxRecDepth 100000 in
set_option maxHeartbeats 4000000 in
theorem tnames_any (w : World) : Calls Tryd.prog 6 #[] w fun e w' => e = .returned (.bool true) ∧ w' = w := by
  go_enter Tryd.func6, Tryd.ntmps6
  go_wp2_with fail
  go_ret
  exact ⟨rfl, rfl⟩
set_option maxRecDepth 100000 in
set_option maxHeartbeats 8000000 in
theorem tsame_any (A1 A2 : Option Addr) (c1 c2 : Nat) (L : List Tk) (hl : L.length ≤ 20000000) (w : World) (h1 : RdT w A1 L) (h2 : RdT w A2 L) :
    Calls Tryd.prog 9 #[.slice A1 L.length c1, .slice A2 L.length c2] w fun e w' => e = .returned (.bool true) ∧ Below w.heap.size w w' := by
  have H1 := (show Hid _ from h1)
  have H2 := (show Hid _ from h2)
  have HG := (show Hid (∀ k, k < L.length → ∃ r, L[k]? = some r ∧ L ≠ []) from fun k hk => ⟨_, List.getElem?_eq_getElem hk, by rintro rfl; simp at hk⟩)
  have t1 : ((L.length : Int) != (L.length : Int)) = false := by simp
  clear h1 h2
  go_enter Tryd.func9, Tryd.ntmps9
  go_wp2_with fail
  go_loopw [5] (fun t wr => ∃ k : Nat, k ≤ L.length ∧ t = .int .i64 k ∧ Hid (Below w.heap.size w wr)) (fun t _ => L.length - (intOf t).toNat)
  case atStart => exact ⟨0, by omega, by go_num, Below.refl _ _⟩
  case round =>
    obtain ⟨k, hk, rfl, HW⟩ := hrel
    by_cases hlt : k < L.length
    · obtain ⟨t, hr, hne⟩ := HG.out k hlt
      obtain ⟨g1, rfl, l1, n1⟩ := (H1.out.later HW.out).rd hne
      obtain ⟨g2, rfl, l2, n2⟩ := (H2.out.later HW.out).rd hne
      obtain ⟨a0, a1, a2, a3, a4, a5, a6, a7, a8⟩ := n1 k _ hr
      obtain ⟨d0, d1, d2, d3, d4, d5, d6, d7, d8⟩ := n2 k _ hr
      obtain ⟨kd, nn, fr, en, tx, s0, s1, s2, s3⟩ := t
      dsimp only at a0 a1 a2 a3 a4 a5 a6 a7 a8 d0 d1 d2 d3 d4 d5 d6 d7 d8
      have z0 : (0 : Int) ≤ (k : Int) := by omega
      have z1 : (k : Int) < (L.length : Int) := by omega
      have hneq : ∀ W, (binOp .neq 36 (.agg #[.int .i64 kd, .int .i64 nn, .int .i64 fr, .int .i64 en, .string tx, .int .u64 s0, .int .u64 s1, .int .u64 s2, .int .u64 s3]) (.agg #[.int .i64 kd, .int .i64 nn, .int .i64 fr, .int .i64 en, .string tx, .int .u64 s0, .int .u64 s1, .int .u64 s2, .int .u64 s3])).run Tryd.prog W = .ok (.bool false) W := fun W => tok_neq ⟨kd, nn, fr, en, tx, s0, s1, s2, s3⟩ W
      clear hr HG H1 H2 n1 n2 hne
      generalize L.length = n at *
      go_wp2_with fail
      go_quiet (fail)
      have HW2 := (show Hid (Below w.heap.size w (wr.drewN nq)) from HW.out.trans (below_drewN (Below.refl _ _) _))
      generalize wr.drewN nq = w2 at *
      clear hneq a0 a1 a2 a3 a4 a5 a6 a7 a8 d0 d1 d2 d3 d4 d5 d6 d7 d8 HW
      go_wp2_with fail
      go_roundw
      case rel => exact ⟨k + 1, by omega, by go_num, HW2⟩
      case measure => simp [intOf]; omega
    · obtain rfl : k = L.length := by omega
      clear HG H1 H2
      go_wp2_with fail
      go_ret
      exact ⟨rfl, HW.out⟩
end Go.Proofs.YthffklhojdldkaaDoor

namespace Go.Proofs.YthffklhojdldkaaDoor
open Go.RowKit
/-- What Lex answers. -/
def LxP (w w' : World) (r : Sum (List Tk) (Nat × Int)) (e : Ending) : Prop := match r with
  | .inr q => e = .returned (.tuple #[.slice none 0 0, .agg #[.int .i64 q.1, .int .i64 q.2]])
  | .inl l => ∃ v, e = .returned (.tuple #[v, .agg #[.int .i64 0, .int .i64 0]]) ∧ w'.ownsRow w.heap.size 36 9 v l.length (tkc l)
/-- Between two tokens. -/
structure AtY (w W : World) (s : ByteArray) (v : Value) (out : List Tk) (i f : Nat) : Prop where
  b : Below w.heap.size w W
  x : FX W w.heap.size 0 0
  g : SG W
  o : W.ownsRow w.heap.size 36 9 v out.length (tkc out)
  hi : i ≤ s.size
  hf : s.size < f + gapN s i
  he : lexGo (oneP s) s f out (gapN s i) = lexR (oneP s) s
  hl : out.length ≤ i
theorem own_stF {W : World} {B n b : Nat} {v : Value} {xs : List Value} {p q : Int} (h : W.ownsRow B 36 9 v n xs) (hx : FX W b p q) (p' q' : Int) : (stF W b p' q').ownsRow B 36 9 v n xs := by
  refine ⟨h.1, ?_⟩
  rcases h.2 with hn | ⟨g, cap, cur, rfl, hB, hgg, rest⟩
  · exact .inl hn
  · refine .inr ⟨g, cap, cur, rfl, hB, ?_, rest⟩
    have hne : g ≠ b := by
      rintro rfl
      rw [hx.heap] at hgg
      injection hgg with h1
      injection h1 with h2 h3
      cases h3
    rw [stF_other p' q' hne]
    exact hgg
theorem own_ne {W : World} {B n b : Nat} {v : Value} {xs : List Value} {p q : Int} (h : W.ownsRow B 36 9 v n xs) (hx : FX W b p q) : v.ownBlock ≠ some b := by
  rcases h.2 with ⟨rfl, _⟩ | ⟨g, cap, cur, rfl, hB, hgg, rest⟩
  · intro q; cases q
  · intro q
    cases q
    rw [hx.heap] at hgg
    injection hgg with h1
    injection h1 with h2 h3
    cases h3
theorem FX.grown {W W' : World} {b : Nat} {p e : Int} {row : Option Nat} (h : FX W b p e) (hg : W.grownBy W' row) (hne : row ≠ some b) : FX W' b p e := ⟨(hg.block b h.lt (fun e => hne e.symm)).trans h.heap⟩
theorem stF_below {B : Nat} {w W : World} {b : Nat} (h : Below B w W) (hb : B ≤ b) (p q : Int) : Below B w (stF W b p q) := (h.setCell (p := ⟨b, 0, none⟩) hb _).setCell (p := ⟨b, 1, none⟩) hb _
theorem ret_lx {fn : Func} {R : Ending → World → Prop} {a : Act} {W : World} {b : Nat} {p e : Int} {v : Value} (hF : fn.results = #[.tmp 2, .cell 3 26]) (hd : a.defers = []) (h2 : a.tmps.getD 2 undef = v) (h3 : a.tmps.getD 3 undef = .pointer (some ⟨b, 0, none⟩)) (hT : FX W b p e) (hR : R (.returned (.tuple #[v, .agg #[.int .i64 p, .int .i64 e]])) W) : bodyPost Tryd.prog fn R .ret a W := by
  have c0 := hT.c0
  have c1 := hT.c1
  refine bodyPost_ret (v := .tuple #[v, .agg #[.int .i64 p, .int .i64 e]]) ?_ hd hR
  simp only [Array.getD_eq_getD_getElem?] at h2 h3
  simp [results, hF, go_sem, h2, h3, c0, c1]
set_option maxRecDepth 100000 in
set_option maxHeartbeats 8000000 in
theorem lexP_of (s : ByteArray) (hs : s.size ≤ 65536)
    (H2 : ∀ b t, b < s.size → oneP s b = .inl t → ∃ e : Nat, t.en = e ∧ b < e ∧ e ≤ s.size) (H3 : ∀ b q, oneP s b = .inr q → q.2 ≠ 0) (w : World) (hg : SG w) :
    Calls Tryd.prog 7 #[.string s] w fun e w' => LxP w w' (lexR (oneP s) s) e ∧ Below w.heap.size w w' := by
  have t1 : ¬ (65536 : Int) < (s.size : Int) := by omega
  obtain ⟨i0, hinf, hz0, hz1, hz2⟩ := info_parts Tryd.info36
  have HB : Hid (∀ k w, k ≤ s.size → Calls Tryd.prog 14 #[.string s, .int .i64 ((k : Nat) : Int)] w fun e w' => e = .returned (.int .i64 (spN blB s k)) ∧ w' = w) := fun k w hk => blanks_any s k (by omega) hk w
  have HLn : Hid (∀ k w, k ≤ s.size → Calls Tryd.prog 16 #[.string s, .int .i64 ((k : Nat) : Int)] w fun e w' => e = .returned (.int .i64 (spN lnB s k)) ∧ w' = w) := fun k w hk => lineEnd_any s k (by omega) hk w
  have HS : Hid (∀ k w, k ≤ s.size → Calls Tryd.prog 15 #[.string s, .int .i64 ((k : Nat) : Int), .string ⟨#[45, 45]⟩] w fun e w' => e = .returned (.bool (pfx s k [45, 45])) ∧ w' = w) := fun k w hk => stands_any s k ⟨#[45, 45]⟩ hk w
  have HO : Hid (∀ b w, b < s.size → SG w → Calls Tryd.prog 17 #[.string s, .int .i64 ((b : Nat) : Int)] w fun e w' => e = .returned (tokP (oneP s b)) ∧ Below w.heap.size w w') := fun b w hb g => readToken_any s b hs hb w g
  have HE := (show Hid ((∀ b t, b < s.size → oneP s b = .inl t → ∃ e : Nat, t.en = e ∧ b < e ∧ e ≤ s.size) ∧ ∀ b q, oneP s b = .inr q → q.2 ≠ 0) from ⟨H2, H3⟩)
  have HG0 := (show Hid (SG w) from hg)
  have H0 := (show Hid (AtY w (w.alloc (fxO 0 0)) s (.slice none 0 0) [] 0 (s.size + 1)) from
    ⟨below_box _ _, ⟨heap_alloc_new w _⟩, hg.later (below_box _ _), World.ownsRow_nil _ _ _ _, by omega, by have := (gapN_bd (s := s) (i := 0) (by omega)).1; omega, by unfold lexR; rw [if_neg (by omega)], Nat.le_refl _⟩)
  clear H2 H3 hg
  go_enter Tryd.func7, Tryd.ntmps7
  go_wp2_with fail
  refine wp_scope_again 2 0 (fun a' W => ∃ (out : List Tk) (i f : Nat) (v u6 u7 u8 u9 u10 u11 u12 u13 u14 u15 u16 u17 u18 u19 u20 u21 u22 u23 u24 u25 u26 u27 u28 u29 u30 u31 u32 u33 u34 u35 u36 u37 u38 u39 u40 u41 u42 u43 u44 : Value), a' = { tmps := #[.string s, undef, .slice none 0 0, .pointer (some ⟨w.heap.size, 0, none⟩), v, .int .i64 i, u6, u7, u8, u9, u10, u11, u12, u13, u14, u15, u16, u17, u18, u19, u20, u21, u22, u23, u24, u25, u26, u27, u28, u29, u30, u31, u32, u33, u34, u35, u36, u37, u38, u39, u40, u41, u42, u43, u44], defers := [] } ∧ Hid (AtY w W s v out i f)) (fun a' _ => s.size - (intOf (a'.tmps.getD 5 undef)).toNat) rfl ?_ ?_
  case refine_2 =>
    rintro a' W ⟨out, i, f, v, u6, u7, u8, u9, u10, u11, u12, u13, u14, u15, u16, u17, u18, u19, u20, u21, u22, u23, u24, u25, u26, u27, u28, u29, u30, u31, u32, u33, u34, u35, u36, u37, u38, u39, u40, u41, u42, u43, u44, rfl, HW⟩
    clear H0
    have hi := HW.out.hi
    have hf := HW.out.hf
    have hol := HW.out.hl
    have hge := spN_ge blB s (by decide) i
    have hle := spN_le blB s (by decide) i hi
    have HBi := (show Hid _ from fun w => HB.out i w hi)
    have HSi := (show Hid _ from fun w => HS.out (spN blB s i) w hle)
    have HLi := (show Hid _ from fun w => HLn.out (spN blB s i) w hle)
    have HGe := (show Hid (spN blB s i = s.size → gapN s i = s.size) from fun h => gapN_end h)
    have HGn := (show Hid (chr s (spN blB s i) = 45 → chr s (spN blB s i + 1) = 45 → gapN s i = gapN s (spN lnB s (spN blB s i)) ∧ spN blB s i < spN lnB s (spN blB s i)) from fun a b => gapN_note a b)
    have HGh := (show Hid (spN blB s i < s.size → ¬ (chr s (spN blB s i) = 45 ∧ chr s (spN blB s i + 1) = 45) → gapN s i = spN blB s i) from fun a b => gapN_here a b)
    have hle2 := spN_le lnB s (by decide) (spN blB s i) hle
    generalize hp : spN blB s i = p at *
    clear HB HS HLn hp
    by_cases hend : p = s.size
    · have HV : Hid (lexR (oneP s) s = .inl out) := by
        show lexR (oneP s) s = _
        rw [← HW.out.he, HGe.out hend]
        obtain ⟨f, rfl⟩ : ∃ g, f = g + 1 := ⟨f - 1, by have := HGe.out hend; omega⟩
        rw [lexGo, if_neg (by omega)]
      have v1 : ((p : Int) == (s.size : Int)) = true := by rw [hend]; exact beq_self_eq_true _
      have f0 := HW.out.x.f0
      have f1' := HW.out.x.f1
      have c0 := HW.out.x.c0
      have c1 := HW.out.x.c1
      clear HSi HLi HGe HGn HGh HO HE hend
      go_wp2_with fail
      refine (HBi.out _).mono ?_
      rintro e W ⟨rfl, rfl⟩
      clear HBi
      go_wp2_with fail
      refine ret_lx rfl rfl rfl rfl (stF_fx HW.out.x 0 0) ⟨?_, stF_below HW.out.b (Nat.le_refl _) 0 0⟩
      rw [HV.out]
      exact ⟨v, rfl, own_stF HW.out.o HW.out.x 0 0⟩
    have v1 : ((p : Int) == (s.size : Int)) = false := by rw [beq_eq_false_iff_ne]; omega
    have hplt : p < s.size := by omega
    by_cases hn : chr s p = 45 ∧ chr s (p + 1) = 45
    · obtain ⟨hg1, hg2⟩ := HGn.out hn.1 hn.2
      have hpf : pfx s p [45, 45] = true := by
        show (chr s p == 45 && (chr s (p + 1) == 45 && true)) = true
        rw [hn.1, hn.2]; rfl
      rw [hpf] at HSi
      generalize spN lnB s p = q at *
      have HW2 := (show Hid (AtY w W s v out q f) from ⟨HW.out.b, HW.out.x, HW.out.g, HW.out.o, hle2, by have := HW.out.hf; rw [hg1] at this; exact this, by rw [← hg1]; exact HW.out.he, by have := HW.out.hl; omega⟩)
      clear HGe HGn HGh HO HE hend hn hg1 hpf HW
      go_wp2_with fail
      refine (HBi.out _).mono ?_
      rintro e W ⟨rfl, rfl⟩
      clear HBi
      go_wp2_with fail
      refine (HSi.out _).mono ?_
      rintro e W ⟨rfl, rfl⟩
      clear HSi
      go_wp2_with fail
      go_step3
      simp (config := { zetaDelta := true }) only [then_goto, inBlock_goto]
      refine Kj_on rfl ?_
      go_wp2_with fail
      refine (HLi.out _).mono ?_
      rintro e W ⟨rfl, rfl⟩
      clear HLi
      go_wp2_with fail
      go_step3
      simp (config := { zetaDelta := true }) only [then_goto]
      refine Kj_back ⟨⟨out, q, f, v, _, _, _, _, _, _, _, _, _, _, _, _, _, _, _, _, _, _, _, _, _, _, _, _, _, _, _, _, _, _, _, _, _, _, _, _, _, _, _, rfl, HW2⟩, ?_⟩
      simp [intOf]
      omega
    · have hg1 := HGh.out hplt hn
      have hpf : pfx s p [45, 45] = false := by
        show (chr s p == 45 && (chr s (p + 1) == 45 && true)) = false
        by_cases h1 : chr s p = 45
        · have h2 : ¬ chr s (p + 1) = 45 := fun q => hn ⟨h1, q⟩
          rw [beq_eq_false_iff_ne.2 h2]; simp
        · rw [beq_eq_false_iff_ne.2 h1]; rfl
      rw [hpf] at HSi
      have HOp := (show Hid (∀ w, SG w → Calls Tryd.prog 17 #[.string s, .int .i64 ((p : Nat) : Int)] w fun e w' => e = .returned (tokP (oneP s p)) ∧ Below w.heap.size w w') from fun w g => HO.out p w hplt g)
      obtain ⟨f, rfl⟩ : ∃ g, f = g + 1 := ⟨f - 1, by omega⟩
      have HU : Hid (lexR (oneP s) s = match oneP s p with
        | .inr q => .inr q
        | .inl t => lexGo (oneP s) s f (out ++ [t]) (gapN s t.en.toNat)) := by show lexR (oneP s) s = _; rw [← HW.out.he, lexGo, hg1, if_pos hplt]; cases oneP s p <;> rfl
      cases ho : oneP s p with
      | inr q =>
        have hne := HE.out.2 p q ho
        have HV : Hid (lexR (oneP s) s = .inr q) := by show lexR (oneP s) s = _; rw [HU.out, ho]
        rw [ho] at HOp
        have t3 : (q.2 != 0) = true := by rw [bne, beq_eq_false_iff_ne.2 hne]; rfl
        clear HGe HGn HGh HO HE hend hn hg1 hpf HLi HU ho hne
        go_wp2_with fail
        refine (HBi.out _).mono ?_
        rintro e W ⟨rfl, rfl⟩
        clear HBi
        go_wp2_with fail
        refine (HSi.out _).mono ?_
        rintro e W ⟨rfl, rfl⟩
        clear HSi
        go_wp2_with fail
        go_step3
        simp (config := { zetaDelta := true }) only [then_goto, inBlock_goto]
        refine Kj_on rfl ?_
        go_wp2_with fail
        refine (HOp.out _ HW.out.g).mono ?_
        rintro e w3 ⟨rfl, b3⟩
        have HB5 := (show Hid (Below w.heap.size w ((w3.alloc (tkO tk0)).alloc (fxO q.1 q.2)) ∧ FX ((w3.alloc (tkO tk0)).alloc (fxO q.1 q.2)) w.heap.size 0 0 ∧ FX ((w3.alloc (tkO tk0)).alloc (fxO q.1 q.2)) (w3.heap.size + 1) q.1 q.2) from
          ⟨(((HW.out.b.trans (b3.mono HW.out.b.size)).alloc (Nat.le_trans HW.out.b.size b3.size) _).alloc (by rw [World.size_alloc]; have := HW.out.b.size; have := b3.size; omega) _), ((HW.out.x.below b3).below (below_box _ _)).below (below_box _ _), ⟨by
            have h := heap_alloc_new (w3.alloc (tkO tk0)) (fxO q.1 q.2)
            rw [World.size_alloc] at h
            exact h⟩⟩)
        have hlt3 := (HW.out.x.below b3).lt
        have ne1 : ¬ w3.heap.size + 1 = w.heap.size := by omega
        have ne2 : ¬ w.heap.size = w3.heap.size + 1 := by omega
        clear b3 HW HOp
        unfold tokP pairV
        go_wp2_with fail
        generalize (w3.alloc (tkO tk0)).alloc (fxO q.1 q.2) = w5 at *
        have f0 := HB5.out.2.1.f0
        have f1' := HB5.out.2.1.f1
        have c0 := HB5.out.2.1.c0
        have c1 := HB5.out.2.1.c1
        have k0 := HB5.out.2.2.c0
        have k1 := HB5.out.2.2.c1
        go_region
        all_goals
          go_wp2_with fail
          simp only [Kj_ret]
          refine ret_lx rfl rfl rfl rfl ((stF_fx HB5.out.2.1 q.1 q.2).below (Below.refl _ _).drew) ⟨?_, (stF_below HB5.out.1 (Nat.le_refl _) q.1 q.2).drew⟩
          rw [HV.out]
          exact rfl
      | inl t =>
        obtain ⟨en, he1, he2, he3⟩ := HE.out.1 p t hplt ho
        have HV : Hid (lexGo (oneP s) s f (out ++ [t]) (gapN s en) = lexR (oneP s) s) := by show _ = lexR (oneP s) s; rw [HU.out, ho]; show _ = lexGo (oneP s) s f (out ++ [t]) (gapN s t.en.toNat); rw [he1]; rfl
        have hgb := gapN_bd he3
        have HEn := (show Hid (t.en = (en : Int)) from he1)
        clear he1
        rw [ho] at HOp
        clear HGe HGn HGh HO HE hend hn hpf HLi HU ho
        go_wp2_with fail
        refine (HBi.out _).mono ?_
        rintro e W ⟨rfl, rfl⟩
        clear HBi
        go_wp2_with fail
        refine (HSi.out _).mono ?_
        rintro e W ⟨rfl, rfl⟩
        clear HSi
        go_wp2_with fail
        go_step3
        simp (config := { zetaDelta := true }) only [then_goto, inBlock_goto]
        refine Kj_on rfl ?_
        go_wp2_with fail
        refine (HOp.out _ HW.out.g).mono ?_
        rintro e w3 ⟨rfl, b3⟩
        have hO : w3.ownsRow w.heap.size 36 9 v out.length (tkc out) := ownB HW.out.o b3
        have HB3 := (show Hid (Below w.heap.size w w3 ∧ FX w3 w.heap.size 0 0 ∧ SG w3) from ⟨HW.out.b.trans (b3.mono HW.out.b.size), HW.out.x.below b3, HW.out.g.later b3⟩)
        have hs3 := HB3.out.1.size
        have HX := (show Hid (TX ((w3.alloc (tkO t)).alloc (fxO 0 0)) w3.heap.size t) from (TX.new w3 t).below (below_box _ _))
        clear b3 HOp HW
        unfold tokP pairV
        obtain ⟨c0, c1, c2, c3, c4, c5, c6, c7, c8⟩ := HX.out.cells
        go_wp2_with (at_builtin; refine wpList_append_lies _ rfl _ _ 23 rfl w.heap.size 36 i0 (tkG tk0) 9 80 Tryd.underlying23 hinf hz0 hz1 hz2 rfl (by decide) _ _ _ rfl (((hO.alloc _).alloc _).alloc _) ⟨w3.heap.size + 1 + 1, 0, none⟩ 1 1 (tkV t) rfl rfl ?c1 (tk_one _) (by decide) ?c3 ?c4 ?c5 (w3.heap.size + 1 + 1 + 1) (by simp) ?_)
        case c1 =>
          have hh := heap_alloc_new ((w3.alloc (tkO t)).alloc (fxO 0 0)) (.cells (tkC t) 36)
          rw [World.size_alloc, World.size_alloc] at hh
          exact World.news_of_block (cs := tkC t) (t := 36) (fr := (0, 0)) hh
        case c3 => unfold maxLen; omega
        case c4 => omega
        case c5 => first | omega | (simp; omega)
        intro g3 cap w4 hown hgrow hat _
        have hgo : ∀ k, v.ownBlock = some k → w.heap.size ≤ k ∧ k < w3.heap.size := fun k e => hO.lt k e
        have hne4 := own_ne hO HB3.out.2.1
        have HX4 := (show Hid (TX w4 w3.heap.size t) from (HX.out.below (below_box _ _)).grown hgrow (fun e => by have := (hgo _ e).2; omega))
        have hb4 : Below w.heap.size w w4 := (((HB3.out.1.alloc hs3 _).alloc (by rw [World.size_alloc]; omega) _).alloc (by rw [World.size_alloc, World.size_alloc]; omega) _).grown hgrow (by rw [World.size_alloc, World.size_alloc, World.size_alloc]; omega) (fun k e => (hgo k e).1)
        have HW4 := (show Hid (AtY w w4 s (.slice (some ⟨g3, 0, none⟩) (out.length + 1) cap) (out ++ [t]) en f) from by
          refine ⟨hb4, (((HB3.out.2.1.below (below_box _ _)).below (below_box _ _)).below (below_box _ _)).grown hgrow hne4, HG0.out.below hb4 HG0.out.lt, ?_, he3, by rw [hg1] at hf; omega, HV.out, by rw [List.length_append, List.length_singleton]; omega⟩
          rw [List.length_append, List.length_singleton, tkc_append, tkc_one]
          exact hown)
        have e3 := HX4.out.cells.c3
        rw [HEn.out] at e3
        clear hown hgrow hat hgo hO HB3 HX HV c0 c1 c2 c3 c4 c5 c6 c7 c8 hne4 hb4 HX4
        go_wp2_with fail
        go_step3
        simp (config := { zetaDelta := true }) only []
        refine Kj_back ⟨⟨out ++ [t], en, f, _, _, _, _, _, _, _, _, _, _, _, _, _, _, _, _, _, _, _, _, _, _, _, _, _, _, _, _, _, _, _, _, _, _, _, _, _, _, _, _, rfl, HW4⟩, ?_⟩
        simp [intOf]
        omega
  case refine_1 =>
    intro hpass
    have HPs := (show Hid _ from hpass)
    clear hpass
    go_wp2_with fail
    go_step3
    rename_i hK
    refine hK _ _ ?_
    refine HPs.out _ _ ?_
    exact ⟨[], 0, s.size + 1, .slice none 0 0, _, _, _, _, _, _, _, _, _, _, _, _, _, _, _, _, _, _, _, _, _, _, _, _, _, _, _, _, _, _, _, _, _, _, _, _, _, _, _, rfl, H0⟩
set_option maxRecDepth 100000 in
set_option maxHeartbeats 8000000 in
theorem lexP_long (s : ByteArray) (hs : 65536 < s.size) (w : World) : Calls Tryd.prog 7 #[.string s] w fun e w' => LxP w w' (lexR (oneP s) s) e ∧ Below w.heap.size w w' := by
  have t1 : (65536 : Int) < (s.size : Int) := by omega
  have HE : Hid (lexR (oneP s) s = .inr (0, 2)) := by show lexR (oneP s) s = _; unfold lexR; rw [if_pos hs]
  go_enter Tryd.func7, Tryd.ntmps7
  go_wp2_with fail
  refine wp_scope_forth 1 0 rfl ?_
  go_wp2_with fail
  simp only [Kj_ret]
  refine ret_lx (b := w.heap.size) (p := 0) (e := 2) rfl rfl rfl rfl ⟨heap_alloc_new w _⟩ ⟨?_, below_box _ _⟩
  rw [HE.out]
  exact rfl
end Go.Proofs.YthffklhojdldkaaDoor

namespace Go.Proofs.YthffklhojdldkaaDoor
open Go.RowKit
theorem lexP_any (s : ByteArray) (w : World) (hg : SG w) : Calls Tryd.prog 7 #[.string s] w fun e w' => LxP w w' (lexR (oneP s) s) e ∧ Below w.heap.size w w' := by
  by_cases hs : s.size ≤ 65536
  · exact lexP_of s hs (fun b t hb h => oneP_en s b t hb h) (fun b q h => oneP_no s b q h) w hg
  · exact lexP_long s (by omega) w
end Go.Proofs.YthffklhojdldkaaDoor
