/- DERIVED. Plain mathematics and walks, laid together (7). -/
import Derived.Deep.RegionLaw
import Derived.Laws.Bits64
import Derived.Test.YthffklhojdldkaaDoorLx06
namespace Go.Proofs.YthffklhojdldkaaDoor
open Go.RowKit
set_option maxRecDepth 100000 in
set_option maxHeartbeats 4000000 in
theorem hex_any (s : ByteArray) (a : Nat) (hs : s.size ≤ 140737488355328) (ha : a ≤ 140737488355400) (w : World) : Calls Tryd.prog 79 #[.string s, .int .i64 a] w fun e w' => e = .returned (.int .i64 (hexN s a)) ∧ w' = w := by
  have HX : Hid (∀ k (h : k < s.size) w, Calls Tryd.prog 74 #[.int .u8 (s[k].toNat : Int)] w fun e w' => e = .returned (.int .i64 (hexV (chr s k))) ∧ w' = w) := fun k h w => by
    have := hexDigit_any s[k] w
    rw [← chr_in h] at this
    rw [← chr_in h]
    exact this
  have H0 := (show Hid (hx7 s a 7 = hexN s a) from rfl)
  go_enter Tryd.func79, Tryd.ntmps79
  go_wp2_with fail
  go_loopw [5] (fun t wr => ∃ i m : Nat, t = .int .i64 i ∧ i + m ≤ a + 7 ∧ a + 7 ≤ i + m ∧ wr = w ∧ Hid (hx7 s i m = hexN s a)) (fun t _ => a + 7 - (intOf t).toNat)
  case atStart => exact ⟨a, 7, rfl, by omega, by omega, rfl, H0⟩
  case round =>
    obtain ⟨i, m, rfl, hm1, hm2, rfl, HI⟩ := hrel
    clear H0
    have z0 : (0 : Int) ≤ (i : Int) := by omega
    by_cases h1 : i < s.size
    · have t1 : decide (i < s.size) = true := decide_eq_true h1
      have z1 : (i : Int) < (s.size : Int) := by omega
      cases m with
      | zero =>
        have HE : Hid (hexN s a = i) := HI.out.symm
        have t3 : ¬ (i : Int) < (a : Int) + 7 := by omega
        clear HX HI
        go_wp2_with fail
        go_ret
        exact ⟨by rw [HE.out]; rfl, rfl⟩
      | succ m =>
        have t3 : (i : Int) < (a : Int) + 7 := by omega
        have HXi := (show Hid _ from HX.out i h1)
        clear HX
        by_cases hx : 0 ≤ hexV (chr s i)
        · have HE : Hid (hx7 s (i + 1) m = hexN s a) := by show _ = hexN s a; rw [← HI.out, hx7, if_pos hx]
          clear HI
          go_wp2_with fail
          refine (HXi.out _).mono ?_
          rintro e w ⟨rfl, rfl⟩
          clear HXi
          go_wp2_with fail
          go_roundw
          case rel => exact ⟨i + 1, m, by go_num, by omega, by omega, trivial, HE⟩
          case measure => simp [intOf]; omega
        · have HE : Hid (hexN s a = i) := by show hexN s a = _; rw [← HI.out, hx7, if_neg hx]
          clear HI
          go_wp2_with fail
          refine (HXi.out _).mono ?_
          rintro e w ⟨rfl, rfl⟩
          clear HXi
          go_wp2_with fail
          go_ret
          exact ⟨by rw [HE.out]; rfl, rfl⟩
    · have t1 : ¬ (i : Int) < (s.size : Int) := by omega
      have HE : Hid (hexN s a = i) := by
        show hexN s a = _
        rw [← HI.out]
        cases m with
        | zero => rfl
        | succ m => rw [hx7, chr_out h1, if_neg (by decide)]
      clear HX HI
      go_wp2_with fail
      go_ret
      exact ⟨by rw [HE.out]; rfl, rfl⟩

set_option maxRecDepth 100000 in
set_option maxHeartbeats 8000000 in
theorem gap_any (s : ByteArray) (i : Nat) (hs : s.size ≤ 140737488355328) (hi : i ≤ s.size) (w : World) : Calls Tryd.prog 18 #[.string s, .int .i64 i] w fun e w' => e = .returned (.int .i64 (gapN s i)) ∧ w' = w := by
  have HA : Hid (∀ k w, Calls Tryd.prog 29 #[.string s, .int .i64 (((k : Nat) : Int) + 1)] w fun e w' => e = .returned (.int .i64 (chr s (k + 1))) ∧ w' = w) := fun k w => at_any s (k + 1) w
  have H0 := (show Hid (gpGo s (s.size + 1) i = gapN s i) from rfl)
  go_enter Tryd.func18, Tryd.ntmps18
  go_wp2_with fail
  go_loopw [1] (fun t wr => ∃ k f : Nat, t = .int .i64 k ∧ k ≤ s.size ∧ s.size < f + k ∧ wr = w ∧ Hid (gpGo s f k = gapN s i)) (fun t _ => s.size - (intOf t).toNat)
  case atStart => exact ⟨i, s.size + 1, rfl, hi, by omega, rfl, H0⟩
  case round =>
    obtain ⟨k, f, rfl, hk, hf, rfl, HI⟩ := hrel
    clear H0
    have z0 : (0 : Int) ≤ (k : Int) := by omega
    obtain ⟨f, rfl⟩ : ∃ g, f = g + 1 := ⟨f - 1, by omega⟩
    by_cases h1 : k < s.size
    · have z1 : (k : Int) < (s.size : Int) := by omega
      have hck := chr_in h1
      have HU : Hid (gapN s i = if chr s k = 45 ∧ chr s (k + 1) = 45 then gpGo s f (spN lnB s k) else if chr s k = 9 ∨ chr s k = 10 ∨ chr s k = 13 ∨ chr s k = 32 then gpGo s f (k + 1) else k) := by show gapN s i = _; rw [← HI.out, gpGo, if_pos h1]
      clear HI
      by_cases h45 : chr s k = 45
      · have t1 : ((s[k].toNat : Int) == 45) = true := by rw [← hck, h45]; rfl
        have u9 : ((s[k].toNat : Int) == 9) = false := by rw [← hck, h45]; rfl
        have u10 : ((s[k].toNat : Int) == 10) = false := by rw [← hck, h45]; rfl
        have u13 : ((s[k].toNat : Int) == 13) = false := by rw [← hck, h45]; rfl
        have u32 : ((s[k].toNat : Int) == 32) = false := by rw [← hck, h45]; rfl
        clear hck
        by_cases h46 : chr s (k + 1) = 45
        · have t2 : (chr s (k + 1) == 45) = true := by rw [h46]; rfl
          have hsp := spN_spec lnB s (by decide) _ k rfl
          have hnx := (spN_next (P := lnB) (s := s) (i := k) (by decide) (by rw [h45]; rfl)).2
          have hg2 := spN_ge lnB s (by decide) (k + 1)
          obtain ⟨g, hg⟩ : ∃ g, g = spN lnB s k := ⟨_, rfl⟩
          rw [← hg] at hsp hnx
          have HE : Hid (gpGo s f g = gapN s i) := by show _ = gapN s i; rw [HU.out, if_pos ⟨h45, h46⟩, hg]
          have hg1 : k < g := by omega
          have hg3 : g ≤ s.size := hsp.2.1 hk
          have HN : Hid (∀ j, lnB (chr s j) = true → spN lnB s j = spN lnB s (j + 1)) := fun j h => (spN_next (by decide) h).2
          have HS : Hid (∀ j, lnB (chr s j) = false → spN lnB s j = j) := fun j h => spN_stop h
          have H1 := (show Hid (spN lnB s k = g) from hg.symm)
          clear HU hsp hnx hg2 h45 h46 hg
          go_wp2_with fail
          refine (HA.out _ _).mono ?_
          rintro e w ⟨rfl, rfl⟩
          go_wp2_with fail
          go_loopw [1] (fun t wr => ∃ j : Nat, t = .int .i64 j ∧ j ≤ s.size ∧ wr = w ∧ Hid (spN lnB s j = g)) (fun t _ => s.size - (intOf t).toNat)
          case atStart => exact ⟨k, rfl, hk, rfl, H1⟩
          case round =>
            obtain ⟨j, rfl, hj, rfl, HJ⟩ := hrel
            clear H1
            have y0 : (0 : Int) ≤ (j : Int) := by omega
            by_cases hj1 : j < s.size
            · have y1 : (j : Int) < (s.size : Int) := by omega
              have hcj := chr_in hj1
              have hcl := chr_le s j
              by_cases h10 : chr s j = 10
              · have HG : Hid (j = g) := by show j = g; rw [← HJ.out]; exact (HS.out j (by rw [h10]; rfl)).symm
                have v1 : ((s[j].toNat : Int) != 10) = false := by rw [← hcj, h10]; rfl
                clear HJ HN HS hcj h10 HA
                go_wp2_with fail
                go_roundw
                case rel => exact ⟨j, f, rfl, hj, by have := HG.out; omega, trivial, by rw [HG.out]; exact HE⟩
                case measure => have := HG.out; simp [intOf]; omega
              · have HG : Hid (spN lnB s (j + 1) = g) := by
                  show _ = g
                  rw [← HJ.out]
                  refine (HN.out j ?_).symm
                  unfold lnB
                  rw [decide_eq_true (by rw [hcj]; omega), beq_eq_false_iff_ne.2 h10]
                  rfl
                have v1 : ((s[j].toNat : Int) != 10) = true := by rw [← hcj, bne, beq_eq_false_iff_ne.2 h10]; rfl
                clear HJ HN HS hcj h10 HA HE
                go_wp2_with fail
                go_roundw
                case rel => exact ⟨j + 1, by go_num, by omega, trivial, HG⟩
                case measure => simp [intOf]; omega
            · obtain rfl : j = s.size := by omega
              have y1 : ¬ (s.size : Int) < (s.size : Int) := by omega
              have HG : Hid (s.size = g) := by show s.size = g; rw [← HJ.out]; exact (HS.out s.size (by rw [chr_out (by omega)]; rfl)).symm
              clear HJ HN HS HA
              go_wp2_with fail
              go_roundw
              case rel => exact ⟨s.size, f, rfl, by omega, by have := HG.out; omega, trivial, by rw [HG.out]; exact HE⟩
              case measure => have := HG.out; simp [intOf]; omega
        · have t2 : (chr s (k + 1) == 45) = false := beq_eq_false_iff_ne.2 h46
          have HE : Hid (gapN s i = k) := by show gapN s i = _; rw [HU.out, if_neg (fun q => h46 q.2), if_neg (by omega)]
          clear HU h45 h46
          go_wp2_with fail
          refine (HA.out _ _).mono ?_
          rintro e w ⟨rfl, rfl⟩
          clear HA
          go_wp2_with fail
          go_ret
          exact ⟨by rw [HE.out]; rfl, rfl⟩
      · have t1 : ((s[k].toNat : Int) == 45) = false := by rw [← hck]; exact beq_eq_false_iff_ne.2 h45
        by_cases hbl : chr s k = 9 ∨ chr s k = 10 ∨ chr s k = 13 ∨ chr s k = 32
        · have HE : Hid (gpGo s f (k + 1) = gapN s i) := by show _ = gapN s i; rw [HU.out, if_neg (fun q => h45 q.1), if_pos hbl]
          clear HU HA h45
          rcases hbl with q | q | q | q
          · have u9 : ((s[k].toNat : Int) == 9) = true := by rw [← hck, q]; rfl
            clear hck q
            go_wp2_with fail
            go_roundw
            case rel => exact ⟨k + 1, f, by go_num, by omega, by omega, trivial, HE⟩
            case measure => simp [intOf]; omega
          · have u9 : ((s[k].toNat : Int) == 9) = false := by rw [← hck, q]; rfl
            have u10 : ((s[k].toNat : Int) == 10) = true := by rw [← hck, q]; rfl
            clear hck q
            go_wp2_with fail
            go_roundw
            case rel => exact ⟨k + 1, f, by go_num, by omega, by omega, trivial, HE⟩
            case measure => simp [intOf]; omega
          · have u9 : ((s[k].toNat : Int) == 9) = false := by rw [← hck, q]; rfl
            have u10 : ((s[k].toNat : Int) == 10) = false := by rw [← hck, q]; rfl
            have u13 : ((s[k].toNat : Int) == 13) = true := by rw [← hck, q]; rfl
            clear hck q
            go_wp2_with fail
            go_roundw
            case rel => exact ⟨k + 1, f, by go_num, by omega, by omega, trivial, HE⟩
            case measure => simp [intOf]; omega
          · have u9 : ((s[k].toNat : Int) == 9) = false := by rw [← hck, q]; rfl
            have u10 : ((s[k].toNat : Int) == 10) = false := by rw [← hck, q]; rfl
            have u13 : ((s[k].toNat : Int) == 13) = false := by rw [← hck, q]; rfl
            have u32 : ((s[k].toNat : Int) == 32) = true := by rw [← hck, q]; rfl
            clear hck q
            go_wp2_with fail
            go_roundw
            case rel => exact ⟨k + 1, f, by go_num, by omega, by omega, trivial, HE⟩
            case measure => simp [intOf]; omega
        · have HE : Hid (gapN s i = k) := by show gapN s i = _; rw [HU.out, if_neg (fun q => h45 q.1), if_neg hbl]
          have u9 : ((s[k].toNat : Int) == 9) = false := by rw [← hck, beq_eq_false_iff_ne]; omega
          have u10 : ((s[k].toNat : Int) == 10) = false := by rw [← hck, beq_eq_false_iff_ne]; omega
          have u13 : ((s[k].toNat : Int) == 13) = false := by rw [← hck, beq_eq_false_iff_ne]; omega
          have u32 : ((s[k].toNat : Int) == 32) = false := by rw [← hck, beq_eq_false_iff_ne]; omega
          clear HU HA h45 hck hbl
          go_wp2_with fail
          go_ret
          exact ⟨by rw [HE.out]; rfl, rfl⟩
    · obtain rfl : k = s.size := by omega
      have t1 : ¬ (s.size : Int) < (s.size : Int) := by omega
      have HE : Hid (gapN s i = s.size) := by show gapN s i = _; rw [← HI.out, gpGo, if_neg (by omega)]
      clear HI HA
      go_wp2_with fail
      go_ret
      exact ⟨by rw [HE.out]; rfl, rfl⟩
end Go.Proofs.YthffklhojdldkaaDoor

namespace Go.Proofs.YthffklhojdldkaaDoor
open Go.RowKit
theorem below_drewN {B : Nat} {a w : World} (h : Below B a w) (n : Nat) : Below B a (w.drewN n) := by
  induction n with
  | zero => exact h
  | succ n ih => exact ih.drew
theorem calm {f : FuncId} {args : Array Value} {v : Value} {w : World} (h : Calls Tryd.prog f args w fun e w' => e = .returned v ∧ w' = w) : Calls Tryd.prog f args w fun e w' => e = .returned v ∧ ∃ n, w' = w.drewN n := h.mono fun _ _ ⟨h1, h2⟩ => ⟨h1, 0, h2⟩
theorem hx7_bd (s : ByteArray) : ∀ m i, i ≤ hx7 s i m ∧ hx7 s i m ≤ i + m ∧ (i ≤ s.size → hx7 s i m ≤ s.size) := by
  intro m
  induction m with
  | zero => intro i; exact ⟨Nat.le_refl _, Nat.le_refl _, fun q => q⟩
  | succ m ih =>
    intro i
    rw [hx7]
    split
    · next h =>
      have h1 := hexV_chr h
      obtain ⟨a, b, c⟩ := ih (i + 1)
      exact ⟨by omega, by omega, fun _ => c (by omega)⟩
    · exact ⟨Nat.le_refl _, by omega, fun q => q⟩
theorem hx7_all (s : ByteArray) : ∀ m i k, i ≤ k → k < hx7 s i m → 0 ≤ hexV (chr s k) := by
  intro m
  induction m with
  | zero => intro i k h1 h2; rw [hx7] at h2; omega
  | succ m ih =>
    intro i k h1 h2
    rw [hx7] at h2
    split at h2
    · next h =>
      by_cases e : k = i
      · subst e; exact h
      · exact ih (i + 1) k (by omega) h2
    · omega
theorem wthR_nn (s : ByteArray) (i : Nat) (base : Int) (hb : 0 ≤ base) : ∀ k, (∀ j, j < k → 0 ≤ hexV (chr s (i + j))) → 0 ≤ wthR s i base k := by
  intro k
  induction k with
  | zero => intro _; exact Int.le_refl _
  | succ k ih =>
    intro h
    rw [wthR]
    have h1 := Int.mul_nonneg (ih (fun j hj => h j (by omega))) hb
    have h2 := h k (by omega)
    omega
def ptsT (s : ByteArray) (b f1 e1 f2 e2 : Nat) : Sum Tk (Nat × Int) :=
  if e1 = f1 ∨ f1 + 6 < e1 ∨ e2 = f2 ∨ f2 + 6 < e2 ∨ chr s e2 ≠ 125 then .inr (b, 30)
  else if wthR s f2 16 (e2 - f2) < wthR s f1 16 (e1 - f1) ∨ 1114111 < wthR s f2 16 (e2 - f2) then .inr (b, 30)
  else .inl ⟨5, wthR s f1 16 (e1 - f1), b, e2 + 1, ⟨#[]⟩, wthR s f2 16 (e2 - f2), 0, 0, 0⟩
theorem ptsR_y {s : ByteArray} {b : Nat} (h : chr s (hexN s (b + 3)) = 45) : ptsR s b = ptsT s b (b + 3) (hexN s (b + 3)) (hexN s (b + 3) + 1) (hexN s (hexN s (b + 3) + 1)) := by unfold ptsR ptsT; simp only [h, if_true]
theorem ptsR_n {s : ByteArray} {b : Nat} (h : ¬ chr s (hexN s (b + 3)) = 45) : ptsR s b = ptsT s b (b + 3) (hexN s (b + 3)) (b + 3) (hexN s (b + 3)) := by unfold ptsR ptsT; simp only [if_neg h]

set_option maxRecDepth 100000 in
set_option maxHeartbeats 16000000 in
theorem points_dash (s : ByteArray) (b e1 : Nat) (hs : s.size ≤ 140737488355000) (hb : b + 3 ≤ s.size) (he1 : e1 = hexN s (b + 3)) (hd : chr s e1 = 45) (w : World) : Calls Tryd.prog 62 #[.string s, .int .i64 b] w fun e w' => e = .returned (tokV (ptsR s b)) ∧ Below w.heap.size w w' := by
  have HWr : Hid (∀ i e w, Calls Tryd.prog 32 #[.int .i64 i, .int .i64 e] w fun e' w' => e' = .returned (.tuple #[tkG tk0, .int .i64 i, .int .i64 e]) ∧ Below w.heap.size w w') := fun i e w => wrong_any i e w
  have HA : Hid (∀ k w, Calls Tryd.prog 29 #[.string s, .int .i64 ((k : Nat) : Int)] w fun e w' => e = .returned (.int .i64 (chr s k)) ∧ w' = w) := fun k w => at_any s k w
  have HH1 : Hid (∀ w, Calls Tryd.prog 79 #[.string s, .int .i64 ((b : Int) + 3)] w fun e w' => e = .returned (.int .i64 e1) ∧ w' = w) := fun w => by
    have h := hex_any s (b + 3) (by omega) (by omega) w
    rw [← he1] at h
    exact h
  have hbd1 := hx7_bd s 7 (b + 3)
  rw [show hx7 s (b + 3) 7 = e1 from he1.symm] at hbd1
  have t0 : (chr s e1 == 45) = true := by rw [hd]; rfl
  have h1s : e1 < s.size := chr_lt (by omega)
  obtain ⟨e2, he2⟩ : ∃ e2, e2 = hexN s (e1 + 1) := ⟨_, rfl⟩
  have HH2 : Hid (∀ w, Calls Tryd.prog 79 #[.string s, .int .i64 ((e1 : Int) + 1)] w fun e w' => e = .returned (.int .i64 e2) ∧ w' = w) := fun w => by
    have h := hex_any s (e1 + 1) (by omega) (by omega) w
    rw [← he2] at h
    exact h
  have hbd2 := hx7_bd s 7 (e1 + 1)
  rw [show hx7 s (e1 + 1) 7 = e2 from he2.symm] at hbd2
  have HU : Hid (ptsR s b = ptsT s b (b + 3) e1 (e1 + 1) e2) := by
    show ptsR s b = _
    rw [ptsR_y (by rw [← he1]; exact hd), ← he1, ← he2]
  have hnn : 0 ≤ wthR s (e1 + 1) 16 (e2 - (e1 + 1)) := wthR_nn s _ 16 (by omega) _ (fun k hk => hx7_all s 7 (e1 + 1) _ (by omega) (by rw [show hx7 s (e1 + 1) 7 = e2 from he2.symm]; omega))
  have hl1 := hbd1.2.2 hb
  have hl2 := hbd2.2.2 (by omega)
  have hg1 := hbd1.1
  have hg2 := hbd2.1
  clear hbd1 hbd2 he1 he2 hd
  have HW : Hid (∀ f e w, f ≤ e → e ≤ f + 6 → e ≤ s.size → Calls Tryd.prog 55 #[.string (s.extract f e), .int .i64 16] w fun e' w' => e' = .returned (.int .i64 (wthR s f 16 (e - f))) ∧ w' = w) := fun f e w h1 h2 h3 => by
    have hsz : (s.extract f e).size = e - f := by rw [ByteArray.size_extract]; omega
    have h := worth_any (s.extract f e) 16 (by omega) (by omega) w
    rw [hsz, wthR_ext (by omega) (e - f) (by omega)] at h
    exact h
  have HX := (show Hid (TX (w.alloc (tkO tk0)) w.heap.size tk0) from TX.new w tk0)
  have HB := (show Hid (Below w.heap.size w (w.alloc (tkO tk0))) from below_box w _)
  by_cases h1 : e1 = b + 3
  · have HE : Hid (ptsR s b = .inr (b, 30)) := by show ptsR s b = _; rw [HU.out]; unfold ptsT; rw [if_pos (.inl h1)]
    have t1 : ((e1 : Int) == (b : Int) + 3) = true := by rw [beq_iff_eq]; omega
    clear HU HW h1
    go_enter Tryd.func62, Tryd.ntmps62
    go_wp2_with fail
    refine (HH1.out _).mono ?_
    rintro e w2 ⟨rfl, rfl⟩
    go_wp2_with fail
    refine (HA.out _ _).mono ?_
    rintro e w2 ⟨rfl, rfl⟩
    go_wp2_with fail
    refine (HH2.out _).mono ?_
    rintro e w2 ⟨rfl, rfl⟩
    go_wp2_with fail
    refine (HWr.out _ _ _).mono ?_
    rintro e w3 ⟨rfl, b3⟩
    have HX3 := (show Hid (TX w3 w.heap.size tk0) from HX.out.below b3)
    have HB3 := (show Hid (Below w.heap.size w w3) from HB.out.trans (b3.mono HB.out.size))
    clear b3 HWr HX HB
    obtain ⟨c0, c1, c2, c3, c4, c5, c6, c7, c8⟩ := HX3.out.cells
    obtain ⟨f0, f1', f2', f3, f4, f5, f6, f7, f8⟩ := HX3.out.fz
    go_wp2_with fail
    exact ret_tok rfl rfl rfl rfl rfl (st9_tx HX3.out tk0) ⟨by rw [HE.out]; rfl, st9_below HB3.out (Nat.le_refl _) tk0⟩
  have t1 : ((e1 : Int) == (b : Int) + 3) = false := by rw [beq_eq_false_iff_ne]; omega
  by_cases h2 : b + 3 + 6 < e1
  · have HE : Hid (ptsR s b = .inr (b, 30)) := by show ptsR s b = _; rw [HU.out]; unfold ptsT; rw [if_pos (.inr (.inl h2))]
    have t2 : (b : Int) + 3 + 6 < (e1 : Int) := by omega
    clear HU HW
    go_enter Tryd.func62, Tryd.ntmps62
    go_wp2_with fail
    refine (HH1.out _).mono ?_
    rintro e w2 ⟨rfl, rfl⟩
    go_wp2_with fail
    refine (HA.out _ _).mono ?_
    rintro e w2 ⟨rfl, rfl⟩
    go_wp2_with fail
    refine (HH2.out _).mono ?_
    rintro e w2 ⟨rfl, rfl⟩
    go_wp2_with fail
    refine (HWr.out _ _ _).mono ?_
    rintro e w3 ⟨rfl, b3⟩
    have HX3 := (show Hid (TX w3 w.heap.size tk0) from HX.out.below b3)
    have HB3 := (show Hid (Below w.heap.size w w3) from HB.out.trans (b3.mono HB.out.size))
    clear b3 HWr HX HB
    obtain ⟨c0, c1, c2, c3, c4, c5, c6, c7, c8⟩ := HX3.out.cells
    obtain ⟨f0, f1', f2', f3, f4, f5, f6, f7, f8⟩ := HX3.out.fz
    go_wp2_with fail
    exact ret_tok rfl rfl rfl rfl rfl (st9_tx HX3.out tk0) ⟨by rw [HE.out]; rfl, st9_below HB3.out (Nat.le_refl _) tk0⟩
  have t2 : ¬ (b : Int) + 3 + 6 < (e1 : Int) := by omega
  by_cases h3 : e2 = e1 + 1
  · have HE : Hid (ptsR s b = .inr (b, 30)) := by show ptsR s b = _; rw [HU.out]; unfold ptsT; rw [if_pos (.inr (.inr (.inl h3)))]
    have t3 : ((e2 : Int) == (e1 : Int) + 1) = true := by rw [beq_iff_eq]; omega
    clear HU HW h3
    go_enter Tryd.func62, Tryd.ntmps62
    go_wp2_with fail
    refine (HH1.out _).mono ?_
    rintro e w2 ⟨rfl, rfl⟩
    go_wp2_with fail
    refine (HA.out _ _).mono ?_
    rintro e w2 ⟨rfl, rfl⟩
    go_wp2_with fail
    refine (HH2.out _).mono ?_
    rintro e w2 ⟨rfl, rfl⟩
    go_wp2_with fail
    refine (HWr.out _ _ _).mono ?_
    rintro e w3 ⟨rfl, b3⟩
    have HX3 := (show Hid (TX w3 w.heap.size tk0) from HX.out.below b3)
    have HB3 := (show Hid (Below w.heap.size w w3) from HB.out.trans (b3.mono HB.out.size))
    clear b3 HWr HX HB
    obtain ⟨c0, c1, c2, c3, c4, c5, c6, c7, c8⟩ := HX3.out.cells
    obtain ⟨f0, f1', f2', f3, f4, f5, f6, f7, f8⟩ := HX3.out.fz
    go_wp2_with fail
    exact ret_tok rfl rfl rfl rfl rfl (st9_tx HX3.out tk0) ⟨by rw [HE.out]; rfl, st9_below HB3.out (Nat.le_refl _) tk0⟩
  have t3 : ((e2 : Int) == (e1 : Int) + 1) = false := by rw [beq_eq_false_iff_ne]; omega
  by_cases h4 : e1 + 1 + 6 < e2
  · have HE : Hid (ptsR s b = .inr (b, 30)) := by show ptsR s b = _; rw [HU.out]; unfold ptsT; rw [if_pos (.inr (.inr (.inr (.inl h4))))]
    have t4 : (e1 : Int) + 1 + 6 < (e2 : Int) := by omega
    clear HU HW
    go_enter Tryd.func62, Tryd.ntmps62
    go_wp2_with fail
    refine (HH1.out _).mono ?_
    rintro e w2 ⟨rfl, rfl⟩
    go_wp2_with fail
    refine (HA.out _ _).mono ?_
    rintro e w2 ⟨rfl, rfl⟩
    go_wp2_with fail
    refine (HH2.out _).mono ?_
    rintro e w2 ⟨rfl, rfl⟩
    go_wp2_with fail
    refine (HWr.out _ _ _).mono ?_
    rintro e w3 ⟨rfl, b3⟩
    have HX3 := (show Hid (TX w3 w.heap.size tk0) from HX.out.below b3)
    have HB3 := (show Hid (Below w.heap.size w w3) from HB.out.trans (b3.mono HB.out.size))
    clear b3 HWr HX HB
    obtain ⟨c0, c1, c2, c3, c4, c5, c6, c7, c8⟩ := HX3.out.cells
    obtain ⟨f0, f1', f2', f3, f4, f5, f6, f7, f8⟩ := HX3.out.fz
    go_wp2_with fail
    exact ret_tok rfl rfl rfl rfl rfl (st9_tx HX3.out tk0) ⟨by rw [HE.out]; rfl, st9_below HB3.out (Nat.le_refl _) tk0⟩
  have t4 : ¬ (e1 : Int) + 1 + 6 < (e2 : Int) := by omega
  by_cases h5 : chr s e2 = 125
  · have t5 : (chr s e2 != 125) = false := by rw [h5]; rfl
    have HV : Hid (ptsR s b = if wthR s (e1 + 1) 16 (e2 - (e1 + 1)) < wthR s (b + 3) 16 (e1 - (b + 3)) ∨ 1114111 < wthR s (e1 + 1) 16 (e2 - (e1 + 1)) then .inr (b, 30) else .inl ⟨5, wthR s (b + 3) 16 (e1 - (b + 3)), b, e2 + 1, ⟨#[]⟩, wthR s (e1 + 1) 16 (e2 - (e1 + 1)), 0, 0, 0⟩) := by show ptsR s b = _; rw [HU.out]; unfold ptsT; rw [if_neg (by omega)]
    have HW1 := (show Hid (∀ w, Calls Tryd.prog 55 #[.string (s.extract (b + 3) e1), .int .i64 16] w fun e' w' => e' = .returned (.int .i64 (wthR s (b + 3) 16 (e1 - (b + 3)))) ∧ w' = w) from fun w => HW.out (b + 3) e1 w (by omega) (by omega) (by omega))
    have HW2 := (show Hid (∀ w, Calls Tryd.prog 55 #[.string (s.extract (e1 + 1) e2), .int .i64 16] w fun e' w' => e' = .returned (.int .i64 (wthR s (e1 + 1) 16 (e2 - (e1 + 1)))) ∧ w' = w) from fun w => HW.out (e1 + 1) e2 w (by omega) (by omega) (by omega))
    clear HU HW h5
    generalize wthR s (b + 3) 16 (e1 - (b + 3)) = x1 at *
    generalize wthR s (e1 + 1) 16 (e2 - (e1 + 1)) = x2 at *
    have y1 : (0 : Int) ≤ (b : Int) + 3 := by omega
    have y2 : (b : Int) + 3 ≤ (e1 : Int) := by omega
    have y3 : (e1 : Int) ≤ (s.size : Int) := by omega
    have y4 : (0 : Int) ≤ (e1 : Int) + 1 := by omega
    have y5 : (e1 : Int) + 1 ≤ (e2 : Int) := by omega
    have y6 : (e2 : Int) ≤ (s.size : Int) := by omega
    by_cases g1 : x2 < x1
    · have HE : Hid (ptsR s b = .inr (b, 30)) := by show ptsR s b = _; rw [HV.out, if_pos (.inl g1)]
      have v1 : decide (x2 < x1) = true := decide_eq_true g1
      clear HV
      go_enter Tryd.func62, Tryd.ntmps62
      go_wp2_with fail
      refine (HH1.out _).mono ?_
      rintro e w2 ⟨rfl, rfl⟩
      go_wp2_with fail
      refine (HA.out _ _).mono ?_
      rintro e w2 ⟨rfl, rfl⟩
      go_wp2_with fail
      refine (HH2.out _).mono ?_
      rintro e w2 ⟨rfl, rfl⟩
      go_wp2_with fail
      refine (HA.out _ _).mono ?_
      rintro e w2 ⟨rfl, rfl⟩
      clear HH1 HH2 HA
      go_wp2_with fail
      go_quiet ((go_at_call 55; first | with_reducible exact Calls.quiet_of (calm (HW1.out _)) | with_reducible exact Calls.quiet_of (calm (HW2.out _))))
      have HXd := (show Hid (TX ((w.alloc (.cells #[.int .i64 0, .int .i64 0, .int .i64 0, .int .i64 0, .string ⟨#[]⟩, .int .u64 0, .int .u64 0, .int .u64 0, .int .u64 0] 36)).drewN nq) w.heap.size tk0) from HX.out.below (below_drewN (Below.refl _ _) nq))
      have HBd := (show Hid (Below w.heap.size w ((w.alloc (.cells #[.int .i64 0, .int .i64 0, .int .i64 0, .int .i64 0, .string ⟨#[]⟩, .int .u64 0, .int .u64 0, .int .u64 0, .int .u64 0] 36)).drewN nq)) from below_drewN HB.out nq)
      clear HW1 HW2
      generalize (w.alloc (.cells #[.int .i64 0, .int .i64 0, .int .i64 0, .int .i64 0, .string ⟨#[]⟩, .int .u64 0, .int .u64 0, .int .u64 0, .int .u64 0] 36)).drewN nq = w5 at *
      go_wp2_with fail
      refine (HWr.out _ _ _).mono ?_
      rintro e w3 ⟨rfl, b3⟩
      have HX3 := (show Hid (TX w3 w.heap.size tk0) from HXd.out.below b3)
      have HB3 := (show Hid (Below w.heap.size w w3) from HBd.out.trans (b3.mono HBd.out.size))
      clear b3 HWr HX HB HXd HBd
      obtain ⟨c0, c1, c2, c3, c4, c5, c6, c7, c8⟩ := HX3.out.cells
      obtain ⟨f0, f1', f2', f3, f4, f5, f6, f7, f8⟩ := HX3.out.fz
      go_wp2_with fail
      exact ret_tok rfl rfl rfl rfl rfl (st9_tx HX3.out tk0) ⟨by rw [HE.out]; rfl, st9_below HB3.out (Nat.le_refl _) tk0⟩
    have v1 : decide (x2 < x1) = false := decide_eq_false g1
    by_cases g2 : 1114111 < x2
    · have HE : Hid (ptsR s b = .inr (b, 30)) := by show ptsR s b = _; rw [HV.out, if_pos (.inr g2)]
      have v2 : decide (1114111 < x2) = true := decide_eq_true g2
      clear HV
      go_enter Tryd.func62, Tryd.ntmps62
      go_wp2_with fail
      refine (HH1.out _).mono ?_
      rintro e w2 ⟨rfl, rfl⟩
      go_wp2_with fail
      refine (HA.out _ _).mono ?_
      rintro e w2 ⟨rfl, rfl⟩
      go_wp2_with fail
      refine (HH2.out _).mono ?_
      rintro e w2 ⟨rfl, rfl⟩
      go_wp2_with fail
      refine (HA.out _ _).mono ?_
      rintro e w2 ⟨rfl, rfl⟩
      clear HH1 HH2 HA
      go_wp2_with fail
      go_quiet ((go_at_call 55; first | with_reducible exact Calls.quiet_of (calm (HW1.out _)) | with_reducible exact Calls.quiet_of (calm (HW2.out _))))
      have HXd := (show Hid (TX ((w.alloc (.cells #[.int .i64 0, .int .i64 0, .int .i64 0, .int .i64 0, .string ⟨#[]⟩, .int .u64 0, .int .u64 0, .int .u64 0, .int .u64 0] 36)).drewN nq) w.heap.size tk0) from HX.out.below (below_drewN (Below.refl _ _) nq))
      have HBd := (show Hid (Below w.heap.size w ((w.alloc (.cells #[.int .i64 0, .int .i64 0, .int .i64 0, .int .i64 0, .string ⟨#[]⟩, .int .u64 0, .int .u64 0, .int .u64 0, .int .u64 0] 36)).drewN nq)) from below_drewN HB.out nq)
      clear HW1 HW2
      generalize (w.alloc (.cells #[.int .i64 0, .int .i64 0, .int .i64 0, .int .i64 0, .string ⟨#[]⟩, .int .u64 0, .int .u64 0, .int .u64 0, .int .u64 0] 36)).drewN nq = w5 at *
      go_wp2_with fail
      refine (HWr.out _ _ _).mono ?_
      rintro e w3 ⟨rfl, b3⟩
      have HX3 := (show Hid (TX w3 w.heap.size tk0) from HXd.out.below b3)
      have HB3 := (show Hid (Below w.heap.size w w3) from HBd.out.trans (b3.mono HBd.out.size))
      clear b3 HWr HX HB HXd HBd
      obtain ⟨c0, c1, c2, c3, c4, c5, c6, c7, c8⟩ := HX3.out.cells
      obtain ⟨f0, f1', f2', f3, f4, f5, f6, f7, f8⟩ := HX3.out.fz
      go_wp2_with fail
      exact ret_tok rfl rfl rfl rfl rfl (st9_tx HX3.out tk0) ⟨by rw [HE.out]; rfl, st9_below HB3.out (Nat.le_refl _) tk0⟩
    · have HE : Hid (ptsR s b = .inl ⟨5, x1, b, e2 + 1, ⟨#[]⟩, x2, 0, 0, 0⟩) := by show ptsR s b = _; rw [HV.out, if_neg (by omega)]
      have v2 : decide (1114111 < x2) = false := decide_eq_false g2
      have u9 : IntKind.u64.wrap x2 = x2 := by rw [IntKind.wrap_u64]; omega
      clear HV HWr
      go_enter Tryd.func62, Tryd.ntmps62
      go_wp2_with fail
      refine (HH1.out _).mono ?_
      rintro e w2 ⟨rfl, rfl⟩
      go_wp2_with fail
      refine (HA.out _ _).mono ?_
      rintro e w2 ⟨rfl, rfl⟩
      go_wp2_with fail
      refine (HH2.out _).mono ?_
      rintro e w2 ⟨rfl, rfl⟩
      go_wp2_with fail
      refine (HA.out _ _).mono ?_
      rintro e w2 ⟨rfl, rfl⟩
      clear HH1 HH2 HA
      go_wp2_with fail
      go_quiet ((go_at_call 55; first | with_reducible exact Calls.quiet_of (calm (HW1.out _)) | with_reducible exact Calls.quiet_of (calm (HW2.out _))))
      have HXd := (show Hid (TX ((w.alloc (.cells #[.int .i64 0, .int .i64 0, .int .i64 0, .int .i64 0, .string ⟨#[]⟩, .int .u64 0, .int .u64 0, .int .u64 0, .int .u64 0] 36)).drewN nq) w.heap.size tk0) from HX.out.below (below_drewN (Below.refl _ _) nq))
      have HBd := (show Hid (Below w.heap.size w ((w.alloc (.cells #[.int .i64 0, .int .i64 0, .int .i64 0, .int .i64 0, .string ⟨#[]⟩, .int .u64 0, .int .u64 0, .int .u64 0, .int .u64 0] 36)).drewN nq)) from below_drewN HB.out nq)
      clear HW1 HW2
      generalize (w.alloc (.cells #[.int .i64 0, .int .i64 0, .int .i64 0, .int .i64 0, .string ⟨#[]⟩, .int .u64 0, .int .u64 0, .int .u64 0, .int .u64 0] 36)).drewN nq = w5 at *
      obtain ⟨c0, c1, c2, c3, c4, c5, c6, c7, c8⟩ := HXd.out.cells
      obtain ⟨q0, q1, q2, q3, q4, q5, q6, q7, q8⟩ := HXd.out.fz
      go_wp2_with fail
      exact ret_tok (t := ⟨5, x1, b, e2 + 1, ⟨#[]⟩, x2, 0, 0, 0⟩) (p := 0) (e := 0) rfl rfl rfl rfl rfl (st9_tx HXd.out ⟨5, x1, b, e2 + 1, ⟨#[]⟩, x2, 0, 0, 0⟩) ⟨by rw [HE.out]; rfl, st9_below HBd.out (Nat.le_refl _) ⟨5, x1, b, e2 + 1, ⟨#[]⟩, x2, 0, 0, 0⟩⟩
  · have t5 : (chr s e2 != 125) = true := by rw [bne, beq_eq_false_iff_ne.2 h5]; rfl
    have HE : Hid (ptsR s b = .inr (b, 30)) := by show ptsR s b = _; rw [HU.out]; unfold ptsT; rw [if_pos (.inr (.inr (.inr (.inr h5))))]
    clear HU HW h5
    go_enter Tryd.func62, Tryd.ntmps62
    go_wp2_with fail
    refine (HH1.out _).mono ?_
    rintro e w2 ⟨rfl, rfl⟩
    go_wp2_with fail
    refine (HA.out _ _).mono ?_
    rintro e w2 ⟨rfl, rfl⟩
    go_wp2_with fail
    refine (HH2.out _).mono ?_
    rintro e w2 ⟨rfl, rfl⟩
    go_wp2_with fail
    refine (HA.out _ _).mono ?_
    rintro e w2 ⟨rfl, rfl⟩
    go_wp2_with fail
    refine (HWr.out _ _ _).mono ?_
    rintro e w3 ⟨rfl, b3⟩
    have HX3 := (show Hid (TX w3 w.heap.size tk0) from HX.out.below b3)
    have HB3 := (show Hid (Below w.heap.size w w3) from HB.out.trans (b3.mono HB.out.size))
    clear b3 HWr HX HB
    obtain ⟨c0, c1, c2, c3, c4, c5, c6, c7, c8⟩ := HX3.out.cells
    obtain ⟨f0, f1', f2', f3, f4, f5, f6, f7, f8⟩ := HX3.out.fz
    go_wp2_with fail
    exact ret_tok rfl rfl rfl rfl rfl (st9_tx HX3.out tk0) ⟨by rw [HE.out]; rfl, st9_below HB3.out (Nat.le_refl _) tk0⟩
end Go.Proofs.YthffklhojdldkaaDoor

namespace Go.Proofs.YthffklhojdldkaaDoor
open Go.RowKit
set_option maxRecDepth 100000 in
set_option maxHeartbeats 16000000 in
theorem points_plain (s : ByteArray) (b e1 : Nat) (hs : s.size ≤ 140737488355000) (hb : b + 3 ≤ s.size) (he1 : e1 = hexN s (b + 3)) (hd : ¬ chr s e1 = 45) (w : World) : Calls Tryd.prog 62 #[.string s, .int .i64 b] w fun e w' => e = .returned (tokV (ptsR s b)) ∧ Below w.heap.size w w' := by
  have HWr : Hid (∀ i e w, Calls Tryd.prog 32 #[.int .i64 i, .int .i64 e] w fun e' w' => e' = .returned (.tuple #[tkG tk0, .int .i64 i, .int .i64 e]) ∧ Below w.heap.size w w') := fun i e w => wrong_any i e w
  have HA : Hid (∀ k w, Calls Tryd.prog 29 #[.string s, .int .i64 ((k : Nat) : Int)] w fun e w' => e = .returned (.int .i64 (chr s k)) ∧ w' = w) := fun k w => at_any s k w
  have HH1 : Hid (∀ w, Calls Tryd.prog 79 #[.string s, .int .i64 ((b : Int) + 3)] w fun e w' => e = .returned (.int .i64 e1) ∧ w' = w) := fun w => by
    have h := hex_any s (b + 3) (by omega) (by omega) w
    rw [← he1] at h
    exact h
  have hbd1 := hx7_bd s 7 (b + 3)
  rw [show hx7 s (b + 3) 7 = e1 from he1.symm] at hbd1
  have t0 : (chr s e1 == 45) = false := beq_eq_false_iff_ne.2 hd
  have HU : Hid (ptsR s b = ptsT s b (b + 3) e1 (b + 3) e1) := by
    show ptsR s b = _
    rw [ptsR_n (by rw [← he1]; exact hd), ← he1]
  have hnn : 0 ≤ wthR s (b + 3) 16 (e1 - (b + 3)) := wthR_nn s _ 16 (by omega) _ (fun k hk => hx7_all s 7 (b + 3) _ (by omega) (by rw [show hx7 s (b + 3) 7 = e1 from he1.symm]; omega))
  have hl1 := hbd1.2.2 hb
  have hg1 := hbd1.1
  clear hbd1 he1 hd
  have HW : Hid (b + 3 ≤ e1 → e1 ≤ b + 3 + 6 → ∀ w, Calls Tryd.prog 55 #[.string (s.extract (b + 3) e1), .int .i64 16] w fun e' w' => e' = .returned (.int .i64 (wthR s (b + 3) 16 (e1 - (b + 3)))) ∧ w' = w) := fun h1 h2 w => by
    have hsz : (s.extract (b + 3) e1).size = e1 - (b + 3) := by rw [ByteArray.size_extract]; omega
    have h := worth_any (s.extract (b + 3) e1) 16 (by omega) (by omega) w
    rw [hsz, wthR_ext (by omega) (e1 - (b + 3)) (by omega)] at h
    exact h
  have HX := (show Hid (TX (w.alloc (tkO tk0)) w.heap.size tk0) from TX.new w tk0)
  have HB := (show Hid (Below w.heap.size w (w.alloc (tkO tk0))) from below_box w _)
  by_cases h1 : e1 = b + 3
  · have HE : Hid (ptsR s b = .inr (b, 30)) := by show ptsR s b = _; rw [HU.out]; unfold ptsT; rw [if_pos (.inl h1)]
    have t1 : ((e1 : Int) == (b : Int) + 3) = true := by rw [beq_iff_eq]; omega
    clear HU HW h1
    go_enter Tryd.func62, Tryd.ntmps62
    go_wp2_with fail
    refine (HH1.out _).mono ?_
    rintro e w2 ⟨rfl, rfl⟩
    go_wp2_with fail
    refine (HA.out _ _).mono ?_
    rintro e w2 ⟨rfl, rfl⟩
    go_wp2_with fail
    refine (HWr.out _ _ _).mono ?_
    rintro e w3 ⟨rfl, b3⟩
    have HX3 := (show Hid (TX w3 w.heap.size tk0) from HX.out.below b3)
    have HB3 := (show Hid (Below w.heap.size w w3) from HB.out.trans (b3.mono HB.out.size))
    clear b3 HWr
    obtain ⟨c0, c1, c2, c3, c4, c5, c6, c7, c8⟩ := HX3.out.cells
    obtain ⟨f0, f1', f2', f3, f4, f5, f6, f7, f8⟩ := HX3.out.fz
    go_wp2_with fail
    exact ret_tok rfl rfl rfl rfl rfl (st9_tx HX3.out tk0) ⟨by rw [HE.out]; rfl, st9_below HB3.out (Nat.le_refl _) tk0⟩
  have t1 : ((e1 : Int) == (b : Int) + 3) = false := by rw [beq_eq_false_iff_ne]; omega
  by_cases h2 : b + 3 + 6 < e1
  · have HE : Hid (ptsR s b = .inr (b, 30)) := by show ptsR s b = _; rw [HU.out]; unfold ptsT; rw [if_pos (.inr (.inl h2))]
    have t2 : (b : Int) + 3 + 6 < (e1 : Int) := by omega
    clear HU HW
    go_enter Tryd.func62, Tryd.ntmps62
    go_wp2_with fail
    refine (HH1.out _).mono ?_
    rintro e w2 ⟨rfl, rfl⟩
    go_wp2_with fail
    refine (HA.out _ _).mono ?_
    rintro e w2 ⟨rfl, rfl⟩
    go_wp2_with fail
    refine (HWr.out _ _ _).mono ?_
    rintro e w3 ⟨rfl, b3⟩
    have HX3 := (show Hid (TX w3 w.heap.size tk0) from HX.out.below b3)
    have HB3 := (show Hid (Below w.heap.size w w3) from HB.out.trans (b3.mono HB.out.size))
    clear b3 HWr
    obtain ⟨c0, c1, c2, c3, c4, c5, c6, c7, c8⟩ := HX3.out.cells
    obtain ⟨f0, f1', f2', f3, f4, f5, f6, f7, f8⟩ := HX3.out.fz
    go_wp2_with fail
    exact ret_tok rfl rfl rfl rfl rfl (st9_tx HX3.out tk0) ⟨by rw [HE.out]; rfl, st9_below HB3.out (Nat.le_refl _) tk0⟩
  have t2 : ¬ (b : Int) + 3 + 6 < (e1 : Int) := by omega
  by_cases h5 : chr s e1 = 125
  · have t5 : (chr s e1 != 125) = false := by rw [h5]; rfl
    have HV : Hid (ptsR s b = if wthR s (b + 3) 16 (e1 - (b + 3)) < wthR s (b + 3) 16 (e1 - (b + 3)) ∨ 1114111 < wthR s (b + 3) 16 (e1 - (b + 3)) then .inr (b, 30) else .inl ⟨5, wthR s (b + 3) 16 (e1 - (b + 3)), b, e1 + 1, ⟨#[]⟩, wthR s (b + 3) 16 (e1 - (b + 3)), 0, 0, 0⟩) := by show ptsR s b = _; rw [HU.out]; unfold ptsT; rw [if_neg (by omega)]
    have HW1 := (show Hid (∀ w, Calls Tryd.prog 55 #[.string (s.extract (b + 3) e1), .int .i64 16] w fun e' w' => e' = .returned (.int .i64 (wthR s (b + 3) 16 (e1 - (b + 3)))) ∧ w' = w) from HW.out (by omega) (by omega))
    clear HU HW h5
    generalize wthR s (b + 3) 16 (e1 - (b + 3)) = x1 at *
    have y1 : (0 : Int) ≤ (b : Int) + 3 := by omega
    have y2 : (b : Int) + 3 ≤ (e1 : Int) := by omega
    have y3 : (e1 : Int) ≤ (s.size : Int) := by omega
    by_cases g2 : 1114111 < x1
    · have HE : Hid (ptsR s b = .inr (b, 30)) := by show ptsR s b = _; rw [HV.out, if_pos (.inr g2)]
      have v2 : decide (1114111 < x1) = true := decide_eq_true g2
      clear HV
      go_enter Tryd.func62, Tryd.ntmps62
      go_wp2_with fail
      refine (HH1.out _).mono ?_
      rintro e w2 ⟨rfl, rfl⟩
      go_wp2_with fail
      refine (HA.out _ _).mono ?_
      rintro e w2 ⟨rfl, rfl⟩
      go_wp2_with fail
      refine (HA.out _ _).mono ?_
      rintro e w2 ⟨rfl, rfl⟩
      clear HH1 HA
      go_wp2_with fail
      go_quiet ((go_at_call 55; with_reducible exact Calls.quiet_of (calm (HW1.out _))))
      have HXd := (show Hid (TX ((w.alloc (.cells #[.int .i64 0, .int .i64 0, .int .i64 0, .int .i64 0, .string ⟨#[]⟩, .int .u64 0, .int .u64 0, .int .u64 0, .int .u64 0] 36)).drewN nq) w.heap.size tk0) from HX.out.below (below_drewN (Below.refl _ _) nq))
      have HBd := (show Hid (Below w.heap.size w ((w.alloc (.cells #[.int .i64 0, .int .i64 0, .int .i64 0, .int .i64 0, .string ⟨#[]⟩, .int .u64 0, .int .u64 0, .int .u64 0, .int .u64 0] 36)).drewN nq)) from below_drewN HB.out nq)
      clear HW1
      generalize (w.alloc (.cells #[.int .i64 0, .int .i64 0, .int .i64 0, .int .i64 0, .string ⟨#[]⟩, .int .u64 0, .int .u64 0, .int .u64 0, .int .u64 0] 36)).drewN nq = w5 at *
      go_wp2_with fail
      refine (HWr.out _ _ _).mono ?_
      rintro e w3 ⟨rfl, b3⟩
      have HX3 := (show Hid (TX w3 w.heap.size tk0) from HXd.out.below b3)
      have HB3 := (show Hid (Below w.heap.size w w3) from HBd.out.trans (b3.mono HBd.out.size))
      clear b3 HWr
      obtain ⟨c0, c1, c2, c3, c4, c5, c6, c7, c8⟩ := HX3.out.cells
      obtain ⟨f0, f1', f2', f3, f4, f5, f6, f7, f8⟩ := HX3.out.fz
      go_wp2_with fail
      exact ret_tok rfl rfl rfl rfl rfl (st9_tx HX3.out tk0) ⟨by rw [HE.out]; rfl, st9_below HB3.out (Nat.le_refl _) tk0⟩
    · have HE : Hid (ptsR s b = .inl ⟨5, x1, b, e1 + 1, ⟨#[]⟩, x1, 0, 0, 0⟩) := by show ptsR s b = _; rw [HV.out, if_neg (by omega)]
      have v2 : decide (1114111 < x1) = false := decide_eq_false g2
      have u9 : IntKind.u64.wrap x1 = x1 := by rw [IntKind.wrap_u64]; omega
      clear HV HWr
      go_enter Tryd.func62, Tryd.ntmps62
      go_wp2_with fail
      refine (HH1.out _).mono ?_
      rintro e w2 ⟨rfl, rfl⟩
      go_wp2_with fail
      refine (HA.out _ _).mono ?_
      rintro e w2 ⟨rfl, rfl⟩
      go_wp2_with fail
      refine (HA.out _ _).mono ?_
      rintro e w2 ⟨rfl, rfl⟩
      clear HH1 HA
      go_wp2_with fail
      go_quiet ((go_at_call 55; with_reducible exact Calls.quiet_of (calm (HW1.out _))))
      have HXd := (show Hid (TX ((w.alloc (.cells #[.int .i64 0, .int .i64 0, .int .i64 0, .int .i64 0, .string ⟨#[]⟩, .int .u64 0, .int .u64 0, .int .u64 0, .int .u64 0] 36)).drewN nq) w.heap.size tk0) from HX.out.below (below_drewN (Below.refl _ _) nq))
      have HBd := (show Hid (Below w.heap.size w ((w.alloc (.cells #[.int .i64 0, .int .i64 0, .int .i64 0, .int .i64 0, .string ⟨#[]⟩, .int .u64 0, .int .u64 0, .int .u64 0, .int .u64 0] 36)).drewN nq)) from below_drewN HB.out nq)
      clear HW1
      generalize (w.alloc (.cells #[.int .i64 0, .int .i64 0, .int .i64 0, .int .i64 0, .string ⟨#[]⟩, .int .u64 0, .int .u64 0, .int .u64 0, .int .u64 0] 36)).drewN nq = w5 at *
      obtain ⟨c0, c1, c2, c3, c4, c5, c6, c7, c8⟩ := HXd.out.cells
      obtain ⟨q0, q1, q2, q3, q4, q5, q6, q7, q8⟩ := HXd.out.fz
      go_wp2_with fail
      exact ret_tok (t := ⟨5, x1, b, e1 + 1, ⟨#[]⟩, x1, 0, 0, 0⟩) (p := 0) (e := 0) rfl rfl rfl rfl rfl (st9_tx HXd.out ⟨5, x1, b, e1 + 1, ⟨#[]⟩, x1, 0, 0, 0⟩) ⟨by rw [HE.out]; rfl, st9_below HBd.out (Nat.le_refl _) ⟨5, x1, b, e1 + 1, ⟨#[]⟩, x1, 0, 0, 0⟩⟩
  · have t5 : (chr s e1 != 125) = true := by rw [bne, beq_eq_false_iff_ne.2 h5]; rfl
    have HE : Hid (ptsR s b = .inr (b, 30)) := by show ptsR s b = _; rw [HU.out]; unfold ptsT; rw [if_pos (.inr (.inr (.inr (.inr h5))))]
    clear HU HW h5
    go_enter Tryd.func62, Tryd.ntmps62
    go_wp2_with fail
    refine (HH1.out _).mono ?_
    rintro e w2 ⟨rfl, rfl⟩
    go_wp2_with fail
    refine (HA.out _ _).mono ?_
    rintro e w2 ⟨rfl, rfl⟩
    go_wp2_with fail
    refine (HA.out _ _).mono ?_
    rintro e w2 ⟨rfl, rfl⟩
    clear HH1 HA
    go_wp2_with fail
    refine (HWr.out _ _ _).mono ?_
    rintro e w3 ⟨rfl, b3⟩
    have HX3 := (show Hid (TX w3 w.heap.size tk0) from HX.out.below b3)
    have HB3 := (show Hid (Below w.heap.size w w3) from HB.out.trans (b3.mono HB.out.size))
    clear b3 HWr
    obtain ⟨c0, c1, c2, c3, c4, c5, c6, c7, c8⟩ := HX3.out.cells
    obtain ⟨f0, f1', f2', f3, f4, f5, f6, f7, f8⟩ := HX3.out.fz
    go_wp2_with fail
    exact ret_tok rfl rfl rfl rfl rfl (st9_tx HX3.out tk0) ⟨by rw [HE.out]; rfl, st9_below HB3.out (Nat.le_refl _) tk0⟩
theorem points_any (s : ByteArray) (b : Nat) (hs : s.size ≤ 140737488355000) (hb : b + 3 ≤ s.size) (w : World) : Calls Tryd.prog 62 #[.string s, .int .i64 b] w fun e w' => e = .returned (tokV (ptsR s b)) ∧ Below w.heap.size w w' := by
  by_cases hd : chr s (hexN s (b + 3)) = 45
  · exact points_dash s b _ hs hb rfl hd w
  · exact points_plain s b _ hs hb rfl hd w
end Go.Proofs.YthffklhojdldkaaDoor

namespace Go.Proofs.YthffklhojdldkaaDoor
open Go.RowKit
set_option maxHeartbeats 1000000 in
theorem fromTo_any (lo hi : Int) (w : World) (h0 : 0 ≤ lo) (hle : lo ≤ hi) (h1 : hi ≤ 255) :
    Calls Tryd.prog 60 #[.int .i64 lo, .int .i64 hi] w fun e w' => e = .returned (sv (spn lo hi)) ∧ Below w.heap.size w w' := by
  go_enter Tryd.func60, Tryd.ntmps60
  go_wp2
  go_loopw [6] (fun t wr => ∃ b : Int, lo ≤ b ∧ b ≤ hi + 1 ∧ t = .int .i64 b ∧ Holds wr (w.heap.size + 1) (spn lo (b - 1)) ∧ (∃ z, Holds wr w.heap.size z) ∧ Below w.heap.size w wr) (fun t _ => (hi + 1 - intOf t).toNat)
  case atStart =>
    refine ⟨lo, by omega, by omega, rfl, ?_, ⟨0#256, (Holds.zero w).alloc _⟩, ?_⟩
    · rw [spn_nil lo h0 (by omega)]; exact Holds.zero' w _
    · exact ((Below.refl _ _).alloc (Nat.le_refl _) _).alloc (by simp) _
  case round =>
    obtain ⟨b, hb0, hb1, rfl, hx, ⟨z, hz⟩, hbel⟩ := hrel
    have hsz : w.heap.size + 1 < wr.heap.size := hx.lt
    by_cases hlt : b ≤ hi
    · have HS := (show Hid _ from spn_snoc lo b h0 hb0 (by omega))
      generalize hy : spn lo (b - 1) = y at hx
      have HY := (show Hid _ from hy)
      clear hy
      have HX := (show Hid _ from hx)
      have HZ := (show Hid _ from hz)
      have HB := (show Hid _ from hbel)
      obtain ⟨l0, c0, c1, c2, c3, f0, f1, f2, f3⟩ := hx
      clear hz hbel
      go_wp2_with fail
      refine (withR_any y b _ (by omega) (by omega)).mono ?_
      rintro e w1 ⟨rfl, hb⟩
      obtain ⟨l0, c0, c1, c2, c3, f0, f1, f2, f3⟩ := HX.out.below hb l0
      go_wp2
      go_roundw
      case rel =>
        refine ⟨b + 1, by omega, by omega, rfl, ?_, ⟨z, ?_⟩, ?_⟩
        · rw [show b + 1 - 1 = b from by omega, HS.out, HY.out]
          exact (HX.out.below hb (by omega)).put _
        · exact (HZ.out.below hb (by omega)).put_other (by omega) _
        · exact ((((HB.out.trans (hb.mono (by omega))).setCell (by simp) _).setCell (by simp) _).setCell (by simp) _).setCell (by simp) _
      case measure => simp [intOf]; omega
    · have hbe : b - 1 = hi := by omega
      rw [hbe] at hx
      generalize hy : spn lo hi = y at hx
      have HY := (show Hid _ from hy)
      clear hy
      have HB := (show Hid _ from hbel)
      obtain ⟨l0, c0, c1, c2, c3, f0, f1, f2, f3⟩ := hx
      obtain ⟨l1, d0, d1, d2, d3, g0, g1, g2, g3⟩ := hz
      clear hbel
      go_wp2
      rw [HY.out]
      refine bodyPost_ret (v := sv y) (by simp [results, Tryd.results60, go_sem, *]) rfl ⟨rfl, ?_⟩
      exact (((HB.out.setCell (by simp) _).setCell (by simp) _).setCell (by simp) _).setCell (by simp) _
end Go.Proofs.YthffklhojdldkaaDoor

namespace Go.Proofs.YthffklhojdldkaaDoor
open Go.RowKit
theorem class_pre (w w1 w2 w3 w4 : World) (a b c : BitVec 256) (hb1 : Below (w.alloc z4).heap.size (w.alloc z4) w1) (hb2 : Below w1.heap.size w1 w2) (hb3 : Below w2.heap.size w2 w3)
    (hb4 : Below (((w3.alloc (c4 a)).alloc (c4 b)).alloc (c4 c)).heap.size (((w3.alloc (c4 a)).alloc (c4 b)).alloc (c4 c)) w4) :
    w.heap.size < w3.heap.size ∧ w3.heap.size + 1 + 1 < w4.heap.size ∧ Hid (Below w.heap.size w w4) ∧ Hid (Holds w4 w.heap.size 0#256) ∧ Hid (Holds w4 w3.heap.size a) ∧ Hid (Holds w4 (w3.heap.size + 1) b) ∧ Hid (Holds w4 (w3.heap.size + 1 + 1) c) := by
  have s1 := hb1.size
  have s2 := hb2.size
  have s3 := hb3.size
  have s4 := hb4.size
  rw [size1] at s1
  rw [size3] at s4 hb4
  rw [size1] at hb1
  have h13 : Below (w.heap.size + 1) (w.alloc z4) w3 := (hb1.trans (hb2.mono (by omega))).trans (hb3.mono (by omega))
  have h3 : Below w.heap.size w w3 := (below1 w z4).trans (h13.mono (by omega))
  have h34 : Below w3.heap.size w3 w4 := (below3 w3 (c4 a) (c4 b) (c4 c)).trans (hb4.mono (by omega))
  have e0 : Holds w3 w.heap.size 0#256 := (Holds.zero w).below h13 (by omega)
  refine ⟨by omega, by omega, h3.trans (h34.mono (by omega)), e0.below h34 (by omega), ?_, ?_, ?_⟩
  · exact (((Holds.new w3 a).alloc (c4 b)).alloc (c4 c)).below hb4 (by omega)
  · have h := (Holds.new (w3.alloc (c4 a)) b).alloc (c4 c)
    rw [size1] at h
    exact h.below hb4 (by omega)
  · have h := Holds.new ((w3.alloc (c4 a)).alloc (c4 b)) c
    rw [size2] at h
    exact h.below hb4 (by omega)
end Go.Proofs.YthffklhojdldkaaDoor

namespace Go.Proofs.YthffklhojdldkaaDoor
open Go.RowKit
set_option maxHeartbeats 2000000 in
theorem smallR97 (w : World) :
    Calls Tryd.prog 57 #[.int .i64 97] w fun e w' => e = .returned (.tuple #[sv (spn 65 90 ||| spn 97 122), .int .i64 0]) ∧ Below w.heap.size w w' := by
  have HH := (show Hid _ from Holds.zero w)
  have HR := (show Hid _ from below1 w z4)
  go_enter Tryd.func57, Tryd.ntmps57
  go_wp2_with fail
  refine (fromTo_any 97 122 _ (by omega) (by omega) (by omega)).mono ?_
  rintro e w1 ⟨rfl, hb1⟩
  go_wp2_with fail
  refine (fromTo_any 65 90 _ (by omega) (by omega) (by omega)).mono ?_
  rintro e w2 ⟨rfl, hb2⟩
  go_wp2_with fail
  refine (fromTo_any 48 57 _ (by omega) (by omega) (by omega)).mono ?_
  rintro e w3 ⟨rfl, hb3⟩
  go_wp2_with fail
  refine (unionR_any _ _ _).mono ?_
  rintro e w4 ⟨rfl, hb4⟩
  have hq := class_pre w w1 w2 w3 w4 (spn 97 122) (spn 65 90) (spn 48 57) hb1 hb2 hb3 hb4
  clear hb1 hb2 hb3 hb4
  obtain ⟨hl3, hl4, HR4, H0, H6, H7, H8⟩ := hq
  obtain ⟨l0, c00, c01, c02, c03, f00, f01, f02, f03⟩ := H0.out
  go_wp2
  have HRf := HR4
  refine bodyPost_ret (v := .tuple #[sv ((spn 97 122 ||| spn 65 90)), .int .i64 0]) (by simp [results, Tryd.results57, go_sem, *]) rfl ⟨?_, ?_⟩
  · exact congrArg (fun q => Ending.returned (.tuple #[sv q, .int .i64 0])) (BitVec.or_comm _ _)
  · repeat (first | exact HRf.out | (refine Below.setCell ?_ (by first | omega | (simp <;> omega)) _) | (refine Below.alloc ?_ (by first | omega | (simp <;> omega)) _))

set_option maxHeartbeats 2000000 in
theorem smallR99 (w : World) :
    Calls Tryd.prog 57 #[.int .i64 99] w fun e w' => e = .returned (.tuple #[sv (spn 0 31 ||| bt 127), .int .i64 0]) ∧ Below w.heap.size w w' := by
  have HH := (show Hid _ from Holds.zero w)
  have HR := (show Hid _ from below1 w z4)
  go_enter Tryd.func57, Tryd.ntmps57
  go_wp2_with fail
  refine (fromTo_any 97 122 _ (by omega) (by omega) (by omega)).mono ?_
  rintro e w1 ⟨rfl, hb1⟩
  go_wp2_with fail
  refine (fromTo_any 65 90 _ (by omega) (by omega) (by omega)).mono ?_
  rintro e w2 ⟨rfl, hb2⟩
  go_wp2_with fail
  refine (fromTo_any 48 57 _ (by omega) (by omega) (by omega)).mono ?_
  rintro e w3 ⟨rfl, hb3⟩
  go_wp2_with fail
  refine (unionR_any _ _ _).mono ?_
  rintro e w4 ⟨rfl, hb4⟩
  have hq := class_pre w w1 w2 w3 w4 (spn 97 122) (spn 65 90) (spn 48 57) hb1 hb2 hb3 hb4
  clear hb1 hb2 hb3 hb4
  obtain ⟨hl3, hl4, HR4, H0, H6, H7, H8⟩ := hq
  have HQ : Hid (Below (w4.heap.size + 1) (w4.alloc (c4 (spn 97 122 ||| spn 65 90))) (w4.alloc (c4 (spn 97 122 ||| spn 65 90)))) := Below.refl _ _
  go_wp2_with fail
  refine (fromTo_any 0 31 _ (by omega) (by omega) (by omega)).mono ?_
  rintro e w5 ⟨rfl, hb⟩
  replace HQ := (show Hid _ from HQ.out.trans (hb.mono (by first | exact HQ.out.size | (have h := HQ.out.size; simp at h; omega) | simp)))
  go_wp2_with fail
  refine (withR_any _ 127 _ (by omega) (by omega)).mono ?_
  rintro e w5 ⟨rfl, hb⟩
  replace HQ := (show Hid _ from HQ.out.trans (hb.mono (by first | exact HQ.out.size | (have h := HQ.out.size; simp at h; omega) | simp)))
  rw [show (127 : Int).toNat = 127 from rfl]
  have HR5 := (show Hid _ from (HR4.out.alloc (by omega) (c4 (spn 97 122 ||| spn 65 90))).trans (HQ.out.mono (by omega)))
  obtain ⟨l0, c00, c01, c02, c03, f00, f01, f02, f03⟩ := (H0.out.alloc (c4 (spn 97 122 ||| spn 65 90))).below HQ.out (by have h := H0.out.lt; omega)
  clear hb
  go_wp2
  have HRf := HR5
  refine bodyPost_ret (v := .tuple #[sv (spn 0 31 ||| bt 127), .int .i64 0]) (by simp [results, Tryd.results57, go_sem, *]) rfl ⟨?_, ?_⟩
  · rfl
  · repeat (first | exact HRf.out | (refine Below.setCell ?_ (by first | omega | (simp <;> omega)) _) | (refine Below.alloc ?_ (by first | omega | (simp <;> omega)) _))

set_option maxHeartbeats 2000000 in
theorem smallR100 (w : World) :
    Calls Tryd.prog 57 #[.int .i64 100] w fun e w' => e = .returned (.tuple #[sv (spn 48 57), .int .i64 0]) ∧ Below w.heap.size w w' := by
  have HH := (show Hid _ from Holds.zero w)
  have HR := (show Hid _ from below1 w z4)
  go_enter Tryd.func57, Tryd.ntmps57
  go_wp2_with fail
  refine (fromTo_any 97 122 _ (by omega) (by omega) (by omega)).mono ?_
  rintro e w1 ⟨rfl, hb1⟩
  go_wp2_with fail
  refine (fromTo_any 65 90 _ (by omega) (by omega) (by omega)).mono ?_
  rintro e w2 ⟨rfl, hb2⟩
  go_wp2_with fail
  refine (fromTo_any 48 57 _ (by omega) (by omega) (by omega)).mono ?_
  rintro e w3 ⟨rfl, hb3⟩
  go_wp2_with fail
  refine (unionR_any _ _ _).mono ?_
  rintro e w4 ⟨rfl, hb4⟩
  have hq := class_pre w w1 w2 w3 w4 (spn 97 122) (spn 65 90) (spn 48 57) hb1 hb2 hb3 hb4
  clear hb1 hb2 hb3 hb4
  obtain ⟨hl3, hl4, HR4, H0, H6, H7, H8⟩ := hq
  obtain ⟨l0, c00, c01, c02, c03, f00, f01, f02, f03⟩ := H0.out
  obtain ⟨l8, c80, c81, c82, c83, f80, f81, f82, f83⟩ := H8.out
  go_wp2
  have HRf := HR4
  refine bodyPost_ret (v := .tuple #[sv (spn 48 57), .int .i64 0]) (by simp [results, Tryd.results57, go_sem, *]) rfl ⟨?_, ?_⟩
  · rfl
  · repeat (first | exact HRf.out | (refine Below.setCell ?_ (by first | omega | (simp <;> omega)) _) | (refine Below.alloc ?_ (by first | omega | (simp <;> omega)) _))

set_option maxHeartbeats 2000000 in
theorem smallR103 (w : World) :
    Calls Tryd.prog 57 #[.int .i64 103] w fun e w' => e = .returned (.tuple #[sv (spn 33 126), .int .i64 0]) ∧ Below w.heap.size w w' := by
  have HH := (show Hid _ from Holds.zero w)
  have HR := (show Hid _ from below1 w z4)
  go_enter Tryd.func57, Tryd.ntmps57
  go_wp2_with fail
  refine (fromTo_any 97 122 _ (by omega) (by omega) (by omega)).mono ?_
  rintro e w1 ⟨rfl, hb1⟩
  go_wp2_with fail
  refine (fromTo_any 65 90 _ (by omega) (by omega) (by omega)).mono ?_
  rintro e w2 ⟨rfl, hb2⟩
  go_wp2_with fail
  refine (fromTo_any 48 57 _ (by omega) (by omega) (by omega)).mono ?_
  rintro e w3 ⟨rfl, hb3⟩
  go_wp2_with fail
  refine (unionR_any _ _ _).mono ?_
  rintro e w4 ⟨rfl, hb4⟩
  have hq := class_pre w w1 w2 w3 w4 (spn 97 122) (spn 65 90) (spn 48 57) hb1 hb2 hb3 hb4
  clear hb1 hb2 hb3 hb4
  obtain ⟨hl3, hl4, HR4, H0, H6, H7, H8⟩ := hq
  have HQ : Hid (Below (w4.heap.size + 1) (w4.alloc (c4 (spn 97 122 ||| spn 65 90))) (w4.alloc (c4 (spn 97 122 ||| spn 65 90)))) := Below.refl _ _
  go_wp2_with fail
  refine (fromTo_any 33 126 _ (by omega) (by omega) (by omega)).mono ?_
  rintro e w5 ⟨rfl, hb⟩
  replace HQ := (show Hid _ from HQ.out.trans (hb.mono (by first | exact HQ.out.size | (have h := HQ.out.size; simp at h; omega) | simp)))
  have HR5 := (show Hid _ from (HR4.out.alloc (by omega) (c4 (spn 97 122 ||| spn 65 90))).trans (HQ.out.mono (by omega)))
  obtain ⟨l0, c00, c01, c02, c03, f00, f01, f02, f03⟩ := (H0.out.alloc (c4 (spn 97 122 ||| spn 65 90))).below HQ.out (by have h := H0.out.lt; omega)
  clear hb
  go_wp2
  have HRf := HR5
  refine bodyPost_ret (v := .tuple #[sv (spn 33 126), .int .i64 0]) (by simp [results, Tryd.results57, go_sem, *]) rfl ⟨?_, ?_⟩
  · rfl
  · repeat (first | exact HRf.out | (refine Below.setCell ?_ (by first | omega | (simp <;> omega)) _) | (refine Below.alloc ?_ (by first | omega | (simp <;> omega)) _))

set_option maxHeartbeats 2000000 in
theorem smallR108 (w : World) :
    Calls Tryd.prog 57 #[.int .i64 108] w fun e w' => e = .returned (.tuple #[sv (spn 97 122), .int .i64 0]) ∧ Below w.heap.size w w' := by
  have HH := (show Hid _ from Holds.zero w)
  have HR := (show Hid _ from below1 w z4)
  go_enter Tryd.func57, Tryd.ntmps57
  go_wp2_with fail
  refine (fromTo_any 97 122 _ (by omega) (by omega) (by omega)).mono ?_
  rintro e w1 ⟨rfl, hb1⟩
  go_wp2_with fail
  refine (fromTo_any 65 90 _ (by omega) (by omega) (by omega)).mono ?_
  rintro e w2 ⟨rfl, hb2⟩
  go_wp2_with fail
  refine (fromTo_any 48 57 _ (by omega) (by omega) (by omega)).mono ?_
  rintro e w3 ⟨rfl, hb3⟩
  go_wp2_with fail
  refine (unionR_any _ _ _).mono ?_
  rintro e w4 ⟨rfl, hb4⟩
  have hq := class_pre w w1 w2 w3 w4 (spn 97 122) (spn 65 90) (spn 48 57) hb1 hb2 hb3 hb4
  clear hb1 hb2 hb3 hb4
  obtain ⟨hl3, hl4, HR4, H0, H6, H7, H8⟩ := hq
  obtain ⟨l0, c00, c01, c02, c03, f00, f01, f02, f03⟩ := H0.out
  obtain ⟨l6, c60, c61, c62, c63, f60, f61, f62, f63⟩ := H6.out
  go_wp2
  have HRf := HR4
  refine bodyPost_ret (v := .tuple #[sv (spn 97 122), .int .i64 0]) (by simp [results, Tryd.results57, go_sem, *]) rfl ⟨?_, ?_⟩
  · rfl
  · repeat (first | exact HRf.out | (refine Below.setCell ?_ (by first | omega | (simp <;> omega)) _) | (refine Below.alloc ?_ (by first | omega | (simp <;> omega)) _))

set_option maxHeartbeats 2000000 in
theorem smallR115 (w : World) :
    Calls Tryd.prog 57 #[.int .i64 115] w fun e w' => e = .returned (.tuple #[sv (spn 9 13 ||| bt 32), .int .i64 0]) ∧ Below w.heap.size w w' := by
  have HH := (show Hid _ from Holds.zero w)
  have HR := (show Hid _ from below1 w z4)
  go_enter Tryd.func57, Tryd.ntmps57
  go_wp2_with fail
  refine (fromTo_any 97 122 _ (by omega) (by omega) (by omega)).mono ?_
  rintro e w1 ⟨rfl, hb1⟩
  go_wp2_with fail
  refine (fromTo_any 65 90 _ (by omega) (by omega) (by omega)).mono ?_
  rintro e w2 ⟨rfl, hb2⟩
  go_wp2_with fail
  refine (fromTo_any 48 57 _ (by omega) (by omega) (by omega)).mono ?_
  rintro e w3 ⟨rfl, hb3⟩
  go_wp2_with fail
  refine (unionR_any _ _ _).mono ?_
  rintro e w4 ⟨rfl, hb4⟩
  have hq := class_pre w w1 w2 w3 w4 (spn 97 122) (spn 65 90) (spn 48 57) hb1 hb2 hb3 hb4
  clear hb1 hb2 hb3 hb4
  obtain ⟨hl3, hl4, HR4, H0, H6, H7, H8⟩ := hq
  have HQ : Hid (Below (w4.heap.size + 1) (w4.alloc (c4 (spn 97 122 ||| spn 65 90))) (w4.alloc (c4 (spn 97 122 ||| spn 65 90)))) := Below.refl _ _
  go_wp2_with fail
  refine (fromTo_any 9 13 _ (by omega) (by omega) (by omega)).mono ?_
  rintro e w5 ⟨rfl, hb⟩
  replace HQ := (show Hid _ from HQ.out.trans (hb.mono (by first | exact HQ.out.size | (have h := HQ.out.size; simp at h; omega) | simp)))
  go_wp2_with fail
  refine (withR_any _ 32 _ (by omega) (by omega)).mono ?_
  rintro e w5 ⟨rfl, hb⟩
  replace HQ := (show Hid _ from HQ.out.trans (hb.mono (by first | exact HQ.out.size | (have h := HQ.out.size; simp at h; omega) | simp)))
  rw [show (32 : Int).toNat = 32 from rfl]
  have HR5 := (show Hid _ from (HR4.out.alloc (by omega) (c4 (spn 97 122 ||| spn 65 90))).trans (HQ.out.mono (by omega)))
  obtain ⟨l0, c00, c01, c02, c03, f00, f01, f02, f03⟩ := (H0.out.alloc (c4 (spn 97 122 ||| spn 65 90))).below HQ.out (by have h := H0.out.lt; omega)
  clear hb
  go_wp2
  have HRf := HR5
  refine bodyPost_ret (v := .tuple #[sv (spn 9 13 ||| bt 32), .int .i64 0]) (by simp [results, Tryd.results57, go_sem, *]) rfl ⟨?_, ?_⟩
  · rfl
  · repeat (first | exact HRf.out | (refine Below.setCell ?_ (by first | omega | (simp <;> omega)) _) | (refine Below.alloc ?_ (by first | omega | (simp <;> omega)) _))

set_option maxHeartbeats 2000000 in
theorem smallR117 (w : World) :
    Calls Tryd.prog 57 #[.int .i64 117] w fun e w' => e = .returned (.tuple #[sv (spn 65 90), .int .i64 0]) ∧ Below w.heap.size w w' := by
  have HH := (show Hid _ from Holds.zero w)
  have HR := (show Hid _ from below1 w z4)
  go_enter Tryd.func57, Tryd.ntmps57
  go_wp2_with fail
  refine (fromTo_any 97 122 _ (by omega) (by omega) (by omega)).mono ?_
  rintro e w1 ⟨rfl, hb1⟩
  go_wp2_with fail
  refine (fromTo_any 65 90 _ (by omega) (by omega) (by omega)).mono ?_
  rintro e w2 ⟨rfl, hb2⟩
  go_wp2_with fail
  refine (fromTo_any 48 57 _ (by omega) (by omega) (by omega)).mono ?_
  rintro e w3 ⟨rfl, hb3⟩
  go_wp2_with fail
  refine (unionR_any _ _ _).mono ?_
  rintro e w4 ⟨rfl, hb4⟩
  have hq := class_pre w w1 w2 w3 w4 (spn 97 122) (spn 65 90) (spn 48 57) hb1 hb2 hb3 hb4
  clear hb1 hb2 hb3 hb4
  obtain ⟨hl3, hl4, HR4, H0, H6, H7, H8⟩ := hq
  obtain ⟨l0, c00, c01, c02, c03, f00, f01, f02, f03⟩ := H0.out
  obtain ⟨l7, c70, c71, c72, c73, f70, f71, f72, f73⟩ := H7.out
  go_wp2
  have HRf := HR4
  refine bodyPost_ret (v := .tuple #[sv (spn 65 90), .int .i64 0]) (by simp [results, Tryd.results57, go_sem, *]) rfl ⟨?_, ?_⟩
  · rfl
  · repeat (first | exact HRf.out | (refine Below.setCell ?_ (by first | omega | (simp <;> omega)) _) | (refine Below.alloc ?_ (by first | omega | (simp <;> omega)) _))

set_option maxHeartbeats 2000000 in
theorem smallR119 (w : World) :
    Calls Tryd.prog 57 #[.int .i64 119] w fun e w' => e = .returned (.tuple #[sv (spn 65 90 ||| spn 97 122 ||| spn 48 57), .int .i64 0]) ∧ Below w.heap.size w w' := by
  have HH := (show Hid _ from Holds.zero w)
  have HR := (show Hid _ from below1 w z4)
  go_enter Tryd.func57, Tryd.ntmps57
  go_wp2_with fail
  refine (fromTo_any 97 122 _ (by omega) (by omega) (by omega)).mono ?_
  rintro e w1 ⟨rfl, hb1⟩
  go_wp2_with fail
  refine (fromTo_any 65 90 _ (by omega) (by omega) (by omega)).mono ?_
  rintro e w2 ⟨rfl, hb2⟩
  go_wp2_with fail
  refine (fromTo_any 48 57 _ (by omega) (by omega) (by omega)).mono ?_
  rintro e w3 ⟨rfl, hb3⟩
  go_wp2_with fail
  refine (unionR_any _ _ _).mono ?_
  rintro e w4 ⟨rfl, hb4⟩
  have hq := class_pre w w1 w2 w3 w4 (spn 97 122) (spn 65 90) (spn 48 57) hb1 hb2 hb3 hb4
  clear hb1 hb2 hb3 hb4
  obtain ⟨hl3, hl4, HR4, H0, H6, H7, H8⟩ := hq
  have HQ : Hid (Below (w4.heap.size + 1) (w4.alloc (c4 (spn 97 122 ||| spn 65 90))) (w4.alloc (c4 (spn 97 122 ||| spn 65 90)))) := Below.refl _ _
  obtain ⟨l8, c80, c81, c82, c83, f80, f81, f82, f83⟩ := H8.out
  go_wp2_with fail
  refine (unionR_any _ _ _).mono ?_
  rintro e w5 ⟨rfl, hb⟩
  replace HQ := (show Hid _ from HQ.out.trans (hb.mono (by first | exact HQ.out.size | (have h := HQ.out.size; simp at h; omega) | simp)))
  have HR5 := (show Hid _ from (HR4.out.alloc (by omega) (c4 (spn 97 122 ||| spn 65 90))).trans (HQ.out.mono (by omega)))
  obtain ⟨l0, c00, c01, c02, c03, f00, f01, f02, f03⟩ := (H0.out.alloc (c4 (spn 97 122 ||| spn 65 90))).below HQ.out (by have h := H0.out.lt; omega)
  clear hb
  go_wp2
  have HRf := HR5
  refine bodyPost_ret (v := .tuple #[sv ((spn 97 122 ||| spn 65 90) ||| spn 48 57), .int .i64 0]) (by simp [results, Tryd.results57, go_sem, *]) rfl ⟨?_, ?_⟩
  · exact congrArg (fun q => Ending.returned (.tuple #[sv q, .int .i64 0])) (by rw [BitVec.or_comm (spn 97 122)])
  · repeat (first | exact HRf.out | (refine Below.setCell ?_ (by first | omega | (simp <;> omega)) _) | (refine Below.alloc ?_ (by first | omega | (simp <;> omega)) _))
end Go.Proofs.YthffklhojdldkaaDoor
