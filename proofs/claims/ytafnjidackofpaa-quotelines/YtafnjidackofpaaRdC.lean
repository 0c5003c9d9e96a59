/- DERIVED. Walks: Cut, Unquote, lives, by the program. -/
import Derived.Test.YtafnjidackofpaaRdB
namespace Go.Proofs.Ytafnjidackofpaa
open Go.RowKit

theorem rdBody_code {s : ByteArray} {m : Int} {f i : Nat} {l : List Int} {a c : Int} (h : rdBody s m f i l = .inr (a, c)) : c ≠ 0 := by
  induction f generalizing i l with
  | zero => unfold rdBody at h; cases h; omega
  | succ f ih =>
    unfold rdBody at h
    split at h
    · cases h
    · split at h
      · cases h; omega
      · split at h
        · next q => cases h; have := (rdByte_err q).2; omega
        · exact ih h
theorem rdCut_code {s : ByteArray} {i : Int} {a c : Int} (h : rdCut s i = .inr (a, c)) : c ≠ 0 := by
  unfold rdCut at h
  split at h
  · cases h; omega
  · split at h
    · cases h; omega
    · split at h
      · exact rdBody_code h
      · cases h; omega

set_option maxRecDepth 100000 in
set_option maxHeartbeats 4000000 in
theorem cut_any (s : ByteArray) (i : Int) (w : World) :
    Calls Try.prog 12 #[.string s, .int .i64 i] w fun e w' => e = .returned (cuV (rdCut s i)) ∧ Below w.heap.size w w' := by
  have HF := (show Hid _ from FHolds.new w 0 0)
  have HB := (show Hid _ from (Below.refl w.heap.size w).alloc (Nat.le_refl _) (.cells #[.int .i64 0, .int .i64 0] 28))
  have HP : Hid (∀ w, Calls Try.prog 30 #[.string s, .int .i64 i] w fun e w' => e = .returned (.int .i64 (cpE s i)) ∧ w' = w) := fun w => checkPlace_any s i w
  by_cases hcp : cpE s i = 0
  · have hc : ¬ 65536 < s.size ∧ ¬ (i < 0 ∨ (s.size : Int) < i) := by
      unfold cpE at hcp; split at hcp
      · omega
      · split at hcp
        · omega
        · next a b => exact ⟨a, b⟩
    obtain ⟨h1, h2⟩ := hc
    have h0 : 0 ≤ i := by omega
    obtain ⟨n, rfl⟩ := Int.eq_ofNat_of_zero_le h0
    have HE : Hid (rdCut s (n : Int) = if chr s n = 39 ∨ chr s n = 34 then rdBody s (chr s n) (s.size + 1) (n + 1) [] else .inr (n, 20)) := (by show rdCut s (n : Int) = _; unfold rdCut; rw [if_neg h1, if_neg h2, Int.toNat_natCast])
    rw [hcp] at HP
    clear hcp
    by_cases hn : n < s.size
    · have hnI : (n : Int) < (s.size : Int) := by omega
      have en : ((n : Int) == (s.size : Int)) = false := beq_eq_false_iff_ne.2 (by omega)
      have HC := (show Hid _ from chr_in hn)
      have hb := chr_bd hn
      rw [HC.out] at hb
      have HM : Hid (∀ w, Calls Try.prog 31 #[.int .u8 (s[n].toNat : Int)] w fun e w' => e = .returned (.bool (mkB (s[n].toNat : Int))) ∧ w' = w) := fun w => isMark_any _ w
      cases hmk : mkB (s[n].toNat : Int)
      · have HG := (show Hid (rdCut s (n : Int) = .inr (n, 20)) from (by
          show rdCut s (n : Int) = _
          rw [HE.out, if_neg]
          rw [HC.out]
          unfold mkB at hmk
          simp at hmk
          omega))
        rw [hmk] at HM
        clear HE hmk HC
        go_enter Try.func12, Try.ntmps12
        go_wp2_with fail
        refine (HP.out _).mono ?_
        rintro e w1 ⟨rfl, rfl⟩
        go_wp2_with fail
        refine (HM.out _).mono ?_
        rintro e w1 ⟨rfl, rfl⟩
        obtain ⟨_, c0, c1, f0, f1⟩ := HF.out
        go_wp2_with fail
        rw [HG.out]
        refine bodyPost_ret (v := cuV (.inr (n, 20))) (by simp [results, Try.results12, go_sem, cuV, *]) rfl ⟨rfl, ?_⟩
        exact (Below.refl _ _).alloc (Nat.le_refl _) _
      · have HG := (show Hid (rdCut s (n : Int) = rdBody s (s[n].toNat : Int) (s.size + 1) (n + 1) []) from (by
          show rdCut s (n : Int) = _
          rw [HE.out, if_pos]
          · rw [HC.out]
          · rw [HC.out]
            unfold mkB at hmk
            simp at hmk
            omega))
        have HR : Hid (∀ w, Calls Try.prog 32 #[.string s, .int .i64 ((n : Int) + 1), .int .u8 (s[n].toNat : Int)] w fun e w' => e = .returned (cuV (rdBody s (s[n].toNat : Int) (s.size + 1) (n + 1) [])) ∧ Below w.heap.size w w') := fun w => readBehind_any s (n + 1) _ (by omega) (by omega) (by omega) w
        rw [hmk] at HM
        rw [← HG.out] at HR
        clear HE hmk HC HG
        generalize rdCut s (n : Int) = R at *
        go_enter Try.func12, Try.ntmps12
        go_wp2_with fail
        refine (HP.out _).mono ?_
        rintro e w1 ⟨rfl, rfl⟩
        go_wp2_with fail
        refine (HM.out _).mono ?_
        rintro e w1 ⟨rfl, rfl⟩
        go_wp2_with fail
        refine (HR.out _).mono ?_
        rintro e w2 ⟨rfl, hb2⟩
        have HF2 := (show Hid _ from HF.out.below hb2 HF.out.lt)
        have HB2 := (show Hid _ from HB.out.trans (hb2.mono HB.out.size))
        have hl : w.heap.size < w2.heap.size := HF2.out.lt
        clear hb2 HR
        obtain ⟨_, c0, c1, f0, f1⟩ := HF2.out
        cases R with
        | inr pq =>
          obtain ⟨a, c⟩ := pq
          dsimp only [cuV]
          go_wp2_with fail
          refine bodyPost_ret (v := cuV (.inr (a, c))) (by simp [results, Try.results12, go_sem, cuV, *]) rfl ⟨rfl, ?_⟩
          exact putF_below HB2.out (Nat.le_refl _) _ _
        | inl p =>
          obtain ⟨l, e⟩ := p
          dsimp only [cuV]
          go_wp2_with fail
          refine bodyPost_ret (v := cuV (.inl (l, e))) (by simp [results, Try.results12, go_sem, cuV, *]) rfl ⟨rfl, ?_⟩
          exact putF_below HB2.out (Nat.le_refl _) _ _
    · have hnI : ¬ (n : Int) < (s.size : Int) := by omega
      have en : ((n : Int) == (s.size : Int)) = true := beq_iff_eq.2 (by omega)
      have HG := (show Hid (rdCut s (n : Int) = .inr (n, 20)) from (by
        show rdCut s (n : Int) = _
        rw [HE.out, if_neg]
        rw [chr_out hn]
        omega))
      clear HE
      go_enter Try.func12, Try.ntmps12
      go_wp2_with fail
      refine (HP.out _).mono ?_
      rintro e w1 ⟨rfl, rfl⟩
      obtain ⟨_, c0, c1, f0, f1⟩ := HF.out
      go_wp2_with fail
      rw [HG.out]
      refine bodyPost_ret (v := cuV (.inr (n, 20))) (by simp [results, Try.results12, go_sem, cuV, *]) rfl ⟨rfl, ?_⟩
      exact (Below.refl _ _).alloc (Nat.le_refl _) _
  · have HG := (show Hid (rdCut s i = .inr (0, (cpE s i))) from (by
      show rdCut s i = _
      unfold rdCut cpE at *
      split
      · rfl
      · next h => 
        rw [if_neg h] at hcp
        split
        · rfl
        · next h2 => rw [if_neg h2] at hcp; exact absurd rfl hcp))
    have ec : (cpE s i != 0) = true := bne_iff_ne.2 hcp
    clear hcp
    generalize cpE s i = c at *
    go_enter Try.func12, Try.ntmps12
    go_wp2_with fail
    refine (HP.out _).mono ?_
    rintro e w1 ⟨rfl, rfl⟩
    obtain ⟨_, c0, c1, f0, f1⟩ := HF.out
    go_wp2_with fail
    rw [HG.out]
    refine bodyPost_ret (v := cuV (.inr (0, c))) (by simp [results, Try.results12, go_sem, cuV, *]) rfl ⟨rfl, ?_⟩
    exact (Below.refl _ _).alloc (Nat.le_refl _) _

theorem rdUnq_code {s : ByteArray} {a c : Int} (h : rdUnq s = .inr (a, c)) : c ≠ 0 := by
  unfold rdUnq at h
  split at h
  · next q => cases h; exact rdCut_code q
  · split at h
    · cases h
    · cases h; omega

set_option maxRecDepth 100000 in
set_option maxHeartbeats 4000000 in
theorem unquote_any (s : ByteArray) (w : World) :
    Calls Try.prog 14 #[.string s] w fun e w' => e = .returned (unV (rdUnq s)) ∧ Below w.heap.size w w' := by
  have HF := (show Hid _ from FHolds.new w 0 0)
  have HB := (show Hid _ from (Below.refl w.heap.size w).alloc (Nat.le_refl _) (.cells #[.int .i64 0, .int .i64 0] 28))
  have HC : Hid (∀ w, Calls Try.prog 12 #[.string s, .int .i64 0] w fun e w' => e = .returned (cuV (rdCut s 0)) ∧ Below w.heap.size w w') := fun w => cut_any s 0 w
  cases hR : rdCut s 0 with
  | inr pq =>
    obtain ⟨a, c⟩ := pq
    have hc : (c != 0) = true := bne_iff_ne.2 (rdCut_code hR)
    have HG := (show Hid (rdUnq s = .inr (a, c)) from (by show rdUnq s = _; unfold rdUnq; rw [hR]))
    rw [hR] at HC
    dsimp only [cuV] at HC
    clear hR
    go_enter Try.func14, Try.ntmps14
    go_wp2_with fail
    refine (HC.out _).mono ?_
    rintro e w2 ⟨rfl, hb2⟩
    have HF2 := (show Hid _ from HF.out.below hb2 HF.out.lt)
    have HB2 := (show Hid _ from HB.out.trans (hb2.mono HB.out.size))
    have hl : w.heap.size < w2.heap.size := HF2.out.lt
    clear hb2 HC
    clear HF HB
    obtain ⟨_, c0, c1, f0, f1⟩ := HF2.out
    obtain ⟨_, d0, d1, g0, g1⟩ := FHolds.new w2 a c
    go_wp2_with fail
    go_region
    all_goals
      go_wp2
      rw [HG.out]
      refine bodyPost_ret (v := unV (.inr (a, c))) (by simp [results, Try.results14, go_sem, unV, *]) rfl ⟨rfl, ?_⟩
      exact ((putF_below HB2.out (Nat.le_refl _) _ _).alloc (by simp; omega) _).drew
  | inl p =>
    obtain ⟨l, n⟩ := p
    rw [hR] at HC
    dsimp only [cuV] at HC
    by_cases hn : n = s.size
    · have en : ((n : Int) != (s.size : Int)) = false := bne_eq_false_iff_eq.2 (by omega)
      have HG := (show Hid (rdUnq s = .inl l) from (by show rdUnq s = _; unfold rdUnq; rw [hR]; exact if_pos hn))
      clear hR hn
      go_enter Try.func14, Try.ntmps14
      go_wp2_with fail
      refine (HC.out _).mono ?_
      rintro e w2 ⟨rfl, hb2⟩
      have HF2 := (show Hid _ from HF.out.below hb2 HF.out.lt)
      have HB2 := (show Hid _ from HB.out.trans (hb2.mono HB.out.size))
      have hl : w.heap.size < w2.heap.size := HF2.out.lt
      clear hb2 HC HF HB
      obtain ⟨_, c0, c1, f0, f1⟩ := HF2.out
      go_wp2_with fail
      rw [HG.out]
      refine bodyPost_ret (v := unV (.inl l)) (by simp [results, Try.results14, go_sem, unV, *]) rfl ⟨rfl, ?_⟩
      exact (putF_below HB2.out (Nat.le_refl _) _ _).alloc (by simp; omega) _
    · have en : ((n : Int) != (s.size : Int)) = true := bne_iff_ne.2 (by omega)
      have HG := (show Hid (rdUnq s = .inr (n, 20)) from (by show rdUnq s = _; unfold rdUnq; rw [hR]; exact if_neg hn))
      clear hR hn
      go_enter Try.func14, Try.ntmps14
      go_wp2_with fail
      refine (HC.out _).mono ?_
      rintro e w2 ⟨rfl, hb2⟩
      have HF2 := (show Hid _ from HF.out.below hb2 HF.out.lt)
      have HB2 := (show Hid _ from HB.out.trans (hb2.mono HB.out.size))
      have hl : w.heap.size < w2.heap.size := HF2.out.lt
      clear hb2 HC HF HB
      obtain ⟨_, c0, c1, f0, f1⟩ := HF2.out
      go_wp2_with fail
      rw [HG.out]
      refine bodyPost_ret (v := unV (.inr (n, 20))) (by simp [results, Try.results14, go_sem, unV, *]) rfl ⟨rfl, ?_⟩
      exact (putF_below HB2.out (Nat.le_refl _) _ _).alloc (by simp; omega) _

theorem lives_unq : rdUnq ⟨#[39, 97, 39]⟩ = .inl [97] := by kernel_rfl
theorem eq28w (a b a' b' : Int) (w : World) : (Op.equalIn 10000 28 (.agg #[.int .i64 a, .int .i64 b]) (.agg #[.int .i64 a', .int .i64 b'])).run Try.prog w = .ok (a == a' && b == b') w := by
  have u3 := Try.underlying3
  have a3 := Try.isAgg3
  have z3 := Try.sizeOf3
  have u22 := Try.underlying22
  have a22 := Try.isAgg22
  have z22 := Try.sizeOf22
  rw [show (10000 : Nat) = 9999 + 1 from rfl, Op.equalIn]
  simp only [Sem.run_bind, run_underlying Try.underlying28, Result.andThen_ok]
  go_simp
  by_cases h1 : a = a' <;> by_cases h2 : b = b' <;> simp [h1, h2]

set_option maxRecDepth 100000 in
set_option maxHeartbeats 4000000 in
theorem lives_any (w : World) :
    Calls Try.prog 11 #[] w fun e w' => e = .returned (.bool true) ∧ Below w.heap.size w w' := by
  have heq := eq28w
  have HU : Hid (∀ w, Calls Try.prog 14 #[.string ⟨#[39, 97, 39]⟩] w fun e w' => e = .returned (.tuple #[.string ⟨#[97]⟩, .agg #[.int .i64 0, .int .i64 0]]) ∧ Below w.heap.size w w') := fun w => by
    have h := unquote_any ⟨#[39, 97, 39]⟩ w
    rw [lives_unq] at h
    exact h
  go_enter Try.func11, Try.ntmps11
  go_wp2_with fail
  refine (HU.out _).mono ?_
  rintro e w2 ⟨rfl, hb2⟩
  obtain ⟨_, d0, d1, g0, g1⟩ := FHolds.new w2 0 0
  go_wp2_with fail
  go_ret
  exact ⟨rfl, hb2.alloc hb2.size _⟩
end Go.Proofs.Ytafnjidackofpaa
