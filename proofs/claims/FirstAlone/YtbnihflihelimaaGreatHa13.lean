/- DERIVED. Plain mathematics and walks, laid together (13). -/
import Derived.Test.YtbnihflihelimaaGreatHa12
namespace Go.Proofs.YtbnihflihelimaaGreat.N
open Go.RowKit Go.Maps
open Go.Proofs.YtbnihflihelimaaGreat.T

open U (below_grown)
/-- Boxes of above: the node, what is known of the part, the answer. -/
structure AbS (w wr : World) (x z : Fs) : Prop where
  b : Below w.heap.size w wr
  x : FX wr (w.heap.size + 1) x
  z : FX wr (w.heap.size + 2) z
set_option maxRecDepth 100000 in
set_option maxHeartbeats 8000000 in
theorem fsAb_any (n : Nd) (x : Fs) (w : World) : Calls Tryz.prog 63 #[ndG n, fG x] w fun e w' => e = .returned (fG (abF (lkK n.op n.nn) x)) ∧ Below w.heap.size w w' := by
  have hz := FX.new ((w.alloc (ndO n)).alloc (.cells #[.int .u64 (wd x.st 0), .int .u64 (wd x.st 1), .int .u64 (wd x.st 2), .int .u64 (wd x.st 3), .bool x.em, .bool x.hf] 36)) f0
  have hx := FX.new (w.alloc (ndO n)) x
  obtain ⟨w1, hw1⟩ : ∃ w1, w1 = ((w.alloc (ndO n)).alloc (.cells #[.int .u64 (wd x.st 0), .int .u64 (wd x.st 1), .int .u64 (wd x.st 2), .int .u64 (wd x.st 3), .bool x.em, .bool x.hf] 36)).alloc (.cells #[.int .u64 0, .int .u64 0, .int .u64 0, .int .u64 0, .bool false, .bool false] 36) := ⟨_, rfl⟩
  have HE := (show Hid (((w.alloc (.cells #[.int .i64 n.op, .int .i64 n.nn, .string n.tx, .int .u64 n.s0, .int .u64 n.s1, .int .u64 n.s2, .int .u64 n.s3] 70)).alloc (.cells #[.int .u64 (wd x.st 0), .int .u64 (wd x.st 1), .int .u64 (wd x.st 2), .int .u64 (wd x.st 3), .bool x.em, .bool x.hf] 36)).alloc (.cells #[.int .u64 0, .int .u64 0, .int .u64 0, .int .u64 0, .bool false, .bool false] 36) = w1) from hw1.symm)
  have HS := (show Hid (AbS w w1 x f0 ∧ NX w1 w.heap.size n) from by
    rw [hw1]
    have e1 := World.size_alloc w (ndO n)
    have e2 := World.size_alloc (w.alloc (ndO n)) (.cells #[.int .u64 (wd x.st 0), .int .u64 (wd x.st 1), .int .u64 (wd x.st 2), .int .u64 (wd x.st 3), .bool x.em, .bool x.hf] 36)
    have z0 : ∀ i, wd f0.st i = 0 := fun i => wd_zero i
    rw [z0, z0, z0, z0] at hz
    refine ⟨⟨((below_box w _).trans ((below_box _ _).mono (by omega))).trans ((below_box _ _).mono (by omega)), ?_, ?_⟩, ?_⟩
    · rw [e1] at hx
      exact hx.below (below_box _ _)
    · rw [e2, e1] at hz
      exact hz
    · exact nx_later (nx_later ⟨heap_alloc_new w _⟩ (below_box _ _)) (below_box _ _))
  obtain ⟨v, hv⟩ : ∃ v, v = lkK n.op n.nn := ⟨_, rfl⟩
  rw [← hv]
  have HLk := (show Hid (∀ W, Calls Tryz.prog 81 #[ndG n] W fun e w' => e = .returned (.int .i64 v) ∧ Below W.heap.size W w') from fun W => by rw [hv]; exact like_any n W)
  clear hv
  have c0 := HS.out.2.nb.c0
  have c1 := HS.out.2.nb.c1
  have c2 := HS.out.2.nb.c2
  have c3 := HS.out.2.nb.c3
  have c4 := HS.out.2.nb.c4
  have c5 := HS.out.2.nb.c5
  have c6 := HS.out.2.nb.c6
  clear hw1 hx hz
  go_enter Tryz.func63, Tryz.ntmps63
  go_wp2_with (rw [HE.out])
  refine (HLk.out _).mono ?_
  rintro e w2 ⟨rfl, b2⟩
  have HS2 := (show Hid (AbS w w2 x f0) from ⟨HS.out.1.b.trans (b2.mono HS.out.1.b.size), HS.out.1.x.below b2, HS.out.1.z.below b2⟩)
  clear HLk HE HS b2 c0 c1 c2 c3 c4 c5 c6
  have x0 := HS2.out.x.c0
  have x1 := HS2.out.x.c1
  have x2 := HS2.out.x.c2
  have x3 := HS2.out.x.c3
  have x4 := HS2.out.x.c4
  have x5 := HS2.out.x.c5
  have z0 := HS2.out.z.c0
  have z1 := HS2.out.z.c1
  have z2 := HS2.out.z.c2
  have z3 := HS2.out.z.c3
  have z4 := HS2.out.z.c4
  have z5 := HS2.out.z.c5
  have xf := HS2.out.x.fz
  have zf := HS2.out.z.fz
  by_cases h1 : v = 1
  · subst h1
    have hk : w.heap.size + 1 + 1 ≠ w.heap.size + 1 := by omega
    obtain ⟨V, hV⟩ : ∃ V, V = (((((((((((w2.setCell ⟨w.heap.size + 1, 0, none⟩ (.int .u64 0))).setCell ⟨w.heap.size + 1, 1, none⟩ (.int .u64 0))).setCell ⟨w.heap.size + 1, 2, none⟩ (.int .u64 0))).setCell ⟨w.heap.size + 1, 3, none⟩ (.int .u64 0))).setCell ⟨w.heap.size + 1, 4, none⟩ (.bool true))).setCell ⟨w.heap.size + 1, 5, none⟩ (.bool false)) := ⟨_, rfl⟩
    have hV1 : FX V (w.heap.size + 1 + 1) f0 := HS2.out.z.same (by rw [hV]; repeat rw [heap_setCell_other _ _ _ _ hk])
    have hV2 : Below w.heap.size w V := by
      rw [hV]
      repeat' first | exact HS2.out.b | refine Below.setCell (p := ⟨w.heap.size + 1, _, none⟩) ?_ (Nat.le_succ _) _
    have HV := (show Hid ((((((((((((w2.setCell ⟨w.heap.size + 1, 0, none⟩ (.int .u64 0))).setCell ⟨w.heap.size + 1, 1, none⟩ (.int .u64 0))).setCell ⟨w.heap.size + 1, 2, none⟩ (.int .u64 0))).setCell ⟨w.heap.size + 1, 3, none⟩ (.int .u64 0))).setCell ⟨w.heap.size + 1, 4, none⟩ (.bool true))).setCell ⟨w.heap.size + 1, 5, none⟩ (.bool false)) = V) from hV.symm)
    have HF := (show Hid (FX (sF V (w.heap.size + 1 + 1) ⟨0#256, true, false⟩) (w.heap.size + 1 + 1) ⟨0#256, true, false⟩ ∧ Below w.heap.size w (sF V (w.heap.size + 1 + 1) ⟨0#256, true, false⟩)) from ⟨sF_fx hV1 _, sF_below _ _ hV2 (by omega)⟩)
    have HAb := (show Hid (abF 1 x = ⟨0#256, true, false⟩) from rfl)
    unfold sF at HF
    simp only [wd_zero] at HF
    clear hV hV1 hV2 hk
    go_wp2_with fail
    rw [HV.out]
    exact ret_f rfl rfl rfl HF.out.1 ⟨by rw [HAb.out], HF.out.2⟩
  by_cases h13 : v = 13
  · subst h13
    have hk : w.heap.size + 1 + 1 ≠ w.heap.size + 1 := by omega
    obtain ⟨V, hV⟩ : ∃ V, V = (((((((((((w2.setCell ⟨w.heap.size + 1, 0, none⟩ (.int .u64 0))).setCell ⟨w.heap.size + 1, 1, none⟩ (.int .u64 0))).setCell ⟨w.heap.size + 1, 2, none⟩ (.int .u64 0))).setCell ⟨w.heap.size + 1, 3, none⟩ (.int .u64 0))).setCell ⟨w.heap.size + 1, 4, none⟩ (.bool true))).setCell ⟨w.heap.size + 1, 5, none⟩ (.bool false)) := ⟨_, rfl⟩
    have hV1 : FX V (w.heap.size + 1 + 1) f0 := HS2.out.z.same (by rw [hV]; repeat rw [heap_setCell_other _ _ _ _ hk])
    have hV2 : Below w.heap.size w V := by
      rw [hV]
      repeat' first | exact HS2.out.b | refine Below.setCell (p := ⟨w.heap.size + 1, _, none⟩) ?_ (Nat.le_succ _) _
    have HV := (show Hid ((((((((((((w2.setCell ⟨w.heap.size + 1, 0, none⟩ (.int .u64 0))).setCell ⟨w.heap.size + 1, 1, none⟩ (.int .u64 0))).setCell ⟨w.heap.size + 1, 2, none⟩ (.int .u64 0))).setCell ⟨w.heap.size + 1, 3, none⟩ (.int .u64 0))).setCell ⟨w.heap.size + 1, 4, none⟩ (.bool true))).setCell ⟨w.heap.size + 1, 5, none⟩ (.bool false)) = V) from hV.symm)
    have HF := (show Hid (FX (sF V (w.heap.size + 1 + 1) ⟨0#256, true, false⟩) (w.heap.size + 1 + 1) ⟨0#256, true, false⟩ ∧ Below w.heap.size w (sF V (w.heap.size + 1 + 1) ⟨0#256, true, false⟩)) from ⟨sF_fx hV1 _, sF_below _ _ hV2 (by omega)⟩)
    have HAb := (show Hid (abF 13 x = ⟨0#256, true, false⟩) from rfl)
    unfold sF at HF
    simp only [wd_zero] at HF
    clear hV hV1 hV2 hk
    go_wp2_with fail
    rw [HV.out]
    exact ret_f rfl rfl rfl HF.out.1 ⟨by rw [HAb.out], HF.out.2⟩
  by_cases h9 : v = 9
  · subst h9
    have hk : w.heap.size + 1 + 1 ≠ w.heap.size + 1 := by omega
    obtain ⟨V, hV⟩ : ∃ V, V = (((w2.setCell ⟨w.heap.size + 1, 4, none⟩ (.bool true))).setCell ⟨w.heap.size + 1, 5, none⟩ (.bool false)) := ⟨_, rfl⟩
    have hV1 : FX V (w.heap.size + 1 + 1) f0 := HS2.out.z.same (by rw [hV]; repeat rw [heap_setCell_other _ _ _ _ hk])
    have hV2 : Below w.heap.size w V := by
      rw [hV]
      repeat' first | exact HS2.out.b | refine Below.setCell (p := ⟨w.heap.size + 1, _, none⟩) ?_ (Nat.le_succ _) _
    have HV := (show Hid ((((w2.setCell ⟨w.heap.size + 1, 4, none⟩ (.bool true))).setCell ⟨w.heap.size + 1, 5, none⟩ (.bool false)) = V) from hV.symm)
    have HF := (show Hid (FX (sF V (w.heap.size + 1 + 1) ⟨x.st, true, false⟩) (w.heap.size + 1 + 1) ⟨x.st, true, false⟩ ∧ Below w.heap.size w (sF V (w.heap.size + 1 + 1) ⟨x.st, true, false⟩)) from ⟨sF_fx hV1 _, sF_below _ _ hV2 (by omega)⟩)
    have HAb := (show Hid (abF 9 x = ⟨x.st, true, false⟩) from rfl)
    unfold sF at HF
    simp only [] at HF
    clear hV hV1 hV2 hk
    go_wp2_with fail
    rw [HV.out]
    exact ret_f rfl rfl rfl HF.out.1 ⟨by rw [HAb.out], HF.out.2⟩
  by_cases h11 : v = 11
  · subst h11
    have hk : w.heap.size + 1 + 1 ≠ w.heap.size + 1 := by omega
    obtain ⟨V, hV⟩ : ∃ V, V = (((w2.setCell ⟨w.heap.size + 1, 4, none⟩ (.bool true))).setCell ⟨w.heap.size + 1, 5, none⟩ (.bool false)) := ⟨_, rfl⟩
    have hV1 : FX V (w.heap.size + 1 + 1) f0 := HS2.out.z.same (by rw [hV]; repeat rw [heap_setCell_other _ _ _ _ hk])
    have hV2 : Below w.heap.size w V := by
      rw [hV]
      repeat' first | exact HS2.out.b | refine Below.setCell (p := ⟨w.heap.size + 1, _, none⟩) ?_ (Nat.le_succ _) _
    have HV := (show Hid ((((w2.setCell ⟨w.heap.size + 1, 4, none⟩ (.bool true))).setCell ⟨w.heap.size + 1, 5, none⟩ (.bool false)) = V) from hV.symm)
    have HF := (show Hid (FX (sF V (w.heap.size + 1 + 1) ⟨x.st, true, false⟩) (w.heap.size + 1 + 1) ⟨x.st, true, false⟩ ∧ Below w.heap.size w (sF V (w.heap.size + 1 + 1) ⟨x.st, true, false⟩)) from ⟨sF_fx hV1 _, sF_below _ _ hV2 (by omega)⟩)
    have HAb := (show Hid (abF 11 x = ⟨x.st, true, false⟩) from rfl)
    unfold sF at HF
    simp only [] at HF
    clear hV hV1 hV2 hk
    go_wp2_with fail
    rw [HV.out]
    exact ret_f rfl rfl rfl HF.out.1 ⟨by rw [HAb.out], HF.out.2⟩
  by_cases h16 : v = 16
  · subst h16
    have hk : w.heap.size + 1 + 1 ≠ w.heap.size + 1 := by omega
    obtain ⟨V, hV⟩ : ∃ V, V = (((w2.setCell ⟨w.heap.size + 1, 4, none⟩ (.bool true))).setCell ⟨w.heap.size + 1, 5, none⟩ (.bool false)) := ⟨_, rfl⟩
    have hV1 : FX V (w.heap.size + 1 + 1) f0 := HS2.out.z.same (by rw [hV]; repeat rw [heap_setCell_other _ _ _ _ hk])
    have hV2 : Below w.heap.size w V := by
      rw [hV]
      repeat' first | exact HS2.out.b | refine Below.setCell (p := ⟨w.heap.size + 1, _, none⟩) ?_ (Nat.le_succ _) _
    have HV := (show Hid ((((w2.setCell ⟨w.heap.size + 1, 4, none⟩ (.bool true))).setCell ⟨w.heap.size + 1, 5, none⟩ (.bool false)) = V) from hV.symm)
    have HF := (show Hid (FX (sF V (w.heap.size + 1 + 1) ⟨x.st, true, false⟩) (w.heap.size + 1 + 1) ⟨x.st, true, false⟩ ∧ Below w.heap.size w (sF V (w.heap.size + 1 + 1) ⟨x.st, true, false⟩)) from ⟨sF_fx hV1 _, sF_below _ _ hV2 (by omega)⟩)
    have HAb := (show Hid (abF 16 x = ⟨x.st, true, false⟩) from rfl)
    unfold sF at HF
    simp only [] at HF
    clear hV hV1 hV2 hk
    go_wp2_with fail
    rw [HV.out]
    exact ret_f rfl rfl rfl HF.out.1 ⟨by rw [HAb.out], HF.out.2⟩
  by_cases h14 : v = 14
  · subst h14
    have hk : w.heap.size + 1 + 1 ≠ w.heap.size + 1 := by omega
    obtain ⟨V, hV⟩ : ∃ V, V = (w2.setCell ⟨w.heap.size + 1, 5, none⟩ (.bool false)) := ⟨_, rfl⟩
    have hV1 : FX V (w.heap.size + 1 + 1) f0 := HS2.out.z.same (by rw [hV]; repeat rw [heap_setCell_other _ _ _ _ hk])
    have hV2 : Below w.heap.size w V := by
      rw [hV]
      repeat' first | exact HS2.out.b | refine Below.setCell (p := ⟨w.heap.size + 1, _, none⟩) ?_ (Nat.le_succ _) _
    have HV := (show Hid ((w2.setCell ⟨w.heap.size + 1, 5, none⟩ (.bool false)) = V) from hV.symm)
    have HF := (show Hid (FX (sF V (w.heap.size + 1 + 1) ⟨x.st, x.em, false⟩) (w.heap.size + 1 + 1) ⟨x.st, x.em, false⟩ ∧ Below w.heap.size w (sF V (w.heap.size + 1 + 1) ⟨x.st, x.em, false⟩)) from ⟨sF_fx hV1 _, sF_below _ _ hV2 (by omega)⟩)
    have HAb := (show Hid (abF 14 x = ⟨x.st, x.em, false⟩) from rfl)
    unfold sF at HF
    simp only [] at HF
    clear hV hV1 hV2 hk
    go_wp2_with fail
    rw [HV.out]
    exact ret_f rfl rfl rfl HF.out.1 ⟨by rw [HAb.out], HF.out.2⟩
  by_cases h15 : v = 15
  · subst h15
    have hk : w.heap.size + 1 + 1 ≠ w.heap.size + 1 := by omega
    obtain ⟨V, hV⟩ : ∃ V, V = (w2.setCell ⟨w.heap.size + 1, 5, none⟩ (.bool false)) := ⟨_, rfl⟩
    have hV1 : FX V (w.heap.size + 1 + 1) f0 := HS2.out.z.same (by rw [hV]; repeat rw [heap_setCell_other _ _ _ _ hk])
    have hV2 : Below w.heap.size w V := by
      rw [hV]
      repeat' first | exact HS2.out.b | refine Below.setCell (p := ⟨w.heap.size + 1, _, none⟩) ?_ (Nat.le_succ _) _
    have HV := (show Hid ((w2.setCell ⟨w.heap.size + 1, 5, none⟩ (.bool false)) = V) from hV.symm)
    have HF := (show Hid (FX (sF V (w.heap.size + 1 + 1) ⟨x.st, x.em, false⟩) (w.heap.size + 1 + 1) ⟨x.st, x.em, false⟩ ∧ Below w.heap.size w (sF V (w.heap.size + 1 + 1) ⟨x.st, x.em, false⟩)) from ⟨sF_fx hV1 _, sF_below _ _ hV2 (by omega)⟩)
    have HAb := (show Hid (abF 15 x = ⟨x.st, x.em, false⟩) from rfl)
    unfold sF at HF
    simp only [] at HF
    clear hV hV1 hV2 hk
    go_wp2_with fail
    rw [HV.out]
    exact ret_f rfl rfl rfl HF.out.1 ⟨by rw [HAb.out], HF.out.2⟩
  · have hab : abF v x = x := by
      unfold abF
      rw [if_neg (by omega), if_neg (by omega), if_neg (by omega)]
    have HF := (show Hid (FX (sF w2 (w.heap.size + 1 + 1) x) (w.heap.size + 1 + 1) x ∧ Below w.heap.size w (sF w2 (w.heap.size + 1 + 1) x)) from ⟨sF_fx HS2.out.z _, sF_below _ _ HS2.out.b (by omega)⟩)
    have HAb := (show Hid (abF v x = x) from hab)
    unfold sF at HF
    have t1 : (v == 1) = false := by rw [beq_eq_false_iff_ne]; exact h1
    have t13 : (v == 13) = false := by rw [beq_eq_false_iff_ne]; exact h13
    have t9 : (v == 9) = false := by rw [beq_eq_false_iff_ne]; exact h9
    have t11 : (v == 11) = false := by rw [beq_eq_false_iff_ne]; exact h11
    have t16 : (v == 16) = false := by rw [beq_eq_false_iff_ne]; exact h16
    have t14 : (v == 14) = false := by rw [beq_eq_false_iff_ne]; exact h14
    have t15 : (v == 15) = false := by rw [beq_eq_false_iff_ne]; exact h15
    clear hab h1 h13 h9 h11 h16 h14 h15
    go_wp2_with fail
    exact ret_f rfl rfl rfl HF.out.1 ⟨by rw [HAb.out], HF.out.2⟩
end Go.Proofs.YtbnihflihelimaaGreat.N

namespace Go.Proofs.YtbnihflihelimaaGreat.N
open Go.RowKit Go.Maps
open Go.Proofs.YtbnihflihelimaaGreat.T

open U (below_grown)
set_option maxRecDepth 100000 in
set_option maxHeartbeats 8000000 in
theorem fsNode_ab (op nn : Int) (tx : ByteArray) (s0 s1 s2 s3 : Int) (m k bd r : Value) (A : Option Addr) (cp : Nat) (a0 : Fs) (e0 : Bool) (w : World) (hp : RdQ w A [(a0, e0)]) (h9 : 9 ≤ op ∧ op ≠ 17) :
    Calls Tryz.prog 44 #[.agg #[m, k, bd, r], .agg #[.int .i64 op, .int .i64 nn, .string tx, .int .u64 s0, .int .u64 s1, .int .u64 s2, .int .u64 s3], .slice A 1 cp] w fun e w' => e = .returned (fG (abF (lkK op nn) a0)) ∧ Below w.heap.size w w' := by
  have hs := NoF.new w m k bd r ⟨op, nn, tx, s0, s1, s2, s3⟩
  obtain ⟨w1, hw1⟩ : ∃ w1, w1 = ((w.alloc (.cells #[m, k, bd, r] 56)).alloc (.cells #[.int .i64 op, .int .i64 nn, .string tx, .int .u64 s0, .int .u64 s1, .int .u64 s2, .int .u64 s3] 70)).alloc (.cells #[.int .u64 0, .int .u64 0, .int .u64 0, .int .u64 0, .bool false, .bool false] 36) := ⟨_, rfl⟩
  have hs : NoF w w1 m k bd r ⟨op, nn, tx, s0, s1, s2, s3⟩ := by rw [hw1]; exact hs
  have HE := (show Hid (((w.alloc (.cells #[m, k, bd, r] 56)).alloc (.cells #[.int .i64 op, .int .i64 nn, .string tx, .int .u64 s0, .int .u64 s1, .int .u64 s2, .int .u64 s3] 70)).alloc (.cells #[.int .u64 0, .int .u64 0, .int .u64 0, .int .u64 0, .bool false, .bool false] 36) = w1) from hw1.symm)
  have HS := (show Hid (NoF w w1 m k bd r ⟨op, nn, tx, s0, s1, s2, s3⟩) from hs)
  have c0 : w1.cell? ⟨w.heap.size + 1, 0, none⟩ = some (.int .i64 op) := hs.n.nb.c0
  have c1 : w1.cell? ⟨w.heap.size + 1, 1, none⟩ = some (.int .i64 nn) := hs.n.nb.c1
  have c2 : w1.cell? ⟨w.heap.size + 1, 2, none⟩ = some (.string tx) := hs.n.nb.c2
  have c3 : w1.cell? ⟨w.heap.size + 1, 3, none⟩ = some (.int .u64 s0) := hs.n.nb.c3
  have c4 : w1.cell? ⟨w.heap.size + 1, 4, none⟩ = some (.int .u64 s1) := hs.n.nb.c4
  have c5 : w1.cell? ⟨w.heap.size + 1, 5, none⟩ = some (.int .u64 s2) := hs.n.nb.c5
  have c6 : w1.cell? ⟨w.heap.size + 1, 6, none⟩ = some (.int .u64 s3) := hs.n.nb.c6
  have z0 := hs.z.c0
  have z1 := hs.z.c1
  have z2 := hs.z.c2
  have z3 := hs.z.c3
  have z4 := hs.z.c4
  have z5 := hs.z.c5
  have zf := hs.z.fz
  clear hw1
  obtain ⟨g2, o2, e2, lg0, _⟩ := hp 0 (a0, e0) rfl
  obtain ⟨g, o, rfl, lg, p0⟩ := (hp.later hs.b) 0 (a0, e0) rfl
  have hgg : g = g2 := by injection e2 with e3; injection e3
  subst hgg
  have HKe := (show Hid (∀ W, Below w1.heap.size w1 W → (fun W => W.cell? ⟨w.heap.size + 1, 0, none⟩ = some (.int .i64 op) ∧ W.cell? ⟨w.heap.size + 1, 1, none⟩ = some (.int .i64 nn) ∧ W.cell? ⟨w.heap.size + 1, 2, none⟩ = some (.string tx) ∧ W.cell? ⟨w.heap.size + 1, 3, none⟩ = some (.int .u64 s0) ∧ W.cell? ⟨w.heap.size + 1, 4, none⟩ = some (.int .u64 s1) ∧ W.cell? ⟨w.heap.size + 1, 5, none⟩ = some (.int .u64 s2) ∧ W.cell? ⟨w.heap.size + 1, 6, none⟩ = some (.int .u64 s3) ∧ W.cell? ⟨g, o, none⟩ = some (.int .u64 (wd a0.st 0)) ∧ W.cell? ⟨g, o + 1, none⟩ = some (.int .u64 (wd a0.st 1)) ∧ W.cell? ⟨g, o + 2, none⟩ = some (.int .u64 (wd a0.st 2)) ∧ W.cell? ⟨g, o + 3, none⟩ = some (.int .u64 (wd a0.st 3)) ∧ W.cell? ⟨g, o + 4, none⟩ = some (.bool a0.em) ∧ W.cell? ⟨g, o + 5, none⟩ = some (.bool a0.hf)) W) from fun W hW => by
    have k : ∀ q, W.cell? ⟨g, q, none⟩ = w1.cell? ⟨g, q, none⟩ := fun q => hW.cell (p := ⟨g, q, none⟩) lg
    simp only [k]
    obtain ⟨q0, q1, q2, q3, q4, q5, q6⟩ := p0
    rw [Nat.zero_mul, Nat.add_zero] at q0 q1 q2 q3 q4 q5 q6
    have hn := (HS.out.later hW).n.nb
    exact ⟨hn.c0, hn.c1, hn.c2, hn.c3, hn.c4, hn.c5, hn.c6, q0, q1, q2, q3, q4, q5⟩)
  have HKz := (show Hid (∀ W, Below w1.heap.size w1 W → W.cell? ⟨w.heap.size + 1 + 1, 0, none⟩ = some (.int .u64 (wd f0.st 0)) ∧ W.cell? ⟨w.heap.size + 1 + 1, 1, none⟩ = some (.int .u64 (wd f0.st 1)) ∧ W.cell? ⟨w.heap.size + 1 + 1, 2, none⟩ = some (.int .u64 (wd f0.st 2)) ∧ W.cell? ⟨w.heap.size + 1 + 1, 3, none⟩ = some (.int .u64 (wd f0.st 3)) ∧ W.cell? ⟨w.heap.size + 1 + 1, 4, none⟩ = some (.bool f0.em) ∧ W.cell? ⟨w.heap.size + 1 + 1, 5, none⟩ = some (.bool f0.hf) ∧ W.frozen? ⟨w.heap.size + 1 + 1, 0, none⟩ = false ∧ W.frozen? ⟨w.heap.size + 1 + 1, 1, none⟩ = false ∧ W.frozen? ⟨w.heap.size + 1 + 1, 2, none⟩ = false ∧ W.frozen? ⟨w.heap.size + 1 + 1, 3, none⟩ = false ∧ W.frozen? ⟨w.heap.size + 1 + 1, 4, none⟩ = false ∧ W.frozen? ⟨w.heap.size + 1 + 1, 5, none⟩ = false) from fun W hW => by
    have h := (HS.out.later hW).z
    exact ⟨h.c0, h.c1, h.c2, h.c3, h.c4, h.c5, h.fz 0, h.fz 1, h.fz 2, h.fz 3, h.fz 4, h.fz 5⟩)
  have HKs := (show ∀ W, Below w1.heap.size w1 W → (fun W => W.cell? ⟨w.heap.size + 1, 0, none⟩ = some (.int .i64 op) ∧ W.cell? ⟨w.heap.size + 1, 1, none⟩ = some (.int .i64 nn) ∧ W.cell? ⟨w.heap.size + 1, 2, none⟩ = some (.string tx) ∧ W.cell? ⟨w.heap.size + 1, 3, none⟩ = some (.int .u64 s0) ∧ W.cell? ⟨w.heap.size + 1, 4, none⟩ = some (.int .u64 s1) ∧ W.cell? ⟨w.heap.size + 1, 5, none⟩ = some (.int .u64 s2) ∧ W.cell? ⟨w.heap.size + 1, 6, none⟩ = some (.int .u64 s3) ∧ W.cell? ⟨g, o, none⟩ = some (.int .u64 (wd a0.st 0)) ∧ W.cell? ⟨g, o + 1, none⟩ = some (.int .u64 (wd a0.st 1)) ∧ W.cell? ⟨g, o + 2, none⟩ = some (.int .u64 (wd a0.st 2)) ∧ W.cell? ⟨g, o + 3, none⟩ = some (.int .u64 (wd a0.st 3)) ∧ W.cell? ⟨g, o + 4, none⟩ = some (.bool a0.em) ∧ W.cell? ⟨g, o + 5, none⟩ = some (.bool a0.hf)) (sF W (w.heap.size + 1 + 1) (abF (lkK op nn) a0)) from fun W hW => by
    have hz : g ≠ w.heap.size + 1 + 1 := by omega
    have hy : w.heap.size + 1 ≠ w.heap.size + 1 + 1 := by omega
    have k : ∀ q, (sF W (w.heap.size + 1 + 1) (abF (lkK op nn) a0)).cell? ⟨g, q, none⟩ = W.cell? ⟨g, q, none⟩ := fun q => World.cell?_of_block (a := ⟨g, q, none⟩) (sF_other W _ _ hz)
    have k2 : ∀ q, (sF W (w.heap.size + 1 + 1) (abF (lkK op nn) a0)).cell? ⟨w.heap.size + 1, q, none⟩ = W.cell? ⟨w.heap.size + 1, q, none⟩ := fun q => World.cell?_of_block (a := ⟨w.heap.size + 1, q, none⟩) (sF_other W _ _ hy)
    have h := HKe.out W hW
    simp only [k, k2]
    exact h)
  unfold sF at HKs
  have HKs := (show Hid _ from HKs)
  have HKd := (show Hid _ from HKe.out w1.drew ((Below.refl _ _).drew))
  have HC := (show Hid (∀ W, Below w1.heap.size w1 W → Calls Tryz.prog 63 #[.agg #[.int .i64 op, .int .i64 nn, .string tx, .int .u64 s0, .int .u64 s1, .int .u64 s2, .int .u64 s3], fG a0] W fun e w' => e = .returned (fG (abF (lkK op nn) a0)) ∧ Below w1.heap.size w1 w') from fun W hW => (fsAb_any ⟨op, nn, tx, s0, s1, s2, s3⟩ a0 W).mono fun e w' ⟨h1, h2⟩ => ⟨h1, hW.trans (h2.mono hW.size)⟩)
  have HZ := (show ∀ W, Below w1.heap.size w1 W → Hid _ from fun W hW => (HS.out.later hW).fin (abF (lkK op nn) a0))
  unfold sF at HZ
  have HZ := (show Hid _ from HZ)
  have t1 : (op == 1) = false := by rw [beq_eq_false_iff_ne]; omega
  have t17 : (op == 17) = false := by rw [beq_eq_false_iff_ne]; omega
  have t2 : (op == 2) = false := by rw [beq_eq_false_iff_ne]; omega
  have t3 : (op == 3) = false := by rw [beq_eq_false_iff_ne]; omega
  have t4 : (op == 4) = false := by rw [beq_eq_false_iff_ne]; omega
  have t5 : (op == 5) = false := by rw [beq_eq_false_iff_ne]; omega
  have t6 : (op == 6) = false := by rw [beq_eq_false_iff_ne]; omega
  have t7 : (op == 7) = false := by rw [beq_eq_false_iff_ne]; omega
  have t8 : (op == 8) = false := by rw [beq_eq_false_iff_ne]; omega
  clear hs p0 lg lg0 hp e2 h9
  go_enter Tryz.func44, Tryz.ntmps44
  go_wp2_with (rw [HE.out])
  first | (go_region_held3 (fun W => W.cell? ⟨w.heap.size + 1, 0, none⟩ = some (.int .i64 op) ∧ W.cell? ⟨w.heap.size + 1, 1, none⟩ = some (.int .i64 nn) ∧ W.cell? ⟨w.heap.size + 1, 2, none⟩ = some (.string tx) ∧ W.cell? ⟨w.heap.size + 1, 3, none⟩ = some (.int .u64 s0) ∧ W.cell? ⟨w.heap.size + 1, 4, none⟩ = some (.int .u64 s1) ∧ W.cell? ⟨w.heap.size + 1, 5, none⟩ = some (.int .u64 s2) ∧ W.cell? ⟨w.heap.size + 1, 6, none⟩ = some (.int .u64 s3) ∧ W.cell? ⟨g, o, none⟩ = some (.int .u64 (wd a0.st 0)) ∧ W.cell? ⟨g, o + 1, none⟩ = some (.int .u64 (wd a0.st 1)) ∧ W.cell? ⟨g, o + 2, none⟩ = some (.int .u64 (wd a0.st 2)) ∧ W.cell? ⟨g, o + 3, none⟩ = some (.int .u64 (wd a0.st 3)) ∧ W.cell? ⟨g, o + 4, none⟩ = some (.bool a0.em) ∧ W.cell? ⟨g, o + 5, none⟩ = some (.bool a0.hf)) (first | with_reducible exact HKd.out | with_reducible exact HKe.out _ b5 | with_reducible exact HKs.out _ b5) ((go_at_call 63; with_reducible refine (HC.out _ ((Below.refl _ _).drew)).mono ?_; rintro e w5 ⟨rfl, b5⟩; obtain ⟨g0, g1, g2, g3, g4, g5, g6, g7, g8, g9, g10, g11⟩ := HKz.out w5 b5)))
  have HF := HZ.out w5 b5
  rename_i hHeld
  clear hHeld HKs HKe HKz HKd HZ HC
  go_wp2_with fail
  exact ret_f rfl rfl rfl HF.out.1 ⟨rfl, HF.out.2⟩
end Go.Proofs.YtbnihflihelimaaGreat.N

namespace Go.Proofs.YtbnihflihelimaaGreat
open Go.RowKit
/-- The set of a list of bytes. -/
def ofL (l : List UInt8) : BitVec 256 := l.foldl (fun x c => x ||| bt c.toNat) 0#256
theorem take_snoc (s : ByteArray) (k : Nat) (h : k < s.size) : s.data.toList.take (k + 1) = s.data.toList.take k ++ [s[k]] := by
  rw [List.take_succ_eq_append_getElem (by simpa using h)]; rfl
theorem ofL_take (s : ByteArray) (k : Nat) (h : k < s.size) : ofL (s.data.toList.take (k + 1)) = ofL (s.data.toList.take k) ||| bt s[k].toNat := by
  rw [take_snoc s k h]; unfold ofL; rw [List.foldl_append]; rfl
end Go.Proofs.YtbnihflihelimaaGreat

namespace Go.Proofs.YtbnihflihelimaaGreat
open Go.RowKit
set_option maxHeartbeats 1000000 in
theorem of_any (s : ByteArray) (w : World) (hs : s.size ≤ maxLen) :
    Calls Tryz.prog 26 #[.string s] w fun e w' => e = .returned (sv (ofL s.data.toList)) ∧ Below w.heap.size w w' := by
  unfold maxLen at hs
  go_enter Tryz.func26, Tryz.ntmps26
  go_wp2
  go_loopw [4] (fun t wr => ∃ k : Nat, k ≤ s.size ∧ t = .int .i64 k ∧ Holds wr (w.heap.size + 1) (ofL (s.data.toList.take k)) ∧ (∃ z, Holds wr w.heap.size z) ∧ Below w.heap.size w wr) (fun t _ => s.size - (intOf t).toNat)
  case atStart =>
    exact ⟨0, by omega, rfl, Holds.zero' w _, ⟨0#256, (Holds.zero w).alloc _⟩, ((Below.refl _ _).alloc (Nat.le_refl _) _).alloc (by simp) _⟩
  case round =>
    obtain ⟨k, hk, rfl, hx, ⟨z, hz⟩, hbel⟩ := hrel
    have hsz : w.heap.size + 1 < wr.heap.size := hx.lt
    by_cases hlt : k < s.size
    · have HS := (show Hid _ from ofL_take s k hlt)
      have h8 : (s[k].toNat : Int) ≤ 255 := by have := s[k].toNat_lt; omega
      have hw8 : IntKind.i64.wrap (s[k].toNat : Int) = (s[k].toNat : Int) := by rw [IntKind.wrap_i64]; omega
      generalize hy : ofL (s.data.toList.take k) = y at hx
      have HY := (show Hid _ from hy)
      clear hy
      have HX := (show Hid _ from hx)
      have HZ := (show Hid _ from hz)
      have HB := (show Hid _ from hbel)
      obtain ⟨l0, c0, c1, c2, c3, f0, f1, f2, f3⟩ := hx
      clear hz hbel
      go_wp2
      go_region_with ((go_at_call 46; refine (with_any y _ _ (by omega) (by omega)).mono ?_; rintro e w1 ⟨rfl, hb⟩; obtain ⟨l0, c0, c1, c2, c3, f0, f1, f2, f3⟩ := HX.out.drew.below hb (by simpa using l0)))
      all_goals
        go_wp2
        go_roundw
        case rel =>
          have hb2 : Below wr.heap.size wr w1 := (Below.refl wr.heap.size wr).drew.trans hb
          refine ⟨k + 1, by omega, by go_num, ?_, ⟨z, ?_⟩, ?_⟩
          · rw [HS.out, HY.out]
            exact (HX.out.below hb2 (by omega)).put _
          · exact (HZ.out.below hb2 (by omega)).put_other (by omega) _
          · exact ((((HB.out.trans (hb2.mono (by omega))).setCell (by simp) _).setCell (by simp) _).setCell (by simp) _).setCell (by simp) _
        case measure => simp [intOf]; omega
    · have hke : s.data.toList.take k = s.data.toList := List.take_of_length_le (by simp; omega)
      rw [hke] at hx
      clear hke
      generalize hy : ofL s.data.toList = y at hx
      have HY := (show Hid _ from hy)
      clear hy
      have HB := (show Hid _ from hbel)
      obtain ⟨l0, c0, c1, c2, c3, f0, f1, f2, f3⟩ := hx
      obtain ⟨l1, d0, d1, d2, d3, g0, g1, g2, g3⟩ := hz
      clear hbel
      go_wp2
      rw [HY.out]
      refine bodyPost_ret (v := sv y) (by simp [results, Tryz.results26, go_sem, *]) rfl ⟨rfl, ?_⟩
      exact (((HB.out.setCell (by simp) _).setCell (by simp) _).setCell (by simp) _).setCell (by simp) _
end Go.Proofs.YtbnihflihelimaaGreat

namespace Go.Proofs.YtbnihflihelimaaGreat.N
open Go.RowKit Go.Maps
open Go.Proofs.YtbnihflihelimaaGreat.T

open U (below_grown)
set_option maxRecDepth 100000 in
set_option maxHeartbeats 8000000 in
theorem fsNode_4a (nn : Int) (tx : ByteArray) (s0 s1 s2 s3 : Int) (m k bd r : Value) (A : Option Addr) (np cp : Nat)  (w : World) (h0 : 1 ≤ tx.size) (ht : tx.size ≤ 140737488355328) :
    Calls Tryz.prog 44 #[.agg #[m, k, bd, r], .agg #[.int .i64 4, .int .i64 nn, .string tx, .int .u64 s0, .int .u64 s1, .int .u64 s2, .int .u64 s3], .slice A np cp] w fun e w' => e = .returned (fG ⟨ofL (List.take 1 tx.data.toList), false, ((tx.size : Int) == 1)⟩) ∧ Below w.heap.size w w' := by
  have hs := NoF.new w m k bd r ⟨4, nn, tx, s0, s1, s2, s3⟩
  obtain ⟨w1, hw1⟩ : ∃ w1, w1 = ((w.alloc (.cells #[m, k, bd, r] 56)).alloc (.cells #[.int .i64 4, .int .i64 nn, .string tx, .int .u64 s0, .int .u64 s1, .int .u64 s2, .int .u64 s3] 70)).alloc (.cells #[.int .u64 0, .int .u64 0, .int .u64 0, .int .u64 0, .bool false, .bool false] 36) := ⟨_, rfl⟩
  have hs : NoF w w1 m k bd r ⟨4, nn, tx, s0, s1, s2, s3⟩ := by rw [hw1]; exact hs
  have HE := (show Hid (((w.alloc (.cells #[m, k, bd, r] 56)).alloc (.cells #[.int .i64 4, .int .i64 nn, .string tx, .int .u64 s0, .int .u64 s1, .int .u64 s2, .int .u64 s3] 70)).alloc (.cells #[.int .u64 0, .int .u64 0, .int .u64 0, .int .u64 0, .bool false, .bool false] 36) = w1) from hw1.symm)
  have HS := (show Hid (NoF w w1 m k bd r ⟨4, nn, tx, s0, s1, s2, s3⟩) from hs)
  have c0 : w1.cell? ⟨w.heap.size + 1, 0, none⟩ = some (.int .i64 4) := hs.n.nb.c0
  have c1 : w1.cell? ⟨w.heap.size + 1, 1, none⟩ = some (.int .i64 nn) := hs.n.nb.c1
  have c2 : w1.cell? ⟨w.heap.size + 1, 2, none⟩ = some (.string tx) := hs.n.nb.c2
  have c3 : w1.cell? ⟨w.heap.size + 1, 3, none⟩ = some (.int .u64 s0) := hs.n.nb.c3
  have c4 : w1.cell? ⟨w.heap.size + 1, 4, none⟩ = some (.int .u64 s1) := hs.n.nb.c4
  have c5 : w1.cell? ⟨w.heap.size + 1, 5, none⟩ = some (.int .u64 s2) := hs.n.nb.c5
  have c6 : w1.cell? ⟨w.heap.size + 1, 6, none⟩ = some (.int .u64 s3) := hs.n.nb.c6
  have z0 := hs.z.c0
  have z1 := hs.z.c1
  have z2 := hs.z.c2
  have z3 := hs.z.c3
  have z4 := hs.z.c4
  have z5 := hs.z.c5
  have zf := hs.z.fz
  clear hw1
  have HKe := (show Hid (∀ W, Below w1.heap.size w1 W → (fun W => W.cell? ⟨w.heap.size + 1, 2, none⟩ = some (.string tx)) W) from fun W hW => (HS.out.later hW).n.nb.c2)
  have HKz := (show Hid (∀ W, Below w1.heap.size w1 W → W.cell? ⟨w.heap.size + 1 + 1, 0, none⟩ = some (.int .u64 (wd f0.st 0)) ∧ W.cell? ⟨w.heap.size + 1 + 1, 1, none⟩ = some (.int .u64 (wd f0.st 1)) ∧ W.cell? ⟨w.heap.size + 1 + 1, 2, none⟩ = some (.int .u64 (wd f0.st 2)) ∧ W.cell? ⟨w.heap.size + 1 + 1, 3, none⟩ = some (.int .u64 (wd f0.st 3)) ∧ W.cell? ⟨w.heap.size + 1 + 1, 4, none⟩ = some (.bool f0.em) ∧ W.cell? ⟨w.heap.size + 1 + 1, 5, none⟩ = some (.bool f0.hf) ∧ W.frozen? ⟨w.heap.size + 1 + 1, 0, none⟩ = false ∧ W.frozen? ⟨w.heap.size + 1 + 1, 1, none⟩ = false ∧ W.frozen? ⟨w.heap.size + 1 + 1, 2, none⟩ = false ∧ W.frozen? ⟨w.heap.size + 1 + 1, 3, none⟩ = false ∧ W.frozen? ⟨w.heap.size + 1 + 1, 4, none⟩ = false ∧ W.frozen? ⟨w.heap.size + 1 + 1, 5, none⟩ = false) from fun W hW => by
    have h := (HS.out.later hW).z
    exact ⟨h.c0, h.c1, h.c2, h.c3, h.c4, h.c5, h.fz 0, h.fz 1, h.fz 2, h.fz 3, h.fz 4, h.fz 5⟩)
  have HKs := (show ∀ W, Below w1.heap.size w1 W → (fun W => W.cell? ⟨w.heap.size + 1, 2, none⟩ = some (.string tx)) (sF W (w.heap.size + 1 + 1) ⟨ofL (List.take 1 tx.data.toList), false, ((tx.size : Int) == 1)⟩) from fun W hW => by
    have hy : w.heap.size + 1 ≠ w.heap.size + 1 + 1 := by omega
    show (sF W (w.heap.size + 1 + 1) ⟨ofL (List.take 1 tx.data.toList), false, ((tx.size : Int) == 1)⟩).cell? ⟨w.heap.size + 1, 2, none⟩ = _
    rw [World.cell?_of_block (a := ⟨w.heap.size + 1, 2, none⟩) (sF_other W _ _ hy)]
    exact HKe.out W hW)
  unfold sF at HKs
  have HKs := (show Hid _ from HKs)
  have HKd := (show Hid _ from HKe.out w1.drew ((Below.refl _ _).drew))
  have HC := (show Hid (∀ W, Below w1.heap.size w1 W → Calls Tryz.prog 26 #[.string (tx.extract 0 1)] W fun e w' => e = .returned (sv (ofL (List.take 1 tx.data.toList))) ∧ Below w1.heap.size w1 w') from fun W hW => by
    have h := Go.Proofs.YtbnihflihelimaaGreat.of_any (tx.extract 0 1) W (by unfold maxLen; rw [ByteArray.size_extract]; omega)
    have e : (tx.extract 0 1).data.toList = List.take 1 tx.data.toList := by simp
    rw [e] at h
    exact h.mono fun e w' ⟨h1, h2⟩ => ⟨h1, hW.trans (h2.mono hW.size)⟩)
  have HZ := (show ∀ W, Below w1.heap.size w1 W → Hid _ from fun W hW => (HS.out.later hW).fin ⟨ofL (List.take 1 tx.data.toList), false, ((tx.size : Int) == 1)⟩)
  unfold sF at HZ
  have HZ := (show Hid _ from HZ)
  have y0 : (1 : Int) ≤ (tx.size : Int) := by omega
  clear hs h0
  go_enter Tryz.func44, Tryz.ntmps44
  go_wp2_with (rw [HE.out])
  first | (go_region_held3 (fun W => W.cell? ⟨w.heap.size + 1, 2, none⟩ = some (.string tx)) (first | with_reducible exact HKd.out | with_reducible exact HKe.out _ b5 | with_reducible exact HKs.out _ b5) ((go_at_call 26; with_reducible refine (HC.out _ ((Below.refl _ _).drew)).mono ?_; rintro e w5 ⟨rfl, b5⟩; obtain ⟨g0, g1, g2, g3, g4, g5, g6, g7, g8, g9, g10, g11⟩ := HKz.out w5 b5)))
  have HF := HZ.out w5 b5
  rename_i hHeld
  clear hHeld HKs HKe HKz HKd HZ HC
  go_wp2_with fail
  exact ret_f rfl rfl rfl HF.out.1 ⟨rfl, HF.out.2⟩
end Go.Proofs.YtbnihflihelimaaGreat.N

namespace Go.Proofs.YtbnihflihelimaaGreat.N
open Go.RowKit Go.Maps
open Go.Proofs.YtbnihflihelimaaGreat.T

open U (below_grown)
theorem al_text {n : Nd} (hn : alE n = 0) (h4 : n.op = 4) : 1 ≤ n.tx.size := by
  have hf : fdF n = true := by
    unfold alE at hn
    by_cases h : ar n.op < 0
    · rw [if_pos h] at hn; cases hn
    · rw [if_neg h] at hn
      by_cases q : fdF n = true
      · exact q
      · rw [if_neg q] at hn; cases hn
  unfold fdF at hf
  rw [Bool.and_eq_true, Bool.and_eq_true] at hf
  have ht := hf.1.1
  rw [h4] at ht
  unfold txF at ht
  apply Classical.byContradiction
  intro h
  have e : n.tx.size = 0 := by omega
  have e2 := emp_t e
  simp [e] at ht
theorem hd_of {s : ByteArray} (h : 1 ≤ s.size) : ofL (List.take 1 s.data.toList) = hdB s := by
  have hl : 0 < s.data.toList.length := by
    have : s.data.toList.length = s.size := by simp
    omega
  unfold hdB
  cases e : s.data.toList with
  | nil => rw [e] at hl; exact absurd hl (by decide)
  | cons c l =>
    show 0#256 ||| bt c.toNat = _
    rw [BitVec.zero_or]
    rfl
/-- What node answers is the table's row. -/
theorem fsNode_any (n : Nd) (gs : GL) (fs : List Fs) (mb : Nat) (k bd : Value) (Ar A : Option Addr) (cr cp : Nat) (l : List (Fs × Bool)) (w : World) (hal : alE n = 0) (hw : NdW n) (ht : n.tx.size ≤ 140737488355328) (hf : n.op = 6 → ∃ i, fdG gs n.tx = some i) (hfl : fs.length = gs.length) (hll : l.length = arN n.op) (hm : NmM w mb gs) (hr : RdF w Ar fs) (hp : RdQ w A l) : Calls Tryz.prog 44 #[.agg #[.map (some mb), k, bd, .slice Ar gs.length cr], ndG n, .slice A (arN n.op) cp] w fun e w' => e = .returned (fG (faN n (seV n) (((l[0]?).getD (f0, false)).1) (((l[1]?).getD (f0, false)).1) (((l[1]?).getD (f0, false)).2) (lkF gs fs))) ∧ Below w.heap.size w w' := by
  obtain ⟨hop, hN⟩ := al_facts hal
  have h4 := fun h => al_text hal h
  have hsv := seV_wd hw
  obtain ⟨op, nn, tx, s0, s1, s2, s3⟩ := n
  dsimp only at *
  by_cases c1 : op = 1
  · subst c1
    exact fsNode_1 nn tx s0 s1 s2 s3 _ k bd _ A _ cp w
  by_cases c17 : op = 17
  · subst c17
    exact fsNode_17 nn tx s0 s1 s2 s3 _ k bd _ A _ cp w
  by_cases c2 : op = 2
  · subst c2
    exact fsNode_2 nn tx s0 s1 s2 s3 _ k bd _ A _ cp w
  by_cases c3 : op = 3
  · subst c3
    exact fsNode_3 nn tx s0 s1 s2 s3 _ k bd _ A _ cp w
  by_cases c4 : op = 4
  · subst c4
    have h := fsNode_4a nn tx s0 s1 s2 s3 (.map (some mb)) k bd (.slice Ar gs.length cr) A (arN 4) cp w (h4 rfl) ht
    rw [hd_of (h4 rfl)] at h
    have e : ((tx.size : Int) == 1) = decide (tx.size = 1) := by
      by_cases q : tx.size = 1
      · rw [q]; rfl
      · rw [decide_eq_false q, beq_eq_false_iff_ne]; omega
    rw [e] at h
    exact h
  by_cases c5 : op = 5
  · subst c5
    obtain ⟨e0, e1, e2, e3⟩ := hsv
    have h := fsNode_5 nn tx (seV ⟨5, nn, tx, s0, s1, s2, s3⟩) (.map (some mb)) k bd (.slice Ar gs.length cr) A (arN 5) cp w
    rw [e0, e1, e2, e3] at h
    exact h
  by_cases c6 : op = 6
  · subst c6
    obtain ⟨i, hi⟩ := hf rfl
    have hil : i < fs.length := by rw [hfl]; exact fdG_lt hi
    have he : fs[i]? = some fs[i] := List.getElem?_eq_getElem hil
    have e : lkF gs fs tx = fs[i] := by
      unfold lkF
      rw [hi]
      show (fs[i]?).getD f0 = _
      rw [he]
      rfl
    have h := fsNode_6 nn tx s0 s1 s2 s3 k bd A (arN 6) cp gs fs i mb fs[i] Ar cr w hm ht hi hfl he hr
    rw [← e] at h
    exact h
  by_cases c7 : op = 7
  · subst c7
    have ha : arN 7 = 2 := rfl
    rw [ha] at hll ⊢
    obtain ⟨⟨x, cx⟩, ⟨y, cy⟩, rfl⟩ : ∃ x y, l = [x, y] := by
      match l, hll with
      | [x, y], _ => exact ⟨x, y, rfl⟩
    exact fsNode_7 nn tx s0 s1 s2 s3 _ k bd _ A cp x y cx cy w hp
  by_cases c8 : op = 8
  · subst c8
    have ha : arN 8 = 2 := rfl
    rw [ha] at hll ⊢
    obtain ⟨⟨x, cx⟩, ⟨y, cy⟩, rfl⟩ : ∃ x y, l = [x, y] := by
      match l, hll with
      | [x, y], _ => exact ⟨x, y, rfl⟩
    exact fsNode_8 nn tx s0 s1 s2 s3 _ k bd _ A cp x y cx cy w hp
  have ha : arN op = 1 := arN_1 (n := ⟨op, nn, tx, s0, s1, s2, s3⟩) hop (by dsimp only; omega) (by dsimp only; omega)
  rw [ha] at hll ⊢
  obtain ⟨⟨x, cx⟩, rfl⟩ : ∃ x, l = [x] := by
    match l, hll with
    | [x], _ => exact ⟨x, rfl⟩
  rw [faN_ab (n := ⟨op, nn, tx, s0, s1, s2, s3⟩) ⟨by dsimp only; omega, c17⟩]
  exact fsNode_ab op nn tx s0 s1 s2 s3 _ k bd _ A cp x cx w hp ⟨by omega, c17⟩
end Go.Proofs.YtbnihflihelimaaGreat.N

namespace Go.Proofs.YtbnihflihelimaaGreat.N
open Go.RowKit Go.Maps
open Go.Proofs.YtbnihflihelimaaGreat.T

open U (below_grown)
theorem QX.fz {W : World} {b : Nat} {a : Fs} {c : Bool} (h : QX W b a c) (j : Nat) : W.frozen? ⟨b, j, none⟩ = false := frozen_of_row W b j _ 96 h.heap
/-- A part is written. -/
def sQ (W : World) (b : Nat) (a : Fs) (c : Bool) : World := ((((((W.setCell ⟨b, 0, none⟩ (.int .u64 (wd a.st 0))).setCell ⟨b, 1, none⟩ (.int .u64 (wd a.st 1))).setCell ⟨b, 2, none⟩ (.int .u64 (wd a.st 2))).setCell ⟨b, 3, none⟩ (.int .u64 (wd a.st 3))).setCell ⟨b, 4, none⟩ (.bool a.em)).setCell ⟨b, 5, none⟩ (.bool a.hf)).setCell ⟨b, 6, none⟩ (.bool c)
theorem sQ_below {B : Nat} {W0 W : World} (b : Nat) (a : Fs) (c : Bool) (h : Below B W0 W) (hb : B ≤ b) : Below B W0 (sQ W b a c) := by
  unfold sQ
  exact ((((((h.setCell (p := ⟨b, 0, none⟩) hb _).setCell (p := ⟨b, 1, none⟩) hb _).setCell (p := ⟨b, 2, none⟩) hb _).setCell (p := ⟨b, 3, none⟩) hb _).setCell (p := ⟨b, 4, none⟩) hb _).setCell (p := ⟨b, 5, none⟩) hb _).setCell (p := ⟨b, 6, none⟩) hb _
theorem sQ_qx {W : World} {b : Nat} {x : Fs} {d : Bool} (h : QX W b x d) (a : Fs) (c : Bool) : QX (sQ W b a c) b a c := by
  have e0 := heap_setCell_same _ b 0 _ 96 (.int .u64 (wd a.st 0)) h.heap
  have e1 := heap_setCell_same _ b 1 _ 96 (.int .u64 (wd a.st 1)) e0
  have e2 := heap_setCell_same _ b 2 _ 96 (.int .u64 (wd a.st 2)) e1
  have e3 := heap_setCell_same _ b 3 _ 96 (.int .u64 (wd a.st 3)) e2
  have e4 := heap_setCell_same _ b 4 _ 96 (.bool a.em) e3
  have e5 := heap_setCell_same _ b 5 _ 96 (.bool a.hf) e4
  have e6 := heap_setCell_same _ b 6 _ 96 (.bool c) e5
  exact ⟨by unfold sQ; rw [e6]; rfl⟩
/-- A body's box: its nodes, and which of them can fail. -/
structure BdX (W : World) (b : Nat) (nv cv : Value) : Prop where
  heap : W.heap[b]? = some (.cells #[nv, cv] 67 (0, 0))
theorem BdX.lt {W : World} {b : Nat} {nv cv : Value} (h : BdX W b nv cv) : b < W.heap.size := (Array.getElem?_eq_some_iff.1 h.heap).1
theorem BdX.same {W W' : World} {b : Nat} {nv cv : Value} (h : BdX W b nv cv) (hb : W'.heap[b]? = W.heap[b]?) : BdX W' b nv cv := ⟨hb.trans h.heap⟩
theorem BdX.below {W W' : World} {b : Nat} {nv cv : Value} (h : BdX W b nv cv) (hb : Below W.heap.size W W') : BdX W' b nv cv := h.same (hb.block b h.lt)
theorem BdX.c0 {W : World} {b : Nat} {nv cv : Value} (h : BdX W b nv cv) : W.cell? ⟨b, 0, none⟩ = some nv := by rw [cell_of_row W b 0 _ 67 (0, 0) h.heap]; rfl
theorem BdX.c1 {W : World} {b : Nat} {nv cv : Value} (h : BdX W b nv cv) : W.cell? ⟨b, 1, none⟩ = some cv := by rw [cell_of_row W b 1 _ 67 (0, 0) h.heap]; rfl
theorem BdX.new (W : World) (nv cv : Value) : BdX (W.alloc (.cells #[nv, cv] 67)) W.heap.size nv cv := ⟨heap_alloc_new W _⟩
theorem Tryz.infoF : (Tryz.prog.info? 36).map (fun i => (i.zero, i.size, i.bytes)) = some (some (.agg #[.int .u64 0, .int .u64 0, .int .u64 0, .int .u64 0, .bool false, .bool false]), 6, 40) := by kernel_rfl
theorem Tryz.infoQ : (Tryz.prog.info? 96).map (fun i => (i.zero, i.size, i.bytes)) = some (some (.agg #[.int .u64 0, .int .u64 0, .int .u64 0, .int .u64 0, .bool false, .bool false, .bool false]), 7, 48) := by kernel_rfl
/-- Room for what will be known. -/
theorem make_fs (w : World) (B n : Nat) (hB : B ≤ w.heap.size) (hn : n ≤ 2048) : ∃ w1, (Instr.makeSlice 26 (.int .i64 0) (.int .i64 (n : Int))).run Tryz.prog w = .ok (.slice (some ⟨w.heap.size, 0, none⟩) 0 n) w1 ∧ w1.ownsRow B 36 6 (.slice (some ⟨w.heap.size, 0, none⟩) 0 n) 0 [] ∧ w.grownBy w1 none := by
  obtain ⟨i0, hinf, hz0, hz1, hz2⟩ := info_parts Tryz.infoF
  exact run_make_own (P := Tryz.prog) w B 26 36 i0 _ 6 (by kernel_rfl) hinf hz0 hz1 .i64 .i64 n (by rw [hz2]; omega) (by unfold maxLen; omega) hB
/-- One more behind a row of what is known. -/
theorem wpList_appF {ops : Array Oper} {rest : List Oper} {o : Oper} {a0 : Act} {Q : Exit → Act → World → Prop} {W : World} {a : Fs} (H : Nat) (hH : W.heap.size = H) (hgd : o.guard = none) (s x : Operand)
    (ho : o.op = .call { callee := .builtin .append, args := #[s, x], argTypes := #[26, 26] })
    (base n : Nat) (v : Value) (l : List Fs) (hs : a0.eval s = v) (hx : a0.eval x = .slice (some ⟨H, 0, none⟩) 1 1) (hown : W.ownsRow base 36 6 v n (fsc l)) (hn : n ≤ 1000000) (hbase : base ≤ W.heap.size)
    (h : ∀ g cap w', w'.ownsRow base 36 6 (.slice (some ⟨g, 0, none⟩) (n + 1) cap) (n + 1) (fsc (l ++ [a])) → W.grownBy w' v.ownBlock → (v.ownBlock = some g ∨ g = H + 1) → g < w'.heap.size → wpList Tryz.prog ops Q rest (a0.put o.dst (.slice (some ⟨g, 0, none⟩) (n + 1) cap)) w') :
    wpList Tryz.prog ops Q (o :: rest) a0 (W.alloc (.cells #[.int .u64 (wd a.st 0), .int .u64 (wd a.st 1), .int .u64 (wd a.st 2), .int .u64 (wd a.st 3), .bool a.em, .bool a.hf] 36)) := by
  subst hH
  obtain ⟨i0, hinf, hz0, hz1, hz2⟩ := info_parts Tryz.infoF
  refine wpList_append_lies (W.alloc (.cells #[.int .u64 (wd a.st 0), .int .u64 (wd a.st 1), .int .u64 (wd a.st 2), .int .u64 (wd a.st 3), .bool a.em, .bool a.hf] 36)) hgd s x 26 ho base 36 i0 _ 6 40 (by kernel_rfl) hinf hz0 hz1 hz2 rfl (by decide) v n (fsc l) hs (hown.alloc _) ⟨W.heap.size, 0, none⟩ 1 1 (fsV a) hx rfl (World.news_of_block (cs := #[.int .u64 (wd a.st 0), .int .u64 (wd a.st 1), .int .u64 (wd a.st 2), .int .u64 (wd a.st 3), .bool a.em, .bool a.hf]) (t := 36) (fr := (0, 0)) (heap_alloc_new W _)) (fsV_one _) (by decide) (by unfold maxLen; omega) (by omega) (by rw [World.size_alloc]; omega) (W.heap.size + 1) (by rw [World.size_alloc]) ?_
  intro g cap w' h2 h3 h4 h5
  refine h g cap w' ?_ (U.grow_alloc h3) h4 h5
  rw [fsc_app, fsc_one]
  exact h2
/-- While parts go from node to node. -/
structure PaS (w wr : World) (m k bd r nv cv : Value) (l5 : List Fs) (l6 : List (Fs × Bool)) (v5 v6 : Value) : Prop where
  b : Below w.heap.size w wr
  x : KyX wr w.heap.size m k bd r
  y : BdX wr (w.heap.size + 1) nv cv
  o : wr.ownsRow (w.heap.size + 2) 36 6 v5 l5.length (fsc l5)
  p : wr.ownsRow (w.heap.size + 2) 96 7 v6 l6.length (pqc l6)
  d : ∀ q, v5.ownBlock = some q → v6.ownBlock ≠ some q
theorem PaS.later {w wr w2 : World} {m k bd r nv cv : Value} {l5 : List Fs} {l6 : List (Fs × Bool)} {v5 v6 : Value} (h : PaS w wr m k bd r nv cv l5 l6 v5 v6) (hb : Below wr.heap.size wr w2) : PaS w w2 m k bd r nv cv l5 l6 v5 v6 :=
  ⟨h.b.trans (hb.mono h.b.size), h.x.below hb, h.y.below hb, U.own_below h.o hb, U.own_below h.p hb, h.d⟩
theorem PaS.push6 {w wr w2 : World} {m k bd r nv cv : Value} {l5 : List Fs} {l6 l7 : List (Fs × Bool)} {v5 v6 v7 : Value} (h : PaS w wr m k bd r nv cv l5 l6 v5 v6) {row : Option Nat} (hg : wr.grownBy w2 row) (hrow : ∀ q, row = some q → v6.ownBlock = some q) (ho : w2.ownsRow (w.heap.size + 2) 96 7 v7 l7.length (pqc l7)) (hat : ∀ g, v7.ownBlock = some g → v6.ownBlock = some g ∨ wr.heap.size ≤ g) : PaS w w2 m k bd r nv cv l5 l7 v5 v7 := by
  have hlow : ∀ q, row = some q → w.heap.size + 2 ≤ q := fun q hq => (h.p.lt q (hrow q hq)).1
  refine ⟨below_grown h.b hg (fun q e => by have := hlow q e; omega), h.x.same (hg.block _ h.x.lt (fun e => by have := hlow _ e.symm; omega)), h.y.same (hg.block _ h.y.lt (fun e => by have := hlow _ e.symm; omega)), own_same h.o (fun q hq => hg.block q (h.o.lt q hq).2 (fun e => h.d q hq (hrow q e.symm))), ho, fun q hq e => ?_⟩
  rcases hat q e with e2 | e2
  · exact h.d q hq e2
  · have := (h.o.lt q hq).2
    omega
theorem PaS.push5 {w wr w2 : World} {m k bd r nv cv : Value} {l5 l7 : List Fs} {l6 : List (Fs × Bool)} {v5 v6 v7 : Value} (h : PaS w wr m k bd r nv cv l5 l6 v5 v6) {row : Option Nat} (hg : wr.grownBy w2 row) (hrow : ∀ q, row = some q → v5.ownBlock = some q) (ho : w2.ownsRow (w.heap.size + 2) 36 6 v7 l7.length (fsc l7)) (hat : ∀ g, v7.ownBlock = some g → v5.ownBlock = some g ∨ wr.heap.size ≤ g) : PaS w w2 m k bd r nv cv l7 l6 v7 v6 := by
  have hlow : ∀ q, row = some q → w.heap.size + 2 ≤ q := fun q hq => (h.o.lt q (hrow q hq)).1
  refine ⟨below_grown h.b hg (fun q e => by have := hlow q e; omega), h.x.same (hg.block _ h.x.lt (fun e => by have := hlow _ e.symm; omega)), h.y.same (hg.block _ h.y.lt (fun e => by have := hlow _ e.symm; omega)), ho, own_same h.p (fun q hq => hg.block q (h.p.lt q hq).2 (fun e => h.d q (hrow q e.symm) hq)), fun q hq e => ?_⟩
  rcases hat q hq with e2 | e2
  · exact h.d q e2 e
  · have := (h.p.lt q e).2
    omega
end Go.Proofs.YtbnihflihelimaaGreat.N

namespace Go.Proofs.YtbnihflihelimaaGreat.N
open Go.RowKit Go.Maps
open Go.Proofs.YtbnihflihelimaaGreat.T

open U (below_grown own_get own_slice)
theorem seL_tx {nu : ByteArray → Bool} {L : List Nd} (h : ∀ n ∈ L, n.tx.size ≤ 140737488355328) : ∀ n ∈ seL nu L, n.tx.size ≤ 140737488355328 := fun n hn => by
  unfold seL at hn
  obtain ⟨m, hm, rfl⟩ := List.mem_map.1 hn
  by_cases h6 : m.op = 6
  · unfold seN
    rw [if_pos h6]
    split <;> exact Nat.zero_le _
  · rw [seN_6 h6]; exact h m hm
/-- A grammar of one rule, just laid down. -/
theorem gi_one {W : World} {kk g cap n : Nat} {M : List Nd} (hl : M.length = n) (hn : n ≤ 2048) (ht : ∀ n ∈ M, n.tx.size ≤ 140737488355328) (o : RdN W (some ⟨g, 0, none⟩) M) (hr : RB W kk ⟨#[]⟩ (.slice (some ⟨g, 0, none⟩) n cap)) : GI W (some ⟨kk, 0, none⟩) [(⟨#[]⟩, M)] := by
  subst hl
  refine ⟨fun k p hp => ?_, by show 1 ≤ _; omega, fun p hp => ?_⟩
  · have hk := (List.getElem?_eq_some_iff.1 hp).1
    have e : k = 0 := by simp at hk; exact hk
    subst e
    cases hp
    exact ⟨kk, 0, some ⟨g, 0, none⟩, cap, rfl, hr.lt, hr.c0, hr.c1, o⟩
  · rw [List.mem_singleton.1 hp]
    exact ⟨Nat.zero_le _, by show M.length ≤ _; omega, ht⟩

theorem BdX.fz {W : World} {b : Nat} {nv cv : Value} (h : BdX W b nv cv) (j : Nat) : W.frozen? ⟨b, j, none⟩ = false := frozen_of_row W b j _ 67 h.heap
theorem BdX.set1 {W : World} {b : Nat} {nv cv : Value} (h : BdX W b nv cv) (v : Value) : BdX (W.setCell ⟨b, 1, none⟩ v) b nv v := ⟨by rw [heap_setCell_same W b 1 _ 67 v h.heap]; rfl⟩
theorem BdX.set01 {W : World} {b : Nat} {nv cv : Value} (h : BdX W b nv cv) (u v : Value) : BdX ((W.setCell ⟨b, 0, none⟩ u).setCell ⟨b, 1, none⟩ v) b u v := by
  have e0 := heap_setCell_same W b 0 _ 67 u h.heap
  exact ⟨by rw [heap_setCell_same _ b 1 _ 67 v e0]; rfl⟩
theorem ret_bd {s : Nat} {fn : Func} {R : Ending → World → Prop} {act : Act} {W : World} {k : Nat} {m v : Value} (hF : fn.results = #[.cell s 67]) (hd : act.defers = []) (h6 : act.tmps.getD s undef = .pointer (some ⟨k, 0, none⟩)) (hT : BdX W k m v) (hR : R (.returned (.agg #[m, v])) W) : bodyPost Tryz.prog fn R .ret act W := by
  have c0 : W.cell? ⟨k, 0, none⟩ = _ := hT.c0
  have c1 : W.cell? ⟨k, 1, none⟩ = _ := hT.c1
  refine bodyPost_ret (v := .agg #[m, v]) ?_ hd hR
  simp only [Array.getD_eq_getD_getElem?] at h6
  simp [results, hF, go_sem, h6, c0, c1]
/-- While the marks of a body are laid. -/
structure BoS (w wr : World) (kb : Nat) (nv : Value) (E : Nat → Bool) (Al : Option Addr) (l : List Em) (N k : Nat) (v : Value) : Prop where
  b : Below w.heap.size w wr
  z : BdX wr (w.heap.size + 1) (.slice none 0 0) (.slice none 0 0)
  y : BdX wr kb nv v
  r : RdE wr Al l
  o : wr.ownsRow N 4 1 v k ((List.range k).map fun j => Value.bool (E j))
  n : w.heap.size + 1 < kb ∧ kb < N ∧ N ≤ wr.heap.size
  q : ∀ g o, Al = some ⟨g, o, none⟩ → g < kb
theorem BoS.later {w wr w2 : World} {kb : Nat} {nv : Value} {E : Nat → Bool} {Al : Option Addr} {l : List Em} {N k : Nat} {v : Value} (h : BoS w wr kb nv E Al l N k v) (hb : Below wr.heap.size wr w2) : BoS w w2 kb nv E Al l N k v :=
  ⟨h.b.trans (hb.mono h.b.size), h.z.below hb, h.y.below hb, h.r.later hb, U.own_below h.o hb, ⟨h.n.1, h.n.2.1, Nat.le_trans h.n.2.2 hb.size⟩, h.q⟩
/-- A mark is put behind the others, and the row back into the box. -/
theorem BoS.push {w wr w2 : World} {kb : Nat} {nv : Value} {E : Nat → Bool} {Al : Option Addr} {l : List Em} {N k : Nat} {v v2 : Value} (h : BoS w wr kb nv E Al l N k v) (ho : w2.ownsRow N 4 1 v2 (k + 1) ((List.range k).map (fun j => Value.bool (E j)) ++ [.bool (E k)])) (hg : wr.grownBy w2 v.ownBlock) : BdX w2 kb nv v ∧ BoS w (w2.setCell ⟨kb, 1, none⟩ v2) kb nv E Al l N (k + 1) v2 := by
  have hlow : ∀ q, v.ownBlock = some q → N ≤ q := fun q hq => (h.o.lt q hq).1
  have hlow2 : ∀ q, v2.ownBlock = some q → N ≤ q := fun q hq => (ho.lt q hq).1
  have hn := h.n
  have hk : ∀ b, b < N → w2.heap[b]? = wr.heap[b]? := fun b hb => hg.block b (by omega) (fun q => by have := hlow _ q.symm; omega)
  have hb2 : Below w.heap.size w w2 := below_grown h.b hg (fun q e => by have := hlow q e; omega)
  have hy : BdX w2 kb nv v := h.y.same (hk kb hn.2.1)
  have hj : ∀ j, j ≠ kb → (w2.setCell ⟨kb, 1, none⟩ v2).heap[j]? = w2.heap[j]? := fun j q => heap_setCell_other _ ⟨kb, _, none⟩ j _ q
  have hz : (w2.setCell ⟨kb, 1, none⟩ v2).heap.size = w2.heap.size := World.size_setCell ..
  refine ⟨hy, hb2.setCell (p := ⟨kb, 1, none⟩) (by show w.heap.size ≤ kb; omega) _, h.z.same ((hj _ (by omega)).trans (hk _ (by omega))), hy.set1 v2, h.r.same (by rw [hz]; exact hg.size) (fun g o e => ?_), ?_, ⟨hn.1, hn.2.1, by rw [hz]; exact Nat.le_trans hn.2.2 hg.size⟩, h.q⟩
  · have hgN := h.q g o e
    exact (hj g (by omega)).trans (hk g (by omega))
  · rw [List.range_succ, List.map_append]
    exact own_same ho (fun q hq => hj q (by have := hlow2 q hq; omega))
set_option maxRecDepth 100000 in
set_option maxHeartbeats 64000000 in
theorem fsBodyOf_any {gs : GL} {now : List Em} {L : List Nd} (mb : Nat) (bd rv : Value) (Ak Ap : Option Addr) (ck cp : Nat) (hrt : Rt L) (hpos : 0 < L.length) (hlen : L.length ≤ 2048) (hsz : ∀ n ∈ L, n.tx.size ≤ 140737488355328) (hdn : ∀ n ∈ L, n.op = 6 → ∃ i, fdG gs n.tx = some i) (w : World) (hm : NmM w mb gs) (hk : RdE w Ak now) (hn : now.length = gs.length) (hp : RdN w Ap L) :
    Calls Tryz.prog 48 #[.agg #[.map (some mb), .slice Ak gs.length ck, bd, rv], .slice Ap L.length cp] w fun e w' => (∃ v, e = .returned (.agg #[.slice Ap L.length cp, v]) ∧ w'.ownsRow w.heap.size 4 1 v L.length ((List.range L.length).map fun j => Value.bool (cfR gs now L j))) ∧ Below w.heap.size w w' := by
  have hLn : L ≠ [] := by rintro rfl; simp at hpos
  obtain ⟨gp, op, rfl, lp, cl⟩ := hp hLn
  obtain ⟨nu, hnu⟩ : ∃ nu, nu = cfB gs now := ⟨_, rfl⟩
  have hcf : ∀ n ∈ L, n.op = 6 → (lkE gs now n.tx).cf = !nu n.tx := fun n _ _ => by rw [hnu]; unfold cfB; rw [Bool.not_not]
  obtain ⟨w1, hw1⟩ : ∃ w1, w1 = (w.alloc (.cells #[.map (some mb), .slice Ak gs.length ck, bd, rv] 56)).alloc (.cells #[.slice none 0 0, .slice none 0 0] 67) := ⟨_, rfl⟩
  have HE1 := (show Hid ((w.alloc (.cells #[.map (some mb), .slice Ak gs.length ck, bd, rv] 56)).alloc (.cells #[.slice none 0 0, .slice none 0 0] 67) = w1) from hw1.symm)
  have s0 := World.size_alloc w (.cells #[.map (some mb), .slice Ak gs.length ck, bd, rv] 56)
  have s1 : w1.heap.size = w.heap.size + 2 := by rw [hw1, World.size_alloc, s0]
  have hb1 : Below w.heap.size w w1 := by rw [hw1]; exact (below_box w _).trans ((below_box _ _).mono (by omega))
  have hx1 : KyX w1 w.heap.size (.map (some mb)) (.slice Ak gs.length ck) bd rv := by rw [hw1]; exact (KyX.new w _ _ _ _).below (below_box _ _)
  have hy1 : BdX w1 (w.heap.size + 1) (.slice none 0 0) (.slice none 0 0) := by
    have h := BdX.new (w.alloc (.cells #[.map (some mb), .slice Ak gs.length ck, bd, rv] 56)) (.slice none 0 0) (.slice none 0 0)
    rw [s0, ← hw1] at h
    exact h
  have HSe := (show Hid (∀ _ : Unit, Calls Tryz.prog 69 #[.agg #[.map (some mb), .slice Ak gs.length ck, bd, rv], (.slice (some ⟨gp, op, none⟩) L.length cp)] w1 fun e w' => (∃ g cap, e = .returned (.slice (some ⟨g, 0, none⟩) L.length cap) ∧ w'.ownsRow w1.heap.size 70 7 (.slice (some ⟨g, 0, none⟩) L.length cap) L.length (ndc (seL nu L))) ∧ Below w1.heap.size w1 w') from fun _ => by
    have h := fsSettled_any (gs := gs) (now := now) (L := L) mb bd rv Ak ⟨gp, op, none⟩ ck cp hlen hLn hsz hdn w1 (hm.later hb1) (hk.later hb1) hn (fun _ => ⟨gp, op, rfl, Nat.lt_of_lt_of_le lp hb1.size, cl.same (hb1.block gp lp)⟩)
    rw [hnu]
    exact h)
  have HP1 := (show Hid (Below w.heap.size w w1 ∧ w1.heap.size = w.heap.size + 2 ∧ BdX w1 (w.heap.size + 1) (.slice none 0 0) (.slice none 0 0)) from ⟨hb1, s1, hy1⟩)
  have HRt := (show Hid (Rt L ∧ 0 < L.length ∧ L.length ≤ 2048 ∧ ∀ n ∈ L, n.tx.size ≤ 140737488355328) from ⟨hrt, hpos, hlen, hsz⟩)
  have HCf := (show Hid (∀ n ∈ L, n.op = 6 → (lkE gs now n.tx).cf = !nu n.tx) from hcf)
  have y0 := hx1.c0
  have y1 := hx1.c1
  have y2 := hx1.c2
  have y3 := hx1.c3
  clear hrt hpos hlen hsz hdn hm hk hn hp hLn lp cl hnu hcf hw1 s0 s1 hb1 hx1 hy1
  go_enter Tryz.func48, Tryz.ntmps48
  go_wp2_with (rw [HE1.out])
  refine (HSe.out ()).mono ?_
  rintro e w4 ⟨⟨g4, cap4, rfl, ho4⟩, b4⟩
  obtain ⟨w5, hw5⟩ : ∃ w5, w5 = w4.alloc (.cells #[.string ⟨#[]⟩, .slice (some ⟨g4, 0, none⟩) L.length cap4] 50) := ⟨_, rfl⟩
  have HE5 := (show Hid (w4.alloc (.cells #[.string ⟨#[]⟩, .slice (some ⟨g4, 0, none⟩) L.length cap4] 50) = w5) from hw5.symm)
  have hb5 : Below w4.heap.size w4 w5 := by rw [hw5]; exact below_box _ _
  have hr5 : RB w5 w4.heap.size ⟨#[]⟩ (.slice (some ⟨g4, 0, none⟩) L.length cap4) := by rw [hw5]; exact ⟨heap_alloc_new w4 _⟩
  obtain ⟨w6, hw6⟩ : ∃ w6, w6 = w5.alloc (.cells #[.string ⟨#[]⟩, .slice (some ⟨g4, 0, none⟩) L.length cap4] 50) := ⟨_, rfl⟩
  have HE6 := (show Hid (w5.alloc (.cells #[.string ⟨#[]⟩, .slice (some ⟨g4, 0, none⟩) L.length cap4] 50) = w6) from hw6.symm)
  have hb6 : Below w5.heap.size w5 w6 := by rw [hw6]; exact below_box _ _
  have hb46 : Below w4.heap.size w4 w6 := hb5.trans (hb6.mono hb5.size)
  have hb16 : Below w1.heap.size w1 w6 := b4.trans (hb46.mono b4.size)
  have HB6 := (show Hid (Below w.heap.size w w6 ∧ BdX w6 (w.heap.size + 1) (.slice none 0 0) (.slice none 0 0) ∧ w.heap.size + 2 < w6.heap.size) from by
    obtain ⟨h1, h2, h3⟩ := HP1.out
    refine ⟨h1.trans (hb16.mono h1.size), h3.below hb16, ?_⟩
    have e5 : w6.heap.size = w5.heap.size + 1 := by rw [hw6, World.size_alloc]
    have := b4.size
    have := hb5.size
    omega)
  have HPa := (show Hid (∀ _ : Unit, Calls Tryz.prog 70 #[.agg #[.slice (some ⟨w5.heap.size, 0, none⟩) 1 1], .int .i64 0] w6 fun e w' => (∃ v l cd, e = .returned (.tuple #[v, .int .i64 cd]) ∧ PaR [(⟨#[]⟩, seL nu L)] 0 l cd ∧ w'.ownsRow w6.heap.size 74 4 v l.length (emc l)) ∧ Below w6.heap.size w6 w') from fun _ => by
    have hr : RB w6 w5.heap.size ⟨#[]⟩ (.slice (some ⟨g4, 0, none⟩) L.length cap4) := by rw [hw6]; exact ⟨heap_alloc_new w5 _⟩
    have ho := U.own_below ho4 hb46
    exact partsP_any [(⟨#[]⟩, seL nu L)] (some ⟨w5.heap.size, 0, none⟩) 1 0 w6 (gi_one (by rw [seL_len]) HRt.out.2.2.1 (seL_tx HRt.out.2.2.2) (fun _ => ⟨g4, 0, rfl, (ho.lt g4 rfl).2, own_ndl (xs := []) (by rw [List.append_nil]; exact ho)⟩) hr))
  have q0 := hr5.c0
  have q1 := hr5.c1
  clear hw5 hw6 hb5 hb6 hb46 hb16 ho4 b4 HSe HP1 hr5 y0 y1 y2 y3
  go_wp2_with (first | rw [HE5.out] | rw [HE6.out])
  refine (HPa.out ()).mono ?_
  rintro e w7 ⟨⟨v, l, cd, rfl, hpa, ho⟩, b7⟩
  obtain ⟨rfl, hl, hln⟩ := pa_cf HRt.out.1 HCf.out hpa
  rw [hl] at ho
  obtain ⟨Al, cl, rfl⟩ := own_fm ho
  obtain ⟨w8, hw8⟩ : ∃ w8, w8 = w7.alloc (.cells #[(.slice (some ⟨gp, op, none⟩) L.length cp), .slice none 0 0] 67) := ⟨_, rfl⟩
  have HE8 := (show Hid (w7.alloc (.cells #[(.slice (some ⟨gp, op, none⟩) L.length cp), .slice none 0 0] 67) = w8) from hw8.symm)
  have HS := (show Hid (BoS w w8 w7.heap.size (.slice (some ⟨gp, op, none⟩) L.length cp) (cfR gs now L) Al l w8.heap.size 0 (.slice none 0 0)) from by
    obtain ⟨h1, h2, h3⟩ := HB6.out
    have hb8 : Below w7.heap.size w7 w8 := by rw [hw8]; exact below_box _ _
    have e8 : w8.heap.size = w7.heap.size + 1 := by rw [hw8, World.size_alloc]
    have hz := b7.size
    refine ⟨(h1.trans (b7.mono h1.size)).trans (hb8.mono (by have := h1.size; omega)), (h2.below b7).below hb8, by rw [hw8]; exact BdX.new w7 _ _, (own_rd ho hl).later hb8, World.ownsRow_nil _ _ _ _, ⟨by omega, by omega, Nat.le_refl _⟩, fun g o e => rde_lt (own_rd ho hl) (by rintro rfl; have := HRt.out.2.1; rw [← hl] at this; exact absurd this (by decide)) g o e⟩)
  have HLn := (show Hid (∀ k, k < L.length → ∃ e, l[k]? = some e ∧ e.cf = cfR gs now L k) from fun k hk => by
    obtain ⟨e, he⟩ : ∃ e, l[k]? = some e := ⟨_, List.getElem?_eq_getElem (by rw [hl]; exact hk)⟩
    refine ⟨e, he, ?_⟩
    have h : (l.map Em.cf)[k]? = ((List.range L.length).map (cfR gs now L))[k]? := by rw [hln]
    rw [List.getElem?_map, he, List.getElem?_map, List.getElem?_range hk] at h
    exact Option.some.inj h)
  have hlen := HRt.out.2.2.1
  have x0 := HS.out.y.c0
  have x1 := HS.out.y.c1
  generalize hN : w8.heap.size = N at HS
  clear hw8 hN ho hpa hln hl b7 HPa HB6 HE5 HE6 HCf q0 q1
  go_wp2_with (rw [HE8.out])
  clear x0 x1 HE8
  generalize w7.heap.size = kb at HS ⊢
  go_loopw [26] (fun t wr => ∃ (k : Nat) (A2 : Option Addr) (c2 : Nat), k ≤ L.length ∧ t = .int .i64 (k : Int) ∧ Hid (BoS w wr kb (.slice (some ⟨gp, op, none⟩) L.length cp) (cfR gs now L) Al l N k (.slice A2 k c2))) (fun t _ => L.length - (intOf t).toNat)
  case atStart => exact ⟨0, none, 0, Nat.zero_le _, by go_num, HS⟩
  case round =>
    obtain ⟨k, A2, c2, hk, rfl, HW⟩ := hrel
    clear HS
    by_cases hlt : k < L.length
    · obtain ⟨e, he, hen⟩ := HLn.out k hlt
      have hne : l ≠ [] := by rintro rfl; cases he
      obtain ⟨gl, ol, rfl, lgl, hEB⟩ := HW.out.r hne
      obtain ⟨r0, r1, r2, r3⟩ := hEB k e he
      obtain ⟨w9, hw9⟩ : ∃ w9, w9 = wr.alloc (emO e) := ⟨_, rfl⟩
      obtain ⟨en, ec, el, em⟩ := e
      simp only at r0 r1 r2 r3 hen
      have HE9 := (show Hid (wr.alloc (.cells #[.bool en, .bool ec, .int .i64 el, .int .i64 em] 74) = w9) from hw9.symm)
      have hb9 : Below wr.heap.size wr w9 := by rw [hw9]; exact below_box _ _
      have HX9 := (show Hid (EX w9 wr.heap.size ⟨en, ec, el, em⟩) from by rw [hw9]; exact EX.new wr _)
      have HW9 := (show Hid (BoS w w9 kb (.slice (some ⟨gp, op, none⟩) L.length cp) (cfR gs now L) (some ⟨gl, ol, none⟩) l N k (.slice A2 k c2)) from HW.out.later hb9)
      have x1 : w9.cell? ⟨wr.heap.size, 1, none⟩ = some (.bool ec) := HX9.out.eb.c1
      have x2 := HW9.out.y.c1
      have z0 : (0 : Int) ≤ (k : Int) := by omega
      have z1 : (k : Int) < (L.length : Int) := by omega
      have HEn := (show Hid (ec = cfR gs now L k) from hen)
      have HN9 := (show Hid (N ≤ w9.heap.size) from HW9.out.n.2.2)
      have HO9 := (show Hid (w9.ownsRow N 4 1 (.slice A2 k c2) k ((List.range k).map fun j => Value.bool (cfR gs now L j))) from HW9.out.o)
      clear he hne lgl hEB hw9 hb9 HX9 hen HW HRt
      go_wp2_with (first | rw [HE9.out] | (at_builtin; refine U.wpList_app1 rfl _ _ 65 rfl (.bool false) 1 Tryz.underlying65 Tryz.info4 rfl N k _ _ rfl rfl HO9.out rfl (by omega) (by decide) HN9.out ?_; intro g9 cap9 w10 ho9 hg9 hat9 hl9; obtain ⟨hyy, hvv⟩ := HW9.out.push (by rw [← HEn.out]; exact ho9) hg9; have HV9 := (show Hid (BoS w (w10.setCell ⟨kb, 1, none⟩ (.slice (some ⟨g9, 0, none⟩) (k + 1) cap9)) kb (.slice (some ⟨gp, op, none⟩) L.length cp) (cfR gs now L) (some ⟨gl, ol, none⟩) l N (k + 1) (.slice (some ⟨g9, 0, none⟩) (k + 1) cap9)) from hvv); have v1 := hyy.c1; have v2 := hyy.fz 1; clear ho9 hg9 hat9 hl9 HW9 HO9 HN9 HE9 x1 x2 r0 r1 r2 r3 hyy hvv))
      go_roundw
      case rel => exact ⟨k + 1, some ⟨g9, 0, none⟩, cap9, by omega, by go_num, HV9⟩
      case measure => simp [intOf]; omega
    · obtain rfl : k = L.length := by omega
      have HF := (show Hid (Below w.heap.size w ((wr.setCell ⟨w.heap.size + 1, 0, none⟩ (.slice (some ⟨gp, op, none⟩) L.length cp)).setCell ⟨w.heap.size + 1, 1, none⟩ (.slice A2 L.length c2)) ∧ BdX ((wr.setCell ⟨w.heap.size + 1, 0, none⟩ (.slice (some ⟨gp, op, none⟩) L.length cp)).setCell ⟨w.heap.size + 1, 1, none⟩ (.slice A2 L.length c2)) (w.heap.size + 1) (.slice (some ⟨gp, op, none⟩) L.length cp) (.slice A2 L.length c2) ∧ ((wr.setCell ⟨w.heap.size + 1, 0, none⟩ (.slice (some ⟨gp, op, none⟩) L.length cp)).setCell ⟨w.heap.size + 1, 1, none⟩ (.slice A2 L.length c2)).ownsRow w.heap.size 4 1 (.slice A2 L.length c2) L.length ((List.range L.length).map fun j => Value.bool (cfR gs now L j))) from by
        have hn := HW.out.n
        refine ⟨(HW.out.b.setCell (p := ⟨w.heap.size + 1, 0, none⟩) (Nat.le_succ _) _).setCell (p := ⟨w.heap.size + 1, 1, none⟩) (Nat.le_succ _) _, HW.out.z.set01 _ _, own_same (U.own_base HW.out.o (by omega)) (fun q hq => ?_)⟩
        have hq2 := (HW.out.o.lt q hq).1
        exact (heap_setCell_other _ ⟨w.heap.size + 1, 1, none⟩ q _ (show q ≠ w.heap.size + 1 by omega)).trans (heap_setCell_other _ ⟨w.heap.size + 1, 0, none⟩ q _ (show q ≠ w.heap.size + 1 by omega)))
      have u0 := HW.out.y.c0
      have u1 := HW.out.y.c1
      have t0 := HW.out.z.c0
      have t1 := HW.out.z.c1
      have tf := HW.out.z.fz
      clear HW HRt HLn
      go_wp2_with fail
      exact ret_bd rfl rfl rfl HF.out.2.1 ⟨⟨_, rfl, HF.out.2.2⟩, HF.out.1⟩
end Go.Proofs.YtbnihflihelimaaGreat.N

namespace Go.Proofs.YtbnihflihelimaaGreat.N
open Go.RowKit Go.Maps
open Go.Proofs.YtbnihflihelimaaGreat.T

open U (below_grown)
/-- A body: its nodes, its marks, and what the marks say. -/
abbrev Bo : Type := Value × Value × List Value
def boV (p : Bo) : List Value := [p.1, p.2.1]
def boc (l : List Bo) : List Value := l.flatMap boV
theorem boV_len (p : Bo) : (boV p).length = 2 := rfl
theorem boc_app (a b : List Bo) : boc (a ++ b) = boc a ++ boc b := List.flatMap_append
theorem boc_one (p : Bo) : boc [p] = boV p := by unfold boc; rw [List.flatMap_cons, List.flatMap_nil, List.append_nil]
theorem boc_get (l : List Bo) : ∀ (j : Nat) (p : Bo), l[j]? = some p → ∀ i, i < 2 → (boc l)[j * 2 + i]? = (boV p)[i]? := by
  induction l with
  | nil => intro j p h; cases h
  | cons a l ih =>
    intro j p h i hi
    have e : boc (a :: l) = boV a ++ boc l := rfl
    rw [e]
    cases j with
    | zero =>
      cases h
      rw [Nat.zero_mul, Nat.zero_add, List.getElem?_append_left (by rw [boV_len]; exact hi)]
    | succ j =>
      have h2 : l[j]? = some p := by simpa using h
      rw [List.getElem?_append_right (by rw [boV_len]; omega), boV_len, show (j + 1) * 2 + i - 2 = j * 2 + i from by omega]
      exact ih j p h2 i hi
/-- Bodies, in memory of their own. -/
structure OB (W : World) (B : Nat) (v : Value) (ov : List Bo) : Prop where
  o : W.ownsRow B 67 2 v ov.length (boc ov)
  e : ∀ x ∈ ov, W.ownsRow B 4 1 x.2.1 x.2.2.length x.2.2
theorem OB.nil (W : World) (B : Nat) : OB W B (.slice none 0 0) [] := ⟨World.ownsRow_nil _ _ _ _, fun x hx => by cases hx⟩
theorem OB.later {W W' : World} {B : Nat} {v : Value} {ov : List Bo} (h : OB W B v ov) (hb : Below W.heap.size W W') : OB W' B v ov :=
  ⟨T.own_below h.o hb, fun x hx => T.own_below (h.e x hx) hb⟩
theorem OB.same {W W' : World} {B : Nat} {v : Value} {ov : List Bo} (h : OB W B v ov) (hk : ∀ k, (v.ownBlock = some k ∨ ∃ x ∈ ov, x.2.1.ownBlock = some k) → W'.heap[k]? = W.heap[k]?) : OB W' B v ov :=
  ⟨own_same h.o fun k q => hk k (.inl q), fun x hx => own_same (h.e x hx) fun k q => hk k (.inr ⟨x, hx, q⟩)⟩
theorem OB.base {W : World} {B C : Nat} {v : Value} {ov : List Bo} (h : OB W B v ov) (hc : C ≤ B) : OB W C v ov := ⟨T.own_base h.o hc, fun x hx => T.own_base (h.e x hx) hc⟩
/-- One more behind the others. -/
theorem OB.push {W w5 : World} {B : Nat} {v u : Value} {ov : List Bo} {x : Bo} (h : OB W B v ov) (hl : W.ownsRow B 4 1 x.2.1 x.2.2.length x.2.2) (hg : W.grownBy w5 v.ownBlock) (ho : w5.ownsRow B 67 2 u (ov.length + 1) (boc ov ++ boV x)) : OB w5 B u (ov ++ [x]) := by
  have key : ∀ (y : Value) (n : Nat) (zs : List Value), W.ownsRow B 4 1 y n zs → w5.ownsRow B 4 1 y n zs := fun y n zs hy =>
    own_same hy fun k hk => hg.block k (World.ownsRow.lt hy k hk).2 (fun q => own_apart h.o hy (by decide) q.symm hk)
  refine ⟨?_, fun y hy => ?_⟩
  · rw [List.length_append, boc_app, boc_one]
    exact ho
  · rcases List.mem_append.1 hy with q | q
    · exact key _ _ _ (h.e y q)
    · rw [List.mem_singleton.1 q]
      exact key _ _ _ hl
/-- Another row of another type grows, or is written. -/
theorem OB.apart {W w5 : World} {B e s n : Nat} {v y : Value} {ov : List Bo} {xs : List Value} (h : OB W B v ov) (hy : W.ownsRow B e s y n xs) (h4 : e ≠ 4) (h6 : e ≠ 67) (hs : ∀ k, k < W.heap.size → y.ownBlock ≠ some k → w5.heap[k]? = W.heap[k]?) : OB w5 B v ov :=
  h.same fun k hk => by
    rcases hk with q | ⟨x, hx, q⟩
    · exact hs k (h.o.lt k q).2 (fun e2 => own_apart h.o hy (fun e3 => h6 e3.symm) q e2)
    · exact hs k ((h.e x hx).lt k q).2 (fun e2 => own_apart (h.e x hx) hy (fun e3 => h4 e3.symm) q e2)
theorem OB.cell {W : World} {B g cap n : Nat} {ov : List Bo} (h : OB W B (.slice (some ⟨g, 0, none⟩) n cap) ov) {k : Nat} {x : Bo} (hk : ov[k]? = some x) : W.cell? ⟨g, k * 2, none⟩ = some x.1 ∧ W.cell? ⟨g, k * 2 + 1, none⟩ = some x.2.1 := by
  have hc := h.o.cells (g := g) rfl
  have q0 := hc (k * 2 + 0) _ (by rw [boc_get ov k x hk 0 (by omega)]; rfl)
  have q1 := hc (k * 2 + 1) _ (by rw [boc_get ov k x hk 1 (by omega)]; rfl)
  rw [Addr.add_lit, Nat.zero_add] at q0 q1
  exact ⟨q0, q1⟩
theorem own_sl {W : World} {B e s n : Nat} {v : Value} {xs : List Value} (h : W.ownsRow B e s v n xs) : ∃ A cap, v = .slice A n cap := by
  rcases h.2 with ⟨rfl, rfl⟩ | ⟨g, cap, cur, rfl, _⟩
  · exact ⟨_, _, rfl⟩
  · exact ⟨_, _, rfl⟩
/-- What the marks of a right body say. -/
def mkV (gs : GL) (now : List Em) (L : List Nd) : List Value := (List.range L.length).map fun j => Value.bool (cfR gs now L j)
theorem mkV_len (gs : GL) (now : List Em) (L : List Nd) : (mkV gs now L).length = L.length := by unfold mkV; rw [List.length_map, List.length_range]
end Go.Proofs.YtbnihflihelimaaGreat.N
