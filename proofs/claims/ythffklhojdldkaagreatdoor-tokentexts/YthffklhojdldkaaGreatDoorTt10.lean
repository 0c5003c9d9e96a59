/- DERIVED. Plain mathematics and walks, laid together (10). -/
import Derived.Test.YthffklhojdldkaaGreatDoorTt09
namespace Go.Proofs.YthffklhojdldkaaGreatDoor
open Go.RowKit
def pctP (s : ByteArray) (b : Nat) : Sum Tk (Nat × Int) :=
  if pfx s b [37, 117, 123] = true then ptsP s b else if ¬ (sgAt s b).1 = 0 then sigP s b
  else if b + 1 < s.size ∧ (cls (chr s (b + 1)).toNat).2 = 0 then .inl ⟨28, 0, b, (b + 2 : Nat), s.extract (b + 1) (b + 2), wd (cls (chr s (b + 1)).toNat).1 0, wd (cls (chr s (b + 1)).toNat).1 1, wd (cls (chr s (b + 1)).toNat).1 2, wd (cls (chr s (b + 1)).toNat).1 3⟩ else .inr (b, 10)
structure AtP (w W : World) (c : Nat) (y : BitVec 256) : Prop where
  x : BX w W tk0 0 0
  h : Holds W c y
theorem AtP.below {w W W' : World} {c : Nat} {x : BitVec 256} (h : AtP w W c x) (hb : Below W.heap.size W W') : AtP w W' c x := ⟨h.x.below hb, h.h.below hb h.h.lt⟩
theorem fld67 (k : Int) (tx : ByteArray) (W : World) : (Instr.field 96 (.agg #[.int .i64 k, .string tx]) 0).run Tryz.prog W = .ok (.int .i64 k) W := by simp [Instr.field, run_underlying Tryz.underlying96, asAgg, go_sem]
theorem AtP.drew {w W : World} {c : Nat} {x : BitVec 256} (h : AtP w W c x) : AtP w W.drew c x := h.below (Below.refl _ _).drew
set_option maxRecDepth 100000 in
set_option maxHeartbeats 8000000 in
theorem pc_points (s : ByteArray) (b : Nat) (hs : s.size ≤ 140737488355000) (hb : b ≤ s.size) (h : pfx s b [37, 117, 123] = true) (w : World) (hg : SG w) : Calls Tryz.prog 52 #[.string s, .int .i64 b] w fun e w' => e = .returned (tokP (pctP s b)) ∧ Below w.heap.size w w' := by
  have HS : Hid (∀ w, Calls Tryz.prog 24 #[.string s, .int .i64 b, .string ⟨#[37, 117, 123]⟩] w fun e w' => e = .returned (.bool (pfx s b [37, 117, 123])) ∧ w' = w) := fun w => stands_any s b ⟨#[37, 117, 123]⟩ hb w
  have HX := (show Hid (BX w ((w.alloc (tkO tk0)).alloc (fxO 0 0)) tk0 0 0) from BX.new w)
  have HG := (show Hid (SG ((w.alloc (tkO tk0)).alloc (fxO 0 0))) from (hg.later (below_box _ _)).later (below_box _ _))
  have HSA : Hid (∀ w, SG w → Calls Tryz.prog 85 #[.string s, .int .i64 b] w fun e w' => e = .returned (.agg #[.int .i64 (sgAt s b).1, .string ⟨(sgAt s b).2.toArray⟩]) ∧ Below w.heap.size w w') := fun w h => signAt_any s b hb w h
  clear hg
  have HN : Hid (∀ w, Calls Tryz.prog 84 #[.string s, .int .i64 b] w fun e w' => e = .returned (tokP (ptsP s b)) ∧ Below w.heap.size w w') := fun w => readRunes_any s b hs (pfx_len hb h) w
  have HE : Hid (pctP s b = ptsP s b) := by show pctP s b = _; unfold pctP; rw [if_pos h]
  rw [h] at HS
  clear HSA HG h
  go_enter Tryz.func52, Tryz.ntmps52
  go_wp2_with fail
  refine (HS.out _).mono ?_
  rintro e w1 ⟨rfl, rfl⟩
  clear HS
  go_wp2_with fail
  refine (HN.out _).mono ?_
  rintro e w3 ⟨rfl, b3⟩
  have HX3 := (show Hid (BX w w3 tk0 0 0) from HX.out.below b3)
  clear b3 HX HN
  obtain ⟨f0, f1', f2', f3, f4, f5, f6, f7, f8, g0, g1⟩ := HX3.out.fz
  obtain ⟨c0, c1, c2, c3, c4, c5, c6, c7, c8, d0, d1⟩ := HX3.out.cells
  generalize ptsP s b = r at *
  cases r with
  | inl t =>
    unfold tokP
    go_wp2_with fail
    have HP := HX3.out.put t 0 0
    exact ret_bx rfl rfl rfl rfl HP ⟨by rw [HE.out]; rfl, HP.b⟩
  | inr q =>
    unfold tokP
    go_wp2_with fail
    have HP := HX3.out.put tk0 q.1 q.2
    exact ret_bx rfl rfl rfl rfl HP ⟨by rw [HE.out]; rfl, HP.b⟩
set_option maxRecDepth 100000 in
set_option maxHeartbeats 8000000 in
theorem pc_sign (s : ByteArray) (b : Nat) (hs : s.size ≤ 140737488355000) (hb : b ≤ s.size) (h : pfx s b [37, 117, 123] = false) (h2 : ¬ (sgAt s b).1 = 0) (w : World) (hg : SG w) : Calls Tryz.prog 52 #[.string s, .int .i64 b] w fun e w' => e = .returned (tokP (pctP s b)) ∧ Below w.heap.size w w' := by
  have HS : Hid (∀ w, Calls Tryz.prog 24 #[.string s, .int .i64 b, .string ⟨#[37, 117, 123]⟩] w fun e w' => e = .returned (.bool (pfx s b [37, 117, 123])) ∧ w' = w) := fun w => stands_any s b ⟨#[37, 117, 123]⟩ hb w
  have HX := (show Hid (BX w ((w.alloc (tkO tk0)).alloc (fxO 0 0)) tk0 0 0) from BX.new w)
  have HG := (show Hid (SG ((w.alloc (tkO tk0)).alloc (fxO 0 0))) from (hg.later (below_box _ _)).later (below_box _ _))
  have HSA : Hid (∀ w, SG w → Calls Tryz.prog 85 #[.string s, .int .i64 b] w fun e w' => e = .returned (.agg #[.int .i64 (sgAt s b).1, .string ⟨(sgAt s b).2.toArray⟩]) ∧ Below w.heap.size w w') := fun w h => signAt_any s b hb w h
  clear hg
  have HN : Hid (∀ w, SG w → Calls Tryz.prog 53 #[.string s, .int .i64 b] w fun e w' => e = .returned (tokP (sigP s b)) ∧ Below w.heap.size w w') := fun w g => readSign_any s b hs hb w g
  have HE : Hid (pctP s b = sigP s b) := by show pctP s b = _; unfold pctP; rw [if_neg (by rw [h]; decide), if_pos h2]
  have v1 : ((sgAt s b).1 != 0) = true := by rw [bne, beq_eq_false_iff_ne.2 h2]; rfl
  rw [h] at HS
  clear h h2
  generalize (sgAt s b).1 = k at *
  generalize ByteArray.mk (sgAt s b).2.toArray = tx at *
  have hfld := fld67 k tx
  go_enter Tryz.func52, Tryz.ntmps52
  go_wp2_with fail
  refine (HS.out _).mono ?_
  rintro e w1 ⟨rfl, rfl⟩
  clear HS
  go_wp2_with fail
  refine (HSA.out _ HG.out).mono ?_
  rintro e w2 ⟨rfl, b2⟩
  have HX2 := (show Hid (BX w w2 tk0 0 0) from HX.out.below b2)
  have HG2 := (show Hid (SG w2) from HG.out.later b2)
  clear b2 HX HG HSA
  go_wp2_with fail
  refine (HN.out _ HG2.out).mono ?_
  rintro e w3 ⟨rfl, b3⟩
  have HX3 := (show Hid (BX w w3 tk0 0 0) from HX2.out.below b3)
  clear b3 HX2 HN HG2
  obtain ⟨f0, f1', f2', f3, f4, f5, f6, f7, f8, g0, g1⟩ := HX3.out.fz
  obtain ⟨c0, c1, c2, c3, c4, c5, c6, c7, c8, d0, d1⟩ := HX3.out.cells
  generalize sigP s b = r at *
  cases r with
  | inl t =>
    unfold tokP
    go_wp2_with fail
    have HP := HX3.out.put t 0 0
    exact ret_bx rfl rfl rfl rfl HP ⟨by rw [HE.out]; rfl, HP.b⟩
  | inr q =>
    unfold tokP
    go_wp2_with fail
    have HP := HX3.out.put tk0 q.1 q.2
    exact ret_bx rfl rfl rfl rfl HP ⟨by rw [HE.out]; rfl, HP.b⟩
set_option maxRecDepth 100000 in
set_option maxHeartbeats 8000000 in
theorem pc_end (s : ByteArray) (b : Nat) (hs : s.size ≤ 140737488355000) (hb : b ≤ s.size) (h : pfx s b [37, 117, 123] = false) (h2 : (sgAt s b).1 = 0) (h3 : ¬ b + 1 < s.size) (w : World) (hg : SG w) : Calls Tryz.prog 52 #[.string s, .int .i64 b] w fun e w' => e = .returned (tokP (pctP s b)) ∧ Below w.heap.size w w' := by
  have HS : Hid (∀ w, Calls Tryz.prog 24 #[.string s, .int .i64 b, .string ⟨#[37, 117, 123]⟩] w fun e w' => e = .returned (.bool (pfx s b [37, 117, 123])) ∧ w' = w) := fun w => stands_any s b ⟨#[37, 117, 123]⟩ hb w
  have HX := (show Hid (BX w ((w.alloc (tkO tk0)).alloc (fxO 0 0)) tk0 0 0) from BX.new w)
  have HG := (show Hid (SG ((w.alloc (tkO tk0)).alloc (fxO 0 0))) from (hg.later (below_box _ _)).later (below_box _ _))
  have HSA : Hid (∀ w, SG w → Calls Tryz.prog 85 #[.string s, .int .i64 b] w fun e w' => e = .returned (.agg #[.int .i64 (sgAt s b).1, .string ⟨(sgAt s b).2.toArray⟩]) ∧ Below w.heap.size w w') := fun w h => signAt_any s b hb w h
  clear hg
  have HF : Hid (∀ i e w, Calls Tryz.prog 79 #[.int .i64 i, .int .i64 e] w fun e' w' => e' = .returned (pairV tk0 i e) ∧ Below w.heap.size w w') := fun i e w => fault_any i e w
  have HE : Hid (pctP s b = .inr (b, 10)) := by show pctP s b = _; unfold pctP; rw [if_neg (by rw [h]; decide), if_neg (fun q => q h2), if_neg (fun q => h3 q.1)]
  have z1 : ¬ (b : Int) + 1 < (s.size : Int) := by omega
  have v1 : ((sgAt s b).1 != 0) = false := by rw [h2]; rfl
  rw [h] at HS
  clear h h2
  generalize (sgAt s b).1 = k at *
  generalize ByteArray.mk (sgAt s b).2.toArray = tx at *
  have hfld := fld67 k tx
  go_enter Tryz.func52, Tryz.ntmps52
  go_wp2_with fail
  refine (HS.out _).mono ?_
  rintro e w1 ⟨rfl, rfl⟩
  clear HS
  go_wp2_with fail
  refine (HSA.out _ HG.out).mono ?_
  rintro e w2 ⟨rfl, b2⟩
  have HX2 := (show Hid (BX w w2 tk0 0 0) from HX.out.below b2)
  have HG2 := (show Hid (SG w2) from HG.out.later b2)
  clear b2 HX HG HSA
  go_wp2_with fail
  refine (HF.out _ _ _).mono ?_
  rintro e w3 ⟨rfl, b3⟩
  have HX3 := (show Hid (BX w w3 tk0 0 0) from HX2.out.below b3)
  clear b3 HX2 HF HG2
  obtain ⟨f0, f1', f2', f3, f4, f5, f6, f7, f8, g0, g1⟩ := HX3.out.fz
  obtain ⟨c0, c1, c2, c3, c4, c5, c6, c7, c8, d0, d1⟩ := HX3.out.cells
  unfold pairV
  go_wp2_with fail
  have HP := HX3.out.put tk0 b 10
  exact ret_bx rfl rfl rfl rfl HP ⟨by rw [HE.out]; rfl, HP.b⟩
set_option maxRecDepth 100000 in
set_option maxHeartbeats 8000000 in
theorem pc_none (s : ByteArray) (b : Nat) (hs : s.size ≤ 140737488355000) (hb : b ≤ s.size) (h : pfx s b [37, 117, 123] = false) (h2 : (sgAt s b).1 = 0) (h3 : b + 1 < s.size) (h4 : ¬ (cls (chr s (b + 1)).toNat).2 = 0) (w : World) (hg : SG w) : Calls Tryz.prog 52 #[.string s, .int .i64 b] w fun e w' => e = .returned (tokP (pctP s b)) ∧ Below w.heap.size w w' := by
  have HS : Hid (∀ w, Calls Tryz.prog 24 #[.string s, .int .i64 b, .string ⟨#[37, 117, 123]⟩] w fun e w' => e = .returned (.bool (pfx s b [37, 117, 123])) ∧ w' = w) := fun w => stands_any s b ⟨#[37, 117, 123]⟩ hb w
  have HX := (show Hid (BX w ((w.alloc (tkO tk0)).alloc (fxO 0 0)) tk0 0 0) from BX.new w)
  have HG := (show Hid (SG ((w.alloc (tkO tk0)).alloc (fxO 0 0))) from (hg.later (below_box _ _)).later (below_box _ _))
  have HSA : Hid (∀ w, SG w → Calls Tryz.prog 85 #[.string s, .int .i64 b] w fun e w' => e = .returned (.agg #[.int .i64 (sgAt s b).1, .string ⟨(sgAt s b).2.toArray⟩]) ∧ Below w.heap.size w w') := fun w h => signAt_any s b hb w h
  clear hg
  have HF : Hid (∀ i e w, Calls Tryz.prog 79 #[.int .i64 i, .int .i64 e] w fun e' w' => e' = .returned (pairV tk0 i e) ∧ Below w.heap.size w w') := fun i e w => fault_any i e w
  have HE : Hid (pctP s b = .inr (b, 10)) := by show pctP s b = _; unfold pctP; rw [if_neg (by rw [h]; decide), if_neg (fun q => q h2), if_neg (fun q => h4 q.2)]
  have hc := chr_in h3
  obtain ⟨c, hcc⟩ : ∃ c : Nat, c = (chr s (b + 1)).toNat := ⟨_, rfl⟩
  have hcn : (s[b + 1].toNat : Int) = c := by rw [hcc, hc]; omega
  have hclt : c < 256 := by have := chr_le s (b + 1); omega
  have HC : Hid (∀ w, Calls Tryz.prog 56 #[.int .u8 (s[b + 1].toNat : Int)] w fun e w' => e = .returned (.tuple #[sv (cls c).1, .int .i64 (cls c).2]) ∧ Below w.heap.size w w') := fun w => by rw [hcn]; exact class_any c hclt w
  obtain ⟨j1, hj1⟩ : ∃ j, j = b + 1 := ⟨_, rfl⟩
  obtain ⟨j2, hj2⟩ : ∃ j, j = b + 2 := ⟨_, rfl⟩
  have u1 : IntKind.i64.wrap ((b : Int) + 1) = (j1 : Int) := by rw [hj1, IntKind.wrap_i64]; omega
  have u2 : IntKind.i64.wrap ((b : Int) + 2) = (j2 : Int) := by rw [hj2, IntKind.wrap_i64]; omega
  have y0 : (0 : Int) ≤ (j1 : Int) := by omega
  have y1 : (j1 : Int) ≤ (j2 : Int) := by omega
  have y2 : (j2 : Int) ≤ (s.size : Int) := by omega
  have y3 : (j1 : Int) < (s.size : Int) := by omega
  have h3' : j1 < s.size := by omega
  have HC2 := (show Hid (∀ w, Calls Tryz.prog 56 #[.int .u8 (s[j1].toNat : Int)] w fun e w' => e = .returned (.tuple #[sv (cls c).1, .int .i64 (cls c).2]) ∧ Below w.heap.size w w') from by subst hj1; exact HC)
  clear HC hcn hc hclt
  rw [← hcc] at h4
  have v4 : ((cls c).2 == 0) = false := beq_eq_false_iff_ne.2 h4
  clear hcc h4 hj1 hj2
  generalize (cls c).2 = q at *
  generalize (cls c).1 = x at *
  have v1 : ((sgAt s b).1 != 0) = false := by rw [h2]; rfl
  rw [h] at HS
  clear h h2
  generalize (sgAt s b).1 = k at *
  generalize ByteArray.mk (sgAt s b).2.toArray = tx at *
  have hfld := fld67 k tx
  go_enter Tryz.func52, Tryz.ntmps52
  go_wp2_with fail
  refine (HS.out _).mono ?_
  rintro e w1 ⟨rfl, rfl⟩
  clear HS
  go_wp2_with fail
  refine (HSA.out _ HG.out).mono ?_
  rintro e w2 ⟨rfl, b2⟩
  have HX2 := (show Hid (BX w w2 tk0 0 0) from HX.out.below b2)
  have HG2 := (show Hid (SG w2) from HG.out.later b2)
  clear b2 HX HG HSA
  go_wp2_with fail
  refine (HC2.out _).mono ?_
  rintro e w3 ⟨rfl, b3⟩
  have HX3 := (show Hid (BX w (w3.alloc (svO x)) tk0 0 0) from (HX2.out.below b3).below (below_box _ _))
  clear b3 HX2 HC2 HG2
  go_wp2_with fail
  refine (HF.out _ _ _).mono ?_
  rintro e w4 ⟨rfl, b4⟩
  have HX4 := (show Hid (BX w w4 tk0 0 0) from HX3.out.below b4)
  clear b4 HX3 HF
  obtain ⟨f0, f1', f2', f3, f4, f5, f6, f7, f8, g0, g1⟩ := HX4.out.fz
  obtain ⟨c0, c1, c2, c3, c4, c5, c6, c7, c8, d0, d1⟩ := HX4.out.cells
  unfold pairV
  go_wp2_with fail
  have HP := HX4.out.put tk0 b 10
  exact ret_bx rfl rfl rfl rfl HP ⟨by rw [HE.out]; rfl, HP.b⟩
set_option maxRecDepth 100000 in
set_option maxHeartbeats 8000000 in
theorem pc_class (s : ByteArray) (b : Nat) (hs : s.size ≤ 140737488355000) (hb : b ≤ s.size) (h : pfx s b [37, 117, 123] = false) (h2 : (sgAt s b).1 = 0) (h3 : b + 1 < s.size) (h4 : (cls (chr s (b + 1)).toNat).2 = 0) (w : World) (hg : SG w) : Calls Tryz.prog 52 #[.string s, .int .i64 b] w fun e w' => e = .returned (tokP (pctP s b)) ∧ Below w.heap.size w w' := by
  have HS : Hid (∀ w, Calls Tryz.prog 24 #[.string s, .int .i64 b, .string ⟨#[37, 117, 123]⟩] w fun e w' => e = .returned (.bool (pfx s b [37, 117, 123])) ∧ w' = w) := fun w => stands_any s b ⟨#[37, 117, 123]⟩ hb w
  have HX := (show Hid (BX w ((w.alloc (tkO tk0)).alloc (fxO 0 0)) tk0 0 0) from BX.new w)
  have HG := (show Hid (SG ((w.alloc (tkO tk0)).alloc (fxO 0 0))) from (hg.later (below_box _ _)).later (below_box _ _))
  have HSA : Hid (∀ w, SG w → Calls Tryz.prog 85 #[.string s, .int .i64 b] w fun e w' => e = .returned (.agg #[.int .i64 (sgAt s b).1, .string ⟨(sgAt s b).2.toArray⟩]) ∧ Below w.heap.size w w') := fun w h => signAt_any s b hb w h
  clear hg
  have HE : Hid (pctP s b = .inl ⟨28, 0, b, (b + 2 : Nat), s.extract (b + 1) (b + 2), wd (cls (chr s (b + 1)).toNat).1 0, wd (cls (chr s (b + 1)).toNat).1 1, wd (cls (chr s (b + 1)).toNat).1 2, wd (cls (chr s (b + 1)).toNat).1 3⟩) := by show pctP s b = _; unfold pctP; rw [if_neg (by rw [h]; decide), if_neg (fun q => q h2), if_pos ⟨h3, h4⟩]
  have hc := chr_in h3
  obtain ⟨c, hcc⟩ : ∃ c : Nat, c = (chr s (b + 1)).toNat := ⟨_, rfl⟩
  have hcn : (s[b + 1].toNat : Int) = c := by rw [hcc, hc]; omega
  have hclt : c < 256 := by have := chr_le s (b + 1); omega
  have HC : Hid (∀ w, Calls Tryz.prog 56 #[.int .u8 (s[b + 1].toNat : Int)] w fun e w' => e = .returned (.tuple #[sv (cls c).1, .int .i64 (cls c).2]) ∧ Below w.heap.size w w') := fun w => by rw [hcn]; exact class_any c hclt w
  obtain ⟨j1, hj1⟩ : ∃ j, j = b + 1 := ⟨_, rfl⟩
  obtain ⟨j2, hj2⟩ : ∃ j, j = b + 2 := ⟨_, rfl⟩
  have u1 : IntKind.i64.wrap ((b : Int) + 1) = (j1 : Int) := by rw [hj1, IntKind.wrap_i64]; omega
  have u2 : IntKind.i64.wrap ((b : Int) + 2) = (j2 : Int) := by rw [hj2, IntKind.wrap_i64]; omega
  have y0 : (0 : Int) ≤ (j1 : Int) := by omega
  have y1 : (j1 : Int) ≤ (j2 : Int) := by omega
  have y2 : (j2 : Int) ≤ (s.size : Int) := by omega
  have y3 : (j1 : Int) < (s.size : Int) := by omega
  have h3' : j1 < s.size := by omega
  have HC2 := (show Hid (∀ w, Calls Tryz.prog 56 #[.int .u8 (s[j1].toNat : Int)] w fun e w' => e = .returned (.tuple #[sv (cls c).1, .int .i64 (cls c).2]) ∧ Below w.heap.size w w') from by subst hj1; exact HC)
  clear HC hcn hc hclt
  rw [← hcc] at h4 HE
  rw [h4] at HC2
  rw [← hj1, ← hj2] at HE
  clear hcc h4 hj1 hj2
  generalize (cls c).1 = x at *
  have v1 : ((sgAt s b).1 != 0) = false := by rw [h2]; rfl
  rw [h] at HS
  clear h h2
  generalize (sgAt s b).1 = k at *
  generalize ByteArray.mk (sgAt s b).2.toArray = tx at *
  have HCo : Hid (∀ w, Calls Tryz.prog 80 #[.string (s.extract j1 j2)] w fun e w' => e = .returned (.string (s.extract j1 j2)) ∧ Below w.heap.size w w') := fun w => copied_any _ w
  have hfld := fld67 k tx
  go_enter Tryz.func52, Tryz.ntmps52
  go_wp2_with fail
  refine (HS.out _).mono ?_
  rintro e w1 ⟨rfl, rfl⟩
  clear HS
  go_wp2_with fail
  refine (HSA.out _ HG.out).mono ?_
  rintro e w2 ⟨rfl, b2⟩
  have HX2 := (show Hid (BX w w2 tk0 0 0) from HX.out.below b2)
  have HG2 := (show Hid (SG w2) from HG.out.later b2)
  clear b2 HX HG HSA
  go_wp2_with fail
  refine (HC2.out _).mono ?_
  rintro e w3 ⟨rfl, b3⟩
  have HP3 := (show Hid (AtP w (w3.alloc (svO x)) w3.heap.size x) from ⟨(HX2.out.below b3).below (below_box _ _), Holds.new w3 x⟩)
  have hsz := (HX2.out.below b3).size
  have ne1 : ¬ w3.heap.size = w.heap.size := by omega
  have ne2 : ¬ w.heap.size = w3.heap.size := by omega
  have ne3 : ¬ w3.heap.size = w.heap.size + 1 := by omega
  have ne4 : ¬ w.heap.size + 1 = w3.heap.size := by omega
  clear b3 HX2 HC2 HG2 hsz
  go_wp2_with fail
  generalize w3.alloc (svO x) = w4 at *
  obtain ⟨f0, f1', f2', f3, f4, f5, f6, f7, f8, g0, g1⟩ := HP3.out.x.fz
  obtain ⟨c0, c1, c2, c3, c4, c5, c6, c7, c8, d0, d1⟩ := HP3.out.x.cells
  obtain ⟨_, e0, e1, e2, e3, _, _, _, _⟩ := HP3.out.h
  go_region_with (go_at_call 80; refine (HCo.out _).mono ?_; rintro e w5 ⟨rfl, hb5⟩; have hA2 := (show AtP w w5 w3.heap.size x from (by first | exact HP3.out.below hb5 | exact HP3.out.drew.below hb5)); replace HP3 := (show Hid _ from hA2); clear hA2 hb5 f0 f1' f2' f3 f4 f5 f6 f7 f8 g0 g1 c0 c1 c2 c3 c4 c5 c6 c7 c8 d0 d1 e0 e1 e2 e3; obtain ⟨f0, f1', f2', f3, f4, f5, f6, f7, f8, g0, g1⟩ := HP3.out.x.fz; obtain ⟨c0, c1, c2, c3, c4, c5, c6, c7, c8, d0, d1⟩ := HP3.out.x.cells; obtain ⟨_, e0, e1, e2, e3, _, _, _, _⟩ := HP3.out.h)
  all_goals
    go_wp2_with fail
    have HP := HP3.out.x.put ⟨28, 0, b, j2, s.extract j1 j2, wd x 0, wd x 1, wd x 2, wd x 3⟩ 0 0
    exact ret_bx rfl rfl rfl rfl HP ⟨by rw [HE.out]; rfl, HP.b⟩
theorem readPercent_any (s : ByteArray) (b : Nat) (hs : s.size ≤ 140737488355000) (hb : b ≤ s.size) (w : World) (hg : SG w) : Calls Tryz.prog 52 #[.string s, .int .i64 b] w fun e w' => e = .returned (tokP (pctP s b)) ∧ Below w.heap.size w w' := by
  cases h : pfx s b [37, 117, 123] with
  | true => exact pc_points s b hs hb h w hg
  | false =>
    by_cases h2 : (sgAt s b).1 = 0
    · by_cases h3 : b + 1 < s.size
      · by_cases h4 : (cls (chr s (b + 1)).toNat).2 = 0
        · exact pc_class s b hs hb h h2 h3 h4 w hg
        · exact pc_none s b hs hb h h2 h3 h4 w hg
      · exact pc_end s b hs hb h h2 h3 w hg
    · exact pc_sign s b hs hb h h2 w hg
end Go.Proofs.YthffklhojdldkaaGreatDoor

namespace Go.Proofs.YthffklhojdldkaaGreatDoor
open Go.RowKit
def seF (k : Int) (tx : ByteArray) (s0 s1 s2 s3 : Int) : Bool := if k = 3 then true else if k = 28 then ((cls (chr tx 0).toNat).2 == 0) && (s0 == wd (cls (chr tx 0).toNat).1 0 && (s1 == wd (cls (chr tx 0).toNat).1 1 && (s2 == wd (cls (chr tx 0).toNat).1 2 && s3 == wd (cls (chr tx 0).toNat).1 3))) else if k = 5 then decide (s0 ≤ 1114111) && (s0 == s0 && (s1 == 0 && (s2 == 0 && s3 == 0))) else (s0 == 0 && (s1 == 0 && (s2 == 0 && s3 == 0)))
set_option maxRecDepth 100000 in
set_option maxHeartbeats 4000000 in
theorem stf_3 (kd nn fr en s0 s1 s2 s3 : Int) (tx : ByteArray) (h : kd = 3) (w : World) : Calls Tryz.prog 29 #[.agg #[.int .i64 kd, .int .i64 nn, .int .i64 fr, .int .i64 en, .string tx, .int .u64 s0, .int .u64 s1, .int .u64 s2, .int .u64 s3]] w fun e w' => e = .returned (.bool (true)) ∧ Below w.heap.size w w' := by
  have f3 : (kd == 3) = true := by rw [h]; rfl
  clear h
  go_enter Tryz.func29, Tryz.ntmps29
  go_wp2_with fail
  go_ret
  exact ⟨rfl, below_box _ _⟩
set_option maxRecDepth 100000 in
set_option maxHeartbeats 4000000 in
theorem stf_5 (kd nn fr en s0 s1 s2 s3 : Int) (tx : ByteArray) (h : kd = 5) (w : World) : Calls Tryz.prog 29 #[.agg #[.int .i64 kd, .int .i64 nn, .int .i64 fr, .int .i64 en, .string tx, .int .u64 s0, .int .u64 s1, .int .u64 s2, .int .u64 s3]] w fun e w' => e = .returned (.bool (decide (s0 ≤ 1114111) && (s0 == s0 && (s1 == 0 && (s2 == 0 && s3 == 0))))) ∧ Below w.heap.size w w' := by
  have f3 : (kd == 3) = false := beq_eq_false_iff_ne.2 (by omega)
  have f28 : (kd == 28) = false := beq_eq_false_iff_ne.2 (by omega)
  have f5 : (kd == 5) = true := by rw [h]; rfl
  have e1 := eq24w s0 s1 s2 s3 s0 0 0 0
  clear h
  by_cases h0 : s0 ≤ 1114111
  · rw [decide_eq_true h0]
    go_enter Tryz.func29, Tryz.ntmps29
    go_wp2_with fail
    go_ret
    exact ⟨by simp, below_box _ _⟩
  · rw [decide_eq_false h0]
    go_enter Tryz.func29, Tryz.ntmps29
    go_wp2_with fail
    go_ret
    exact ⟨rfl, below_box _ _⟩
set_option maxRecDepth 100000 in
set_option maxHeartbeats 4000000 in
theorem stf_no (kd nn fr en s0 s1 s2 s3 : Int) (tx : ByteArray) (n3 : ¬ kd = 3) (n28 : ¬ kd = 28) (n5 : ¬ kd = 5) (w : World) : Calls Tryz.prog 29 #[.agg #[.int .i64 kd, .int .i64 nn, .int .i64 fr, .int .i64 en, .string tx, .int .u64 s0, .int .u64 s1, .int .u64 s2, .int .u64 s3]] w fun e w' => e = .returned (.bool ((s0 == 0 && (s1 == 0 && (s2 == 0 && s3 == 0))))) ∧ Below w.heap.size w w' := by
  have f3 : (kd == 3) = false := beq_eq_false_iff_ne.2 n3
  have f28 : (kd == 28) = false := beq_eq_false_iff_ne.2 n28
  have f5 : (kd == 5) = false := beq_eq_false_iff_ne.2 n5
  have e1 := eq24w s0 s1 s2 s3 0 0 0 0
  clear n3 n28 n5
  go_enter Tryz.func29, Tryz.ntmps29
  go_wp2_with fail
  go_ret
  exact ⟨rfl, below_box _ _⟩
set_option maxRecDepth 100000 in
set_option maxHeartbeats 4000000 in
theorem stf_28 (kd nn fr en s0 s1 s2 s3 : Int) (tx : ByteArray) (h : kd = 28) (h1 : 0 < tx.size) (w : World) : Calls Tryz.prog 29 #[.agg #[.int .i64 kd, .int .i64 nn, .int .i64 fr, .int .i64 en, .string tx, .int .u64 s0, .int .u64 s1, .int .u64 s2, .int .u64 s3]] w fun e w' => e = .returned (.bool (((cls (chr tx 0).toNat).2 == 0) && (s0 == wd (cls (chr tx 0).toNat).1 0 && (s1 == wd (cls (chr tx 0).toNat).1 1 && (s2 == wd (cls (chr tx 0).toNat).1 2 && s3 == wd (cls (chr tx 0).toNat).1 3))))) ∧ Below w.heap.size w w' := by
  have f3 : (kd == 3) = false := beq_eq_false_iff_ne.2 (by omega)
  have f28 : (kd == 28) = true := by rw [h]; rfl
  have hcn : (chr tx 0).toNat = tx[0].toNat := by rw [chr_in h1]; rfl
  rw [hcn]
  have HC : Hid (∀ w, Calls Tryz.prog 56 #[.int .u8 (tx[0].toNat : Int)] w fun e w' => e = .returned (.tuple #[sv (cls tx[0].toNat).1, .int .i64 (cls tx[0].toNat).2]) ∧ Below w.heap.size w w') := fun w => class_any _ (tx[0].toNat_lt) w
  have z0 : (0 : Int) < (tx.size : Int) := by omega
  clear h hcn
  generalize (cls tx[0].toNat).1 = x at *
  generalize (cls tx[0].toNat).2 = q at *
  have e1 := eq24w s0 s1 s2 s3 (wd x 0) (wd x 1) (wd x 2) (wd x 3)
  have HT := (show Hid (TX (w.alloc (tkO ⟨kd, nn, fr, en, tx, s0, s1, s2, s3⟩)) w.heap.size ⟨kd, nn, fr, en, tx, s0, s1, s2, s3⟩) from TX.new w _)
  go_enter Tryz.func29, Tryz.ntmps29
  go_wp2_with fail
  refine (HC.out _).mono ?_
  rintro e w1 ⟨rfl, hb⟩
  have HT1 := (show Hid (TX w1 w.heap.size ⟨kd, nn, fr, en, tx, s0, s1, s2, s3⟩ ∧ Below w.heap.size w w1) from ⟨HT.out.below hb, (below_box w (tkO ⟨kd, nn, fr, en, tx, s0, s1, s2, s3⟩)).trans (hb.mono (by simp))⟩)
  obtain ⟨c0, c1, c2, c3, c4, c5, c6, c7, c8⟩ := HT1.out.1.cells
  dsimp only at c0 c1 c2 c3 c4 c5 c6 c7 c8
  have hlt := HT1.out.1.lt
  clear HT hb HC
  by_cases hq : q = 0
  · have v0 : (q == 0) = true := by rw [hq]; rfl
    clear hq
    go_wp2_with fail
    go_ret
    exact ⟨by rw [v0]; rfl, HT1.out.2.alloc HT1.out.2.size _⟩
  · have v0 : (q == 0) = false := beq_eq_false_iff_ne.2 hq
    clear hq
    go_wp2_with fail
    go_ret
    exact ⟨by rw [v0]; rfl, HT1.out.2.alloc HT1.out.2.size _⟩
theorem setFits_any (kd nn fr en s0 s1 s2 s3 : Int) (tx : ByteArray) (h1 : kd = 28 → 0 < tx.size) (w : World) : Calls Tryz.prog 29 #[.agg #[.int .i64 kd, .int .i64 nn, .int .i64 fr, .int .i64 en, .string tx, .int .u64 s0, .int .u64 s1, .int .u64 s2, .int .u64 s3]] w fun e w' => e = .returned (.bool (seF kd tx s0 s1 s2 s3)) ∧ Below w.heap.size w w' := by
  unfold seF
  split
  · exact stf_3 _ _ _ _ _ _ _ _ _ ‹_› w
  split
  · exact stf_28 _ _ _ _ _ _ _ _ _ ‹_› (h1 ‹_›) w
  split
  · exact stf_5 _ _ _ _ _ _ _ _ _ ‹_› w
  · exact stf_no _ _ _ _ _ _ _ _ _ ‹_› ‹_› ‹_› w
end Go.Proofs.YthffklhojdldkaaGreatDoor

namespace Go.Proofs.YthffklhojdldkaaGreatDoor
open Go.RowKit
set_option maxRecDepth 100000 in
set_option maxHeartbeats 4000000 in
theorem rg_no (kd nn fr en s0 s1 s2 s3 : Int) (tx : ByteArray) (n1 : ¬ kd = 1) (n21 : ¬ kd = 21) (n2 : ¬ kd = 2) (n3 : ¬ kd = 3) (n28 : ¬ kd = 28) (n5 : ¬ kd = 5) (n4 : ¬ kd = 4) (n13 : ¬ kd = 13) (n14 : ¬ kd = 14) (n15 : ¬ kd = 15) (n29 : ¬ kd = 29) (n30 : ¬ kd = 30) (w : World) : Calls Tryz.prog 15 #[.agg #[.int .i64 kd, .int .i64 nn, .int .i64 fr, .int .i64 en, .string tx, .int .u64 s0, .int .u64 s1, .int .u64 s2, .int .u64 s3]] w fun e w' => e = .returned (.bool (tkQ ⟨kd, nn, fr, en, tx, s0, s1, s2, s3⟩ ⟨kd, 0, fr, en, ⟨#[]⟩, 0, 0, 0, 0⟩ && (decide (1 ≤ kd) && decide (kd ≤ 30)))) ∧ Below w.heap.size w w' := by
  have f1 : (kd == 1) = false := beq_eq_false_iff_ne.2 n1
  have f21 : (kd == 21) = false := beq_eq_false_iff_ne.2 n21
  have f2 : (kd == 2) = false := beq_eq_false_iff_ne.2 n2
  have f3 : (kd == 3) = false := beq_eq_false_iff_ne.2 n3
  have f28 : (kd == 28) = false := beq_eq_false_iff_ne.2 n28
  have f5 : (kd == 5) = false := beq_eq_false_iff_ne.2 n5
  have f4 : (kd == 4) = false := beq_eq_false_iff_ne.2 n4
  have f13 : (kd == 13) = false := beq_eq_false_iff_ne.2 n13
  have f14 : (kd == 14) = false := beq_eq_false_iff_ne.2 n14
  have f15 : (kd == 15) = false := beq_eq_false_iff_ne.2 n15
  have f29 : (kd == 29) = false := beq_eq_false_iff_ne.2 n29
  have f30 : (kd == 30) = false := beq_eq_false_iff_ne.2 n30
  have e1 := eq45 kd nn fr en tx s0 s1 s2 s3 kd 0 fr en ⟨#[]⟩ 0 0 0 0
  cases hq : tkQ ⟨kd, nn, fr, en, tx, s0, s1, s2, s3⟩ ⟨kd, 0, fr, en, ⟨#[]⟩, 0, 0, 0, 0⟩
  · rw [hq] at e1
    clear hq n1 n21 n2 n3 n28 n5 n4 n13 n14 n15 n29 n30
    go_enter Tryz.func15, Tryz.ntmps15
    go_wp2_with fail
    go_ret
    exact ⟨by simp, below_box2 _ _ _⟩
  · rw [hq] at e1
    clear hq
    by_cases hin : 1 ≤ kd ∧ kd ≤ 30
    · obtain ⟨k, rfl⟩ : ∃ k : Nat, kd = k := ⟨kd.toNat, by omega⟩
      have HS : Hid (∀ w, Calls Tryz.prog 33 #[.int .i64 (k : Int)] w fun e w' => e = .returned (.string ⟨(sgn k).toArray⟩) ∧ Below w.heap.size w w') := fun w => sign_in k (by omega) (by omega) w
      have g1 : ((⟨(sgn k).toArray⟩ : ByteArray).toList == []) = false := sgn_ne k (by omega) (by omega) ⟨by omega, by omega, by omega, by omega, by omega, by omega, by omega, by omega, by omega, by omega, by omega, by omega⟩
      have g2 : ((⟨(sgn k).toArray⟩ : ByteArray).toList != []) = true := by rw [bne, g1]; rfl
      have g3 : ((⟨(sgn k).toArray⟩ : ByteArray).toList.isEmpty) = false := by
        rw [← g1]; cases (⟨(sgn k).toArray⟩ : ByteArray).toList <;> rfl
      rw [decide_eq_true hin.1, decide_eq_true hin.2]
      clear hin n1 n21 n2 n3 n28 n5 n4 n13 n14 n15 n29 n30
      generalize (ByteArray.mk (sgn k).toArray) = sx at *
      go_enter Tryz.func15, Tryz.ntmps15
      go_wp2_with fail
      refine (HS.out _).mono ?_
      rintro e w1 ⟨rfl, hb⟩
      go_wp2_with fail
      go_ret
      exact ⟨by simp, (below_box2 _ _ _).trans (hb.mono (by simp; omega))⟩
    · have HS : Hid (∀ w, Calls Tryz.prog 33 #[.int .i64 kd] w fun e w' => e = .returned (.string ⟨#[]⟩) ∧ Below w.heap.size w w') := fun w => sign_out kd (by omega) w
      have HD : Hid ((decide (1 ≤ kd) && decide (kd ≤ 30)) = false) := by
        show _ = _
        rw [Bool.and_eq_false_iff, decide_eq_false_iff_not, decide_eq_false_iff_not]; omega
      clear hin n1 n21 n2 n3 n28 n5 n4 n13 n14 n15 n29 n30
      go_enter Tryz.func15, Tryz.ntmps15
      go_wp2_with fail
      refine (HS.out _).mono ?_
      rintro e w1 ⟨rfl, hb⟩
      go_wp2_with fail
      go_ret
      exact ⟨by rw [HD.out]; rfl, (below_box2 _ _ _).trans (hb.mono (by simp; omega))⟩
set_option maxRecDepth 100000 in
set_option maxHeartbeats 4000000 in
theorem rg_5 (kd nn fr en s0 s1 s2 s3 : Int) (tx : ByteArray) (h : kd = 5) (u0 : 0 ≤ s0) (u1 : s0 < 18446744073709551616) (w : World) : Calls Tryz.prog 15 #[.agg #[.int .i64 kd, .int .i64 nn, .int .i64 fr, .int .i64 en, .string tx, .int .u64 s0, .int .u64 s1, .int .u64 s2, .int .u64 s3]] w fun e w' => e = .returned (.bool (tkQ ⟨kd, nn, fr, en, tx, s0, s1, s2, s3⟩ ⟨kd, nn, fr, en, ⟨#[]⟩, s0, 0, 0, 0⟩ && (decide (0 ≤ nn) && (decide (s0 ≤ 1114111) && decide (nn ≤ s0))))) ∧ Below w.heap.size w w' := by
  have f1 : (kd == 1) = false := beq_eq_false_iff_ne.2 (by omega)
  have f21 : (kd == 21) = false := beq_eq_false_iff_ne.2 (by omega)
  have f2 : (kd == 2) = false := beq_eq_false_iff_ne.2 (by omega)
  have f3 : (kd == 3) = false := beq_eq_false_iff_ne.2 (by omega)
  have f28 : (kd == 28) = false := beq_eq_false_iff_ne.2 (by omega)
  have f5 : (kd == 5) = true := by rw [h]; rfl
  have e1 := eq45 kd nn fr en tx s0 s1 s2 s3 kd nn fr en ⟨#[]⟩ s0 0 0 0
  clear h
  cases hq : tkQ ⟨kd, nn, fr, en, tx, s0, s1, s2, s3⟩ ⟨kd, nn, fr, en, ⟨#[]⟩, s0, 0, 0, 0⟩
  · rw [hq] at e1
    clear hq
    go_enter Tryz.func15, Tryz.ntmps15
    go_wp2_with fail
    go_region
    all_goals
      go_wp2_with fail
      go_ret
      exact ⟨by simp, ((below_box2 _ _ _).drew)⟩
  · rw [hq] at e1
    clear hq
    by_cases h0 : 0 ≤ nn
    · by_cases h1 : s0 ≤ 1114111
      · have hw : IntKind.i64.wrap s0 = s0 := by rw [IntKind.wrap_i64]; omega
        rw [decide_eq_true h0, decide_eq_true h1]
        go_enter Tryz.func15, Tryz.ntmps15
        go_wp2_with fail
        go_region
        all_goals
          go_wp2_with fail
          go_ret
          exact ⟨by simp, ((below_box2 _ _ _).drew)⟩
      · rw [decide_eq_true h0, decide_eq_false h1]
        go_enter Tryz.func15, Tryz.ntmps15
        go_wp2_with fail
        go_region
        all_goals
          go_wp2_with fail
          go_ret
          exact ⟨by simp, ((below_box2 _ _ _).drew)⟩
    · rw [decide_eq_false h0]
      go_enter Tryz.func15, Tryz.ntmps15
      go_wp2_with fail
      go_region
      all_goals
        go_wp2_with fail
        go_ret
        exact ⟨by simp, ((below_box2 _ _ _).drew)⟩
end Go.Proofs.YthffklhojdldkaaGreatDoor

namespace Go.Proofs.YthffklhojdldkaaGreatDoor
open Go.RowKit
def riF (t : Tk) : Bool := decide (1 ≤ t.kd) && decide (t.kd ≤ 30) && txF t.kd t.tx && nbF t.kd t.nn t.s0 && seF t.kd t.tx t.s0 t.s1 t.s2 t.s3
set_option maxRecDepth 100000 in
set_option maxHeartbeats 8000000 in
theorem isRight_any (kd nn fr en s0 s1 s2 s3 : Int) (tx : ByteArray) (hn : nn < 9223372036854775808) (w : World) : Calls Tryz.prog 14 #[.agg #[.int .i64 kd, .int .i64 nn, .int .i64 fr, .int .i64 en, .string tx, .int .u64 s0, .int .u64 s1, .int .u64 s2, .int .u64 s3]] w fun e w' => e = .returned (.bool (riF ⟨kd, nn, fr, en, tx, s0, s1, s2, s3⟩)) ∧ Below w.heap.size w w' := by
  have HA : Hid (∀ w, Calls Tryz.prog 27 #[.agg #[.int .i64 kd, .int .i64 nn, .int .i64 fr, .int .i64 en, .string tx, .int .u64 s0, .int .u64 s1, .int .u64 s2, .int .u64 s3]] w fun e w' => e = .returned (.bool (txF kd tx)) ∧ Below w.heap.size w w') := fun w => textFits_any _ _ _ _ _ _ _ _ _ w
  have HB : Hid (∀ w, Calls Tryz.prog 28 #[.agg #[.int .i64 kd, .int .i64 nn, .int .i64 fr, .int .i64 en, .string tx, .int .u64 s0, .int .u64 s1, .int .u64 s2, .int .u64 s3]] w fun e w' => e = .returned (.bool (nbF kd nn s0)) ∧ Below w.heap.size w w') := fun w => numberFits_any _ _ _ _ _ _ _ _ _ hn w
  have HC : Hid (txF kd tx = true → ∀ w, Calls Tryz.prog 29 #[.agg #[.int .i64 kd, .int .i64 nn, .int .i64 fr, .int .i64 en, .string tx, .int .u64 s0, .int .u64 s1, .int .u64 s2, .int .u64 s3]] w fun e w' => e = .returned (.bool (seF kd tx s0 s1 s2 s3)) ∧ Below w.heap.size w w') := fun hx w => setFits_any _ _ _ _ _ _ _ _ _ (fun h => by
    rw [h] at hx
    have h3 : ((tx.size : Int) == 1) = true := hx
    have := of_decide_eq_true h3
    omega) w
  have HE : Hid (riF ⟨kd, nn, fr, en, tx, s0, s1, s2, s3⟩ = (decide (1 ≤ kd) && decide (kd ≤ 30) && txF kd tx && nbF kd nn s0 && seF kd tx s0 s1 s2 s3)) := rfl
  have HT0 := (show Hid (TX (w.alloc (tkO ⟨kd, nn, fr, en, tx, s0, s1, s2, s3⟩)) w.heap.size ⟨kd, nn, fr, en, tx, s0, s1, s2, s3⟩ ∧ Below w.heap.size w (w.alloc (tkO ⟨kd, nn, fr, en, tx, s0, s1, s2, s3⟩))) from ⟨TX.new w _, below_box _ _⟩)
  clear hn
  generalize txF kd tx = A at *
  generalize nbF kd nn s0 = B at *
  generalize seF kd tx s0 s1 s2 s3 = C at *
  by_cases h1 : 1 ≤ kd
  · by_cases h2 : kd ≤ 30
    · rw [decide_eq_true h1, decide_eq_true h2] at HE
      go_enter Tryz.func14, Tryz.ntmps14
      go_wp2_with fail
      refine (HA.out _).mono ?_
      rintro e w1 ⟨rfl, hb⟩
      have HT1 := (show Hid (TX w1 w.heap.size ⟨kd, nn, fr, en, tx, s0, s1, s2, s3⟩ ∧ Below w.heap.size w w1) from ⟨HT0.out.1.below hb, HT0.out.2.trans (hb.mono HT0.out.2.size)⟩)
      obtain ⟨c0, c1, c2, c3, c4, c5, c6, c7, c8⟩ := HT1.out.1.cells
      dsimp only at c0 c1 c2 c3 c4 c5 c6 c7 c8
      clear hb HT0
      cases A
      · go_wp2_with fail
        go_ret
        exact ⟨by rw [HE.out]; rfl, HT1.out.2⟩
      · go_wp2_with fail
        refine (HB.out _).mono ?_
        rintro e w2 ⟨rfl, hb⟩
        clear c0 c1 c2 c3 c4 c5 c6 c7 c8
        have HT2 := (show Hid (TX w2 w.heap.size ⟨kd, nn, fr, en, tx, s0, s1, s2, s3⟩ ∧ Below w.heap.size w w2) from ⟨HT1.out.1.below hb, HT1.out.2.trans (hb.mono HT1.out.2.size)⟩)
        obtain ⟨c0, c1, c2, c3, c4, c5, c6, c7, c8⟩ := HT2.out.1.cells
        dsimp only at c0 c1 c2 c3 c4 c5 c6 c7 c8
        clear hb HT1
        cases B
        · go_wp2_with fail
          go_ret
          exact ⟨by rw [HE.out]; rfl, HT2.out.2⟩
        · go_wp2_with fail
          refine (HC.out trivial _).mono ?_
          rintro e w3 ⟨rfl, hb⟩
          clear c0 c1 c2 c3 c4 c5 c6 c7 c8
          have HB3 := (show Hid (Below w.heap.size w w3) from HT2.out.2.trans (hb.mono HT2.out.2.size))
          go_wp2_with fail
          go_ret
          exact ⟨by rw [HE.out]; rfl, HB3.out⟩
    · rw [decide_eq_false h2] at HE
      go_enter Tryz.func14, Tryz.ntmps14
      go_wp2_with fail
      go_ret
      exact ⟨by rw [HE.out]; simp, below_box _ _⟩
  · rw [decide_eq_false h1] at HE
    go_enter Tryz.func14, Tryz.ntmps14
    go_wp2_with fail
    go_ret
    exact ⟨by rw [HE.out]; simp, below_box _ _⟩
end Go.Proofs.YthffklhojdldkaaGreatDoor

namespace Go.Proofs.YthffklhojdldkaaGreatDoor
open Go.RowKit
/-- Two tokens in boxes one behind the other. -/
structure T2 (w W : World) (t u : Tk) : Prop where
  b : Below w.heap.size w W
  x : TX W w.heap.size t
  y : TX W (w.heap.size + 1) u
theorem T2.new (w : World) (t u : Tk) : T2 w ((w.alloc (tkO t)).alloc (tkO u)) t u := ⟨below_box2 _ _ _, (TX.new w t).below (below_box _ _), by have := TX.new (w.alloc (tkO t)) u; rwa [World.size_alloc] at this⟩
theorem T2.below {w W W' : World} {t u : Tk} (h : T2 w W t u) (hb : Below W.heap.size W W') : T2 w W' t u := ⟨h.b.trans (hb.mono h.b.size), h.x.below hb, h.y.below hb⟩
set_option maxRecDepth 100000 in
set_option maxHeartbeats 4000000 in
theorem rg_28 (kd nn fr en s0 s1 s2 s3 : Int) (tx : ByteArray) (h : kd = 28) (c : Int) (hc : chr tx 0 = c) (x : BitVec 256) (q : Int) (HC : Hid (∀ w, Calls Tryz.prog 31 #[.int .i64 c] w fun e w' => e = .returned (.tuple #[sv x, .int .i64 q]) ∧ Below w.heap.size w w')) (w : World) : Calls Tryz.prog 15 #[.agg #[.int .i64 kd, .int .i64 nn, .int .i64 fr, .int .i64 en, .string tx, .int .u64 s0, .int .u64 s1, .int .u64 s2, .int .u64 s3]] w fun e w' => e = .returned (.bool ((q == 0) && (((tx.size : Int) == 1) && tkQ ⟨kd, nn, fr, en, tx, s0, s1, s2, s3⟩ ⟨kd, 0, fr, en, tx, wd x 0, wd x 1, wd x 2, wd x 3⟩))) ∧ Below w.heap.size w w' := by
  have f1 : (kd == 1) = false := beq_eq_false_iff_ne.2 (by omega)
  have f21 : (kd == 21) = false := beq_eq_false_iff_ne.2 (by omega)
  have f2 : (kd == 2) = false := beq_eq_false_iff_ne.2 (by omega)
  have f3 : (kd == 3) = false := beq_eq_false_iff_ne.2 (by omega)
  have f28 : (kd == 28) = true := by rw [h]; rfl
  have HA : Hid (∀ w, Calls Tryz.prog 32 #[.string tx, .int .i64 0] w fun e w' => e = .returned (.int .i64 c) ∧ w' = w) := fun w => by rw [← hc]; exact at_any tx 0 w
  have HT := (show Hid _ from T2.new w ⟨kd, nn, fr, en, tx, s0, s1, s2, s3⟩ ⟨kd, 0, fr, en, ⟨#[]⟩, 0, 0, 0, 0⟩)
  have e1 := eq45 kd nn fr en tx s0 s1 s2 s3 kd 0 fr en tx (wd x 0) (wd x 1) (wd x 2) (wd x 3)
  clear h hc
  go_enter Tryz.func15, Tryz.ntmps15
  go_wp2_with fail
  refine (HA.out _).mono ?_
  rintro e w1 ⟨rfl, rfl⟩
  go_wp2_with fail
  refine (HC.out _).mono ?_
  rintro e w1 ⟨rfl, hb⟩
  have HT1 := (show Hid _ from HT.out.below hb)
  obtain ⟨c0, c1, c2, c3, c4, c5, c6, c7, c8⟩ := HT1.out.x.cells
  obtain ⟨d0, d1, d2, d3, d4, d5, d6, d7, d8⟩ := HT1.out.y.cells
  obtain ⟨g0, g1, g2, g3, g4, g5, g6, g7, g8⟩ := HT1.out.y.fz
  dsimp only at c0 c1 c2 c3 c4 c5 c6 c7 c8 d0 d1 d2 d3 d4 d5 d6 d7 d8
  have lt1 := HT1.out.x.lt
  have lt2 := HT1.out.y.lt
  clear HT hb HC HA
  have HB := (show Hid (Below w.heap.size w w1) from HT1.out.b)
  clear HT1
  cases hq : tkQ ⟨kd, nn, fr, en, tx, s0, s1, s2, s3⟩ ⟨kd, 0, fr, en, tx, wd x 0, wd x 1, wd x 2, wd x 3⟩
  all_goals
    rw [hq] at e1
    have HQ := (show Hid _ from hq)
    clear hq
    by_cases h0 : q = 0
  all_goals
    first
    | (have v0 : (q == 0) = true := by rw [h0]; rfl)
    | (have v0 : (q == 0) = false := beq_eq_false_iff_ne.2 h0)
    clear h0
    by_cases h1 : (tx.size : Int) = 1
  all_goals
    first
    | (have v1 : ((tx.size : Int) == 1) = true := by rw [h1]; rfl)
    | (have v1 : ((tx.size : Int) == 1) = false := beq_eq_false_iff_ne.2 h1)
    clear h1
    go_wp2_with fail
    go_region
  all_goals
    go_wp2_with fail
    go_ret
    have h := (((((HB.out.setCell (p := ⟨w.heap.size + 1, 4, none⟩) (by simp) (.string tx)).setCell (p := ⟨w.heap.size + 1, 5, none⟩) (by simp) (.int .u64 (wd x 0))).setCell (p := ⟨w.heap.size + 1, 6, none⟩) (by simp) (.int .u64 (wd x 1))).setCell (p := ⟨w.heap.size + 1, 7, none⟩) (by simp) (.int .u64 (wd x 2))).setCell (p := ⟨w.heap.size + 1, 8, none⟩) (by simp) (.int .u64 (wd x 3)))
    exact ⟨by rw [v0, v1, HQ.out]; rfl, (h.alloc h.size _).drew⟩
end Go.Proofs.YthffklhojdldkaaGreatDoor

namespace Go.Proofs.YthffklhojdldkaaGreatDoor
open Go.RowKit
theorem tkQ_of (kd nn fr en : Int) (tx : ByteArray) (s0 s1 s2 s3 n : Int) (ty : ByteArray) (r0 r1 r2 r3 : Int) : tkQ ⟨kd, nn, fr, en, tx, s0, s1, s2, s3⟩ ⟨kd, n, fr, en, ty, r0, r1, r2, r3⟩ = (nn == n && ((tx.toList == ty.toList) && (s0 == r0 && (s1 == r1 && (s2 == r2 && s3 == r3))))) := by
  unfold tkQ
  simp
theorem ret_b {a b : Bool} (h : a = b) : Ending.returned (.bool a) = .returned (.bool b) := by rw [h]
theorem rq_1 (kd nn fr en s0 s1 s2 s3 : Int) (tx : ByteArray) (h : kd = 1) (w : World) : Calls Tryz.prog 15 #[.agg #[.int .i64 kd, .int .i64 nn, .int .i64 fr, .int .i64 en, .string tx, .int .u64 s0, .int .u64 s1, .int .u64 s2, .int .u64 s3]] w fun e w' => e = .returned (.bool (riF ⟨kd, nn, fr, en, tx, s0, s1, s2, s3⟩)) ∧ Below w.heap.size w w' := by
  refine (rg_1 kd nn fr en s0 s1 s2 s3 tx h w).mono ?_
  rintro e w1 ⟨rfl, hb⟩
  refine ⟨ret_b ?_, hb⟩
  subst h
  rw [tkQ_of]
  unfold riF txF nbF seF gtK
  simp only [beq_self_eq_true, Bool.true_and]
  generalize isNm tx = a
  rw [Bool.eq_iff_iff]; cases a <;> simp <;> omega
theorem rq_21 (kd nn fr en s0 s1 s2 s3 : Int) (tx : ByteArray) (h : kd = 21) (w : World) : Calls Tryz.prog 15 #[.agg #[.int .i64 kd, .int .i64 nn, .int .i64 fr, .int .i64 en, .string tx, .int .u64 s0, .int .u64 s1, .int .u64 s2, .int .u64 s3]] w fun e w' => e = .returned (.bool (riF ⟨kd, nn, fr, en, tx, s0, s1, s2, s3⟩)) ∧ Below w.heap.size w w' := by
  refine (rg_21 kd nn fr en s0 s1 s2 s3 tx h w).mono ?_
  rintro e w1 ⟨rfl, hb⟩
  refine ⟨ret_b ?_, hb⟩
  subst h
  rw [tkQ_of]
  unfold riF txF nbF seF gtK
  simp only [beq_self_eq_true, Bool.true_and]
  generalize isNm tx = a
  generalize (tx.toList == []) = c
  rw [Bool.eq_iff_iff]; cases a <;> cases c <;> simp <;> omega
theorem rq_2 (kd nn fr en s0 s1 s2 s3 : Int) (tx : ByteArray) (h : kd = 2) (w : World) : Calls Tryz.prog 15 #[.agg #[.int .i64 kd, .int .i64 nn, .int .i64 fr, .int .i64 en, .string tx, .int .u64 s0, .int .u64 s1, .int .u64 s2, .int .u64 s3]] w fun e w' => e = .returned (.bool (riF ⟨kd, nn, fr, en, tx, s0, s1, s2, s3⟩)) ∧ Below w.heap.size w w' := by
  refine (rg_2 kd nn fr en s0 s1 s2 s3 tx h w).mono ?_
  rintro e w1 ⟨rfl, hb⟩
  refine ⟨ret_b ?_, hb⟩
  subst h
  rw [tkQ_of]
  unfold riF txF nbF seF gtK
  simp only [beq_self_eq_true, Bool.true_and]
  rw [Bool.eq_iff_iff]; simp; omega
theorem rq_3 (kd nn fr en s0 s1 s2 s3 : Int) (tx : ByteArray) (h : kd = 3) (w : World) : Calls Tryz.prog 15 #[.agg #[.int .i64 kd, .int .i64 nn, .int .i64 fr, .int .i64 en, .string tx, .int .u64 s0, .int .u64 s1, .int .u64 s2, .int .u64 s3]] w fun e w' => e = .returned (.bool (riF ⟨kd, nn, fr, en, tx, s0, s1, s2, s3⟩)) ∧ Below w.heap.size w w' := by
  refine (rg_3 kd nn fr en s0 s1 s2 s3 tx h w).mono ?_
  rintro e w1 ⟨rfl, hb⟩
  refine ⟨ret_b ?_, hb⟩
  subst h
  rw [tkQ_of]
  have em : (⟨#[]⟩ : ByteArray).toList = [] := by rw [ByteArray.toList_eq]
  rw [em]
  unfold riF txF nbF seF gtK
  generalize (tx.toList == []) = a
  rw [Bool.eq_iff_iff]; cases a <;> simp <;> omega
theorem rq_4 (kd nn fr en s0 s1 s2 s3 : Int) (tx : ByteArray) (h : kd = 4) (w : World) : Calls Tryz.prog 15 #[.agg #[.int .i64 kd, .int .i64 nn, .int .i64 fr, .int .i64 en, .string tx, .int .u64 s0, .int .u64 s1, .int .u64 s2, .int .u64 s3]] w fun e w' => e = .returned (.bool (riF ⟨kd, nn, fr, en, tx, s0, s1, s2, s3⟩)) ∧ Below w.heap.size w w' := by
  refine (rg_4 kd nn fr en s0 s1 s2 s3 tx h w).mono ?_
  rintro e w1 ⟨rfl, hb⟩
  refine ⟨ret_b ?_, hb⟩
  subst h
  rw [tkQ_of]
  have em : (⟨#[]⟩ : ByteArray).toList = [] := by rw [ByteArray.toList_eq]
  rw [em]
  unfold riF txF nbF seF gtK
  generalize (tx.toList == []) = a
  rw [Bool.eq_iff_iff]; cases a <;> simp <;> omega
theorem rq_13 (kd nn fr en s0 s1 s2 s3 : Int) (tx : ByteArray) (h : kd = 13) (w : World) : Calls Tryz.prog 15 #[.agg #[.int .i64 kd, .int .i64 nn, .int .i64 fr, .int .i64 en, .string tx, .int .u64 s0, .int .u64 s1, .int .u64 s2, .int .u64 s3]] w fun e w' => e = .returned (.bool (riF ⟨kd, nn, fr, en, tx, s0, s1, s2, s3⟩)) ∧ Below w.heap.size w w' := by
  refine (rg_13 kd nn fr en s0 s1 s2 s3 tx h w).mono ?_
  rintro e w1 ⟨rfl, hb⟩
  refine ⟨ret_b ?_, hb⟩
  subst h
  rw [tkQ_of]
  have em : (⟨#[]⟩ : ByteArray).toList = [] := by rw [ByteArray.toList_eq]
  rw [em]
  unfold riF txF nbF seF gtK
  generalize (tx.toList == []) = a
  rw [Bool.eq_iff_iff]; cases a <;> simp <;> omega
theorem rq_14 (kd nn fr en s0 s1 s2 s3 : Int) (tx : ByteArray) (h : kd = 14) (w : World) : Calls Tryz.prog 15 #[.agg #[.int .i64 kd, .int .i64 nn, .int .i64 fr, .int .i64 en, .string tx, .int .u64 s0, .int .u64 s1, .int .u64 s2, .int .u64 s3]] w fun e w' => e = .returned (.bool (riF ⟨kd, nn, fr, en, tx, s0, s1, s2, s3⟩)) ∧ Below w.heap.size w w' := by
  refine (rg_14 kd nn fr en s0 s1 s2 s3 tx h w).mono ?_
  rintro e w1 ⟨rfl, hb⟩
  refine ⟨ret_b ?_, hb⟩
  subst h
  rw [tkQ_of]
  have em : (⟨#[]⟩ : ByteArray).toList = [] := by rw [ByteArray.toList_eq]
  rw [em]
  unfold riF txF nbF seF gtK
  generalize (tx.toList == []) = a
  rw [Bool.eq_iff_iff]; cases a <;> simp <;> omega
theorem rq_15 (kd nn fr en s0 s1 s2 s3 : Int) (tx : ByteArray) (h : kd = 15) (w : World) : Calls Tryz.prog 15 #[.agg #[.int .i64 kd, .int .i64 nn, .int .i64 fr, .int .i64 en, .string tx, .int .u64 s0, .int .u64 s1, .int .u64 s2, .int .u64 s3]] w fun e w' => e = .returned (.bool (riF ⟨kd, nn, fr, en, tx, s0, s1, s2, s3⟩)) ∧ Below w.heap.size w w' := by
  refine (rg_15 kd nn fr en s0 s1 s2 s3 tx h w).mono ?_
  rintro e w1 ⟨rfl, hb⟩
  refine ⟨ret_b ?_, hb⟩
  subst h
  rw [tkQ_of]
  have em : (⟨#[]⟩ : ByteArray).toList = [] := by rw [ByteArray.toList_eq]
  rw [em]
  unfold riF txF nbF seF gtK
  generalize (tx.toList == []) = a
  rw [Bool.eq_iff_iff]; cases a <;> simp <;> omega
theorem rq_29 (kd nn fr en s0 s1 s2 s3 : Int) (tx : ByteArray) (h : kd = 29) (w : World) : Calls Tryz.prog 15 #[.agg #[.int .i64 kd, .int .i64 nn, .int .i64 fr, .int .i64 en, .string tx, .int .u64 s0, .int .u64 s1, .int .u64 s2, .int .u64 s3]] w fun e w' => e = .returned (.bool (riF ⟨kd, nn, fr, en, tx, s0, s1, s2, s3⟩)) ∧ Below w.heap.size w w' := by
  refine (rg_29 kd nn fr en s0 s1 s2 s3 tx h w).mono ?_
  rintro e w1 ⟨rfl, hb⟩
  refine ⟨ret_b ?_, hb⟩
  subst h
  rw [tkQ_of]
  have em : (⟨#[]⟩ : ByteArray).toList = [] := by rw [ByteArray.toList_eq]
  rw [em]
  unfold riF txF nbF seF gtK
  generalize (tx.toList == []) = a
  rw [Bool.eq_iff_iff]; cases a <;> simp <;> omega
theorem rq_30 (kd nn fr en s0 s1 s2 s3 : Int) (tx : ByteArray) (h : kd = 30) (w : World) : Calls Tryz.prog 15 #[.agg #[.int .i64 kd, .int .i64 nn, .int .i64 fr, .int .i64 en, .string tx, .int .u64 s0, .int .u64 s1, .int .u64 s2, .int .u64 s3]] w fun e w' => e = .returned (.bool (riF ⟨kd, nn, fr, en, tx, s0, s1, s2, s3⟩)) ∧ Below w.heap.size w w' := by
  refine (rg_30 kd nn fr en s0 s1 s2 s3 tx h w).mono ?_
  rintro e w1 ⟨rfl, hb⟩
  refine ⟨ret_b ?_, hb⟩
  subst h
  rw [tkQ_of]
  have em : (⟨#[]⟩ : ByteArray).toList = [] := by rw [ByteArray.toList_eq]
  rw [em]
  unfold riF txF nbF seF gtK
  generalize (tx.toList == []) = a
  rw [Bool.eq_iff_iff]; cases a <;> simp <;> omega
theorem rq_5 (kd nn fr en s0 s1 s2 s3 : Int) (tx : ByteArray) (h : kd = 5) (u0 : 0 ≤ s0) (u1 : s0 < 18446744073709551616) (w : World) : Calls Tryz.prog 15 #[.agg #[.int .i64 kd, .int .i64 nn, .int .i64 fr, .int .i64 en, .string tx, .int .u64 s0, .int .u64 s1, .int .u64 s2, .int .u64 s3]] w fun e w' => e = .returned (.bool (riF ⟨kd, nn, fr, en, tx, s0, s1, s2, s3⟩)) ∧ Below w.heap.size w w' := by
  refine (rg_5 kd nn fr en s0 s1 s2 s3 tx h u0 u1 w).mono ?_
  rintro e w1 ⟨rfl, hb⟩
  refine ⟨ret_b ?_, hb⟩
  subst h
  rw [tkQ_of]
  have em : (⟨#[]⟩ : ByteArray).toList = [] := by rw [ByteArray.toList_eq]
  rw [em]
  unfold riF txF nbF seF gtK
  generalize (tx.toList == []) = a
  rw [Bool.eq_iff_iff]; cases a <;> simp <;> omega
theorem rq_no (kd nn fr en s0 s1 s2 s3 : Int) (tx : ByteArray) (n1 : ¬ kd = 1) (n21 : ¬ kd = 21) (n2 : ¬ kd = 2) (n3 : ¬ kd = 3) (n28 : ¬ kd = 28) (n5 : ¬ kd = 5) (n4 : ¬ kd = 4) (n13 : ¬ kd = 13) (n14 : ¬ kd = 14) (n15 : ¬ kd = 15) (n29 : ¬ kd = 29) (n30 : ¬ kd = 30) (w : World) : Calls Tryz.prog 15 #[.agg #[.int .i64 kd, .int .i64 nn, .int .i64 fr, .int .i64 en, .string tx, .int .u64 s0, .int .u64 s1, .int .u64 s2, .int .u64 s3]] w fun e w' => e = .returned (.bool (riF ⟨kd, nn, fr, en, tx, s0, s1, s2, s3⟩)) ∧ Below w.heap.size w w' := by
  refine (rg_no kd nn fr en s0 s1 s2 s3 tx n1 n21 n2 n3 n28 n5 n4 n13 n14 n15 n29 n30 w).mono ?_
  rintro e w1 ⟨rfl, hb⟩
  refine ⟨ret_b ?_, hb⟩
  rw [tkQ_of]
  have em : (⟨#[]⟩ : ByteArray).toList = [] := by rw [ByteArray.toList_eq]
  rw [em]
  unfold riF txF nbF seF gtK
  simp only [if_neg n1, if_neg n21, if_neg n2, if_neg n28, if_neg n5, if_neg n3]
  rw [if_neg n4, if_neg (by omega)]
  generalize (tx.toList == []) = a
  rw [Bool.eq_iff_iff]; cases a <;> simp <;> omega
theorem rq_28 (kd nn fr en s0 s1 s2 s3 : Int) (tx : ByteArray) (h : kd = 28) (w : World) : Calls Tryz.prog 15 #[.agg #[.int .i64 kd, .int .i64 nn, .int .i64 fr, .int .i64 en, .string tx, .int .u64 s0, .int .u64 s1, .int .u64 s2, .int .u64 s3]] w fun e w' => e = .returned (.bool (riF ⟨kd, nn, fr, en, tx, s0, s1, s2, s3⟩)) ∧ Below w.heap.size w w' := by
  by_cases h0 : 0 < tx.size
  · have hc := chr_in h0
    refine (rg_28 kd nn fr en s0 s1 s2 s3 tx h _ hc (cls tx[0].toNat).1 (cls tx[0].toNat).2 (fun w => classR_any _ tx[0].toNat_lt w) w).mono ?_
    rintro e w1 ⟨rfl, hb⟩
    refine ⟨ret_b ?_, hb⟩
    subst h
    rw [tkQ_of]
    unfold riF txF nbF seF gtK
    have hcn : (chr tx 0).toNat = tx[0].toNat := by rw [hc]; rfl
    rw [hcn]
    simp only [beq_self_eq_true, Bool.true_and]
    generalize (cls tx[0].toNat).1 = x
    generalize (cls tx[0].toNat).2 = q
    rw [Bool.eq_iff_iff]; simp; omega
  · have hc := chr_out h0
    refine (rg_28 kd nn fr en s0 s1 s2 s3 tx h _ hc 0#256 10 (fun w => smallM_any (-1) w (by omega)) w).mono ?_
    rintro e w1 ⟨rfl, hb⟩
    refine ⟨ret_b ?_, hb⟩
    subst h
    have hs : ((tx.size : Int) == 1) = false := beq_eq_false_iff_ne.2 (by omega)
    unfold riF txF
    simp [hs]
theorem right_any (kd nn fr en s0 s1 s2 s3 : Int) (tx : ByteArray) (u0 : 0 ≤ s0) (u1 : s0 < 18446744073709551616) (w : World) : Calls Tryz.prog 15 #[.agg #[.int .i64 kd, .int .i64 nn, .int .i64 fr, .int .i64 en, .string tx, .int .u64 s0, .int .u64 s1, .int .u64 s2, .int .u64 s3]] w fun e w' => e = .returned (.bool (riF ⟨kd, nn, fr, en, tx, s0, s1, s2, s3⟩)) ∧ Below w.heap.size w w' := by
  by_cases n1 : kd = 1
  · exact rq_1 kd nn fr en s0 s1 s2 s3 tx n1 w
  by_cases n21 : kd = 21
  · exact rq_21 kd nn fr en s0 s1 s2 s3 tx n21 w
  by_cases n2 : kd = 2
  · exact rq_2 kd nn fr en s0 s1 s2 s3 tx n2 w
  by_cases n3 : kd = 3
  · exact rq_3 kd nn fr en s0 s1 s2 s3 tx n3 w
  by_cases n28 : kd = 28
  · exact rq_28 kd nn fr en s0 s1 s2 s3 tx n28 w
  by_cases n5 : kd = 5
  · exact rq_5 kd nn fr en s0 s1 s2 s3 tx n5 u0 u1 w
  by_cases n4 : kd = 4
  · exact rq_4 kd nn fr en s0 s1 s2 s3 tx n4 w
  by_cases n13 : kd = 13
  · exact rq_13 kd nn fr en s0 s1 s2 s3 tx n13 w
  by_cases n14 : kd = 14
  · exact rq_14 kd nn fr en s0 s1 s2 s3 tx n14 w
  by_cases n15 : kd = 15
  · exact rq_15 kd nn fr en s0 s1 s2 s3 tx n15 w
  by_cases n29 : kd = 29
  · exact rq_29 kd nn fr en s0 s1 s2 s3 tx n29 w
  by_cases n30 : kd = 30
  · exact rq_30 kd nn fr en s0 s1 s2 s3 tx n30 w
  exact rq_no kd nn fr en s0 s1 s2 s3 tx n1 n21 n2 n3 n28 n5 n4 n13 n14 n15 n29 n30 w
end Go.Proofs.YthffklhojdldkaaGreatDoor
