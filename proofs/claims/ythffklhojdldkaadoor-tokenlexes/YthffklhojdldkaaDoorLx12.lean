/- DERIVED. Plain mathematics and walks, laid together (12). -/
import Derived.Test.YthffklhojdldkaaDoorRows
import Derived.WalkKit
import Derived.Maps.AppendAt
import Derived.ProofKit
import Derived.Test.YthffklhojdldkaaDoorLx11
namespace Go.Proofs.YthffklhojdldkaaDoor
open Go.RowKit
abbrev svO (x : BitVec 256) : Obj := .cells #[.int .u64 (wd x 0), .int .u64 (wd x 1), .int .u64 (wd x 2), .int .u64 (wd x 3)] 34
set_option maxRecDepth 100000 in
set_option maxHeartbeats 8000000 in
theorem readCls_any (s : ByteArray) (b : Nat) (hs : s.size ≤ 140737488355000) (w : World) : Calls Tryd.prog 26 #[.string s, .int .i64 b] w fun e w' => e = .returned (tokP (clT s b (rdRead s b))) ∧ Below w.heap.size w w' := by
  have HF : Hid (∀ i e w, Calls Tryd.prog 45 #[.int .i64 i, .int .i64 e] w fun e' w' => e' = .returned (pairV tk0 i e) ∧ Below w.heap.size w w') := fun i e w => fault_any i e w
  have HC : Hid (∀ w, Calls Tryd.prog 50 #[.string s, .int .i64 b] w fun e w' => e = .returned (mbV (rdRead s b)) ∧ Below w.heap.size w w') := fun w => read_any s b (by omega) w
  have HX := (show Hid (BX w ((w.alloc (tkO tk0)).alloc (fxO 0 0)) tk0 0 0) from BX.new w)
  cases hr : rdRead s b with
  | inr p =>
    obtain ⟨a, c⟩ := p
    have hne := rdRead_ne hr
    rw [hr] at HC
    clear hr
    unfold mbV at HC
    by_cases h6 : c = 6 ∧ a = s.size
    · obtain ⟨rfl, rfl⟩ := h6
      have HE : Hid (clT s b (.inr (s.size, 6)) = .inr (b, 52)) := by show clT s b (.inr (s.size, 6)) = _; rw [clT, if_pos ⟨rfl, rfl⟩]
      go_enter Tryd.func26, Tryd.ntmps26
      go_wp2_with fail
      refine (HC.out _).mono ?_
      rintro e w2 ⟨rfl, b2⟩
      have HX2 := (show Hid (BX w ((w2.alloc (svO 0#256)).alloc (fxO s.size 6)) tk0 0 0) from ((HX.out.below b2).below (below_box _ _)).below (below_box _ _))
      clear b2 HX HC
      go_wp2_with fail
      refine (HF.out _ _ _).mono ?_
      rintro e w3 ⟨rfl, b3⟩
      have HX3 := (show Hid (BX w w3 tk0 0 0) from HX2.out.below b3)
      clear b3 HX2 HF
      obtain ⟨f0, f1', f2', f3, f4, f5, f6, f7, f8, g0, g1⟩ := HX3.out.fz
      obtain ⟨c0, c1, c2, c3, c4, c5, c6, c7, c8, d0, d1⟩ := HX3.out.cells
      unfold pairV
      go_wp2_with fail
      have HP := HX3.out.put tk0 b 52
      exact ret_bx rfl rfl rfl rfl HP ⟨by rw [HE.out]; rfl, HP.b⟩
    · have HE : Hid (clT s b (.inr (a, c)) = .inr (a, c)) := by show clT s b (.inr (a, c)) = _; rw [clT, if_neg h6]
      have t1 : (c != 0) = true := by rw [bne, beq_eq_false_iff_ne.2 hne]; rfl
      by_cases hc6 : c = 6
      · have ha : ¬ a = s.size := fun q => h6 ⟨hc6, q⟩
        have t2 : ((a : Int) == (s.size : Int)) = false := by rw [beq_eq_false_iff_ne]; omega
        subst hc6
        clear h6 hne ha t1
        go_enter Tryd.func26, Tryd.ntmps26
        go_wp2_with fail
        refine (HC.out _).mono ?_
        rintro e w2 ⟨rfl, b2⟩
        have HX2 := (show Hid (BX w ((w2.alloc (svO 0#256)).alloc (fxO a 6)) tk0 0 0) from ((HX.out.below b2).below (below_box _ _)).below (below_box _ _))
        clear b2 HX HC
        go_wp2_with fail
        refine (HF.out _ _ _).mono ?_
        rintro e w3 ⟨rfl, b3⟩
        have HX3 := (show Hid (BX w w3 tk0 0 0) from HX2.out.below b3)
        clear b3 HX2 HF
        obtain ⟨f0, f1', f2', f3, f4, f5, f6, f7, f8, g0, g1⟩ := HX3.out.fz
        obtain ⟨c0, c1, c2, c3, c4, c5, c6, c7, c8, d0, d1⟩ := HX3.out.cells
        unfold pairV
        go_wp2_with fail
        have HP := HX3.out.put tk0 a 6
        exact ret_bx rfl rfl rfl rfl HP ⟨by rw [HE.out]; rfl, HP.b⟩
      · have t2 : (c == 6) = false := beq_eq_false_iff_ne.2 hc6
        clear h6 hne hc6
        go_enter Tryd.func26, Tryd.ntmps26
        go_wp2_with fail
        refine (HC.out _).mono ?_
        rintro e w2 ⟨rfl, b2⟩
        have HX2 := (show Hid (BX w ((w2.alloc (svO 0#256)).alloc (fxO a c)) tk0 0 0) from ((HX.out.below b2).below (below_box _ _)).below (below_box _ _))
        clear b2 HX HC
        go_wp2_with fail
        refine (HF.out _ _ _).mono ?_
        rintro e w3 ⟨rfl, b3⟩
        have HX3 := (show Hid (BX w w3 tk0 0 0) from HX2.out.below b3)
        clear b3 HX2 HF
        obtain ⟨f0, f1', f2', f3, f4, f5, f6, f7, f8, g0, g1⟩ := HX3.out.fz
        obtain ⟨c0, c1, c2, c3, c4, c5, c6, c7, c8, d0, d1⟩ := HX3.out.cells
        unfold pairV
        go_wp2_with fail
        have HP := HX3.out.put tk0 a c
        exact ret_bx rfl rfl rfl rfl HP ⟨by rw [HE.out]; rfl, HP.b⟩
  | inl p =>
    obtain ⟨x, n⟩ := p
    rw [hr] at HC
    clear hr HF
    unfold mbV at HC
    have HE := (show Hid (clT s b (.inl (x, n)) = .inl ⟨3, 0, b, n, ⟨#[]⟩, wd x 0, wd x 1, wd x 2, wd x 3⟩) from rfl)
    go_enter Tryd.func26, Tryd.ntmps26
    go_wp2_with fail
    refine (HC.out _).mono ?_
    rintro e w2 ⟨rfl, b2⟩
    have HX2 := (show Hid (BX w w2 tk0 0 0) from HX.out.below b2)
    clear b2 HX HC
    obtain ⟨f0, f1', f2', f3, f4, f5, f6, f7, f8, g0, g1⟩ := HX2.out.fz
    obtain ⟨c0, c1, c2, c3, c4, c5, c6, c7, c8, d0, d1⟩ := HX2.out.cells
    have hsz2 := HX2.out.size
    have hl1 : w.heap.size < w2.heap.size := by omega
    have hne1 : w.heap.size ≠ w2.heap.size := by omega
    have hne2 : w.heap.size + 1 ≠ w2.heap.size := by omega
    go_wp2_with fail
    have HP := ((HX2.out.put ⟨3, 0, b, n, ⟨#[]⟩, wd x 0, wd x 1, wd x 2, wd x 3⟩ 0 0).below (below_box _ (svO x))).below (below_box _ (fxO 0 0))
    exact ret_bx rfl rfl rfl rfl HP ⟨by rw [HE.out]; rfl, HP.b⟩
end Go.Proofs.YthffklhojdldkaaDoor

namespace Go.Proofs.YthffklhojdldkaaDoor
open Go.RowKit
def pctP (s : ByteArray) (b : Nat) : Sum Tk (Nat × Int) :=
  if pfx s b [37, 117, 123] = true then ptsP s b else if ¬ (sgAt s b).1 = 0 then sigP s b
  else if b + 1 < s.size ∧ (cls (chr s (b + 1)).toNat).2 = 0 then .inl ⟨28, 0, b, (b + 2 : Nat), s.extract (b + 1) (b + 2), wd (cls (chr s (b + 1)).toNat).1 0, wd (cls (chr s (b + 1)).toNat).1 1, wd (cls (chr s (b + 1)).toNat).1 2, wd (cls (chr s (b + 1)).toNat).1 3⟩ else .inr (b, 10)
structure AtP (w W : World) (c : Nat) (y : BitVec 256) : Prop where
  x : BX w W tk0 0 0
  h : Holds W c y
theorem AtP.below {w W W' : World} {c : Nat} {x : BitVec 256} (h : AtP w W c x) (hb : Below W.heap.size W W') : AtP w W' c x := ⟨h.x.below hb, h.h.below hb h.h.lt⟩
theorem fld67 (k : Int) (tx : ByteArray) (W : World) : (Instr.field 67 (.agg #[.int .i64 k, .string tx]) 0).run Tryd.prog W = .ok (.int .i64 k) W := by simp [Instr.field, run_underlying Tryd.underlying67, asAgg, go_sem]
theorem AtP.drew {w W : World} {c : Nat} {x : BitVec 256} (h : AtP w W c x) : AtP w W.drew c x := h.below (Below.refl _ _).drew
set_option maxRecDepth 100000 in
set_option maxHeartbeats 8000000 in
theorem pc_points (s : ByteArray) (b : Nat) (hs : s.size ≤ 140737488355000) (hb : b ≤ s.size) (h : pfx s b [37, 117, 123] = true) (w : World) (hg : SG w) : Calls Tryd.prog 27 #[.string s, .int .i64 b] w fun e w' => e = .returned (tokP (pctP s b)) ∧ Below w.heap.size w w' := by
  have HS : Hid (∀ w, Calls Tryd.prog 15 #[.string s, .int .i64 b, .string ⟨#[37, 117, 123]⟩] w fun e w' => e = .returned (.bool (pfx s b [37, 117, 123])) ∧ w' = w) := fun w => stands_any s b ⟨#[37, 117, 123]⟩ hb w
  have HX := (show Hid (BX w ((w.alloc (tkO tk0)).alloc (fxO 0 0)) tk0 0 0) from BX.new w)
  have HG := (show Hid (SG ((w.alloc (tkO tk0)).alloc (fxO 0 0))) from (hg.later (below_box _ _)).later (below_box _ _))
  have HSA : Hid (∀ w, SG w → Calls Tryd.prog 52 #[.string s, .int .i64 b] w fun e w' => e = .returned (.agg #[.int .i64 (sgAt s b).1, .string ⟨(sgAt s b).2.toArray⟩]) ∧ Below w.heap.size w w') := fun w h => signAt_any s b hb w h
  clear hg
  have HN : Hid (∀ w, Calls Tryd.prog 51 #[.string s, .int .i64 b] w fun e w' => e = .returned (tokP (ptsP s b)) ∧ Below w.heap.size w w') := fun w => readRunes_any s b hs (pfx_len hb h) w
  have HE : Hid (pctP s b = ptsP s b) := by show pctP s b = _; unfold pctP; rw [if_pos h]
  rw [h] at HS
  clear HSA HG h
  go_enter Tryd.func27, Tryd.ntmps27
  go_wp2_with fail
  refine (HS.out _).mono ?_
  rintro e w1 ⟨rfl, rfl⟩
  clear HS
  go_wp2_with fail
  refine (HN.out _).mono ?_
  rintro e w3 ⟨rfl, b3⟩
  have HX3 := (show Hid (BX w w3 tk0 0 0) from HX.out.below b3)
  clear b3 HX HN
  obtain ⟨f0, f1', f2', f3, f4, f5, f6, f7, f8, g0, g1⟩ := HX3.out.fz
  obtain ⟨c0, c1, c2, c3, c4, c5, c6, c7, c8, d0, d1⟩ := HX3.out.cells
  generalize ptsP s b = r at *
  cases r with
  | inl t =>
    unfold tokP
    go_wp2_with fail
    have HP := HX3.out.put t 0 0
    exact ret_bx rfl rfl rfl rfl HP ⟨by rw [HE.out]; rfl, HP.b⟩
  | inr q =>
    unfold tokP
    go_wp2_with fail
    have HP := HX3.out.put tk0 q.1 q.2
    exact ret_bx rfl rfl rfl rfl HP ⟨by rw [HE.out]; rfl, HP.b⟩
set_option maxRecDepth 100000 in
set_option maxHeartbeats 8000000 in
theorem pc_sign (s : ByteArray) (b : Nat) (hs : s.size ≤ 140737488355000) (hb : b ≤ s.size) (h : pfx s b [37, 117, 123] = false) (h2 : ¬ (sgAt s b).1 = 0) (w : World) (hg : SG w) : Calls Tryd.prog 27 #[.string s, .int .i64 b] w fun e w' => e = .returned (tokP (pctP s b)) ∧ Below w.heap.size w w' := by
  have HS : Hid (∀ w, Calls Tryd.prog 15 #[.string s, .int .i64 b, .string ⟨#[37, 117, 123]⟩] w fun e w' => e = .returned (.bool (pfx s b [37, 117, 123])) ∧ w' = w) := fun w => stands_any s b ⟨#[37, 117, 123]⟩ hb w
  have HX := (show Hid (BX w ((w.alloc (tkO tk0)).alloc (fxO 0 0)) tk0 0 0) from BX.new w)
  have HG := (show Hid (SG ((w.alloc (tkO tk0)).alloc (fxO 0 0))) from (hg.later (below_box _ _)).later (below_box _ _))
  have HSA : Hid (∀ w, SG w → Calls Tryd.prog 52 #[.string s, .int .i64 b] w fun e w' => e = .returned (.agg #[.int .i64 (sgAt s b).1, .string ⟨(sgAt s b).2.toArray⟩]) ∧ Below w.heap.size w w') := fun w h => signAt_any s b hb w h
  clear hg
  have HN : Hid (∀ w, SG w → Calls Tryd.prog 28 #[.string s, .int .i64 b] w fun e w' => e = .returned (tokP (sigP s b)) ∧ Below w.heap.size w w') := fun w g => readSign_any s b hs hb w g
  have HE : Hid (pctP s b = sigP s b) := by show pctP s b = _; unfold pctP; rw [if_neg (by rw [h]; decide), if_pos h2]
  have v1 : ((sgAt s b).1 != 0) = true := by rw [bne, beq_eq_false_iff_ne.2 h2]; rfl
  rw [h] at HS
  clear h h2
  generalize (sgAt s b).1 = k at *
  generalize ByteArray.mk (sgAt s b).2.toArray = tx at *
  have hfld := fld67 k tx
  go_enter Tryd.func27, Tryd.ntmps27
  go_wp2_with fail
  refine (HS.out _).mono ?_
  rintro e w1 ⟨rfl, rfl⟩
  clear HS
  go_wp2_with fail
  refine (HSA.out _ HG.out).mono ?_
  rintro e w2 ⟨rfl, b2⟩
  have HX2 := (show Hid (BX w w2 tk0 0 0) from HX.out.below b2)
  have HG2 := (show Hid (SG w2) from HG.out.later b2)
  clear b2 HX HG HSA
  go_wp2_with fail
  refine (HN.out _ HG2.out).mono ?_
  rintro e w3 ⟨rfl, b3⟩
  have HX3 := (show Hid (BX w w3 tk0 0 0) from HX2.out.below b3)
  clear b3 HX2 HN HG2
  obtain ⟨f0, f1', f2', f3, f4, f5, f6, f7, f8, g0, g1⟩ := HX3.out.fz
  obtain ⟨c0, c1, c2, c3, c4, c5, c6, c7, c8, d0, d1⟩ := HX3.out.cells
  generalize sigP s b = r at *
  cases r with
  | inl t =>
    unfold tokP
    go_wp2_with fail
    have HP := HX3.out.put t 0 0
    exact ret_bx rfl rfl rfl rfl HP ⟨by rw [HE.out]; rfl, HP.b⟩
  | inr q =>
    unfold tokP
    go_wp2_with fail
    have HP := HX3.out.put tk0 q.1 q.2
    exact ret_bx rfl rfl rfl rfl HP ⟨by rw [HE.out]; rfl, HP.b⟩
set_option maxRecDepth 100000 in
set_option maxHeartbeats 8000000 in
theorem pc_end (s : ByteArray) (b : Nat) (hs : s.size ≤ 140737488355000) (hb : b ≤ s.size) (h : pfx s b [37, 117, 123] = false) (h2 : (sgAt s b).1 = 0) (h3 : ¬ b + 1 < s.size) (w : World) (hg : SG w) : Calls Tryd.prog 27 #[.string s, .int .i64 b] w fun e w' => e = .returned (tokP (pctP s b)) ∧ Below w.heap.size w w' := by
  have HS : Hid (∀ w, Calls Tryd.prog 15 #[.string s, .int .i64 b, .string ⟨#[37, 117, 123]⟩] w fun e w' => e = .returned (.bool (pfx s b [37, 117, 123])) ∧ w' = w) := fun w => stands_any s b ⟨#[37, 117, 123]⟩ hb w
  have HX := (show Hid (BX w ((w.alloc (tkO tk0)).alloc (fxO 0 0)) tk0 0 0) from BX.new w)
  have HG := (show Hid (SG ((w.alloc (tkO tk0)).alloc (fxO 0 0))) from (hg.later (below_box _ _)).later (below_box _ _))
  have HSA : Hid (∀ w, SG w → Calls Tryd.prog 52 #[.string s, .int .i64 b] w fun e w' => e = .returned (.agg #[.int .i64 (sgAt s b).1, .string ⟨(sgAt s b).2.toArray⟩]) ∧ Below w.heap.size w w') := fun w h => signAt_any s b hb w h
  clear hg
  have HF : Hid (∀ i e w, Calls Tryd.prog 45 #[.int .i64 i, .int .i64 e] w fun e' w' => e' = .returned (pairV tk0 i e) ∧ Below w.heap.size w w') := fun i e w => fault_any i e w
  have HE : Hid (pctP s b = .inr (b, 10)) := by show pctP s b = _; unfold pctP; rw [if_neg (by rw [h]; decide), if_neg (fun q => q h2), if_neg (fun q => h3 q.1)]
  have z1 : ¬ (b : Int) + 1 < (s.size : Int) := by omega
  have v1 : ((sgAt s b).1 != 0) = false := by rw [h2]; rfl
  rw [h] at HS
  clear h h2
  generalize (sgAt s b).1 = k at *
  generalize ByteArray.mk (sgAt s b).2.toArray = tx at *
  have hfld := fld67 k tx
  go_enter Tryd.func27, Tryd.ntmps27
  go_wp2_with fail
  refine (HS.out _).mono ?_
  rintro e w1 ⟨rfl, rfl⟩
  clear HS
  go_wp2_with fail
  refine (HSA.out _ HG.out).mono ?_
  rintro e w2 ⟨rfl, b2⟩
  have HX2 := (show Hid (BX w w2 tk0 0 0) from HX.out.below b2)
  have HG2 := (show Hid (SG w2) from HG.out.later b2)
  clear b2 HX HG HSA
  go_wp2_with fail
  refine (HF.out _ _ _).mono ?_
  rintro e w3 ⟨rfl, b3⟩
  have HX3 := (show Hid (BX w w3 tk0 0 0) from HX2.out.below b3)
  clear b3 HX2 HF HG2
  obtain ⟨f0, f1', f2', f3, f4, f5, f6, f7, f8, g0, g1⟩ := HX3.out.fz
  obtain ⟨c0, c1, c2, c3, c4, c5, c6, c7, c8, d0, d1⟩ := HX3.out.cells
  unfold pairV
  go_wp2_with fail
  have HP := HX3.out.put tk0 b 10
  exact ret_bx rfl rfl rfl rfl HP ⟨by rw [HE.out]; rfl, HP.b⟩
set_option maxRecDepth 100000 in
set_option maxHeartbeats 8000000 in
theorem pc_none (s : ByteArray) (b : Nat) (hs : s.size ≤ 140737488355000) (hb : b ≤ s.size) (h : pfx s b [37, 117, 123] = false) (h2 : (sgAt s b).1 = 0) (h3 : b + 1 < s.size) (h4 : ¬ (cls (chr s (b + 1)).toNat).2 = 0) (w : World) (hg : SG w) : Calls Tryd.prog 27 #[.string s, .int .i64 b] w fun e w' => e = .returned (tokP (pctP s b)) ∧ Below w.heap.size w w' := by
  have HS : Hid (∀ w, Calls Tryd.prog 15 #[.string s, .int .i64 b, .string ⟨#[37, 117, 123]⟩] w fun e w' => e = .returned (.bool (pfx s b [37, 117, 123])) ∧ w' = w) := fun w => stands_any s b ⟨#[37, 117, 123]⟩ hb w
  have HX := (show Hid (BX w ((w.alloc (tkO tk0)).alloc (fxO 0 0)) tk0 0 0) from BX.new w)
  have HG := (show Hid (SG ((w.alloc (tkO tk0)).alloc (fxO 0 0))) from (hg.later (below_box _ _)).later (below_box _ _))
  have HSA : Hid (∀ w, SG w → Calls Tryd.prog 52 #[.string s, .int .i64 b] w fun e w' => e = .returned (.agg #[.int .i64 (sgAt s b).1, .string ⟨(sgAt s b).2.toArray⟩]) ∧ Below w.heap.size w w') := fun w h => signAt_any s b hb w h
  clear hg
  have HF : Hid (∀ i e w, Calls Tryd.prog 45 #[.int .i64 i, .int .i64 e] w fun e' w' => e' = .returned (pairV tk0 i e) ∧ Below w.heap.size w w') := fun i e w => fault_any i e w
  have HE : Hid (pctP s b = .inr (b, 10)) := by show pctP s b = _; unfold pctP; rw [if_neg (by rw [h]; decide), if_neg (fun q => q h2), if_neg (fun q => h4 q.2)]
  have hc := chr_in h3
  obtain ⟨c, hcc⟩ : ∃ c : Nat, c = (chr s (b + 1)).toNat := ⟨_, rfl⟩
  have hcn : (s[b + 1].toNat : Int) = c := by rw [hcc, hc]; omega
  have hclt : c < 256 := by have := chr_le s (b + 1); omega
  have HC : Hid (∀ w, Calls Tryd.prog 53 #[.int .u8 (s[b + 1].toNat : Int)] w fun e w' => e = .returned (.tuple #[sv (cls c).1, .int .i64 (cls c).2]) ∧ Below w.heap.size w w') := fun w => by rw [hcn]; exact class_any c hclt w
  obtain ⟨j1, hj1⟩ : ∃ j, j = b + 1 := ⟨_, rfl⟩
  obtain ⟨j2, hj2⟩ : ∃ j, j = b + 2 := ⟨_, rfl⟩
  have u1 : IntKind.i64.wrap ((b : Int) + 1) = (j1 : Int) := by rw [hj1, IntKind.wrap_i64]; omega
  have u2 : IntKind.i64.wrap ((b : Int) + 2) = (j2 : Int) := by rw [hj2, IntKind.wrap_i64]; omega
  have y0 : (0 : Int) ≤ (j1 : Int) := by omega
  have y1 : (j1 : Int) ≤ (j2 : Int) := by omega
  have y2 : (j2 : Int) ≤ (s.size : Int) := by omega
  have y3 : (j1 : Int) < (s.size : Int) := by omega
  have h3' : j1 < s.size := by omega
  have HC2 := (show Hid (∀ w, Calls Tryd.prog 53 #[.int .u8 (s[j1].toNat : Int)] w fun e w' => e = .returned (.tuple #[sv (cls c).1, .int .i64 (cls c).2]) ∧ Below w.heap.size w w') from by subst hj1; exact HC)
  clear HC hcn hc hclt
  rw [← hcc] at h4
  have v4 : ((cls c).2 == 0) = false := beq_eq_false_iff_ne.2 h4
  clear hcc h4 hj1 hj2
  generalize (cls c).2 = q at *
  generalize (cls c).1 = x at *
  have v1 : ((sgAt s b).1 != 0) = false := by rw [h2]; rfl
  rw [h] at HS
  clear h h2
  generalize (sgAt s b).1 = k at *
  generalize ByteArray.mk (sgAt s b).2.toArray = tx at *
  have hfld := fld67 k tx
  go_enter Tryd.func27, Tryd.ntmps27
  go_wp2_with fail
  refine (HS.out _).mono ?_
  rintro e w1 ⟨rfl, rfl⟩
  clear HS
  go_wp2_with fail
  refine (HSA.out _ HG.out).mono ?_
  rintro e w2 ⟨rfl, b2⟩
  have HX2 := (show Hid (BX w w2 tk0 0 0) from HX.out.below b2)
  have HG2 := (show Hid (SG w2) from HG.out.later b2)
  clear b2 HX HG HSA
  go_wp2_with fail
  refine (HC2.out _).mono ?_
  rintro e w3 ⟨rfl, b3⟩
  have HX3 := (show Hid (BX w (w3.alloc (svO x)) tk0 0 0) from (HX2.out.below b3).below (below_box _ _))
  clear b3 HX2 HC2 HG2
  go_wp2_with fail
  refine (HF.out _ _ _).mono ?_
  rintro e w4 ⟨rfl, b4⟩
  have HX4 := (show Hid (BX w w4 tk0 0 0) from HX3.out.below b4)
  clear b4 HX3 HF
  obtain ⟨f0, f1', f2', f3, f4, f5, f6, f7, f8, g0, g1⟩ := HX4.out.fz
  obtain ⟨c0, c1, c2, c3, c4, c5, c6, c7, c8, d0, d1⟩ := HX4.out.cells
  unfold pairV
  go_wp2_with fail
  have HP := HX4.out.put tk0 b 10
  exact ret_bx rfl rfl rfl rfl HP ⟨by rw [HE.out]; rfl, HP.b⟩
set_option maxRecDepth 100000 in
set_option maxHeartbeats 8000000 in
theorem pc_class (s : ByteArray) (b : Nat) (hs : s.size ≤ 140737488355000) (hb : b ≤ s.size) (h : pfx s b [37, 117, 123] = false) (h2 : (sgAt s b).1 = 0) (h3 : b + 1 < s.size) (h4 : (cls (chr s (b + 1)).toNat).2 = 0) (w : World) (hg : SG w) : Calls Tryd.prog 27 #[.string s, .int .i64 b] w fun e w' => e = .returned (tokP (pctP s b)) ∧ Below w.heap.size w w' := by
  have HS : Hid (∀ w, Calls Tryd.prog 15 #[.string s, .int .i64 b, .string ⟨#[37, 117, 123]⟩] w fun e w' => e = .returned (.bool (pfx s b [37, 117, 123])) ∧ w' = w) := fun w => stands_any s b ⟨#[37, 117, 123]⟩ hb w
  have HX := (show Hid (BX w ((w.alloc (tkO tk0)).alloc (fxO 0 0)) tk0 0 0) from BX.new w)
  have HG := (show Hid (SG ((w.alloc (tkO tk0)).alloc (fxO 0 0))) from (hg.later (below_box _ _)).later (below_box _ _))
  have HSA : Hid (∀ w, SG w → Calls Tryd.prog 52 #[.string s, .int .i64 b] w fun e w' => e = .returned (.agg #[.int .i64 (sgAt s b).1, .string ⟨(sgAt s b).2.toArray⟩]) ∧ Below w.heap.size w w') := fun w h => signAt_any s b hb w h
  clear hg
  have HE : Hid (pctP s b = .inl ⟨28, 0, b, (b + 2 : Nat), s.extract (b + 1) (b + 2), wd (cls (chr s (b + 1)).toNat).1 0, wd (cls (chr s (b + 1)).toNat).1 1, wd (cls (chr s (b + 1)).toNat).1 2, wd (cls (chr s (b + 1)).toNat).1 3⟩) := by show pctP s b = _; unfold pctP; rw [if_neg (by rw [h]; decide), if_neg (fun q => q h2), if_pos ⟨h3, h4⟩]
  have hc := chr_in h3
  obtain ⟨c, hcc⟩ : ∃ c : Nat, c = (chr s (b + 1)).toNat := ⟨_, rfl⟩
  have hcn : (s[b + 1].toNat : Int) = c := by rw [hcc, hc]; omega
  have hclt : c < 256 := by have := chr_le s (b + 1); omega
  have HC : Hid (∀ w, Calls Tryd.prog 53 #[.int .u8 (s[b + 1].toNat : Int)] w fun e w' => e = .returned (.tuple #[sv (cls c).1, .int .i64 (cls c).2]) ∧ Below w.heap.size w w') := fun w => by rw [hcn]; exact class_any c hclt w
  obtain ⟨j1, hj1⟩ : ∃ j, j = b + 1 := ⟨_, rfl⟩
  obtain ⟨j2, hj2⟩ : ∃ j, j = b + 2 := ⟨_, rfl⟩
  have u1 : IntKind.i64.wrap ((b : Int) + 1) = (j1 : Int) := by rw [hj1, IntKind.wrap_i64]; omega
  have u2 : IntKind.i64.wrap ((b : Int) + 2) = (j2 : Int) := by rw [hj2, IntKind.wrap_i64]; omega
  have y0 : (0 : Int) ≤ (j1 : Int) := by omega
  have y1 : (j1 : Int) ≤ (j2 : Int) := by omega
  have y2 : (j2 : Int) ≤ (s.size : Int) := by omega
  have y3 : (j1 : Int) < (s.size : Int) := by omega
  have h3' : j1 < s.size := by omega
  have HC2 := (show Hid (∀ w, Calls Tryd.prog 53 #[.int .u8 (s[j1].toNat : Int)] w fun e w' => e = .returned (.tuple #[sv (cls c).1, .int .i64 (cls c).2]) ∧ Below w.heap.size w w') from by subst hj1; exact HC)
  clear HC hcn hc hclt
  rw [← hcc] at h4 HE
  rw [h4] at HC2
  rw [← hj1, ← hj2] at HE
  clear hcc h4 hj1 hj2
  generalize (cls c).1 = x at *
  have v1 : ((sgAt s b).1 != 0) = false := by rw [h2]; rfl
  rw [h] at HS
  clear h h2
  generalize (sgAt s b).1 = k at *
  generalize ByteArray.mk (sgAt s b).2.toArray = tx at *
  have HCo : Hid (∀ w, Calls Tryd.prog 46 #[.string (s.extract j1 j2)] w fun e w' => e = .returned (.string (s.extract j1 j2)) ∧ Below w.heap.size w w') := fun w => copied_any _ w
  have hfld := fld67 k tx
  go_enter Tryd.func27, Tryd.ntmps27
  go_wp2_with fail
  refine (HS.out _).mono ?_
  rintro e w1 ⟨rfl, rfl⟩
  clear HS
  go_wp2_with fail
  refine (HSA.out _ HG.out).mono ?_
  rintro e w2 ⟨rfl, b2⟩
  have HX2 := (show Hid (BX w w2 tk0 0 0) from HX.out.below b2)
  have HG2 := (show Hid (SG w2) from HG.out.later b2)
  clear b2 HX HG HSA
  go_wp2_with fail
  refine (HC2.out _).mono ?_
  rintro e w3 ⟨rfl, b3⟩
  have HP3 := (show Hid (AtP w (w3.alloc (svO x)) w3.heap.size x) from ⟨(HX2.out.below b3).below (below_box _ _), Holds.new w3 x⟩)
  have hsz := (HX2.out.below b3).size
  have ne1 : ¬ w3.heap.size = w.heap.size := by omega
  have ne2 : ¬ w.heap.size = w3.heap.size := by omega
  have ne3 : ¬ w3.heap.size = w.heap.size + 1 := by omega
  have ne4 : ¬ w.heap.size + 1 = w3.heap.size := by omega
  clear b3 HX2 HC2 HG2 hsz
  go_wp2_with fail
  generalize w3.alloc (svO x) = w4 at *
  obtain ⟨f0, f1', f2', f3, f4, f5, f6, f7, f8, g0, g1⟩ := HP3.out.x.fz
  obtain ⟨c0, c1, c2, c3, c4, c5, c6, c7, c8, d0, d1⟩ := HP3.out.x.cells
  obtain ⟨_, e0, e1, e2, e3, _, _, _, _⟩ := HP3.out.h
  go_region_with (go_at_call 46; refine (HCo.out _).mono ?_; rintro e w5 ⟨rfl, hb5⟩; have hA2 := (show AtP w w5 w3.heap.size x from (by first | exact HP3.out.below hb5 | exact HP3.out.drew.below hb5)); replace HP3 := (show Hid _ from hA2); clear hA2 hb5 f0 f1' f2' f3 f4 f5 f6 f7 f8 g0 g1 c0 c1 c2 c3 c4 c5 c6 c7 c8 d0 d1 e0 e1 e2 e3; obtain ⟨f0, f1', f2', f3, f4, f5, f6, f7, f8, g0, g1⟩ := HP3.out.x.fz; obtain ⟨c0, c1, c2, c3, c4, c5, c6, c7, c8, d0, d1⟩ := HP3.out.x.cells; obtain ⟨_, e0, e1, e2, e3, _, _, _, _⟩ := HP3.out.h)
  all_goals
    go_wp2_with fail
    have HP := HP3.out.x.put ⟨28, 0, b, j2, s.extract j1 j2, wd x 0, wd x 1, wd x 2, wd x 3⟩ 0 0
    exact ret_bx rfl rfl rfl rfl HP ⟨by rw [HE.out]; rfl, HP.b⟩
theorem readPercent_any (s : ByteArray) (b : Nat) (hs : s.size ≤ 140737488355000) (hb : b ≤ s.size) (w : World) (hg : SG w) : Calls Tryd.prog 27 #[.string s, .int .i64 b] w fun e w' => e = .returned (tokP (pctP s b)) ∧ Below w.heap.size w w' := by
  cases h : pfx s b [37, 117, 123] with
  | true => exact pc_points s b hs hb h w hg
  | false =>
    by_cases h2 : (sgAt s b).1 = 0
    · by_cases h3 : b + 1 < s.size
      · by_cases h4 : (cls (chr s (b + 1)).toNat).2 = 0
        · exact pc_class s b hs hb h h2 h3 h4 w hg
        · exact pc_none s b hs hb h h2 h3 h4 w hg
      · exact pc_end s b hs hb h h2 h3 w hg
    · exact pc_sign s b hs hb h h2 w hg
end Go.Proofs.YthffklhojdldkaaDoor

namespace Go.Proofs.YthffklhojdldkaaDoor
open Go.RowKit
theorem q_chr (s : ByteArray) (i : Nat) : Q.chr s i = chr s i := rfl
/-- The program's reading of a literal, by what Cut answers. -/
def litP (s : ByteArray) (b : Nat) : Q.Rd (List Int × Nat) → Sum Tk (Nat × Int)
  | .inr (a, c) => if c = 21 then .inr (a.toNat, 51) else if c = 22 ∧ a < (s.size : Int) then .inr (a.toNat, 50) else .inr (b, 52)
  | .inl (l, e) => if 255 < l.length then .inr (b, 2) else .inl ⟨2, 0, b, e, asText l, 0, 0, 0, 0⟩
theorem esc_same (s : ByteArray) (i : Nat) : Q.rdEsc s i = (escT s i).map fun p => ((p.1 : Int), p.2) := by
  unfold Q.rdEsc escT Q.rdHex
  rw [show Q.chr = chr from rfl, show Q.hexV = hexV from rfl]
  have hb := chr_le s (i + 1)
  by_cases a1 : chr s (i + 1) = 110
  · rw [if_pos a1, if_pos a1]; rfl
  by_cases a2 : chr s (i + 1) = 114
  · rw [if_neg a1, if_neg a1, if_pos a2, if_pos a2]; rfl
  by_cases a3 : chr s (i + 1) = 116
  · rw [if_neg a1, if_neg a1, if_neg a2, if_neg a2, if_pos a3, if_pos a3]; rfl
  rw [if_neg a1, if_neg a1, if_neg a2, if_neg a2, if_neg a3, if_neg a3]
  by_cases a4 : chr s (i + 1) = 92 ∨ chr s (i + 1) = 39 ∨ chr s (i + 1) = 34
  · rw [if_pos a4, if_pos a4, Option.map_some, Int.toNat_of_nonneg (by omega)]
  rw [if_neg a4, if_neg a4]
  by_cases h : chr s (i + 1) = 120
  · have h1 := hexV_bd (chr s (i + 2))
    rw [if_pos h]
    by_cases q : 0 ≤ hexV (chr s (i + 2)) ∧ 0 ≤ hexV (chr s (i + 3))
    · rw [if_pos q, if_pos ⟨h, q⟩, Option.map_some, Int.toNat_of_nonneg (by omega)]
    · rw [if_neg q, if_neg (fun x => q x.2)]; rfl
  · rw [if_neg h, if_neg (fun x => h x.1)]; rfl
theorem escT_lt {s : ByteArray} {i : Nat} {c n : Nat} (h : escT s i = some (c, n)) : i < n ∧ n ≤ i + 4 := by
  unfold escT at h
  split at h
  · cases h; omega
  split at h
  · cases h; omega
  split at h
  · cases h; omega
  split at h
  · cases h; omega
  split at h
  · cases h; omega
  · cases h
theorem body_same (s : ByteArray) (q : Int) (b : Nat) (hq : q = 39 ∨ q = 34) : ∀ (f i : Nat) (l : List Int), s.size < f + i → litP s b (Q.rdBody s q f i l) = litGo s q b f l i := by
  intro f
  induction f with
  | zero =>
    intro i l hf
    rw [Q.rdBody, litGo]
    rw [litP, if_neg (by decide), if_neg (by omega)]
  | succ f ih =>
    intro i l hf
    rw [Q.rdBody, litGo, q_chr]
    by_cases h1 : i < s.size
    · have hb := chr_in h1
      have hb2 : ¬ chr s i < 0 := by rw [hb]; omega
      rw [if_neg hb2]
      by_cases h2 : chr s i = q
      · rw [if_pos h2, if_pos h2]; rfl
      rw [if_neg h2, if_neg h2, if_neg (by omega)]
      by_cases h92 : chr s i = 92
      · have e1 : ¬ (chr s i < 32 ∨ chr s i = 127) := by omega
        rw [if_neg e1, if_neg (fun x => x h92)]
        unfold Q.rdByte
        rw [q_chr, if_pos h92, esc_same]
        cases he : escT s i with
        | none =>
          show litP s b (.inr ((i : Int), 21)) = _
          rw [litP, if_pos rfl]; rfl
        | some p =>
          have h3 := escT_lt (c := p.1) (n := p.2) he
          exact ih _ _ (by omega)
      · unfold Q.rdByte
        rw [q_chr, if_neg h92]
        by_cases h32 : chr s i < 32 ∨ chr s i = 127
        · rw [if_pos h32, if_pos h32]
          rw [litP, if_neg (by decide), if_pos ⟨rfl, by omega⟩]; rfl
        · rw [if_neg h32, if_neg h32, if_pos h92]
          exact ih _ _ (by omega)
    · rw [chr_out h1, if_neg (by omega), if_pos (by omega), if_pos (by omega)]
      rw [litP, if_neg (by decide), if_neg (by omega)]
theorem rdBody_pos {s : ByteArray} {m : Int} {f i : Nat} {l : List Int} {a c : Int} (h : Q.rdBody s m f i l = .inr (a, c)) : 0 ≤ a ∧ (c = 21 ∨ c = 22) := by
  induction f generalizing i l with
  | zero => rw [Q.rdBody] at h; cases h; exact ⟨by omega, .inr rfl⟩
  | succ f ih =>
    rw [Q.rdBody] at h
    split at h
    · cases h
    split at h
    · cases h; exact ⟨by omega, .inr rfl⟩
    cases hb : Q.rdByte s i with
    | inl p => rw [hb] at h; exact ih h
    | inr q =>
      obtain ⟨a2, c2⟩ := q
      rw [hb] at h
      cases h
      unfold Q.rdByte at hb
      split at hb
      · cases he : Q.rdEsc s i with
        | none => rw [he] at hb; cases hb; exact ⟨by omega, .inl rfl⟩
        | some p => rw [he] at hb; cases hb
      · split at hb
        · cases hb; exact ⟨by omega, .inr rfl⟩
        · cases hb
theorem rdCut_pos {s : ByteArray} {b : Nat} {a c : Int} (hs : s.size ≤ 65536) (hb : b ≤ s.size) (hq : chr s b = 39 ∨ chr s b = 34) (h : Q.rdCut s b = .inr (a, c)) : 0 ≤ a ∧ (c = 21 ∨ c = 22) := by
  unfold Q.rdCut at h
  rw [if_neg (by omega), if_neg (by omega), Int.toNat_natCast, q_chr, if_pos hq] at h
  exact rdBody_pos h
theorem lit_same (s : ByteArray) (b : Nat) (hs : s.size ≤ 65536) (hb : b ≤ s.size) (hq : chr s b = 39 ∨ chr s b = 34) : litP s b (Q.rdCut s b) = litR s b := by
  unfold Q.rdCut litR
  rw [if_neg (by omega), if_neg (by omega), Int.toNat_natCast, q_chr, if_pos hq]
  exact body_same s _ b hq _ _ _ (by omega)
end Go.Proofs.YthffklhojdldkaaDoor

namespace Go.Proofs.YthffklhojdldkaaDoor.Q
open Go.RowKit
theorem ret_bool {a b : Bool} (h : a = b) : Ending.returned (.bool a) = .returned (.bool b) := by rw [h]

/-- What checkPlace answers. -/
def cpE (s : ByteArray) (i : Int) : Int := if 65536 < s.size then 2 else if i < 0 ∨ (s.size : Int) < i then 1 else 0

set_option maxRecDepth 100000 in
set_option maxHeartbeats 1000000 in
theorem checkPlace_any (s : ByteArray) (i : Int) (w : World) :
    Calls Tryd.prog 65 #[.string s, .int .i64 i] w fun e w' => e = .returned (.int .i64 (cpE s i)) ∧ w' = w := by
  by_cases h : 65536 < s.size
  · have HE : Hid (cpE s i = 2) := (by show cpE s i = 2; unfold cpE; rw [if_pos h])
    have h1 : (65536 : Int) < (s.size : Int) := by omega
    go_enter Tryd.func65, Tryd.ntmps65
    go_wp2
    go_ret
    exact ⟨by rw [HE.out]; rfl, rfl⟩
  · have h1 : ¬ (65536 : Int) < (s.size : Int) := by omega
    by_cases h0 : i < 0
    · have HE : Hid (cpE s i = 1) := (by show cpE s i = 1; unfold cpE; rw [if_neg h, if_pos (.inl h0)])
      go_enter Tryd.func65, Tryd.ntmps65
      go_wp2
      go_ret
      exact ⟨by rw [HE.out]; rfl, rfl⟩
    · by_cases h2 : (s.size : Int) < i
      · have HE : Hid (cpE s i = 1) := (by show cpE s i = 1; unfold cpE; rw [if_neg h, if_pos (.inr h2)])
        go_enter Tryd.func65, Tryd.ntmps65
        go_wp2
        go_ret
        exact ⟨by rw [HE.out]; rfl, rfl⟩
      · have HE : Hid (cpE s i = 0) := (by show cpE s i = 0; unfold cpE; rw [if_neg h, if_neg (by omega)])
        go_enter Tryd.func65, Tryd.ntmps65
        go_wp2
        go_ret
        exact ⟨by rw [HE.out]; rfl, rfl⟩

def mkB (c : Int) : Bool := c == 39 || c == 34
set_option maxRecDepth 100000 in
set_option maxHeartbeats 1000000 in
theorem isMark_any (c : Int) (w : World) :
    Calls Tryd.prog 66 #[.int .u8 c] w fun e w' => e = .returned (.bool (mkB c)) ∧ w' = w := by
  by_cases h : c = 39
  · have HE : Hid (mkB c = true) := (by show mkB c = true; unfold mkB; rw [beq_iff_eq.2 h]; rfl)
    have e1 : (c == 39) = true := beq_iff_eq.2 h
    clear h
    go_enter Tryd.func66, Tryd.ntmps66
    go_wp2
    go_ret
    exact ⟨by rw [HE.out]; rfl, rfl⟩
  · have e1 : (c == 39) = false := beq_eq_false_iff_ne.2 h
    have HE : Hid (mkB c = (c == 34)) := (by show mkB c = (c == 34); unfold mkB; rw [e1]; rfl)
    clear h
    go_enter Tryd.func66, Tryd.ntmps66
    go_wp2
    go_ret
    exact ⟨by rw [HE.out]; rfl, rfl⟩

/-- The digits of 16. -/
abbrev digs : ByteArray := ⟨#[48, 49, 50, 51, 52, 53, 54, 55, 56, 57, 97, 98, 99, 100, 101, 102]⟩
theorem idx_hex (c : UInt8) : Lib.indexByte digs.data.toList c = hexV (c.toNat : Int) := by
  have key : ∀ n, n < 256 → Lib.indexByte digs.data.toList (UInt8.ofNat n) = hexV (n : Int) := by decide +kernel
  have := key c.toNat c.toNat_lt
  rw [UInt8.ofNat_toNat] at this
  exact this
theorem index_hex (c : UInt8) (w : World) : Calls Tryd.prog 64 #[.string digs, .int .u8 (c.toNat : Int)] w fun e w' => e = .returned (.int .i64 (hexV (c.toNat : Int))) ∧ w' = w := by
  refine (Tryd.strings_IndexByte digs (c.toNat : Int) w).mono ?_
  rintro e w' ⟨rfl, rfl⟩
  refine ⟨?_, rfl⟩
  rw [← idx_hex]
  simp

theorem ret_es {b b' : Int} {n : Nat} {n' : Int} (hb : b' = b) (hn : n' = n) : Ending.returned (.tuple #[.int .u8 b', .int .i64 n', .int .i64 0]) = .returned (esV (some (b, n))) := by rw [hb, hn]; rfl
theorem ret_by {b b' : Int} {n : Nat} {n' : Int} (hb : b' = b) (hn : n' = n) : Ending.returned (.tuple #[.int .u8 b', .int .i64 n', .int .i64 0]) = .returned (byV (.inl (b, n))) := by rw [hb, hn]; rfl

set_option maxRecDepth 100000 in
set_option maxHeartbeats 1000000 in
theorem readHex_any (s : ByteArray) (i : Nat) (hi : i + 1 < s.size) (hs : s.size ≤ 140737488355328) (w : World) :
    Calls Tryd.prog 98 #[.string s, .int .i64 i] w fun e w' => e = .returned (esV (rdHex s i)) ∧ w' = w := by
  by_cases h : i + 3 < s.size
  · have h2 : i + 2 < s.size := by omega
    have hb1 := hexV_bd (s[i + 2].toNat : Int)
    have hb2 := hexV_bd (s[i + 3].toNat : Int)
    have HE : Hid (rdHex s i = if 0 ≤ hexV (s[i + 2].toNat : Int) ∧ 0 ≤ hexV (s[i + 3].toNat : Int) then some (16 * hexV (s[i + 2].toNat : Int) + hexV (s[i + 3].toNat : Int), i + 4) else none) := (by show rdHex s i = _; unfold rdHex; rw [chr_in h, chr_in h2])
    have HI : Hid (∀ w, Calls Tryd.prog 64 #[.string digs, .int .u8 (s[i + 2].toNat : Int)] w fun e w' => e = .returned (.int .i64 (hexV (s[i + 2].toNat : Int))) ∧ w' = w) := fun w => index_hex _ w
    have HJ : Hid (∀ w, Calls Tryd.prog 64 #[.string digs, .int .u8 (s[i + 3].toNat : Int)] w fun e w' => e = .returned (.int .i64 (hexV (s[i + 3].toNat : Int))) ∧ w' = w) := fun w => index_hex _ w
    go_enter Tryd.func98, Tryd.ntmps98
    go_wp2_with fail
    refine (HI.out _).mono ?_
    rintro e w' ⟨rfl, rfl⟩
    clear HI
    go_wp2_with fail
    refine (HJ.out _).mono ?_
    rintro e w' ⟨rfl, rfl⟩
    clear HJ
    generalize hexV (s[i + 2].toNat : Int) = a at *
    generalize hexV (s[i + 3].toNat : Int) = b at *
    by_cases ha : 0 ≤ a
    · by_cases hb : 0 ≤ b
      · have hw8 : IntKind.u8.wrap (16 * a + b) = 16 * a + b := by rw [IntKind.wrap_u8']; omega
        go_wp2
        go_ret3
        exact ⟨by rw [HE.out, if_pos ⟨ha, hb⟩]; exact ret_es (by omega) (by omega), rfl⟩
      · go_wp2
        go_ret3
        exact ⟨by rw [HE.out, if_neg (fun h => by omega)]; rfl, rfl⟩
    · go_wp2
      go_ret3
      exact ⟨by rw [HE.out, if_neg (fun h => by omega)]; rfl, rfl⟩
  · have h1 : ¬ (i : Int) + 3 < (s.size : Int) := by omega
    have HE : Hid (rdHex s i = none) := (by show rdHex s i = none; unfold rdHex; rw [chr_out h]; rw [if_neg]; rintro ⟨_, h2⟩; simp [hexV] at h2)
    go_enter Tryd.func98, Tryd.ntmps98
    go_wp2
    go_ret3
    exact ⟨by rw [HE.out]; rfl, rfl⟩

set_option maxRecDepth 100000 in
set_option maxHeartbeats 2000000 in
theorem readEsc_any (s : ByteArray) (i : Nat) (hi : i < s.size) (hs : s.size ≤ 140737488355328) (w : World) :
    Calls Tryd.prog 93 #[.string s, .int .i64 i] w fun e w' => e = .returned (esV (rdEsc s i)) ∧ w' = w := by
  by_cases h : i + 1 < s.size
  · have HX : Hid (∀ w, Calls Tryd.prog 98 #[.string s, .int .i64 i] w fun e w' => e = .returned (esV (rdHex s i)) ∧ w' = w) := fun w => readHex_any s i h hs w
    have hb : (0 : Int) ≤ (s[i + 1].toNat : Int) ∧ (s[i + 1].toNat : Int) ≤ 255 := by have := s[i + 1].toNat_lt; omega
    have HE : Hid (rdEsc s i = if (s[i + 1].toNat : Int) = 110 then some (10, i + 2) else if (s[i + 1].toNat : Int) = 114 then some (13, i + 2) else if (s[i + 1].toNat : Int) = 116 then some (9, i + 2) else
  if (s[i + 1].toNat : Int) = 92 ∨ (s[i + 1].toNat : Int) = 39 ∨ (s[i + 1].toNat : Int) = 34 then some ((s[i + 1].toNat : Int), i + 2) else if (s[i + 1].toNat : Int) = 120 then rdHex s i else none) := (by show rdEsc s i = _; unfold rdEsc; rw [chr_in h])
    by_cases h110 : (s[i + 1].toNat : Int) = 110
    · have HF := (show Hid (rdEsc s i = some (10, i + 2)) from (by show rdEsc s i = _; rw [HE.out]; rw [if_pos h110]))
      clear HE HX
      have e110 : ((s[i + 1].toNat : Int) == 110) = true := beq_iff_eq.2 h110
      clear h110
      go_enter Tryd.func93, Tryd.ntmps93
      go_wp2
      go_ret3
      exact ⟨by rw [HF.out]; exact ret_es rfl (by omega), rfl⟩
    have e110 : ((s[i + 1].toNat : Int) == 110) = false := beq_eq_false_iff_ne.2 h110
    by_cases h114 : (s[i + 1].toNat : Int) = 114
    · have HF := (show Hid (rdEsc s i = some (13, i + 2)) from (by show rdEsc s i = _; rw [HE.out]; rw [if_neg h110, if_pos h114]))
      clear HE HX
      have e114 : ((s[i + 1].toNat : Int) == 114) = true := beq_iff_eq.2 h114
      clear h114
      go_enter Tryd.func93, Tryd.ntmps93
      go_wp2
      go_ret3
      exact ⟨by rw [HF.out]; exact ret_es rfl (by omega), rfl⟩
    have e114 : ((s[i + 1].toNat : Int) == 114) = false := beq_eq_false_iff_ne.2 h114
    by_cases h116 : (s[i + 1].toNat : Int) = 116
    · have HF := (show Hid (rdEsc s i = some (9, i + 2)) from (by show rdEsc s i = _; rw [HE.out]; rw [if_neg h110, if_neg h114, if_pos h116]))
      clear HE HX
      have e116 : ((s[i + 1].toNat : Int) == 116) = true := beq_iff_eq.2 h116
      clear h116
      go_enter Tryd.func93, Tryd.ntmps93
      go_wp2
      go_ret3
      exact ⟨by rw [HF.out]; exact ret_es rfl (by omega), rfl⟩
    have e116 : ((s[i + 1].toNat : Int) == 116) = false := beq_eq_false_iff_ne.2 h116
    by_cases hg : (s[i + 1].toNat : Int) = 92 ∨ (s[i + 1].toNat : Int) = 39 ∨ (s[i + 1].toNat : Int) = 34
    · have HF := (show Hid (rdEsc s i = some ((s[i + 1].toNat : Int), i + 2)) from (by show rdEsc s i = _; rw [HE.out]; rw [if_neg h110, if_neg h114, if_neg h116, if_pos hg]))
      clear HE HX h110 h114 h116
      rcases hg with hg | hg | hg
      · have e92 : ((s[i + 1].toNat : Int) == 92) = true := beq_iff_eq.2 hg
        clear hg
        go_enter Tryd.func93, Tryd.ntmps93
        go_wp2
        go_ret3
        exact ⟨by rw [HF.out]; exact ret_es rfl (by omega), rfl⟩
      · have e92 : ((s[i + 1].toNat : Int) == 92) = false := beq_eq_false_iff_ne.2 (by omega)
        have e39 : ((s[i + 1].toNat : Int) == 39) = true := beq_iff_eq.2 hg
        clear hg
        go_enter Tryd.func93, Tryd.ntmps93
        go_wp2
        go_ret3
        exact ⟨by rw [HF.out]; exact ret_es rfl (by omega), rfl⟩
      · have e92 : ((s[i + 1].toNat : Int) == 92) = false := beq_eq_false_iff_ne.2 (by omega)
        have e39 : ((s[i + 1].toNat : Int) == 39) = false := beq_eq_false_iff_ne.2 (by omega)
        have e34 : ((s[i + 1].toNat : Int) == 34) = true := beq_iff_eq.2 hg
        clear hg
        go_enter Tryd.func93, Tryd.ntmps93
        go_wp2
        go_ret3
        exact ⟨by rw [HF.out]; exact ret_es rfl (by omega), rfl⟩
    have e92 : ((s[i + 1].toNat : Int) == 92) = false := beq_eq_false_iff_ne.2 (by omega)
    have e39 : ((s[i + 1].toNat : Int) == 39) = false := beq_eq_false_iff_ne.2 (by omega)
    have e34 : ((s[i + 1].toNat : Int) == 34) = false := beq_eq_false_iff_ne.2 (by omega)
    by_cases h120 : (s[i + 1].toNat : Int) = 120
    · have HF := (show Hid (rdEsc s i = rdHex s i) from (by show rdEsc s i = _; rw [HE.out]; rw [if_neg h110, if_neg h114, if_neg h116, if_neg hg, if_pos h120]))
      have e120 : ((s[i + 1].toNat : Int) == 120) = true := beq_iff_eq.2 h120
      clear HE h110 h114 h116 h120 hg
      go_enter Tryd.func93, Tryd.ntmps93
      go_wp2_with fail
      refine (HX.out _).mono ?_
      rintro e w' ⟨rfl, rfl⟩
      cases hq : rdHex s i with
      | none =>
        rw [hq] at HF
        clear HX hq
        dsimp only [esV]
        go_wp2
        go_ret3
        exact ⟨by rw [HF.out]; rfl, rfl⟩
      | some q =>
        obtain ⟨qb, qn⟩ := q
        rw [hq] at HF
        clear HX hq
        dsimp only [esV]
        go_wp2
        go_ret3
        exact ⟨by rw [HF.out]; rfl, rfl⟩
    have e120 : ((s[i + 1].toNat : Int) == 120) = false := beq_eq_false_iff_ne.2 h120
    have HF := (show Hid (rdEsc s i = none) from (by show rdEsc s i = _; rw [HE.out]; rw [if_neg h110, if_neg h114, if_neg h116, if_neg hg, if_neg h120]))
    clear HE HX h110 h114 h116 h120 hg
    go_enter Tryd.func93, Tryd.ntmps93
    go_wp2
    go_ret3
    exact ⟨by rw [HF.out]; rfl, rfl⟩
  · have HE : Hid (rdEsc s i = none) := (by show rdEsc s i = none; unfold rdEsc; rw [chr_out h]; rfl)
    have h1 : ¬ (i : Int) + 1 < (s.size : Int) := by omega
    go_enter Tryd.func93, Tryd.ntmps93
    go_wp2
    go_ret3
    exact ⟨by rw [HE.out]; rfl, rfl⟩

set_option maxRecDepth 100000 in
set_option maxHeartbeats 2000000 in
theorem readByte_any (s : ByteArray) (i : Nat) (h : i < s.size) (hs : s.size ≤ 140737488355328) (w : World) :
    Calls Tryd.prog 81 #[.string s, .int .i64 i] w fun e w' => e = .returned (byV (rdByte s i)) ∧ w' = w := by
  have HX : Hid (∀ w, Calls Tryd.prog 93 #[.string s, .int .i64 i] w fun e w' => e = .returned (esV (rdEsc s i)) ∧ w' = w) := fun w => readEsc_any s i h hs w
  have hb : (0 : Int) ≤ (s[i].toNat : Int) ∧ (s[i].toNat : Int) ≤ 255 := by have := s[i].toNat_lt; omega
  have HE : Hid (rdByte s i = if (s[i].toNat : Int) = 92 then (match rdEsc s i with | none => .inr (i, 21) | some p => .inl p) else if (s[i].toNat : Int) < 32 ∨ (s[i].toNat : Int) = 127 then .inr (i, 22) else .inl ((s[i].toNat : Int), i + 1)) := (by show rdByte s i = _; unfold rdByte; rw [chr_in h]; rfl)
  by_cases h92 : (s[i].toNat : Int) = 92
  · have e92 : ((s[i].toNat : Int) == 92) = true := beq_iff_eq.2 h92
    have HF := (show Hid (rdByte s i = (match rdEsc s i with | none => .inr (i, 21) | some p => .inl p)) from (by show rdByte s i = _; rw [HE.out, if_pos h92]))
    clear HE h92
    go_enter Tryd.func81, Tryd.ntmps81
    go_wp2_with fail
    refine (HX.out _).mono ?_
    rintro e w' ⟨rfl, rfl⟩
    cases hq : rdEsc s i with
    | none =>
      rw [hq] at HF
      clear HX hq
      dsimp only [esV]
      go_wp2
      go_ret3
      exact ⟨by rw [HF.out]; rfl, rfl⟩
    | some q =>
      obtain ⟨qb, qn⟩ := q
      rw [hq] at HF
      clear HX hq
      dsimp only [esV]
      go_wp2
      go_ret3
      exact ⟨by rw [HF.out]; rfl, rfl⟩
  · have e92 : ((s[i].toNat : Int) == 92) = false := beq_eq_false_iff_ne.2 h92
    clear HX
    by_cases h32 : (s[i].toNat : Int) < 32
    · have HF := (show Hid (rdByte s i = .inr (i, 22)) from (by show rdByte s i = _; rw [HE.out, if_neg h92, if_pos (.inl h32)]))
      clear HE h92
      go_enter Tryd.func81, Tryd.ntmps81
      go_wp2
      go_ret3
      exact ⟨by rw [HF.out]; rfl, rfl⟩
    by_cases h127 : (s[i].toNat : Int) = 127
    · have HF := (show Hid (rdByte s i = .inr (i, 22)) from (by show rdByte s i = _; rw [HE.out, if_neg h92, if_pos (.inr h127)]))
      have e127 : ((s[i].toNat : Int) == 127) = true := beq_iff_eq.2 h127
      clear HE h92 h127
      go_enter Tryd.func81, Tryd.ntmps81
      go_wp2
      go_ret3
      exact ⟨by rw [HF.out]; rfl, rfl⟩
    · have HF := (show Hid (rdByte s i = .inl ((s[i].toNat : Int), i + 1)) from (by show rdByte s i = _; rw [HE.out, if_neg h92, if_neg (by omega)]))
      have e127 : ((s[i].toNat : Int) == 127) = false := beq_eq_false_iff_ne.2 h127
      clear HE h92 h127
      go_enter Tryd.func81, Tryd.ntmps81
      go_wp2
      go_ret3
      exact ⟨by rw [HF.out]; exact ret_by rfl (by omega), rfl⟩
end Go.Proofs.YthffklhojdldkaaDoor.Q

namespace Go.Proofs.YthffklhojdldkaaDoor.Q
open Go.RowKit
theorem Tryd.info5 : (Tryd.prog.info? 5).map (fun i => (i.zero, i.size, i.bytes)) = some (some (.int .u8 0), 1, 1) := by kernel_rfl

/-- The text of a row of bytes that the call owns. -/
theorem text_own {w : World} {base : Nat} {v : Value} {l : List Int} (h : w.ownsRow base 5 1 v l.length (l.map (Value.int .u8))) :
    (convert 39 9 v).run Tryd.prog w = .ok (.string (asText l)) w := by
  have hc := h
  obtain ⟨hlen, h2⟩ := h
  rcases h2 with ⟨rfl, hn⟩ | ⟨g, cap, cur, rfl, _⟩
  · obtain rfl : l = [] := List.eq_nil_of_length_eq_zero hn
    rw [run_convert_bytes_string w 39 9 5 _ _ _ Tryd.underlying39 Tryd.underlying5 Tryd.underlying9]
    rfl
  · rw [run_convert_bytes_string w 39 9 5 _ _ _ Tryd.underlying39 Tryd.underlying5 Tryd.underlying9]
    refine run_bytesToString w ⟨g, 0, none⟩ l.length cap l ?_
    have := run_loadCells_list (P := Tryd.prog) (w := w) ⟨g, 0, none⟩ (l.map (Value.int .u8)) (hc.cells rfl)
    rwa [List.length_map] at this

/-- A box with a fault. -/
structure FHolds (w : World) (b : Nat) (p q : Int) : Prop where
  lt : b < w.heap.size
  c0 : w.cell? ⟨b, 0, none⟩ = some (.int .i64 p)
  c1 : w.cell? ⟨b, 1, none⟩ = some (.int .i64 q)
  f0 : w.frozen? ⟨b, 0, none⟩ = false
  f1 : w.frozen? ⟨b, 1, none⟩ = false
theorem FHolds.below {B : Nat} {w w' : World} {b : Nat} {p q : Int} (h : FHolds w b p q) (hb : Below B w w') (hB : b < B) : FHolds w' b p q :=
  ⟨Nat.lt_of_lt_of_le h.lt hb.size, (hb.cell (p := ⟨b, 0, none⟩) hB).trans h.c0, (hb.cell (p := ⟨b, 1, none⟩) hB).trans h.c1, (hb.frozen (p := ⟨b, 0, none⟩) hB).trans h.f0, (hb.frozen (p := ⟨b, 1, none⟩) hB).trans h.f1⟩
theorem FHolds.new (w : World) (p q : Int) : FHolds (w.alloc (.cells #[.int .i64 p, .int .i64 q] 26)) w.heap.size p q := by
  constructor <;> simp [go_sem]
theorem FHolds.grown {w w' : World} {b : Nat} {p q : Int} {row : Option Nat} (h : FHolds w b p q) (hg : w.grownBy w' row) (hne : row = some b → False) : FHolds w' b p q := by
  have e := hg.block b h.lt (fun e => hne e.symm)
  exact ⟨Nat.lt_of_lt_of_le h.lt hg.size, (World.cell?_of_block (a := ⟨b, 0, none⟩) e).trans h.c0, (World.cell?_of_block (a := ⟨b, 1, none⟩) e).trans h.c1, 
    (World.frozen?_of_block (a := ⟨b, 0, none⟩) e).trans h.f0, (World.frozen?_of_block (a := ⟨b, 1, none⟩) e).trans h.f1⟩
theorem FHolds.alloc {w : World} {b : Nat} {p q : Int} (h : FHolds w b p q) (o : Obj) : FHolds (w.alloc o) b p q :=
  h.below (B := w.heap.size) ((Below.refl _ _).alloc (Nat.le_refl _) _) h.lt
theorem FHolds.put {w : World} {b : Nat} {p q : Int} (h : FHolds w b p q) (p' q' : Int) : FHolds ((w.setCell ⟨b, 0, none⟩ (.int .i64 p')).setCell ⟨b, 1, none⟩ (.int .i64 q')) b p' q' := by
  obtain ⟨lt, c0, c1, f0, f1⟩ := h
  constructor <;> simp [go_sem, *]
theorem FHolds.put_other {w : World} {b c : Nat} {p q : Int} (h : FHolds w c p q) (hne : c ≠ b) (u v : Value) : FHolds ((w.setCell ⟨b, 0, none⟩ u).setCell ⟨b, 1, none⟩ v) c p q := by
  obtain ⟨lt, c0, c1, f0, f1⟩ := h
  constructor <;> simp [go_sem, *]
theorem putF_below {B : Nat} {w wr : World} {b : Nat} (hb : Below B w wr) (h : B ≤ b) (u v : Value) : Below B w ((wr.setCell ⟨b, 0, none⟩ u).setCell ⟨b, 1, none⟩ v) :=
  (hb.setCell (p := ⟨b, 0, none⟩) h _).setCell (p := ⟨b, 1, none⟩) h _

/-- What holds in the loop of a reading. -/
structure AtL (w wr : World) (v : Value) (l : List Int) : Prop where
  f : FHolds wr w.heap.size 0 0
  o : wr.ownsRow (w.heap.size + 1) 5 1 v l.length (l.map (Value.int .u8))
  b : Below w.heap.size w wr

set_option maxRecDepth 100000 in
set_option maxHeartbeats 4000000 in
theorem readBehind_any (s : ByteArray) (i : Nat) (m : Int) (hm : 0 ≤ m) (hi : i ≤ s.size) (hs : s.size ≤ 65536) (w : World) :
    Calls Tryd.prog 67 #[.string s, .int .i64 i, .int .u8 m] w fun e w' => e = .returned (cuV (rdBody s m (s.size + 1) i [])) ∧ Below w.heap.size w w' := by
  obtain ⟨i0, hinf, hz0, hz1, hz2⟩ := info_parts Tryd.info5
  generalize hR : rdBody s m (s.size + 1) i [] = R
  have HR := (show Hid _ from hR)
  clear hR
  have HF := (show Hid _ from FHolds.new w 0 0)
  have HB := (show Hid _ from (Below.refl w.heap.size w).alloc (Nat.le_refl _) (.cells #[.int .i64 0, .int .i64 0] 26))
  go_enter Tryd.func67, Tryd.ntmps67
  go_wp2_with fail
  go_loopw [1, 9] (fun t v wr => ∃ k : Nat, ∃ f : Nat, ∃ l : List Int, k ≤ s.size ∧ t = .int .i64 k ∧ l.length ≤ k ∧ Hid (s.size + 1 ≤ f + k) ∧ Hid (rdBody s m f k l = R) ∧ Hid (AtL w wr v l)) (fun t _ _ => s.size - (intOf t).toNat)
  case atStart => exact ⟨i, s.size + 1, [], hi, by go_num, by simp, show _ ≤ _ by omega, HR, ⟨HF.out, World.ownsRow_nil _ _ _ _, HB.out⟩⟩
  case round =>
    obtain ⟨k, f, l, hk, rfl, hl, hf, hr, ha⟩ := hrel
    obtain ⟨g, rfl⟩ : ∃ g, f = g + 1 := ⟨f - 1, by have h := hf.out; omega⟩
    clear HR HF HB
    have hlt : w.heap.size < wr.heap.size := ha.out.f.lt
    by_cases hks : k < s.size
    · have hb := chr_bd hks
      have HC := (show Hid _ from chr_in hks)
      by_cases hm1 : chr s k = m
      · have hr' := (show Hid (R = .inl (l, k + 1)) from (hr.out.symm.trans (rdBody_end hm1)))
        have em : ((s[k].toNat : Int) == m) = true := beq_iff_eq.2 (by rw [← HC.out]; exact hm1)
        have ht := text_own ha.out.o
        clear hr hf hm1 hb HC
        obtain ⟨_, c0, c1, f0, f1⟩ := ha.out.f
        go_wp2_with fail
        rw [hr'.out]
        refine bodyPost_ret (v := cuV (.inl (l, k + 1))) (by simp [results, Tryd.results67, go_sem, cuV, *]) rfl ⟨rfl, ?_⟩
        exact putF_below ha.out.b (Nat.le_refl _) _ _
      · have em : ((s[k].toNat : Int) == m) = false := beq_eq_false_iff_ne.2 (by rw [← HC.out]; exact hm1)
        have HRB : Hid (∀ w, Calls Tryd.prog 81 #[.string s, .int .i64 k] w fun e w' => e = .returned (byV (rdByte s k)) ∧ w' = w) := fun w => readByte_any s k hks (by omega) w
        cases hq : rdByte s k with
        | inr pq =>
          obtain ⟨a, c⟩ := pq
          obtain ⟨rfl, hc⟩ := rdByte_err hq
          have hr' := (show Hid (R = .inr (k, c)) from (hr.out.symm.trans (rdBody_err hm1 hks hq)))
          have hc0 : (c != 0) = true := bne_iff_ne.2 (by omega)
          rw [hq] at HRB
          dsimp only [byV] at HRB
          clear hr hf hm1 hb HC hq hc
          obtain ⟨_, c0, c1, f0, f1⟩ := ha.out.f
          go_wp2_with fail
          refine (HRB.out _).mono ?_
          rintro e w1 ⟨rfl, rfl⟩
          go_wp2_with fail
          rw [hr'.out]
          refine bodyPost_ret (v := cuV (.inr (k, c))) (by simp [results, Tryd.results67, go_sem, cuV, *]) rfl ⟨rfl, ?_⟩
          exact putF_below ha.out.b (Nat.le_refl _) _ _
        | inl p =>
          obtain ⟨b, n⟩ := p
          obtain ⟨b0, b1, b2, b3⟩ := rdByte_bd hq
          have hr' := (show Hid (rdBody s m g n (l ++ [b]) = R) from ((rdBody_step hm1 hks hq).symm.trans hr.out))
          have hf' := (show Hid (s.size + 1 ≤ g + n) from (by have h := hf.out; show _ ≤ _; omega))
          rw [hq] at HRB
          dsimp only [byV] at HRB
          clear hr hf hm1 hb HC hq
          have hO1 := ha.out.o
          go_wp2_with fail
          refine (HRB.out _).mono ?_
          rintro e w1 ⟨rfl, rfl⟩
          go_wp2_with (at_builtin; refine wpList_append_own _ rfl _ _ 39 rfl (w.heap.size + 1) 5 i0 (.int .u8 0) 1 1 Tryd.underlying39 hinf hz0 hz1 hz2 rfl (by decide) _ _ _ rfl (hO1.alloc _) ⟨w1.heap.size, 0, none⟩ 1 1 [.int .u8 b] rfl rfl (cell_one_new _ _ _) ?c2 ?c3 ?c4 ?c5 ?_)
          case c2 => intro u hu; simp at hu; subst hu; rfl
          case c3 => unfold maxLen; omega
          case c4 => omega
          case c5 => simp; omega
          intro v' w2 hown' hgrow _
          have hle := fun j e => (hO1.lt j e).1
          have HA2 := (show Hid (AtL w w2 v' (l ++ [b])) from (by
            refine ⟨(ha.out.f.alloc (.cells #[.int .u8 b] 5)).grown hgrow (fun e => by have := hle _ e; omega), ?_, (ha.out.b.alloc (by omega) (.cells #[.int .u8 b] 5)).grown hgrow (by simp; omega) (fun j e => by have := hle j e; omega)⟩
            rw [List.length_append, List.map_append]
            exact hown'))
          clear hO1 hown' hgrow hle ha
          go_wp2
          go_roundw
          case rel => exact ⟨n, g, l ++ [b], b3, rfl, by simp; omega, hf', hr', HA2⟩
          case measure => simp [intOf]; omega
    · have hr' := (show Hid (R = .inr (k, 22)) from (hr.out.symm.trans ((rdBody_out (by omega) hm).trans (by rw [show k = s.size from by omega]))))
      clear hr hf
      obtain ⟨_, c0, c1, f0, f1⟩ := ha.out.f
      go_wp2_with fail
      rw [hr'.out]
      refine bodyPost_ret (v := cuV (.inr (k, 22))) (by simp [results, Tryd.results67, go_sem, cuV, *]) rfl ⟨rfl, ?_⟩
      exact putF_below ha.out.b (Nat.le_refl _) _ _
end Go.Proofs.YthffklhojdldkaaDoor.Q

namespace Go.Proofs.YthffklhojdldkaaDoor.Q
open Go.RowKit
set_option maxRecDepth 100000 in
set_option maxHeartbeats 4000000 in
theorem cut_any (s : ByteArray) (i : Int) (w : World) :
    Calls Tryd.prog 49 #[.string s, .int .i64 i] w fun e w' => e = .returned (cuV (rdCut s i)) ∧ Below w.heap.size w w' := by
  have HF := (show Hid _ from FHolds.new w 0 0)
  have HB := (show Hid _ from (Below.refl w.heap.size w).alloc (Nat.le_refl _) (.cells #[.int .i64 0, .int .i64 0] 26))
  have HP : Hid (∀ w, Calls Tryd.prog 65 #[.string s, .int .i64 i] w fun e w' => e = .returned (.int .i64 (cpE s i)) ∧ w' = w) := fun w => checkPlace_any s i w
  by_cases hcp : cpE s i = 0
  · have hc : ¬ 65536 < s.size ∧ ¬ (i < 0 ∨ (s.size : Int) < i) := by
      unfold cpE at hcp; split at hcp
      · omega
      · split at hcp
        · omega
        · next a b => exact ⟨a, b⟩
    obtain ⟨h1, h2⟩ := hc
    have h0 : 0 ≤ i := by omega
    obtain ⟨n, rfl⟩ := Int.eq_ofNat_of_zero_le h0
    have HE : Hid (rdCut s (n : Int) = if chr s n = 39 ∨ chr s n = 34 then rdBody s (chr s n) (s.size + 1) (n + 1) [] else .inr (n, 20)) := (by show rdCut s (n : Int) = _; unfold rdCut; rw [if_neg h1, if_neg h2, Int.toNat_natCast])
    rw [hcp] at HP
    clear hcp
    by_cases hn : n < s.size
    · have hnI : (n : Int) < (s.size : Int) := by omega
      have en : ((n : Int) == (s.size : Int)) = false := beq_eq_false_iff_ne.2 (by omega)
      have HC := (show Hid _ from chr_in hn)
      have hb := chr_bd hn
      rw [HC.out] at hb
      have HM : Hid (∀ w, Calls Tryd.prog 66 #[.int .u8 (s[n].toNat : Int)] w fun e w' => e = .returned (.bool (mkB (s[n].toNat : Int))) ∧ w' = w) := fun w => isMark_any _ w
      cases hmk : mkB (s[n].toNat : Int)
      · have HG := (show Hid (rdCut s (n : Int) = .inr (n, 20)) from (by
          show rdCut s (n : Int) = _
          rw [HE.out, if_neg]
          rw [HC.out]
          unfold mkB at hmk
          simp at hmk
          omega))
        rw [hmk] at HM
        clear HE hmk HC
        go_enter Tryd.func49, Tryd.ntmps49
        go_wp2_with fail
        refine (HP.out _).mono ?_
        rintro e w1 ⟨rfl, rfl⟩
        go_wp2_with fail
        refine (HM.out _).mono ?_
        rintro e w1 ⟨rfl, rfl⟩
        obtain ⟨_, c0, c1, f0, f1⟩ := HF.out
        go_wp2_with fail
        rw [HG.out]
        refine bodyPost_ret (v := cuV (.inr (n, 20))) (by simp [results, Tryd.results49, go_sem, cuV, *]) rfl ⟨rfl, ?_⟩
        exact (Below.refl _ _).alloc (Nat.le_refl _) _
      · have HG := (show Hid (rdCut s (n : Int) = rdBody s (s[n].toNat : Int) (s.size + 1) (n + 1) []) from (by
          show rdCut s (n : Int) = _
          rw [HE.out, if_pos]
          · rw [HC.out]
          · rw [HC.out]
            unfold mkB at hmk
            simp at hmk
            omega))
        have HR : Hid (∀ w, Calls Tryd.prog 67 #[.string s, .int .i64 ((n : Int) + 1), .int .u8 (s[n].toNat : Int)] w fun e w' => e = .returned (cuV (rdBody s (s[n].toNat : Int) (s.size + 1) (n + 1) [])) ∧ Below w.heap.size w w') := fun w => readBehind_any s (n + 1) _ (by omega) (by omega) (by omega) w
        rw [hmk] at HM
        rw [← HG.out] at HR
        clear HE hmk HC HG
        generalize rdCut s (n : Int) = R at *
        go_enter Tryd.func49, Tryd.ntmps49
        go_wp2_with fail
        refine (HP.out _).mono ?_
        rintro e w1 ⟨rfl, rfl⟩
        go_wp2_with fail
        refine (HM.out _).mono ?_
        rintro e w1 ⟨rfl, rfl⟩
        go_wp2_with fail
        refine (HR.out _).mono ?_
        rintro e w2 ⟨rfl, hb2⟩
        have HF2 := (show Hid _ from HF.out.below hb2 HF.out.lt)
        have HB2 := (show Hid _ from HB.out.trans (hb2.mono HB.out.size))
        have hl : w.heap.size < w2.heap.size := HF2.out.lt
        clear hb2 HR
        obtain ⟨_, c0, c1, f0, f1⟩ := HF2.out
        cases R with
        | inr pq =>
          obtain ⟨a, c⟩ := pq
          dsimp only [cuV]
          go_wp2_with fail
          refine bodyPost_ret (v := cuV (.inr (a, c))) (by simp [results, Tryd.results49, go_sem, cuV, *]) rfl ⟨rfl, ?_⟩
          exact putF_below HB2.out (Nat.le_refl _) _ _
        | inl p =>
          obtain ⟨l, e⟩ := p
          dsimp only [cuV]
          go_wp2_with fail
          refine bodyPost_ret (v := cuV (.inl (l, e))) (by simp [results, Tryd.results49, go_sem, cuV, *]) rfl ⟨rfl, ?_⟩
          exact putF_below HB2.out (Nat.le_refl _) _ _
    · have hnI : ¬ (n : Int) < (s.size : Int) := by omega
      have en : ((n : Int) == (s.size : Int)) = true := beq_iff_eq.2 (by omega)
      have HG := (show Hid (rdCut s (n : Int) = .inr (n, 20)) from (by
        show rdCut s (n : Int) = _
        rw [HE.out, if_neg]
        rw [chr_out hn]
        omega))
      clear HE
      go_enter Tryd.func49, Tryd.ntmps49
      go_wp2_with fail
      refine (HP.out _).mono ?_
      rintro e w1 ⟨rfl, rfl⟩
      obtain ⟨_, c0, c1, f0, f1⟩ := HF.out
      go_wp2_with fail
      rw [HG.out]
      refine bodyPost_ret (v := cuV (.inr (n, 20))) (by simp [results, Tryd.results49, go_sem, cuV, *]) rfl ⟨rfl, ?_⟩
      exact (Below.refl _ _).alloc (Nat.le_refl _) _
  · have HG := (show Hid (rdCut s i = .inr (0, (cpE s i))) from (by
      show rdCut s i = _
      unfold rdCut cpE at *
      split
      · rfl
      · next h => 
        rw [if_neg h] at hcp
        split
        · rfl
        · next h2 => rw [if_neg h2] at hcp; exact absurd rfl hcp))
    have ec : (cpE s i != 0) = true := bne_iff_ne.2 hcp
    clear hcp
    generalize cpE s i = c at *
    go_enter Tryd.func49, Tryd.ntmps49
    go_wp2_with fail
    refine (HP.out _).mono ?_
    rintro e w1 ⟨rfl, rfl⟩
    obtain ⟨_, c0, c1, f0, f1⟩ := HF.out
    go_wp2_with fail
    rw [HG.out]
    refine bodyPost_ret (v := cuV (.inr (0, c))) (by simp [results, Tryd.results49, go_sem, cuV, *]) rfl ⟨rfl, ?_⟩
    exact (Below.refl _ _).alloc (Nat.le_refl _) _
end Go.Proofs.YthffklhojdldkaaDoor.Q
