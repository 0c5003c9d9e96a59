/- DERIVED. Plain mathematics and walks, laid together (11). -/
import Derived.Test.YtnpifgcgjgddoaaGreatDoorRows
import Derived.WalkKit
import Derived.Maps.AppendAt
import Derived.ProofKit
import Derived.Test.YtnpifgcgjgddoaaGreatDoorPb10
set_option maxRecDepth 100000
set_option maxHeartbeats 8000000
namespace Go.Proofs.YtnpifgcgjgddoaaGreatDoor
open Go.RowKit
theorem zhh {s : ByteArray} {i a : Nat} {c : Int} (h : zad s i = .inr (a, c)) : c ≠ 0 := by
 unfold zad at h
 split at h
 ·unfold za1 at h
  split at h
  ·cases h
  ·cases h; decide
 ·split at h
  ·cases h; decide
  ·split at h
   ·split at h
    ·cases h; decide
    ·split at h
     ·cases h; decide
     ·cases h
   ·cases h
theorem zdR {s : ByteArray} : ∀ (f : Nat) (x : BitVec 256) (i a : Nat) (c : Int), zab s f x i = .inr (a, c) -> c ≠ 0 := by
 intro f
 induction f with
 | zero => intro x i a c h; rw [zab] at h; cases h; decide
 | succ f ih =>
  intro x i a c h
  rw [zab] at h
  split at h
  ·cases h
  ·split at h
   ·next a2 c2 hm => cases h; exact zhh hm
   ·exact ih _ _ _ _ h
theorem zgu {s : ByteArray} {i : Int} {a : Nat} {c : Int} (h : zal s i = .inr (a, c)) : c ≠ 0 := by
 unfold zal at h
 split at h
 ·cases h; decide
 ·split at h
  ·split at h
   ·cases hm : zab s (s.size + 1) 0#256 (i.toNat + 2) with
    | inl p => rw [hm] at h; cases h
    | inr q => obtain ⟨a2, c2⟩ := q; rw [hm] at h; cases h; exact zdR _ _ _ _ _ hm
   ·cases hm : zab s (s.size + 1) 0#256 (i.toNat + 1) with
    | inl p => rw [hm] at h; cases h
    | inr q => obtain ⟨a2, c2⟩ := q; rw [hm] at h; cases h; exact zdR _ _ _ _ _ hm
  ·cases h; decide
def clT (s : ByteArray) (b : Nat) : Rd (BitVec 256 × Nat) -> Sum Tk (Nat × Int)
 | .inl p => .inl ⟨3, 0, b, p.2, ⟨#[]⟩, wd p.1 0, wd p.1 1, wd p.1 2, wd p.1 3⟩
 | .inr q => if q.2 = 6 /\ q.1 = s.size then .inr (b, 52) else .inr q
abbrev svO (x : BitVec 256) : Obj := .cells #[.int .u64 (wd x 0), .int .u64 (wd x 1), .int .u64 (wd x 2), .int .u64 (wd x 3)] 49
theorem zhi (s : ByteArray) (b : Nat) (hs : s.size <= 140737488355000) (w : World) : Calls Tryz.prog 115 #[.string s, .int .i64 b] w fun e w' => e = .returned (zaP (clT s b (zal s b))) /\ Below w.heap.size w w' := by
 have HF : Hid (∀ i e w, Calls Tryz.prog 135 #[.int .i64 i, .int .i64 e] w fun e' w' => e' = .returned (zaE tk0 i e) /\ Below w.heap.size w w') := fun i e w => zax i e w
 have HC : Hid (∀ w, Calls Tryz.prog 140 #[.string s, .int .i64 b] w fun e w' => e = .returned (mbV (zal s b)) /\ Below w.heap.size w w') := fun w => zm6 s b (by omega) w
 have HX : Hid (BX w ((w.alloc (tkO tk0)).alloc (fxO 0 0)) tk0 0 0) := BX.new w
 cases hr : zal s b with
 | inr p =>
  obtain ⟨a, c⟩ := p
  have hne := zgu hr
  rw [hr] at HC
  clear hr
  unfold mbV at HC
  by_cases h6 : c = 6 /\ a = s.size
  ·obtain ⟨rfl, rfl⟩ := h6
   have HE : Hid (clT s b (.inr (s.size, 6)) = .inr (b, 52)) := by show clT s b (.inr (s.size, 6)) = _; rw [clT, if_pos ⟨rfl, rfl⟩]
   go_enter Tryz.func115, Tryz.ntmps115
   go_wp2_with fail
   refine (HC.out _).mono ?_
   rintro e w2 ⟨rfl, b2⟩
   have HX2 : Hid (BX w ((w2.alloc (svO 0#256)).alloc (fxO s.size 6)) tk0 0 0) := ((HX.out.below b2).below (zaa _ _)).below (zaa _ _)
   clear b2 HX HC
   go_wp2_with fail
   refine (HF.out _ _ _).mono ?_
   rintro e w3 ⟨rfl, b3⟩
   have HX3 : Hid (BX w w3 tk0 0 0) := HX2.out.below b3
   clear b3 HX2 HF
   obtain ⟨f0, f1', f2', f3, f4, f5, f6, f7, f8, g0, g1⟩ := HX3.out.fz
   obtain ⟨c0, c1, c2, c3, c4, c5, c6, c7, c8, d0, d1⟩ := HX3.out.cells
   unfold zaE
   go_wp2_with fail
   have HP := HX3.out.put tk0 b 52
   exact zag rfl rfl rfl rfl HP ⟨by rw [HE.out]; rfl, HP.b⟩
  ·have HE : Hid (clT s b (.inr (a, c)) = .inr (a, c)) := by show clT s b (.inr (a, c)) = _; rw [clT, if_neg h6]
   have t1 : (c != 0) = true := by rw [bne, bF hne]; rfl
   by_cases hc6 : c = 6
   ·have ha : ¬ a = s.size := fun q => h6 ⟨hc6, q⟩
    have t2 : ((a : Int) == (s.size : Int)) = false := by rw [beq_eq_false_iff_ne]; omega
    subst hc6
    clear h6 hne ha t1
    go_enter Tryz.func115, Tryz.ntmps115
    go_wp2_with fail
    refine (HC.out _).mono ?_
    rintro e w2 ⟨rfl, b2⟩
    have HX2 : Hid (BX w ((w2.alloc (svO 0#256)).alloc (fxO a 6)) tk0 0 0) := ((HX.out.below b2).below (zaa _ _)).below (zaa _ _)
    clear b2 HX HC
    go_wp2_with fail
    refine (HF.out _ _ _).mono ?_
    rintro e w3 ⟨rfl, b3⟩
    have HX3 : Hid (BX w w3 tk0 0 0) := HX2.out.below b3
    clear b3 HX2 HF
    obtain ⟨f0, f1', f2', f3, f4, f5, f6, f7, f8, g0, g1⟩ := HX3.out.fz
    obtain ⟨c0, c1, c2, c3, c4, c5, c6, c7, c8, d0, d1⟩ := HX3.out.cells
    unfold zaE
    go_wp2_with fail
    have HP := HX3.out.put tk0 a 6
    exact zag rfl rfl rfl rfl HP ⟨by rw [HE.out]; rfl, HP.b⟩
   ·have t2 : (c == 6) = false := bF hc6
    clear h6 hne hc6
    go_enter Tryz.func115, Tryz.ntmps115
    go_wp2_with fail
    refine (HC.out _).mono ?_
    rintro e w2 ⟨rfl, b2⟩
    have HX2 : Hid (BX w ((w2.alloc (svO 0#256)).alloc (fxO a c)) tk0 0 0) := ((HX.out.below b2).below (zaa _ _)).below (zaa _ _)
    clear b2 HX HC
    go_wp2_with fail
    refine (HF.out _ _ _).mono ?_
    rintro e w3 ⟨rfl, b3⟩
    have HX3 : Hid (BX w w3 tk0 0 0) := HX2.out.below b3
    clear b3 HX2 HF
    obtain ⟨f0, f1', f2', f3, f4, f5, f6, f7, f8, g0, g1⟩ := HX3.out.fz
    obtain ⟨c0, c1, c2, c3, c4, c5, c6, c7, c8, d0, d1⟩ := HX3.out.cells
    unfold zaE
    go_wp2_with fail
    have HP := HX3.out.put tk0 a c
    exact zag rfl rfl rfl rfl HP ⟨by rw [HE.out]; rfl, HP.b⟩
 | inl p =>
  obtain ⟨x, n⟩ := p
  rw [hr] at HC
  clear hr HF
  unfold mbV at HC
  have HE : Hid (clT s b (.inl (x, n)) = .inl ⟨3, 0, b, n, ⟨#[]⟩, wd x 0, wd x 1, wd x 2, wd x 3⟩) := rfl
  go_enter Tryz.func115, Tryz.ntmps115
  go_wp2_with fail
  refine (HC.out _).mono ?_
  rintro e w2 ⟨rfl, b2⟩
  have HX2 : Hid (BX w w2 tk0 0 0) := HX.out.below b2
  clear b2 HX HC
  obtain ⟨f0, f1', f2', f3, f4, f5, f6, f7, f8, g0, g1⟩ := HX2.out.fz
  obtain ⟨c0, c1, c2, c3, c4, c5, c6, c7, c8, d0, d1⟩ := HX2.out.cells
  have hsz2 := HX2.out.size
  have hl1 : w.heap.size < w2.heap.size := by omega
  have hne1 : w.heap.size ≠ w2.heap.size := by omega
  have hne2 : w.heap.size + 1 ≠ w2.heap.size := by omega
  go_wp2_with fail
  have HP := ((HX2.out.put ⟨3, 0, b, n, ⟨#[]⟩, wd x 0, wd x 1, wd x 2, wd x 3⟩ 0 0).below (zaa _ (svO x))).below (zaa _ (fxO 0 0))
  exact zag rfl rfl rfl rfl HP ⟨by rw [HE.out]; rfl, HP.b⟩
def zcr (s : ByteArray) (b : Nat) : Sum Tk (Nat × Int) :=
 if pfx s b [37, 117, 123] = true then zbY s b else if ¬ (zai s b).1 = 0 then zbk s b
 else if b + 1 < s.size /\ (cls (chr s (b + 1)).toNat).2 = 0 then .inl ⟨28, 0, b, (b + 2 : Nat), s.extract (b + 1) (b + 2), wd (cls (chr s (b + 1)).toNat).1 0, wd (cls (chr s (b + 1)).toNat).1 1, wd (cls (chr s (b + 1)).toNat).1 2, wd (cls (chr s (b + 1)).toNat).1 3⟩ else .inr (b, 10)
structure AtP (w W : World) (c : Nat) (y : BitVec 256) : Prop where
 x : BX w W tk0 0 0
 h : Holds W c y
theorem AtP.below {w W W' : World} {c : Nat} {x : BitVec 256} (h : AtP w W c x) (hb : Below W.heap.size W W') : AtP w W' c x := ⟨h.x.below hb, h.h.below hb h.h.lt⟩
theorem zm7 (k : Int) (tx : ByteArray) (W : World) : (Instr.field 169 (.agg #[.int .i64 k, .string tx]) 0).run Tryz.prog W = .ok (.int .i64 k) W := by simp [Instr.field, run_underlying Tryz.underlying169, asAgg, go_sem]
theorem AtP.drew {w W : World} {c : Nat} {x : BitVec 256} (h : AtP w W c x) : AtP w W.drew c x := h.below (Below.refl _ _).drew
theorem zkA (s : ByteArray) (b : Nat) (hs : s.size <= 140737488355000) (hb : b <= s.size) (h : pfx s b [37, 117, 123] = true) (w : World) (hg : SG w) : Calls Tryz.prog 116 #[.string s, .int .i64 b] w fun e w' => e = .returned (zaP (zcr s b)) /\ Below w.heap.size w w' := by
 have HS : Hid (∀ w, Calls Tryz.prog 86 #[.string s, .int .i64 b, .string ⟨#[37, 117, 123]⟩] w fun e w' => e = .returned (.bool (pfx s b [37, 117, 123])) /\ w' = w) := fun w => zar s b ⟨#[37, 117, 123]⟩ hb w
 have HX : Hid (BX w ((w.alloc (tkO tk0)).alloc (fxO 0 0)) tk0 0 0) := BX.new w
 have HG : Hid (SG ((w.alloc (tkO tk0)).alloc (fxO 0 0))) := (hg.later (zaa _ _)).later (zaa _ _)
 have HSA : Hid (∀ w, SG w -> Calls Tryz.prog 142 #[.string s, .int .i64 b] w fun e w' => e = .returned (.agg #[.int .i64 (zai s b).1, .string ⟨(zai s b).2.toArray⟩]) /\ Below w.heap.size w w') := fun w h => zaR s b hb w h
 clear hg
 have HN : Hid (∀ w, Calls Tryz.prog 141 #[.string s, .int .i64 b] w fun e w' => e = .returned (zaP (zbY s b)) /\ Below w.heap.size w w') := fun w => zfG s b hs (zfI hb h) w
 have HE : Hid (zcr s b = zbY s b) := by show zcr s b = _; unfold zcr; rw [if_pos h]
 rw [h] at HS
 clear HSA HG h
 go_enter Tryz.func116, Tryz.ntmps116
 go_wp2_with fail
 refine (HS.out _).mono ?_
 rintro e w1 ⟨rfl, rfl⟩
 clear HS
 go_wp2_with fail
 refine (HN.out _).mono ?_
 rintro e w3 ⟨rfl, b3⟩
 have HX3 : Hid (BX w w3 tk0 0 0) := HX.out.below b3
 clear b3 HX HN
 obtain ⟨f0, f1', f2', f3, f4, f5, f6, f7, f8, g0, g1⟩ := HX3.out.fz
 obtain ⟨c0, c1, c2, c3, c4, c5, c6, c7, c8, d0, d1⟩ := HX3.out.cells
 generalize zbY s b = r at *
 cases r with
 | inl t =>
  unfold zaP
  go_wp2_with fail
  have HP := HX3.out.put t 0 0
  exact zag rfl rfl rfl rfl HP ⟨by rw [HE.out]; rfl, HP.b⟩
 | inr q =>
  unfold zaP
  go_wp2_with fail
  have HP := HX3.out.put tk0 q.1 q.2
  exact zag rfl rfl rfl rfl HP ⟨by rw [HE.out]; rfl, HP.b⟩
theorem zpO (s : ByteArray) (b : Nat) (hs : s.size <= 140737488355000) (hb : b <= s.size) (h : pfx s b [37, 117, 123] = false) (h2 : ¬ (zai s b).1 = 0) (w : World) (hg : SG w) : Calls Tryz.prog 116 #[.string s, .int .i64 b] w fun e w' => e = .returned (zaP (zcr s b)) /\ Below w.heap.size w w' := by
 have HS : Hid (∀ w, Calls Tryz.prog 86 #[.string s, .int .i64 b, .string ⟨#[37, 117, 123]⟩] w fun e w' => e = .returned (.bool (pfx s b [37, 117, 123])) /\ w' = w) := fun w => zar s b ⟨#[37, 117, 123]⟩ hb w
 have HX : Hid (BX w ((w.alloc (tkO tk0)).alloc (fxO 0 0)) tk0 0 0) := BX.new w
 have HG : Hid (SG ((w.alloc (tkO tk0)).alloc (fxO 0 0))) := (hg.later (zaa _ _)).later (zaa _ _)
 have HSA : Hid (∀ w, SG w -> Calls Tryz.prog 142 #[.string s, .int .i64 b] w fun e w' => e = .returned (.agg #[.int .i64 (zai s b).1, .string ⟨(zai s b).2.toArray⟩]) /\ Below w.heap.size w w') := fun w h => zaR s b hb w h
 clear hg
 have HN : Hid (∀ w, SG w -> Calls Tryz.prog 117 #[.string s, .int .i64 b] w fun e w' => e = .returned (zaP (zbk s b)) /\ Below w.heap.size w w') := fun w g => zdP s b hs hb w g
 have HE : Hid (zcr s b = zbk s b) := by show zcr s b = _; unfold zcr; rw [if_neg (by rw [h]; decide), if_pos h2]
 have v1 : ((zai s b).1 != 0) = true := by rw [bne, bF h2]; rfl
 rw [h] at HS
 clear h h2
 generalize (zai s b).1 = k at *
 generalize ByteArray.mk (zai s b).2.toArray = tx at *
 have hfld := zm7 k tx
 go_enter Tryz.func116, Tryz.ntmps116
 go_wp2_with fail
 refine (HS.out _).mono ?_
 rintro e w1 ⟨rfl, rfl⟩
 clear HS
 go_wp2_with fail
 refine (HSA.out _ HG.out).mono ?_
 rintro e w2 ⟨rfl, b2⟩
 have HX2 : Hid (BX w w2 tk0 0 0) := HX.out.below b2
 have HG2 : Hid (SG w2) := HG.out.later b2
 clear b2 HX HG HSA
 go_wp2_with fail
 refine (HN.out _ HG2.out).mono ?_
 rintro e w3 ⟨rfl, b3⟩
 have HX3 : Hid (BX w w3 tk0 0 0) := HX2.out.below b3
 clear b3 HX2 HN HG2
 obtain ⟨f0, f1', f2', f3, f4, f5, f6, f7, f8, g0, g1⟩ := HX3.out.fz
 obtain ⟨c0, c1, c2, c3, c4, c5, c6, c7, c8, d0, d1⟩ := HX3.out.cells
 generalize zbk s b = r at *
 cases r with
 | inl t =>
  unfold zaP
  go_wp2_with fail
  have HP := HX3.out.put t 0 0
  exact zag rfl rfl rfl rfl HP ⟨by rw [HE.out]; rfl, HP.b⟩
 | inr q =>
  unfold zaP
  go_wp2_with fail
  have HP := HX3.out.put tk0 q.1 q.2
  exact zag rfl rfl rfl rfl HP ⟨by rw [HE.out]; rfl, HP.b⟩
theorem pc_end (s : ByteArray) (b : Nat) (hs : s.size <= 140737488355000) (hb : b <= s.size) (h : pfx s b [37, 117, 123] = false) (h2 : (zai s b).1 = 0) (h3 : ¬ b + 1 < s.size) (w : World) (hg : SG w) : Calls Tryz.prog 116 #[.string s, .int .i64 b] w fun e w' => e = .returned (zaP (zcr s b)) /\ Below w.heap.size w w' := by
 have HS : Hid (∀ w, Calls Tryz.prog 86 #[.string s, .int .i64 b, .string ⟨#[37, 117, 123]⟩] w fun e w' => e = .returned (.bool (pfx s b [37, 117, 123])) /\ w' = w) := fun w => zar s b ⟨#[37, 117, 123]⟩ hb w
 have HX : Hid (BX w ((w.alloc (tkO tk0)).alloc (fxO 0 0)) tk0 0 0) := BX.new w
 have HG : Hid (SG ((w.alloc (tkO tk0)).alloc (fxO 0 0))) := (hg.later (zaa _ _)).later (zaa _ _)
 have HSA : Hid (∀ w, SG w -> Calls Tryz.prog 142 #[.string s, .int .i64 b] w fun e w' => e = .returned (.agg #[.int .i64 (zai s b).1, .string ⟨(zai s b).2.toArray⟩]) /\ Below w.heap.size w w') := fun w h => zaR s b hb w h
 clear hg
 have HF : Hid (∀ i e w, Calls Tryz.prog 135 #[.int .i64 i, .int .i64 e] w fun e' w' => e' = .returned (zaE tk0 i e) /\ Below w.heap.size w w') := fun i e w => zax i e w
 have HE : Hid (zcr s b = .inr (b, 10)) := by show zcr s b = _; unfold zcr; rw [if_neg (by rw [h]; decide), if_neg (fun q => q h2), if_neg (fun q => h3 q.1)]
 have z1 : ¬ (b : Int) + 1 < (s.size : Int) := by omega
 have v1 : ((zai s b).1 != 0) = false := by rw [h2]; rfl
 rw [h] at HS
 clear h h2
 generalize (zai s b).1 = k at *
 generalize ByteArray.mk (zai s b).2.toArray = tx at *
 have hfld := zm7 k tx
 go_enter Tryz.func116, Tryz.ntmps116
 go_wp2_with fail
 refine (HS.out _).mono ?_
 rintro e w1 ⟨rfl, rfl⟩
 clear HS
 go_wp2_with fail
 refine (HSA.out _ HG.out).mono ?_
 rintro e w2 ⟨rfl, b2⟩
 have HX2 : Hid (BX w w2 tk0 0 0) := HX.out.below b2
 have HG2 : Hid (SG w2) := HG.out.later b2
 clear b2 HX HG HSA
 go_wp2_with fail
 refine (HF.out _ _ _).mono ?_
 rintro e w3 ⟨rfl, b3⟩
 have HX3 : Hid (BX w w3 tk0 0 0) := HX2.out.below b3
 clear b3 HX2 HF HG2
 obtain ⟨f0, f1', f2', f3, f4, f5, f6, f7, f8, g0, g1⟩ := HX3.out.fz
 obtain ⟨c0, c1, c2, c3, c4, c5, c6, c7, c8, d0, d1⟩ := HX3.out.cells
 unfold zaE
 go_wp2_with fail
 have HP := HX3.out.put tk0 b 10
 exact zag rfl rfl rfl rfl HP ⟨by rw [HE.out]; rfl, HP.b⟩
theorem zpP (s : ByteArray) (b : Nat) (hs : s.size <= 140737488355000) (hb : b <= s.size) (h : pfx s b [37, 117, 123] = false) (h2 : (zai s b).1 = 0) (h3 : b + 1 < s.size) (h4 : ¬ (cls (chr s (b + 1)).toNat).2 = 0) (w : World) (hg : SG w) : Calls Tryz.prog 116 #[.string s, .int .i64 b] w fun e w' => e = .returned (zaP (zcr s b)) /\ Below w.heap.size w w' := by
 have HS : Hid (∀ w, Calls Tryz.prog 86 #[.string s, .int .i64 b, .string ⟨#[37, 117, 123]⟩] w fun e w' => e = .returned (.bool (pfx s b [37, 117, 123])) /\ w' = w) := fun w => zar s b ⟨#[37, 117, 123]⟩ hb w
 have HX : Hid (BX w ((w.alloc (tkO tk0)).alloc (fxO 0 0)) tk0 0 0) := BX.new w
 have HG : Hid (SG ((w.alloc (tkO tk0)).alloc (fxO 0 0))) := (hg.later (zaa _ _)).later (zaa _ _)
 have HSA : Hid (∀ w, SG w -> Calls Tryz.prog 142 #[.string s, .int .i64 b] w fun e w' => e = .returned (.agg #[.int .i64 (zai s b).1, .string ⟨(zai s b).2.toArray⟩]) /\ Below w.heap.size w w') := fun w h => zaR s b hb w h
 clear hg
 have HF : Hid (∀ i e w, Calls Tryz.prog 135 #[.int .i64 i, .int .i64 e] w fun e' w' => e' = .returned (zaE tk0 i e) /\ Below w.heap.size w w') := fun i e w => zax i e w
 have HE : Hid (zcr s b = .inr (b, 10)) := by show zcr s b = _; unfold zcr; rw [if_neg (by rw [h]; decide), if_neg (fun q => q h2), if_neg (fun q => h4 q.2)]
 have hc := zak h3
 obtain ⟨c, hcc⟩ : ∃ c : Nat, c = (chr s (b + 1)).toNat := ⟨_, rfl⟩
 have hcn : (s[b + 1].toNat : Int) = c := by rw [hcc, hc]; omega
 have hclt : c < 256 := by have := zdd s (b + 1); omega
 have HC : Hid (∀ w, Calls Tryz.prog 143 #[.int .u8 (s[b + 1].toNat : Int)] w fun e w' => e = .returned (.tuple #[sv (cls c).1, .int .i64 (cls c).2]) /\ Below w.heap.size w w') := fun w => by rw [hcn]; exact zex c hclt w
 obtain ⟨j1, hj1⟩ : ∃ j, j = b + 1 := ⟨_, rfl⟩
 obtain ⟨j2, hj2⟩ : ∃ j, j = b + 2 := ⟨_, rfl⟩
 have u1 : IntKind.i64.wrap ((b : Int) + 1) = (j1 : Int) := by rw [hj1, IntKind.wrap_i64]; omega
 have u2 : IntKind.i64.wrap ((b : Int) + 2) = (j2 : Int) := by rw [hj2, IntKind.wrap_i64]; omega
 have y0 : (0 : Int) <= (j1 : Int) := by omega
 have y1 : (j1 : Int) <= (j2 : Int) := by omega
 have y2 : (j2 : Int) <= (s.size : Int) := by omega
 have y3 : (j1 : Int) < (s.size : Int) := by omega
 have h3' : j1 < s.size := by omega
 have HC2 : Hid (∀ w, Calls Tryz.prog 143 #[.int .u8 (s[j1].toNat : Int)] w fun e w' => e = .returned (.tuple #[sv (cls c).1, .int .i64 (cls c).2]) /\ Below w.heap.size w w') := by subst hj1; exact HC
 clear HC hcn hc hclt
 rw [<- hcc] at h4
 have v4 : ((cls c).2 == 0) = false := bF h4
 clear hcc h4 hj1 hj2
 generalize (cls c).2 = q at *
 generalize (cls c).1 = x at *
 have v1 : ((zai s b).1 != 0) = false := by rw [h2]; rfl
 rw [h] at HS
 clear h h2
 generalize (zai s b).1 = k at *
 generalize ByteArray.mk (zai s b).2.toArray = tx at *
 have hfld := zm7 k tx
 go_enter Tryz.func116, Tryz.ntmps116
 go_wp2_with fail
 refine (HS.out _).mono ?_
 rintro e w1 ⟨rfl, rfl⟩
 clear HS
 go_wp2_with fail
 refine (HSA.out _ HG.out).mono ?_
 rintro e w2 ⟨rfl, b2⟩
 have HX2 : Hid (BX w w2 tk0 0 0) := HX.out.below b2
 have HG2 : Hid (SG w2) := HG.out.later b2
 clear b2 HX HG HSA
 go_wp2_with fail
 refine (HC2.out _).mono ?_
 rintro e w3 ⟨rfl, b3⟩
 have HX3 : Hid (BX w (w3.alloc (svO x)) tk0 0 0) := (HX2.out.below b3).below (zaa _ _)
 clear b3 HX2 HC2 HG2
 go_wp2_with fail
 refine (HF.out _ _ _).mono ?_
 rintro e w4 ⟨rfl, b4⟩
 have HX4 : Hid (BX w w4 tk0 0 0) := HX3.out.below b4
 clear b4 HX3 HF
 obtain ⟨f0, f1', f2', f3, f4, f5, f6, f7, f8, g0, g1⟩ := HX4.out.fz
 obtain ⟨c0, c1, c2, c3, c4, c5, c6, c7, c8, d0, d1⟩ := HX4.out.cells
 unfold zaE
 go_wp2_with fail
 have HP := HX4.out.put tk0 b 10
 exact zag rfl rfl rfl rfl HP ⟨by rw [HE.out]; rfl, HP.b⟩
theorem zm8 (s : ByteArray) (b : Nat) (hs : s.size <= 140737488355000) (hb : b <= s.size) (h : pfx s b [37, 117, 123] = false) (h2 : (zai s b).1 = 0) (h3 : b + 1 < s.size) (h4 : (cls (chr s (b + 1)).toNat).2 = 0) (w : World) (hg : SG w) : Calls Tryz.prog 116 #[.string s, .int .i64 b] w fun e w' => e = .returned (zaP (zcr s b)) /\ Below w.heap.size w w' := by
 have HS : Hid (∀ w, Calls Tryz.prog 86 #[.string s, .int .i64 b, .string ⟨#[37, 117, 123]⟩] w fun e w' => e = .returned (.bool (pfx s b [37, 117, 123])) /\ w' = w) := fun w => zar s b ⟨#[37, 117, 123]⟩ hb w
 have HX : Hid (BX w ((w.alloc (tkO tk0)).alloc (fxO 0 0)) tk0 0 0) := BX.new w
 have HG : Hid (SG ((w.alloc (tkO tk0)).alloc (fxO 0 0))) := (hg.later (zaa _ _)).later (zaa _ _)
 have HSA : Hid (∀ w, SG w -> Calls Tryz.prog 142 #[.string s, .int .i64 b] w fun e w' => e = .returned (.agg #[.int .i64 (zai s b).1, .string ⟨(zai s b).2.toArray⟩]) /\ Below w.heap.size w w') := fun w h => zaR s b hb w h
 clear hg
 have HE : Hid (zcr s b = .inl ⟨28, 0, b, (b + 2 : Nat), s.extract (b + 1) (b + 2), wd (cls (chr s (b + 1)).toNat).1 0, wd (cls (chr s (b + 1)).toNat).1 1, wd (cls (chr s (b + 1)).toNat).1 2, wd (cls (chr s (b + 1)).toNat).1 3⟩) := by show zcr s b = _; unfold zcr; rw [if_neg (by rw [h]; decide), if_neg (fun q => q h2), if_pos ⟨h3, h4⟩]
 have hc := zak h3
 obtain ⟨c, hcc⟩ : ∃ c : Nat, c = (chr s (b + 1)).toNat := ⟨_, rfl⟩
 have hcn : (s[b + 1].toNat : Int) = c := by rw [hcc, hc]; omega
 have hclt : c < 256 := by have := zdd s (b + 1); omega
 have HC : Hid (∀ w, Calls Tryz.prog 143 #[.int .u8 (s[b + 1].toNat : Int)] w fun e w' => e = .returned (.tuple #[sv (cls c).1, .int .i64 (cls c).2]) /\ Below w.heap.size w w') := fun w => by rw [hcn]; exact zex c hclt w
 obtain ⟨j1, hj1⟩ : ∃ j, j = b + 1 := ⟨_, rfl⟩
 obtain ⟨j2, hj2⟩ : ∃ j, j = b + 2 := ⟨_, rfl⟩
 have u1 : IntKind.i64.wrap ((b : Int) + 1) = (j1 : Int) := by rw [hj1, IntKind.wrap_i64]; omega
 have u2 : IntKind.i64.wrap ((b : Int) + 2) = (j2 : Int) := by rw [hj2, IntKind.wrap_i64]; omega
 have y0 : (0 : Int) <= (j1 : Int) := by omega
 have y1 : (j1 : Int) <= (j2 : Int) := by omega
 have y2 : (j2 : Int) <= (s.size : Int) := by omega
 have y3 : (j1 : Int) < (s.size : Int) := by omega
 have h3' : j1 < s.size := by omega
 have HC2 : Hid (∀ w, Calls Tryz.prog 143 #[.int .u8 (s[j1].toNat : Int)] w fun e w' => e = .returned (.tuple #[sv (cls c).1, .int .i64 (cls c).2]) /\ Below w.heap.size w w') := by subst hj1; exact HC
 clear HC hcn hc hclt
 rw [<- hcc] at h4 HE
 rw [h4] at HC2
 rw [<- hj1, <- hj2] at HE
 clear hcc h4 hj1 hj2
 generalize (cls c).1 = x at *
 have v1 : ((zai s b).1 != 0) = false := by rw [h2]; rfl
 rw [h] at HS
 clear h h2
 generalize (zai s b).1 = k at *
 generalize ByteArray.mk (zai s b).2.toArray = tx at *
 have HCo : Hid (∀ w, Calls Tryz.prog 136 #[.string (s.extract j1 j2)] w fun e w' => e = .returned (.string (s.extract j1 j2)) /\ Below w.heap.size w w') := fun w => zfe _ w
 have hfld := zm7 k tx
 go_enter Tryz.func116, Tryz.ntmps116
 go_wp2_with fail
 refine (HS.out _).mono ?_
 rintro e w1 ⟨rfl, rfl⟩
 clear HS
 go_wp2_with fail
 refine (HSA.out _ HG.out).mono ?_
 rintro e w2 ⟨rfl, b2⟩
 have HX2 : Hid (BX w w2 tk0 0 0) := HX.out.below b2
 have HG2 : Hid (SG w2) := HG.out.later b2
 clear b2 HX HG HSA
 go_wp2_with fail
 refine (HC2.out _).mono ?_
 rintro e w3 ⟨rfl, b3⟩
 have HP3 : Hid (AtP w (w3.alloc (svO x)) w3.heap.size x) := ⟨(HX2.out.below b3).below (zaa _ _), Holds.new w3 x⟩
 have hsz := (HX2.out.below b3).size
 have ne1 : ¬ w3.heap.size = w.heap.size := by omega
 have ne2 : ¬ w.heap.size = w3.heap.size := by omega
 have ne3 : ¬ w3.heap.size = w.heap.size + 1 := by omega
 have ne4 : ¬ w.heap.size + 1 = w3.heap.size := by omega
 clear b3 HX2 HC2 HG2 hsz
 go_wp2_with fail
 generalize w3.alloc (svO x) = w4 at *
 obtain ⟨f0, f1', f2', f3, f4, f5, f6, f7, f8, g0, g1⟩ := HP3.out.x.fz
 obtain ⟨c0, c1, c2, c3, c4, c5, c6, c7, c8, d0, d1⟩ := HP3.out.x.cells
 obtain ⟨_, e0, e1, e2, e3, _, _, _, _⟩ := HP3.out.h
 go_region_with (go_at_call 136; refine (HCo.out _).mono ?_; rintro e w5 ⟨rfl, hb5⟩; have hA2 := (show AtP w w5 w3.heap.size x from (by first | exact HP3.out.below hb5 | exact HP3.out.drew.below hb5)); replace HP3 := (show Hid _ from hA2); clear hA2 hb5 f0 f1' f2' f3 f4 f5 f6 f7 f8 g0 g1 c0 c1 c2 c3 c4 c5 c6 c7 c8 d0 d1 e0 e1 e2 e3; obtain ⟨f0, f1', f2', f3, f4, f5, f6, f7, f8, g0, g1⟩ := HP3.out.x.fz; obtain ⟨c0, c1, c2, c3, c4, c5, c6, c7, c8, d0, d1⟩ := HP3.out.x.cells; obtain ⟨_, e0, e1, e2, e3, _, _, _, _⟩ := HP3.out.h)
 all_goals
  go_wp2_with fail
  have HP := HP3.out.x.put ⟨28, 0, b, j2, s.extract j1 j2, wd x 0, wd x 1, wd x 2, wd x 3⟩ 0 0
  exact zag rfl rfl rfl rfl HP ⟨by rw [HE.out]; rfl, HP.b⟩
theorem zey (s : ByteArray) (b : Nat) (hs : s.size <= 140737488355000) (hb : b <= s.size) (w : World) (hg : SG w) : Calls Tryz.prog 116 #[.string s, .int .i64 b] w fun e w' => e = .returned (zaP (zcr s b)) /\ Below w.heap.size w w' := by
 cases h : pfx s b [37, 117, 123] with
 | true => exact zkA s b hs hb h w hg
 | false =>
  by_cases h2 : (zai s b).1 = 0
  ·by_cases h3 : b + 1 < s.size
   ·by_cases h4 : (cls (chr s (b + 1)).toNat).2 = 0
    ·exact zm8 s b hs hb h h2 h3 h4 w hg
    ·exact zpP s b hs hb h h2 h3 h4 w hg
   ·exact pc_end s b hs hb h h2 h3 w hg
  ·exact zpO s b hs hb h h2 w hg
theorem zjd (s : ByteArray) (i : Nat) : Q.chr s i = chr s i := rfl
theorem q_text (l : List Int) : Q.zae l = zae l := rfl
def zkB (s : ByteArray) (b : Nat) : Q.Rd (List Int × Nat) -> Sum Tk (Nat × Int)
 | .inr (a, c) => if c = 21 then .inr (a.toNat, 51) else if c = 22 /\ a < (s.size : Int) then .inr (a.toNat, 50) else .inr (b, 52)
 | .inl (l, e) => if 255 < l.length then .inr (b, 2) else .inl ⟨2, 0, b, e, zae l, 0, 0, 0, 0⟩
theorem zm9 (s : ByteArray) (i : Nat) : Q.zap s i = (zme s i).map fun p => ((p.1 : Int), p.2) := by
 unfold Q.zap zme Q.zaY
 rw [show Q.chr = chr from rfl, show Q.zbd = zbd from rfl]
 have hb := zdd s (i + 1)
 by_cases a1 : chr s (i + 1) = 110
 ·rw [if_pos a1, if_pos a1]; rfl
 by_cases a2 : chr s (i + 1) = 114
 ·rw [if_neg a1, if_neg a1, if_pos a2, if_pos a2]; rfl
 by_cases a3 : chr s (i + 1) = 116
 ·rw [if_neg a1, if_neg a1, if_neg a2, if_neg a2, if_pos a3, if_pos a3]; rfl
 rw [if_neg a1, if_neg a1, if_neg a2, if_neg a2, if_neg a3, if_neg a3]
 by_cases a4 : chr s (i + 1) = 92 ∨ chr s (i + 1) = 39 ∨ chr s (i + 1) = 34
 ·rw [if_pos a4, if_pos a4, Option.map_some, Int.toNat_of_nonneg (by omega)]
 rw [if_neg a4, if_neg a4]
 by_cases h : chr s (i + 1) = 120
 ·have h1 := zbG (chr s (i + 2))
  rw [if_pos h]
  by_cases q : 0 <= zbd (chr s (i + 2)) /\ 0 <= zbd (chr s (i + 3))
  ·rw [if_pos q, if_pos ⟨h, q⟩, Option.map_some, Int.toNat_of_nonneg (by omega)]
  ·rw [if_neg q, if_neg (fun x => q x.2)]; rfl
 ·rw [if_neg h, if_neg (fun x => h x.1)]; rfl
theorem zfO {s : ByteArray} {i : Nat} {c n : Nat} (h : zme s i = some (c, n)) : i < n /\ n <= i + 4 := by
 unfold zme at h
 split at h
 ·cases h; omega
 split at h
 ·cases h; omega
 split at h
 ·cases h; omega
 split at h
 ·cases h; omega
 split at h
 ·cases h; omega
 ·cases h
theorem zkC (s : ByteArray) (q : Int) (b : Nat) (hq : q = 39 ∨ q = 34) : ∀ (f i : Nat) (l : List Int), s.size < f + i -> zkB s b (Q.zaZ s q f i l) = zbR s q b f l i := by
 intro f
 induction f with
 | zero =>
  intro i l hf
  rw [Q.zaZ, zbR]
  rw [zkB, if_neg (by decide), if_neg (by omega)]
 | succ f ih =>
  intro i l hf
  rw [Q.zaZ, zbR, zjd]
  by_cases h1 : i < s.size
  ·have hb := zak h1
   have hb2 : ¬ chr s i < 0 := by rw [hb]; omega
   rw [if_neg hb2]
   by_cases h2 : chr s i = q
   ·rw [if_pos h2, if_pos h2]; rfl
   rw [if_neg h2, if_neg h2, if_neg (by omega)]
   by_cases h92 : chr s i = 92
   ·have e1 : ¬ (chr s i < 32 ∨ chr s i = 127) := by omega
    rw [if_neg e1, if_neg (fun x => x h92)]
    unfold Q.zaK
    rw [zjd, if_pos h92, zm9]
    cases he : zme s i with
    | none =>
     show zkB s b (.inr ((i : Int), 21)) = _
     rw [zkB, if_pos rfl]; rfl
    | some p =>
     have h3 := zfO (c := p.1) (n := p.2) he
     exact ih _ _ (by omega)
   ·unfold Q.zaK
    rw [zjd, if_neg h92]
    by_cases h32 : chr s i < 32 ∨ chr s i = 127
    ·rw [if_pos h32, if_pos h32]
     rw [zkB, if_neg (by decide), if_pos ⟨rfl, by omega⟩]; rfl
    ·rw [if_neg h32, if_neg h32, if_pos h92]
     exact ih _ _ (by omega)
  ·rw [zau h1, if_neg (by omega), if_pos (by omega), if_pos (by omega)]
   rw [zkB, if_neg (by decide), if_neg (by omega)]
theorem zje {s : ByteArray} {m : Int} {f i : Nat} {l : List Int} {a c : Int} (h : Q.zaZ s m f i l = .inr (a, c)) : 0 <= a /\ (c = 21 ∨ c = 22) := by
 induction f generalizing i l with
 | zero => rw [Q.zaZ] at h; cases h; exact ⟨by omega, .inr rfl⟩
 | succ f ih =>
  rw [Q.zaZ] at h
  split at h
  ·cases h
  split at h
  ·cases h; exact ⟨by omega, .inr rfl⟩
  cases hb : Q.zaK s i with
  | inl p => rw [hb] at h; exact ih h
  | inr q =>
   obtain ⟨a2, c2⟩ := q
   rw [hb] at h
   cases h
   unfold Q.zaK at hb
   split at hb
   ·cases he : Q.zap s i with
    | none => rw [he] at hb; cases hb; exact ⟨by omega, .inl rfl⟩
    | some p => rw [he] at hb; cases hb
   ·split at hb
    ·cases hb; exact ⟨by omega, .inr rfl⟩
    ·cases hb
theorem zkD {s : ByteArray} {b : Nat} {a c : Int} (hs : s.size <= 65536) (hb : b <= s.size) (hq : chr s b = 39 ∨ chr s b = 34) (h : Q.zbV s b = .inr (a, c)) : 0 <= a /\ (c = 21 ∨ c = 22) := by
 unfold Q.zbV at h
 rw [if_neg (by omega), if_neg (by omega), Int.toNat_natCast, zjd, if_pos hq] at h
 exact zje h
theorem zic (s : ByteArray) (b : Nat) (hs : s.size <= 65536) (hb : b <= s.size) (hq : chr s b = 39 ∨ chr s b = 34) : zkB s b (Q.zbV s b) = zeJ s b := by
 unfold Q.zbV zeJ
 rw [if_neg (by omega), if_neg (by omega), Int.toNat_natCast, zjd, if_pos hq]
 exact zkC s _ b hq _ _ _ (by omega)
end Go.Proofs.YtnpifgcgjgddoaaGreatDoor
namespace Go.Proofs.YtnpifgcgjgddoaaGreatDoor.Q
open Go.RowKit
def cpE (s : ByteArray) (i : Int) : Int := if 65536 < s.size then 2 else if i < 0 ∨ (s.size : Int) < i then 1 else 0
theorem zeT (s : ByteArray) (i : Int) (w : World) :
  Calls Tryz.prog 154 #[.string s, .int .i64 i] w fun e w' => e = .returned (.int .i64 (cpE s i)) /\ w' = w := by
 by_cases h : 65536 < s.size
 ·have HE : Hid (cpE s i = 2) := (by show cpE s i = 2; unfold cpE; rw [if_pos h])
  have h1 : (65536 : Int) < (s.size : Int) := by omega
  go_enter Tryz.func154, Tryz.ntmps154
  go_wp2
  go_ret
  exact ⟨by rw [HE.out]; rfl, rfl⟩
 ·have h1 : ¬ (65536 : Int) < (s.size : Int) := by omega
  by_cases h0 : i < 0
  ·have HE : Hid (cpE s i = 1) := (by show cpE s i = 1; unfold cpE; rw [if_neg h, if_pos (.inl h0)])
   go_enter Tryz.func154, Tryz.ntmps154
   go_wp2
   go_ret
   exact ⟨by rw [HE.out]; rfl, rfl⟩
  ·by_cases h2 : (s.size : Int) < i
   ·have HE : Hid (cpE s i = 1) := (by show cpE s i = 1; unfold cpE; rw [if_neg h, if_pos (.inr h2)])
    go_enter Tryz.func154, Tryz.ntmps154
    go_wp2
    go_ret
    exact ⟨by rw [HE.out]; rfl, rfl⟩
   ·have HE : Hid (cpE s i = 0) := (by show cpE s i = 0; unfold cpE; rw [if_neg h, if_neg (by omega)])
    go_enter Tryz.func154, Tryz.ntmps154
    go_wp2
    go_ret
    exact ⟨by rw [HE.out]; rfl, rfl⟩
def mkB (c : Int) : Bool := c == 39 || c == 34
theorem zjf (c : Int) (w : World) :
  Calls Tryz.prog 155 #[.int .u8 c] w fun e w' => e = .returned (.bool (mkB c)) /\ w' = w := by
 by_cases h : c = 39
 ·have HE : Hid (mkB c = true) := (by show mkB c = true; unfold mkB; rw [beq_iff_eq.2 h]; rfl)
  have e1 : (c == 39) = true := beq_iff_eq.2 h
  clear h
  go_enter Tryz.func155, Tryz.ntmps155
  go_wp2
  go_ret
  exact ⟨by rw [HE.out]; rfl, rfl⟩
 ·have e1 : (c == 39) = false := bF h
  have HE : Hid (mkB c = (c == 34)) := (by show mkB c = (c == 34); unfold mkB; rw [e1]; rfl)
  clear h
  go_enter Tryz.func155, Tryz.ntmps155
  go_wp2
  go_ret
  exact ⟨by rw [HE.out]; rfl, rfl⟩
abbrev digs : ByteArray := ⟨#[48, 49, 50, 51, 52, 53, 54, 55, 56, 57, 97, 98, 99, 100, 101, 102]⟩
theorem zgZ (c : UInt8) : Lib.indexByte digs.data.toList c = zbd (c.toNat : Int) := by
 have key : ∀ n, n < 256 -> Lib.indexByte digs.data.toList (UInt8.ofNat n) = zbd (n : Int) := by decide +kernel
 have := key c.toNat c.toNat_lt
 rw [UInt8.ofNat_toNat] at this
 exact this
theorem zcd (c : UInt8) (w : World) : Calls Tryz.prog 153 #[.string digs, .int .u8 (c.toNat : Int)] w fun e w' => e = .returned (.int .i64 (zbd (c.toNat : Int))) /\ w' = w := by
 refine (Tryz.strings_IndexByte digs (c.toNat : Int) w).mono ?_
 rintro e w' ⟨rfl, rfl⟩
 refine ⟨?_, rfl⟩
 rw [<- zgZ]
 simp
theorem zez {b b' : Int} {n : Nat} {n' : Int} (hb : b' = b) (hn : n' = n) : Ending.returned (.tuple #[.int .u8 b', .int .i64 n', .int .i64 0]) = .returned (esV (some (b, n))) := by rw [hb, hn]; rfl
theorem ret_by {b b' : Int} {n : Nat} {n' : Int} (hb : b' = b) (hn : n' = n) : Ending.returned (.tuple #[.int .u8 b', .int .i64 n', .int .i64 0]) = .returned (byV (.inl (b, n))) := by rw [hb, hn]; rfl
theorem zc6 (s : ByteArray) (i : Nat) (hi : i + 1 < s.size) (hs : s.size <= 140737488355328) (w : World) :
  Calls Tryz.prog 207 #[.string s, .int .i64 i] w fun e w' => e = .returned (esV (zaY s i)) /\ w' = w := by
 by_cases h : i + 3 < s.size
 ·have h2 : i + 2 < s.size := by omega
  have hb1 := zbG (s[i + 2].toNat : Int)
  have hb2 := zbG (s[i + 3].toNat : Int)
  have HE : Hid (zaY s i = if 0 <= zbd (s[i + 2].toNat : Int) /\ 0 <= zbd (s[i + 3].toNat : Int) then some (16 * zbd (s[i + 2].toNat : Int) + zbd (s[i + 3].toNat : Int), i + 4) else none) := (by show zaY s i = _; unfold zaY; rw [zak h, zak h2])
  have HI : Hid (∀ w, Calls Tryz.prog 153 #[.string digs, .int .u8 (s[i + 2].toNat : Int)] w fun e w' => e = .returned (.int .i64 (zbd (s[i + 2].toNat : Int))) /\ w' = w) := fun w => zcd _ w
  have HJ : Hid (∀ w, Calls Tryz.prog 153 #[.string digs, .int .u8 (s[i + 3].toNat : Int)] w fun e w' => e = .returned (.int .i64 (zbd (s[i + 3].toNat : Int))) /\ w' = w) := fun w => zcd _ w
  go_enter Tryz.func207, Tryz.ntmps207
  go_wp2_with fail
  refine (HI.out _).mono ?_
  rintro e w' ⟨rfl, rfl⟩
  clear HI
  go_wp2_with fail
  refine (HJ.out _).mono ?_
  rintro e w' ⟨rfl, rfl⟩
  clear HJ
  generalize zbd (s[i + 2].toNat : Int) = a at *
  generalize zbd (s[i + 3].toNat : Int) = b at *
  by_cases ha : 0 <= a
  ·by_cases hb : 0 <= b
   ·have hw8 : IntKind.u8.wrap (16 * a + b) = 16 * a + b := by rw [IntKind.wrap_u8']; omega
    go_wp2
    go_ret3
    exact ⟨by rw [HE.out, if_pos ⟨ha, hb⟩]; exact zez (by omega) (by omega), rfl⟩
   ·go_wp2
    go_ret3
    exact ⟨by rw [HE.out, if_neg (fun h => by omega)]; rfl, rfl⟩
  ·go_wp2
   go_ret3
   exact ⟨by rw [HE.out, if_neg (fun h => by omega)]; rfl, rfl⟩
 ·have h1 : ¬ (i : Int) + 3 < (s.size : Int) := by omega
  have HE : Hid (zaY s i = none) := (by show zaY s i = none; unfold zaY; rw [zau h]; rw [if_neg]; rintro ⟨_, h2⟩; simp [zbd] at h2)
  go_enter Tryz.func207, Tryz.ntmps207
  go_wp2
  go_ret3
  exact ⟨by rw [HE.out]; rfl, rfl⟩
theorem zc7 (s : ByteArray) (i : Nat) (hi : i < s.size) (hs : s.size <= 140737488355328) (w : World) :
  Calls Tryz.prog 197 #[.string s, .int .i64 i] w fun e w' => e = .returned (esV (zap s i)) /\ w' = w := by
 by_cases h : i + 1 < s.size
 ·have HX : Hid (∀ w, Calls Tryz.prog 207 #[.string s, .int .i64 i] w fun e w' => e = .returned (esV (zaY s i)) /\ w' = w) := fun w => zc6 s i h hs w
  have hb : (0 : Int) <= (s[i + 1].toNat : Int) /\ (s[i + 1].toNat : Int) <= 255 := by have := s[i + 1].toNat_lt; omega
  have HE : Hid (zap s i = if (s[i + 1].toNat : Int) = 110 then some (10, i + 2) else if (s[i + 1].toNat : Int) = 114 then some (13, i + 2) else if (s[i + 1].toNat : Int) = 116 then some (9, i + 2) else
 if (s[i + 1].toNat : Int) = 92 ∨ (s[i + 1].toNat : Int) = 39 ∨ (s[i + 1].toNat : Int) = 34 then some ((s[i + 1].toNat : Int), i + 2) else if (s[i + 1].toNat : Int) = 120 then zaY s i else none) := (by show zap s i = _; unfold zap; rw [zak h])
  by_cases h110 : (s[i + 1].toNat : Int) = 110
  ·have HF : Hid (zap s i = some (10, i + 2)) := (by show zap s i = _; rw [HE.out]; rw [if_pos h110])
   clear HE HX
   have e110 : ((s[i + 1].toNat : Int) == 110) = true := beq_iff_eq.2 h110
   clear h110
   go_enter Tryz.func197, Tryz.ntmps197
   go_wp2
   go_ret3
   exact ⟨by rw [HF.out]; exact zez rfl (by omega), rfl⟩
  have e110 : ((s[i + 1].toNat : Int) == 110) = false := bF h110
  by_cases h114 : (s[i + 1].toNat : Int) = 114
  ·have HF : Hid (zap s i = some (13, i + 2)) := (by show zap s i = _; rw [HE.out]; rw [if_neg h110, if_pos h114])
   clear HE HX
   have e114 : ((s[i + 1].toNat : Int) == 114) = true := beq_iff_eq.2 h114
   clear h114
   go_enter Tryz.func197, Tryz.ntmps197
   go_wp2
   go_ret3
   exact ⟨by rw [HF.out]; exact zez rfl (by omega), rfl⟩
  have e114 : ((s[i + 1].toNat : Int) == 114) = false := bF h114
  by_cases h116 : (s[i + 1].toNat : Int) = 116
  ·have HF : Hid (zap s i = some (9, i + 2)) := (by show zap s i = _; rw [HE.out]; rw [if_neg h110, if_neg h114, if_pos h116])
   clear HE HX
   have e116 : ((s[i + 1].toNat : Int) == 116) = true := beq_iff_eq.2 h116
   clear h116
   go_enter Tryz.func197, Tryz.ntmps197
   go_wp2
   go_ret3
   exact ⟨by rw [HF.out]; exact zez rfl (by omega), rfl⟩
  have e116 : ((s[i + 1].toNat : Int) == 116) = false := bF h116
  by_cases hg : (s[i + 1].toNat : Int) = 92 ∨ (s[i + 1].toNat : Int) = 39 ∨ (s[i + 1].toNat : Int) = 34
  ·have HF : Hid (zap s i = some ((s[i + 1].toNat : Int), i + 2)) := (by show zap s i = _; rw [HE.out]; rw [if_neg h110, if_neg h114, if_neg h116, if_pos hg])
   clear HE HX h110 h114 h116
   rcases hg with hg | hg | hg
   ·have e92 : ((s[i + 1].toNat : Int) == 92) = true := beq_iff_eq.2 hg
    clear hg
    go_enter Tryz.func197, Tryz.ntmps197
    go_wp2
    go_ret3
    exact ⟨by rw [HF.out]; exact zez rfl (by omega), rfl⟩
   ·have e92 : ((s[i + 1].toNat : Int) == 92) = false := bF (by omega)
    have e39 : ((s[i + 1].toNat : Int) == 39) = true := beq_iff_eq.2 hg
    clear hg
    go_enter Tryz.func197, Tryz.ntmps197
    go_wp2
    go_ret3
    exact ⟨by rw [HF.out]; exact zez rfl (by omega), rfl⟩
   ·have e92 : ((s[i + 1].toNat : Int) == 92) = false := bF (by omega)
    have e39 : ((s[i + 1].toNat : Int) == 39) = false := bF (by omega)
    have e34 : ((s[i + 1].toNat : Int) == 34) = true := beq_iff_eq.2 hg
    clear hg
    go_enter Tryz.func197, Tryz.ntmps197
    go_wp2
    go_ret3
    exact ⟨by rw [HF.out]; exact zez rfl (by omega), rfl⟩
  have e92 : ((s[i + 1].toNat : Int) == 92) = false := bF (by omega)
  have e39 : ((s[i + 1].toNat : Int) == 39) = false := bF (by omega)
  have e34 : ((s[i + 1].toNat : Int) == 34) = false := bF (by omega)
  by_cases h120 : (s[i + 1].toNat : Int) = 120
  ·have HF : Hid (zap s i = zaY s i) := (by show zap s i = _; rw [HE.out]; rw [if_neg h110, if_neg h114, if_neg h116, if_neg hg, if_pos h120])
   have e120 : ((s[i + 1].toNat : Int) == 120) = true := beq_iff_eq.2 h120
   clear HE h110 h114 h116 h120 hg
   go_enter Tryz.func197, Tryz.ntmps197
   go_wp2_with fail
   refine (HX.out _).mono ?_
   rintro e w' ⟨rfl, rfl⟩
   cases hq : zaY s i with
   | none =>
    rw [hq] at HF
    clear HX hq
    dsimp only [esV]
    go_wp2
    go_ret3
    exact ⟨by rw [HF.out]; rfl, rfl⟩
   | some q =>
    obtain ⟨qb, qn⟩ := q
    rw [hq] at HF
    clear HX hq
    dsimp only [esV]
    go_wp2
    go_ret3
    exact ⟨by rw [HF.out]; rfl, rfl⟩
  have e120 : ((s[i + 1].toNat : Int) == 120) = false := bF h120
  have HF : Hid (zap s i = none) := (by show zap s i = _; rw [HE.out]; rw [if_neg h110, if_neg h114, if_neg h116, if_neg hg, if_neg h120])
  clear HE HX h110 h114 h116 h120 hg
  go_enter Tryz.func197, Tryz.ntmps197
  go_wp2
  go_ret3
  exact ⟨by rw [HF.out]; rfl, rfl⟩
 ·have HE : Hid (zap s i = none) := (by show zap s i = none; unfold zap; rw [zau h]; rfl)
  have h1 : ¬ (i : Int) + 1 < (s.size : Int) := by omega
  go_enter Tryz.func197, Tryz.ntmps197
  go_wp2
  go_ret3
  exact ⟨by rw [HE.out]; rfl, rfl⟩
theorem zgv (s : ByteArray) (i : Nat) (h : i < s.size) (hs : s.size <= 140737488355328) (w : World) :
  Calls Tryz.prog 174 #[.string s, .int .i64 i] w fun e w' => e = .returned (byV (zaK s i)) /\ w' = w := by
 have HX : Hid (∀ w, Calls Tryz.prog 197 #[.string s, .int .i64 i] w fun e w' => e = .returned (esV (zap s i)) /\ w' = w) := fun w => zc7 s i h hs w
 have hb : (0 : Int) <= (s[i].toNat : Int) /\ (s[i].toNat : Int) <= 255 := by have := s[i].toNat_lt; omega
 have HE : Hid (zaK s i = if (s[i].toNat : Int) = 92 then (match zap s i with | none => .inr (i, 21) | some p => .inl p) else if (s[i].toNat : Int) < 32 ∨ (s[i].toNat : Int) = 127 then .inr (i, 22) else .inl ((s[i].toNat : Int), i + 1)) := (by show zaK s i = _; unfold zaK; rw [zak h]; rfl)
 by_cases h92 : (s[i].toNat : Int) = 92
 ·have e92 : ((s[i].toNat : Int) == 92) = true := beq_iff_eq.2 h92
  have HF : Hid (zaK s i = (match zap s i with | none => .inr (i, 21) | some p => .inl p)) := (by show zaK s i = _; rw [HE.out, if_pos h92])
  clear HE h92
  go_enter Tryz.func174, Tryz.ntmps174
  go_wp2_with fail
  refine (HX.out _).mono ?_
  rintro e w' ⟨rfl, rfl⟩
  cases hq : zap s i with
  | none =>
   rw [hq] at HF
   clear HX hq
   dsimp only [esV]
   go_wp2
   go_ret3
   exact ⟨by rw [HF.out]; rfl, rfl⟩
  | some q =>
   obtain ⟨qb, qn⟩ := q
   rw [hq] at HF
   clear HX hq
   dsimp only [esV]
   go_wp2
   go_ret3
   exact ⟨by rw [HF.out]; rfl, rfl⟩
 ·have e92 : ((s[i].toNat : Int) == 92) = false := bF h92
  clear HX
  by_cases h32 : (s[i].toNat : Int) < 32
  ·have HF : Hid (zaK s i = .inr (i, 22)) := (by show zaK s i = _; rw [HE.out, if_neg h92, if_pos (.inl h32)])
   clear HE h92
   go_enter Tryz.func174, Tryz.ntmps174
   go_wp2
   go_ret3
   exact ⟨by rw [HF.out]; rfl, rfl⟩
  by_cases h127 : (s[i].toNat : Int) = 127
  ·have HF : Hid (zaK s i = .inr (i, 22)) := (by show zaK s i = _; rw [HE.out, if_neg h92, if_pos (.inr h127)])
   have e127 : ((s[i].toNat : Int) == 127) = true := beq_iff_eq.2 h127
   clear HE h92 h127
   go_enter Tryz.func174, Tryz.ntmps174
   go_wp2
   go_ret3
   exact ⟨by rw [HF.out]; rfl, rfl⟩
  ·have HF : Hid (zaK s i = .inl ((s[i].toNat : Int), i + 1)) := (by show zaK s i = _; rw [HE.out, if_neg h92, if_neg (by omega)])
   have e127 : ((s[i].toNat : Int) == 127) = false := bF h127
   clear HE h92 h127
   go_enter Tryz.func174, Tryz.ntmps174
   go_wp2
   go_ret3
   exact ⟨by rw [HF.out]; exact ret_by rfl (by omega), rfl⟩
theorem Tryz.info5 : (Tryz.prog.info? 5).map (fun i => (i.zero, i.size, i.bytes)) = some (some (.int .u8 0), 1, 1) := by kernel_rfl
theorem zaX {w w' : World} {base e size : Nat} {v : Value} {n : Nat} {xs : List Value} (h : w.ownsRow base e size v n xs) (hb : Below w.heap.size w w') : w'.ownsRow base e size v n xs := by
 refine h.kept (row := none) ⟨hb.os, hb.tape, hb.output, hb.size, fun k hk _ => hb.block k hk⟩ ?_
 cases h2 : v.ownBlock
 ·exact .inl rfl
 ·exact .inr (by simp)
theorem zd6 {w : World} {base : Nat} {v : Value} {l : List Int} (h : w.ownsRow base 5 1 v l.length (l.map (Value.int .u8))) :
  (convert 55 9 v).run Tryz.prog w = .ok (.string (zae l)) w := by
 have hc := h
 obtain ⟨hlen, h2⟩ := h
 rcases h2 with ⟨rfl, hn⟩ | ⟨g, cap, cur, rfl, _⟩
 ·obtain rfl : l = [] := List.eq_nil_of_length_eq_zero hn
  rw [run_convert_bytes_string w 55 9 5 _ _ _ Tryz.underlying55 Tryz.underlying5 Tryz.underlying9]
  rfl
 ·rw [run_convert_bytes_string w 55 9 5 _ _ _ Tryz.underlying55 Tryz.underlying5 Tryz.underlying9]
  refine run_bytesToString w ⟨g, 0, none⟩ l.length cap l ?_
  have := run_loadCells_list (P := Tryz.prog) (w := w) ⟨g, 0, none⟩ (l.map (Value.int .u8)) (hc.cells rfl)
  rwa [List.length_map] at this
structure FHolds (w : World) (b : Nat) (p q : Int) : Prop where
 lt : b < w.heap.size
 c0 : w.cell? ⟨b, 0, none⟩ = some (.int .i64 p)
 c1 : w.cell? ⟨b, 1, none⟩ = some (.int .i64 q)
 f0 : w.frozen? ⟨b, 0, none⟩ = false
 f1 : w.frozen? ⟨b, 1, none⟩ = false
theorem FHolds.below {B : Nat} {w w' : World} {b : Nat} {p q : Int} (h : FHolds w b p q) (hb : Below B w w') (hB : b < B) : FHolds w' b p q :=
 ⟨Nat.lt_of_lt_of_le h.lt hb.size, (hb.cell (p := ⟨b, 0, none⟩) hB).trans h.c0, (hb.cell (p := ⟨b, 1, none⟩) hB).trans h.c1, (hb.frozen (p := ⟨b, 0, none⟩) hB).trans h.f0, (hb.frozen (p := ⟨b, 1, none⟩) hB).trans h.f1⟩
theorem FHolds.new (w : World) (p q : Int) : FHolds (w.alloc (.cells #[.int .i64 p, .int .i64 q] 39)) w.heap.size p q := by
 constructor <;> simp [go_sem]
theorem FHolds.grown {w w' : World} {b : Nat} {p q : Int} {row : Option Nat} (h : FHolds w b p q) (hg : w.grownBy w' row) (hne : row = some b -> False) : FHolds w' b p q := by
 have e := hg.block b h.lt (fun e => hne e.symm)
 exact ⟨Nat.lt_of_lt_of_le h.lt hg.size, (World.cell?_of_block (a := ⟨b, 0, none⟩) e).trans h.c0, (World.cell?_of_block (a := ⟨b, 1, none⟩) e).trans h.c1,
  (World.frozen?_of_block (a := ⟨b, 0, none⟩) e).trans h.f0, (World.frozen?_of_block (a := ⟨b, 1, none⟩) e).trans h.f1⟩
theorem FHolds.alloc {w : World} {b : Nat} {p q : Int} (h : FHolds w b p q) (o : Obj) : FHolds (w.alloc o) b p q :=
 h.below (B := w.heap.size) ((Below.refl _ _).alloc (Nat.le_refl _) _) h.lt
theorem zch {B : Nat} {w wr : World} {b : Nat} (hb : Below B w wr) (h : B <= b) (u v : Value) : Below B w ((wr.setCell ⟨b, 0, none⟩ u).setCell ⟨b, 1, none⟩ v) :=
 (hb.setCell (p := ⟨b, 0, none⟩) h _).setCell (p := ⟨b, 1, none⟩) h _
structure AtL (w wr : World) (v : Value) (l : List Int) : Prop where
 f : FHolds wr w.heap.size 0 0
 o : wr.ownsRow (w.heap.size + 1) 5 1 v l.length (l.map (Value.int .u8))
 b : Below w.heap.size w wr
theorem zeU (s : ByteArray) (i : Nat) (m : Int) (hm : 0 <= m) (hi : i <= s.size) (hs : s.size <= 65536) (w : World) :
  Calls Tryz.prog 156 #[.string s, .int .i64 i, .int .u8 m] w fun e w' => e = .returned (cuV (zaZ s m (s.size + 1) i [])) /\ Below w.heap.size w w' := by
 obtain ⟨i0, hinf, hz0, hz1, hz2⟩ := info_parts Tryz.info5
 generalize hR : zaZ s m (s.size + 1) i [] = R
 have HR := hO hR
 clear hR
 have HF := hO (FHolds.new w 0 0)
 have HB := hO ((Below.refl w.heap.size w).alloc (Nat.le_refl _) (.cells #[.int .i64 0, .int .i64 0] 39))
 go_enter Tryz.func156, Tryz.ntmps156
 go_wp2_with fail
 go_loopw [1, 9] (fun t v wr => ∃ k : Nat, ∃ f : Nat, ∃ l : List Int, k <= s.size /\ t = .int .i64 k /\ l.length <= k /\ Hid (s.size + 1 <= f + k) /\ Hid (zaZ s m f k l = R) /\ Hid (AtL w wr v l)) (fun t _ _ => s.size - (intOf t).toNat)
 case atStart => exact ⟨i, s.size + 1, [], hi, by go_num, by simp, show _ <= _ by omega, HR, ⟨HF.out, World.ownsRow_nil _ _ _ _, HB.out⟩⟩
 case round =>
  obtain ⟨k, f, l, hk, rfl, hl, hf, hr, ha⟩ := hrel
  obtain ⟨g, rfl⟩ : ∃ g, f = g + 1 := ⟨f - 1, by have h := hf.out; omega⟩
  clear HR HF HB
  have hlt : w.heap.size < wr.heap.size := ha.out.f.lt
  by_cases hks : k < s.size
  ·have hb := zob hks
   have HC := hO (zak hks)
   by_cases hm1 : chr s k = m
   ·have hr' : Hid (R = .inl (l, k + 1)) := (hr.out.symm.trans (zfc hm1))
    have em : ((s[k].toNat : Int) == m) = true := beq_iff_eq.2 (by rw [<- HC.out]; exact hm1)
    have ht := zd6 ha.out.o
    clear hr hf hm1 hb HC
    obtain ⟨_, c0, c1, f0, f1⟩ := ha.out.f
    go_wp2_with fail
    rw [hr'.out]
    refine bodyPost_ret (v := cuV (.inl (l, k + 1))) (by simp [results, Tryz.results156, go_sem, cuV, *]) rfl ⟨rfl, ?_⟩
    exact zch ha.out.b (Nat.le_refl _) _ _
   ·have em : ((s[k].toNat : Int) == m) = false := bF (by rw [<- HC.out]; exact hm1)
    have HRB : Hid (∀ w, Calls Tryz.prog 174 #[.string s, .int .i64 k] w fun e w' => e = .returned (byV (zaK s k)) /\ w' = w) := fun w => zgv s k hks (by omega) w
    cases hq : zaK s k with
    | inr pq =>
     obtain ⟨a, c⟩ := pq
     obtain ⟨rfl, hc⟩ := zi7 hq
     have hr' : Hid (R = .inr (k, c)) := (hr.out.symm.trans (zi9 hm1 hks hq))
     have hc0 : (c != 0) = true := bne_iff_ne.2 (by omega)
     rw [hq] at HRB
     dsimp only [byV] at HRB
     clear hr hf hm1 hb HC hq hc
     obtain ⟨_, c0, c1, f0, f1⟩ := ha.out.f
     go_wp2_with fail
     refine (HRB.out _).mono ?_
     rintro e w1 ⟨rfl, rfl⟩
     go_wp2_with fail
     rw [hr'.out]
     refine bodyPost_ret (v := cuV (.inr (k, c))) (by simp [results, Tryz.results156, go_sem, cuV, *]) rfl ⟨rfl, ?_⟩
     exact zch ha.out.b (Nat.le_refl _) _ _
    | inl p =>
     obtain ⟨b, n⟩ := p
     obtain ⟨b0, b1, b2, b3⟩ := zgo hq
     have hr' : Hid (zaZ s m g n (l ++ [b]) = R) := ((zev hm1 hks hq).symm.trans hr.out)
     have hf' : Hid (s.size + 1 <= g + n) := (by have h := hf.out; show _ <= _; omega)
     rw [hq] at HRB
     dsimp only [byV] at HRB
     clear hr hf hm1 hb HC hq
     have hO1 := ha.out.o
     go_wp2_with fail
     refine (HRB.out _).mono ?_
     rintro e w1 ⟨rfl, rfl⟩
     go_wp2_with (at_builtin; refine wpList_append_own _ rfl _ _ 55 rfl (w.heap.size + 1) 5 i0 (.int .u8 0) 1 1 Tryz.underlying55 hinf hz0 hz1 hz2 rfl (by decide) _ _ _ rfl (hO1.alloc _) ⟨w1.heap.size, 0, none⟩ 1 1 [.int .u8 b] rfl rfl (cell_one_new _ _ _) ?c2 ?c3 ?c4 ?c5 ?_)
     case c2 => intro u hu; simp at hu; subst hu; rfl
     case c3 => unfold maxLen; omega
     case c4 => omega
     case c5 => simp; omega
     intro v' w2 hown' hgrow _
     have hle := fun j e => (hO1.lt j e).1
     have HA2 := (show Hid (AtL w w2 v' (l ++ [b])) from (by
      refine ⟨(ha.out.f.alloc (.cells #[.int .u8 b] 5)).grown hgrow (fun e => by have := hle _ e; omega), ?_, (ha.out.b.alloc (by omega) (.cells #[.int .u8 b] 5)).grown hgrow (by simp; omega) (fun j e => by have := hle j e; omega)⟩
      rw [List.length_append, List.map_append]
      exact hown'))
     clear hO1 hown' hgrow hle ha
     go_wp2
     go_roundw
     case rel => exact ⟨n, g, l ++ [b], b3, rfl, by simp; omega, hf', hr', HA2⟩
     case measure => simp [intOf]; omega
  ·have hr' : Hid (R = .inr (k, 22)) := (hr.out.symm.trans ((zi8 (by omega) hm).trans (by rw [show k = s.size from by omega])))
   clear hr hf
   obtain ⟨_, c0, c1, f0, f1⟩ := ha.out.f
   go_wp2_with fail
   rw [hr'.out]
   refine bodyPost_ret (v := cuV (.inr (k, 22))) (by simp [results, Tryz.results156, go_sem, cuV, *]) rfl ⟨rfl, ?_⟩
   exact zch ha.out.b (Nat.le_refl _) _ _
theorem zpQ (s : ByteArray) (i : Int) (w : World) :
  Calls Tryz.prog 139 #[.string s, .int .i64 i] w fun e w' => e = .returned (cuV (zbV s i)) /\ Below w.heap.size w w' := by
 have HF := hO (FHolds.new w 0 0)
 have HB := hO ((Below.refl w.heap.size w).alloc (Nat.le_refl _) (.cells #[.int .i64 0, .int .i64 0] 39))
 have HP : Hid (∀ w, Calls Tryz.prog 154 #[.string s, .int .i64 i] w fun e w' => e = .returned (.int .i64 (cpE s i)) /\ w' = w) := fun w => zeT s i w
 by_cases hcp : cpE s i = 0
 ·have hc : ¬ 65536 < s.size /\ ¬ (i < 0 ∨ (s.size : Int) < i) := by
   unfold cpE at hcp; split at hcp
   ·omega
   ·split at hcp
    ·omega
    ·next a b => exact ⟨a, b⟩
  obtain ⟨h1, h2⟩ := hc
  have h0 : 0 <= i := by omega
  obtain ⟨n, rfl⟩ := Int.eq_ofNat_of_zero_le h0
  have HE : Hid (zbV s (n : Int) = if chr s n = 39 ∨ chr s n = 34 then zaZ s (chr s n) (s.size + 1) (n + 1) [] else .inr (n, 20)) := (by show zbV s (n : Int) = _; unfold zbV; rw [if_neg h1, if_neg h2, Int.toNat_natCast])
  rw [hcp] at HP
  clear hcp
  by_cases hn : n < s.size
  ·have hnI : (n : Int) < (s.size : Int) := by omega
   have en : ((n : Int) == (s.size : Int)) = false := bF (by omega)
   have HC := hO (zak hn)
   have hb := zob hn
   rw [HC.out] at hb
   have HM : Hid (∀ w, Calls Tryz.prog 155 #[.int .u8 (s[n].toNat : Int)] w fun e w' => e = .returned (.bool (mkB (s[n].toNat : Int))) /\ w' = w) := fun w => zjf _ w
   cases hmk : mkB (s[n].toNat : Int)
   ·have HG := (show Hid (zbV s (n : Int) = .inr (n, 20)) from (by
     show zbV s (n : Int) = _
     rw [HE.out, if_neg]
     rw [HC.out]
     unfold mkB at hmk
     simp at hmk
     omega))
    rw [hmk] at HM
    clear HE hmk HC
    go_enter Tryz.func139, Tryz.ntmps139
    go_wp2_with fail
    refine (HP.out _).mono ?_
    rintro e w1 ⟨rfl, rfl⟩
    go_wp2_with fail
    refine (HM.out _).mono ?_
    rintro e w1 ⟨rfl, rfl⟩
    obtain ⟨_, c0, c1, f0, f1⟩ := HF.out
    go_wp2_with fail
    rw [HG.out]
    refine bodyPost_ret (v := cuV (.inr (n, 20))) (by simp [results, Tryz.results139, go_sem, cuV, *]) rfl ⟨rfl, ?_⟩
    exact (Below.refl _ _).alloc (Nat.le_refl _) _
   ·have HG := (show Hid (zbV s (n : Int) = zaZ s (s[n].toNat : Int) (s.size + 1) (n + 1) []) from (by
     show zbV s (n : Int) = _
     rw [HE.out, if_pos]
     ·rw [HC.out]
     ·rw [HC.out]
      unfold mkB at hmk
      simp at hmk
      omega))
    have HR : Hid (∀ w, Calls Tryz.prog 156 #[.string s, .int .i64 ((n : Int) + 1), .int .u8 (s[n].toNat : Int)] w fun e w' => e = .returned (cuV (zaZ s (s[n].toNat : Int) (s.size + 1) (n + 1) [])) /\ Below w.heap.size w w') := fun w => zeU s (n + 1) _ (by omega) (by omega) (by omega) w
    rw [hmk] at HM
    rw [<- HG.out] at HR
    clear HE hmk HC HG
    generalize zbV s (n : Int) = R at *
    go_enter Tryz.func139, Tryz.ntmps139
    go_wp2_with fail
    refine (HP.out _).mono ?_
    rintro e w1 ⟨rfl, rfl⟩
    go_wp2_with fail
    refine (HM.out _).mono ?_
    rintro e w1 ⟨rfl, rfl⟩
    go_wp2_with fail
    refine (HR.out _).mono ?_
    rintro e w2 ⟨rfl, hb2⟩
    have HF2 := hO (HF.out.below hb2 HF.out.lt)
    have HB2 := hO (HB.out.trans (hb2.mono HB.out.size))
    have hl : w.heap.size < w2.heap.size := HF2.out.lt
    clear hb2 HR
    obtain ⟨_, c0, c1, f0, f1⟩ := HF2.out
    cases R with
    | inr pq =>
     obtain ⟨a, c⟩ := pq
     dsimp only [cuV]
     go_wp2_with fail
     refine bodyPost_ret (v := cuV (.inr (a, c))) (by simp [results, Tryz.results139, go_sem, cuV, *]) rfl ⟨rfl, ?_⟩
     exact zch HB2.out (Nat.le_refl _) _ _
    | inl p =>
     obtain ⟨l, e⟩ := p
     dsimp only [cuV]
     go_wp2_with fail
     refine bodyPost_ret (v := cuV (.inl (l, e))) (by simp [results, Tryz.results139, go_sem, cuV, *]) rfl ⟨rfl, ?_⟩
     exact zch HB2.out (Nat.le_refl _) _ _
  ·have hnI : ¬ (n : Int) < (s.size : Int) := by omega
   have en : ((n : Int) == (s.size : Int)) = true := beq_iff_eq.2 (by omega)
   have HG := (show Hid (zbV s (n : Int) = .inr (n, 20)) from (by
    show zbV s (n : Int) = _
    rw [HE.out, if_neg]
    rw [zau hn]
    omega))
   clear HE
   go_enter Tryz.func139, Tryz.ntmps139
   go_wp2_with fail
   refine (HP.out _).mono ?_
   rintro e w1 ⟨rfl, rfl⟩
   obtain ⟨_, c0, c1, f0, f1⟩ := HF.out
   go_wp2_with fail
   rw [HG.out]
   refine bodyPost_ret (v := cuV (.inr (n, 20))) (by simp [results, Tryz.results139, go_sem, cuV, *]) rfl ⟨rfl, ?_⟩
   exact (Below.refl _ _).alloc (Nat.le_refl _) _
 ·have HG := (show Hid (zbV s i = .inr (0, (cpE s i))) from (by
   show zbV s i = _
   unfold zbV cpE at *
   split
   ·rfl
   ·next h =>
    rw [if_neg h] at hcp
    split
    ·rfl
    ·next h2 => rw [if_neg h2] at hcp; exact absurd rfl hcp))
  have ec : (cpE s i != 0) = true := bne_iff_ne.2 hcp
  clear hcp
  generalize cpE s i = c at *
  go_enter Tryz.func139, Tryz.ntmps139
  go_wp2_with fail
  refine (HP.out _).mono ?_
  rintro e w1 ⟨rfl, rfl⟩
  obtain ⟨_, c0, c1, f0, f1⟩ := HF.out
  go_wp2_with fail
  rw [HG.out]
  refine bodyPost_ret (v := cuV (.inr (0, c))) (by simp [results, Tryz.results139, go_sem, cuV, *]) rfl ⟨rfl, ?_⟩
  exact (Below.refl _ _).alloc (Nat.le_refl _) _
end Go.Proofs.YtnpifgcgjgddoaaGreatDoor.Q
namespace Go.Proofs.YtnpifgcgjgddoaaGreatDoor
open Go.RowKit
theorem zcI (s : ByteArray) (b : Nat) (hs : s.size <= 65536) (hb : b <= s.size) (hq : chr s b = 39 ∨ chr s b = 34) (w : World) : Calls Tryz.prog 114 #[.string s, .int .i64 b] w fun e w' => e = .returned (zaP (zeJ s b)) /\ Below w.heap.size w w' := by
 have HF : Hid (∀ i e w, Calls Tryz.prog 135 #[.int .i64 i, .int .i64 e] w fun e' w' => e' = .returned (zaE tk0 i e) /\ Below w.heap.size w w') := fun i e w => zax i e w
 have HC : Hid (∀ w, Calls Tryz.prog 139 #[.string s, .int .i64 b] w fun e w' => e = .returned (Q.cuV (Q.zbV s b)) /\ Below w.heap.size w w') := fun w => Q.zpQ s b w
 have HX : Hid (BX w ((w.alloc (tkO tk0)).alloc (fxO 0 0)) tk0 0 0) := BX.new w
 have HU : Hid (zeJ s b = zkB s b (Q.zbV s b)) := (zic s b hs hb hq).symm
 cases hr : Q.zbV s b with
 | inr p =>
  obtain ⟨a, c⟩ := p
  obtain ⟨ha, hcc⟩ := zkD hs hb hq hr
  obtain ⟨a, rfl⟩ : ∃ k : Nat, a = k := ⟨a.toNat, by omega⟩
  rw [hr, zkB, Int.toNat_natCast] at HU
  rw [hr] at HC
  clear hr ha hq
  unfold Q.cuV at HC
  rcases hcc with rfl | rfl
  ·have HE : Hid (zeJ s b = .inr (a, 51)) := by show zeJ s b = _; rw [HU.out, if_pos rfl]
   clear HU
   go_enter Tryz.func114, Tryz.ntmps114
   go_wp2_with fail
   refine (HC.out _).mono ?_
   rintro e w2 ⟨rfl, b2⟩
   have HX2 : Hid (BX w (w2.alloc (fxO a 21)) tk0 0 0) := (HX.out.below b2).below (zaa _ _)
   clear b2 HX HC
   go_wp2_with fail
   refine (HF.out _ _ _).mono ?_
   rintro e w3 ⟨rfl, b3⟩
   have HX3 : Hid (BX w w3 tk0 0 0) := HX2.out.below b3
   clear b3 HX2 HF
   obtain ⟨f0, f1', f2', f3, f4, f5, f6, f7, f8, g0, g1⟩ := HX3.out.fz
   obtain ⟨c0, c1, c2, c3, c4, c5, c6, c7, c8, d0, d1⟩ := HX3.out.cells
   unfold zaE
   go_wp2_with fail
   have HP := HX3.out.put tk0 a 51
   exact zag rfl rfl rfl rfl HP ⟨by rw [HE.out]; rfl, HP.b⟩
  ·by_cases hlt : a < s.size
   ·have HE : Hid (zeJ s b = .inr (a, 50)) := by show zeJ s b = _; rw [HU.out, if_neg (by decide), if_pos ⟨rfl, by omega⟩]
    have z1 : (a : Int) < (s.size : Int) := by omega
    clear HU
    go_enter Tryz.func114, Tryz.ntmps114
    go_wp2_with fail
    refine (HC.out _).mono ?_
    rintro e w2 ⟨rfl, b2⟩
    have HX2 : Hid (BX w (w2.alloc (fxO a 22)) tk0 0 0) := (HX.out.below b2).below (zaa _ _)
    clear b2 HX HC
    go_wp2_with fail
    refine (HF.out _ _ _).mono ?_
    rintro e w3 ⟨rfl, b3⟩
    have HX3 : Hid (BX w w3 tk0 0 0) := HX2.out.below b3
    clear b3 HX2 HF
    obtain ⟨f0, f1', f2', f3, f4, f5, f6, f7, f8, g0, g1⟩ := HX3.out.fz
    obtain ⟨c0, c1, c2, c3, c4, c5, c6, c7, c8, d0, d1⟩ := HX3.out.cells
    unfold zaE
    go_wp2_with fail
    have HP := HX3.out.put tk0 a 50
    exact zag rfl rfl rfl rfl HP ⟨by rw [HE.out]; rfl, HP.b⟩
   ·have HE : Hid (zeJ s b = .inr (b, 52)) := by show zeJ s b = _; rw [HU.out, if_neg (by decide), if_neg (by omega)]
    have z1 : ¬ (a : Int) < (s.size : Int) := by omega
    clear HU
    go_enter Tryz.func114, Tryz.ntmps114
    go_wp2_with fail
    refine (HC.out _).mono ?_
    rintro e w2 ⟨rfl, b2⟩
    have HX2 : Hid (BX w (w2.alloc (fxO a 22)) tk0 0 0) := (HX.out.below b2).below (zaa _ _)
    clear b2 HX HC
    go_wp2_with fail
    refine (HF.out _ _ _).mono ?_
    rintro e w3 ⟨rfl, b3⟩
    have HX3 : Hid (BX w w3 tk0 0 0) := HX2.out.below b3
    clear b3 HX2 HF
    obtain ⟨f0, f1', f2', f3, f4, f5, f6, f7, f8, g0, g1⟩ := HX3.out.fz
    obtain ⟨c0, c1, c2, c3, c4, c5, c6, c7, c8, d0, d1⟩ := HX3.out.cells
    unfold zaE
    go_wp2_with fail
    have HP := HX3.out.put tk0 b 52
    exact zag rfl rfl rfl rfl HP ⟨by rw [HE.out]; rfl, HP.b⟩
 | inl p =>
  obtain ⟨l, n⟩ := p
  rw [hr, zkB] at HU
  rw [hr] at HC
  clear hr hq
  replace HC := (show Hid (∀ w, Calls Tryz.prog 139 #[.string s, .int .i64 b] w fun e w' => e = .returned (.tuple #[.string (zae l), .int .i64 n, .agg #[.int .i64 0, .int .i64 0]]) /\ Below w.heap.size w w') from HC)
  have hsz : (zae l).size = l.length := zao l
  by_cases h255 : 255 < l.length
  ·have HE : Hid (zeJ s b = .inr (b, 2)) := by show zeJ s b = _; rw [HU.out, if_pos h255]
   have z1 : (255 : Int) < ((zae l).size : Int) := by omega
   clear HU hsz h255
   generalize zae l = t at *
   go_enter Tryz.func114, Tryz.ntmps114
   go_wp2_with fail
   refine (HC.out _).mono ?_
   rintro e w2 ⟨rfl, b2⟩
   have HX2 : Hid (BX w (w2.alloc (fxO 0 0)) tk0 0 0) := (HX.out.below b2).below (zaa _ _)
   clear b2 HX HC
   go_wp2_with fail
   refine (HF.out _ _ _).mono ?_
   rintro e w3 ⟨rfl, b3⟩
   have HX3 : Hid (BX w w3 tk0 0 0) := HX2.out.below b3
   clear b3 HX2 HF
   obtain ⟨f0, f1', f2', f3, f4, f5, f6, f7, f8, g0, g1⟩ := HX3.out.fz
   obtain ⟨c0, c1, c2, c3, c4, c5, c6, c7, c8, d0, d1⟩ := HX3.out.cells
   unfold zaE
   go_wp2_with fail
   have HP := HX3.out.put tk0 b 2
   exact zag rfl rfl rfl rfl HP ⟨by rw [HE.out]; rfl, HP.b⟩
  ·have HE : Hid (zeJ s b = .inl ⟨2, 0, b, n, zae l, 0, 0, 0, 0⟩) := by show zeJ s b = _; rw [HU.out, if_neg h255]
   have z1 : ¬ (255 : Int) < ((zae l).size : Int) := by omega
   clear HU hsz h255 HF
   generalize zae l = t at *
   go_enter Tryz.func114, Tryz.ntmps114
   go_wp2_with fail
   refine (HC.out _).mono ?_
   rintro e w2 ⟨rfl, b2⟩
   have HX2 : Hid (BX w w2 tk0 0 0) := HX.out.below b2
   clear b2 HX HC
   obtain ⟨f0, f1', f2', f3, f4, f5, f6, f7, f8, g0, g1⟩ := HX2.out.fz
   obtain ⟨c0, c1, c2, c3, c4, c5, c6, c7, c8, d0, d1⟩ := HX2.out.cells
   have hsz2 := HX2.out.size
   have hl1 : w.heap.size < w2.heap.size := by omega
   have hne1 : w.heap.size ≠ w2.heap.size := by omega
   have hne2 : w.heap.size + 1 ≠ w2.heap.size := by omega
   go_wp2_with fail
   have HP := (HX2.out.put ⟨2, 0, b, n, t, 0, 0, 0, 0⟩ 0 0).below (zaa _ (fxO 0 0))
   exact zag rfl rfl rfl rfl HP ⟨by rw [HE.out]; rfl, HP.b⟩
end Go.Proofs.YtnpifgcgjgddoaaGreatDoor
