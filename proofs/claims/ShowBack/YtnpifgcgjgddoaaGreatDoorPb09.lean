/- DERIVED. Plain mathematics and walks, laid together (9). -/
import Derived.Deep.MidRow
import Derived.WalkKit
import Derived.ScopeJumps
import Derived.Test.YtnpifgcgjgddoaaGreatDoorProg
import Derived.Test.YtnpifgcgjgddoaaGreatDoorPb08
set_option maxRecDepth 100000
set_option maxHeartbeats 8000000
namespace Go.Proofs.YtnpifgcgjgddoaaGreatDoor
open Go.RowKit
def nmR (s : ByteArray) (b d : Nat) (k : Int) : Sum Tk (Nat × Int) := match zde s d (gtK k) with
 | .inr e => .inr (b, e)
 | .inl n => .inl ⟨k, n, b, spN dgB s d, ⟨#[]⟩, 0, 0, 0, 0⟩
theorem zpB (s : ByteArray) (b d : Nat) (k : Int) (hs : s.size <= 140737488355000) (hd : d <= s.size) (_hb : b <= s.size) (h : spN dgB s d - d = 0) (w : World) : Calls Tryz.prog 113 #[.string s, .int .i64 b, .int .i64 d, .int .i64 k] w fun e w' => e = .returned (zaP (nmR s b d k)) /\ Below w.heap.size w w' := by
 have HR : Hid (∀ w, Calls Tryz.prog 133 #[.string s, .int .i64 d, .func (.func 112) #[] #[]] w fun e w' => e = .returned (.int .i64 (spN dgB s d)) /\ w' = w) := fun w => zbD s d (by omega) hd w
 have HF : Hid (∀ i e w, Calls Tryz.prog 135 #[.int .i64 i, .int .i64 e] w fun e' w' => e' = .returned (zaE tk0 i e) /\ Below w.heap.size w w') := fun i e w => zax i e w
 have HX : Hid (BX w ((w.alloc (tkO tk0)).alloc (fxO 0 0)) tk0 0 0) := BX.new w
 have hge := zbo dgB s (by decide) d
 have hle := zbQ dgB s (by decide) d (by omega)
 have HU := (show Hid (zde s d (gtK k) = if spN dgB s d - d = 0 ∨ (1 < spN dgB s d - d /\ chr s d = 48) then .inr 50
  else if 6 < spN dgB s d - d ∨ gtK k < zbj s d 10 (spN dgB s d - d) then .inr 1 else .inl (zbj s d 10 (spN dgB s d - d))) from rfl)
 have HM := (show Hid (nmR s b d k = match zde s d (gtK k) with
  | .inr e => .inr (b, e)
  | .inl n => .inl ⟨k, n, b, spN dgB s d, ⟨#[]⟩, 0, 0, 0, 0⟩) from rfl)
 generalize spN dgB s d = n at *
 obtain ⟨m, hm⟩ : ∃ m, m = n - d := ⟨_, rfl⟩
 have u1 : IntKind.i64.wrap ((n : Int) - (d : Int)) = (m : Int) := by rw [IntKind.wrap_i64]; omega
 have z0 : (0 : Int) <= (d : Int) := by omega
 have z1 : (d : Int) <= (n : Int) := by omega
 have z2 : (n : Int) <= (s.size : Int) := by omega
 rw [<- hm] at HU h
 have HE : Hid (nmR s b d k = .inr (b, 50)) := by show nmR s b d k = _; rw [HM.out, HU.out, if_pos (.inl h)]
 have t1 : ((m : Int) == 0) = true := by rw [h]; rfl
 clear HU HM hm h
 go_enter Tryz.func113, Tryz.ntmps113
 go_wp2_with fail
 refine (HR.out _).mono ?_
 rintro e w2 ⟨rfl, rfl⟩
 clear HR
 go_wp2_with fail
 refine (HF.out _ _ _).mono ?_
 rintro e w3 ⟨rfl, b3⟩
 have HX3 : Hid (BX w w3 tk0 0 0) := HX.out.below b3
 clear b3 HX HF
 obtain ⟨f0, f1', f2', f3, f4, f5, f6, f7, f8, g0, g1⟩ := HX3.out.fz
 obtain ⟨c0, c1, c2, c3, c4, c5, c6, c7, c8, d0, d1⟩ := HX3.out.cells
 unfold zaE
 go_wp2_with fail
 have HP := HX3.out.put tk0 b 50
 exact zag rfl rfl rfl rfl HP ⟨by rw [HE.out]; rfl, HP.b⟩
theorem zpC (s : ByteArray) (b d : Nat) (k : Int) (hs : s.size <= 140737488355000) (hd : d <= s.size) (_hb : b <= s.size) (h : 1 < spN dgB s d - d) (h2 : chr s d = 48) (w : World) : Calls Tryz.prog 113 #[.string s, .int .i64 b, .int .i64 d, .int .i64 k] w fun e w' => e = .returned (zaP (nmR s b d k)) /\ Below w.heap.size w w' := by
 have HR : Hid (∀ w, Calls Tryz.prog 133 #[.string s, .int .i64 d, .func (.func 112) #[] #[]] w fun e w' => e = .returned (.int .i64 (spN dgB s d)) /\ w' = w) := fun w => zbD s d (by omega) hd w
 have HF : Hid (∀ i e w, Calls Tryz.prog 135 #[.int .i64 i, .int .i64 e] w fun e' w' => e' = .returned (zaE tk0 i e) /\ Below w.heap.size w w') := fun i e w => zax i e w
 have HX : Hid (BX w ((w.alloc (tkO tk0)).alloc (fxO 0 0)) tk0 0 0) := BX.new w
 have hge := zbo dgB s (by decide) d
 have hle := zbQ dgB s (by decide) d (by omega)
 have HU := (show Hid (zde s d (gtK k) = if spN dgB s d - d = 0 ∨ (1 < spN dgB s d - d /\ chr s d = 48) then .inr 50
  else if 6 < spN dgB s d - d ∨ gtK k < zbj s d 10 (spN dgB s d - d) then .inr 1 else .inl (zbj s d 10 (spN dgB s d - d))) from rfl)
 have HM := (show Hid (nmR s b d k = match zde s d (gtK k) with
  | .inr e => .inr (b, e)
  | .inl n => .inl ⟨k, n, b, spN dgB s d, ⟨#[]⟩, 0, 0, 0, 0⟩) from rfl)
 generalize spN dgB s d = n at *
 obtain ⟨m, hm⟩ : ∃ m, m = n - d := ⟨_, rfl⟩
 have u1 : IntKind.i64.wrap ((n : Int) - (d : Int)) = (m : Int) := by rw [IntKind.wrap_i64]; omega
 have z0 : (0 : Int) <= (d : Int) := by omega
 have z1 : (d : Int) <= (n : Int) := by omega
 have z2 : (n : Int) <= (s.size : Int) := by omega
 rw [<- hm] at HU h
 have HE : Hid (nmR s b d k = .inr (b, 50)) := by show nmR s b d k = _; rw [HM.out, HU.out, if_pos (.inr ⟨h, h2⟩)]
 have t1 : ((m : Int) == 0) = false := by rw [beq_eq_false_iff_ne]; omega
 have t2 : (1 : Int) < (m : Int) := by omega
 have hlt : d < s.size := by omega
 have z3 : (d : Int) < (s.size : Int) := by omega
 have t3 : ((s[d].toNat : Int) == 48) = true := by rw [<- zak hlt, h2]; rfl
 clear HU HM hm h h2
 go_enter Tryz.func113, Tryz.ntmps113
 go_wp2_with fail
 refine (HR.out _).mono ?_
 rintro e w2 ⟨rfl, rfl⟩
 clear HR
 go_wp2_with fail
 refine (HF.out _ _ _).mono ?_
 rintro e w3 ⟨rfl, b3⟩
 have HX3 : Hid (BX w w3 tk0 0 0) := HX.out.below b3
 clear b3 HX HF
 obtain ⟨f0, f1', f2', f3, f4, f5, f6, f7, f8, g0, g1⟩ := HX3.out.fz
 obtain ⟨c0, c1, c2, c3, c4, c5, c6, c7, c8, d0, d1⟩ := HX3.out.cells
 unfold zaE
 go_wp2_with fail
 have HP := HX3.out.put tk0 b 50
 exact zag rfl rfl rfl rfl HP ⟨by rw [HE.out]; rfl, HP.b⟩
theorem zpD (s : ByteArray) (b d : Nat) (k : Int) (hs : s.size <= 140737488355000) (hd : d <= s.size) (_hb : b <= s.size) (h : 6 < spN dgB s d - d) (h2 : ¬ chr s d = 48) (w : World) : Calls Tryz.prog 113 #[.string s, .int .i64 b, .int .i64 d, .int .i64 k] w fun e w' => e = .returned (zaP (nmR s b d k)) /\ Below w.heap.size w w' := by
 have HR : Hid (∀ w, Calls Tryz.prog 133 #[.string s, .int .i64 d, .func (.func 112) #[] #[]] w fun e w' => e = .returned (.int .i64 (spN dgB s d)) /\ w' = w) := fun w => zbD s d (by omega) hd w
 have HF : Hid (∀ i e w, Calls Tryz.prog 135 #[.int .i64 i, .int .i64 e] w fun e' w' => e' = .returned (zaE tk0 i e) /\ Below w.heap.size w w') := fun i e w => zax i e w
 have HX : Hid (BX w ((w.alloc (tkO tk0)).alloc (fxO 0 0)) tk0 0 0) := BX.new w
 have hge := zbo dgB s (by decide) d
 have hle := zbQ dgB s (by decide) d (by omega)
 have HU := (show Hid (zde s d (gtK k) = if spN dgB s d - d = 0 ∨ (1 < spN dgB s d - d /\ chr s d = 48) then .inr 50
  else if 6 < spN dgB s d - d ∨ gtK k < zbj s d 10 (spN dgB s d - d) then .inr 1 else .inl (zbj s d 10 (spN dgB s d - d))) from rfl)
 have HM := (show Hid (nmR s b d k = match zde s d (gtK k) with
  | .inr e => .inr (b, e)
  | .inl n => .inl ⟨k, n, b, spN dgB s d, ⟨#[]⟩, 0, 0, 0, 0⟩) from rfl)
 generalize spN dgB s d = n at *
 obtain ⟨m, hm⟩ : ∃ m, m = n - d := ⟨_, rfl⟩
 have u1 : IntKind.i64.wrap ((n : Int) - (d : Int)) = (m : Int) := by rw [IntKind.wrap_i64]; omega
 have z0 : (0 : Int) <= (d : Int) := by omega
 have z1 : (d : Int) <= (n : Int) := by omega
 have z2 : (n : Int) <= (s.size : Int) := by omega
 rw [<- hm] at HU h
 have HE : Hid (nmR s b d k = .inr (b, 1)) := by show nmR s b d k = _; rw [HM.out, HU.out, if_neg (by omega), if_pos (.inl h)]
 have t1 : ((m : Int) == 0) = false := by rw [beq_eq_false_iff_ne]; omega
 have t2 : (1 : Int) < (m : Int) := by omega
 have hlt : d < s.size := by omega
 have z3 : (d : Int) < (s.size : Int) := by omega
 have t3 : ((s[d].toNat : Int) == 48) = false := by rw [<- zak hlt, beq_eq_false_iff_ne]; exact h2
 have t4 : (6 : Int) < (m : Int) := by omega
 clear HU HM hm h h2
 go_enter Tryz.func113, Tryz.ntmps113
 go_wp2_with fail
 refine (HR.out _).mono ?_
 rintro e w2 ⟨rfl, rfl⟩
 clear HR
 go_wp2_with fail
 refine (HF.out _ _ _).mono ?_
 rintro e w3 ⟨rfl, b3⟩
 have HX3 : Hid (BX w w3 tk0 0 0) := HX.out.below b3
 clear b3 HX HF
 obtain ⟨f0, f1', f2', f3, f4, f5, f6, f7, f8, g0, g1⟩ := HX3.out.fz
 obtain ⟨c0, c1, c2, c3, c4, c5, c6, c7, c8, d0, d1⟩ := HX3.out.cells
 unfold zaE
 go_wp2_with fail
 have HP := HX3.out.put tk0 b 1
 exact zag rfl rfl rfl rfl HP ⟨by rw [HE.out]; rfl, HP.b⟩
theorem rn_one (s : ByteArray) (b d : Nat) (k : Int) (hs : s.size <= 140737488355000) (hd : d <= s.size) (_hb : b <= s.size) (h : spN dgB s d - d = 1) (w : World) : Calls Tryz.prog 113 #[.string s, .int .i64 b, .int .i64 d, .int .i64 k] w fun e w' => e = .returned (zaP (nmR s b d k)) /\ Below w.heap.size w w' := by
 have HR : Hid (∀ w, Calls Tryz.prog 133 #[.string s, .int .i64 d, .func (.func 112) #[] #[]] w fun e w' => e = .returned (.int .i64 (spN dgB s d)) /\ w' = w) := fun w => zbD s d (by omega) hd w
 have HF : Hid (∀ i e w, Calls Tryz.prog 135 #[.int .i64 i, .int .i64 e] w fun e' w' => e' = .returned (zaE tk0 i e) /\ Below w.heap.size w w') := fun i e w => zax i e w
 have HX : Hid (BX w ((w.alloc (tkO tk0)).alloc (fxO 0 0)) tk0 0 0) := BX.new w
 have hge := zbo dgB s (by decide) d
 have hle := zbQ dgB s (by decide) d (by omega)
 have HU := (show Hid (zde s d (gtK k) = if spN dgB s d - d = 0 ∨ (1 < spN dgB s d - d /\ chr s d = 48) then .inr 50
  else if 6 < spN dgB s d - d ∨ gtK k < zbj s d 10 (spN dgB s d - d) then .inr 1 else .inl (zbj s d 10 (spN dgB s d - d))) from rfl)
 have HM := (show Hid (nmR s b d k = match zde s d (gtK k) with
  | .inr e => .inr (b, e)
  | .inl n => .inl ⟨k, n, b, spN dgB s d, ⟨#[]⟩, 0, 0, 0, 0⟩) from rfl)
 generalize spN dgB s d = n at *
 obtain ⟨m, hm⟩ : ∃ m, m = n - d := ⟨_, rfl⟩
 have u1 : IntKind.i64.wrap ((n : Int) - (d : Int)) = (m : Int) := by rw [IntKind.wrap_i64]; omega
 have z0 : (0 : Int) <= (d : Int) := by omega
 have z1 : (d : Int) <= (n : Int) := by omega
 have z2 : (n : Int) <= (s.size : Int) := by omega
 rw [<- hm] at HU h
 have h0 : ¬ (m = 0 ∨ (1 < m /\ chr s d = 48)) := by omega
 have h6 : m <= 6 := by omega
 have t2 : ¬ (1 : Int) < (m : Int) := by omega
 have t1 : ((m : Int) == 0) = false := by rw [beq_eq_false_iff_ne]; omega
 have t4 : ¬ (6 : Int) < (m : Int) := by omega
 have HNo : Hid (∀ w, Calls Tryz.prog 137 #[.string (s.extract d n), .int .i64 10] w fun e w' => e = .returned (.int .i64 (zbj s d 10 m)) /\ w' = w) := fun w => by
  have hz : (s.extract d n).size = m := by rw [ByteArray.size_extract]; omega
  have e := zcE (s.extract d n) 10 (by omega) (by omega) w
  rw [hz, zfq (by omega) m (by omega)] at e
  exact e
 have HG : Hid (∀ w, Calls Tryz.prog 138 #[.int .i64 k] w fun e w' => e = .returned (.int .i64 (gtK k)) /\ w' = w) := fun w => zdO k w
 rw [if_neg h0] at HU
 generalize zbj s d 10 m = x at *
 generalize gtK k = y at *
 by_cases hg : y < x
 ·have HE : Hid (nmR s b d k = .inr (b, 1)) := by show nmR s b d k = _; rw [HM.out, HU.out, if_pos (.inr hg)]
  have t5 : decide (y < x) = true := decide_eq_true hg
  clear HU HM hm h h0 hg
  go_enter Tryz.func113, Tryz.ntmps113
  go_wp2_with fail
  refine (HR.out _).mono ?_
  rintro e w2 ⟨rfl, rfl⟩
  clear HR
  go_wp2_with fail
  refine (HNo.out _).mono ?_
  rintro e w2 ⟨rfl, rfl⟩
  clear HNo
  go_wp2_with fail
  refine (HG.out _).mono ?_
  rintro e w2 ⟨rfl, rfl⟩
  clear HG
  go_wp2_with fail
  refine (HF.out _ _ _).mono ?_
  rintro e w3 ⟨rfl, b3⟩
  have HX3 : Hid (BX w w3 tk0 0 0) := HX.out.below b3
  clear b3 HX HF
  obtain ⟨f0, f1', f2', f3, f4, f5, f6, f7, f8, g0, g1⟩ := HX3.out.fz
  obtain ⟨c0, c1, c2, c3, c4, c5, c6, c7, c8, d0, d1⟩ := HX3.out.cells
  unfold zaE
  go_wp2_with fail
  have HP := HX3.out.put tk0 b 1
  exact zag rfl rfl rfl rfl HP ⟨by rw [HE.out]; rfl, HP.b⟩
 ·have HE : Hid (nmR s b d k = .inl ⟨k, x, b, n, ⟨#[]⟩, 0, 0, 0, 0⟩) := by show nmR s b d k = _; rw [HM.out, HU.out, if_neg (by omega)]
  have t5 : decide (y < x) = false := decide_eq_false hg
  clear HU HM hm h h0 hg HF
  go_enter Tryz.func113, Tryz.ntmps113
  go_wp2_with fail
  refine (HR.out _).mono ?_
  rintro e w2 ⟨rfl, rfl⟩
  clear HR
  go_wp2_with fail
  refine (HNo.out _).mono ?_
  rintro e w2 ⟨rfl, rfl⟩
  clear HNo
  go_wp2_with fail
  refine (HG.out _).mono ?_
  rintro e w3 ⟨rfl, hw3⟩
  have HX3 : Hid (BX w w3 tk0 0 0) := hw3 ▸ HX.out
  clear hw3 HX HG
  obtain ⟨f0, f1', f2', f3, f4, f5, f6, f7, f8, g0, g1⟩ := HX3.out.fz
  obtain ⟨c0, c1, c2, c3, c4, c5, c6, c7, c8, d0, d1⟩ := HX3.out.cells
  go_wp2_with fail
  have HP := HX3.out.put ⟨k, x, b, n, ⟨#[]⟩, 0, 0, 0, 0⟩ 0 0
  exact zag rfl rfl rfl rfl HP ⟨by rw [HE.out]; rfl, HP.b⟩
theorem zpE (s : ByteArray) (b d : Nat) (k : Int) (hs : s.size <= 140737488355000) (hd : d <= s.size) (_hb : b <= s.size) (h : spN dgB s d - d <= 6) (h1 : 1 < spN dgB s d - d) (h2 : ¬ chr s d = 48) (w : World) : Calls Tryz.prog 113 #[.string s, .int .i64 b, .int .i64 d, .int .i64 k] w fun e w' => e = .returned (zaP (nmR s b d k)) /\ Below w.heap.size w w' := by
 have HR : Hid (∀ w, Calls Tryz.prog 133 #[.string s, .int .i64 d, .func (.func 112) #[] #[]] w fun e w' => e = .returned (.int .i64 (spN dgB s d)) /\ w' = w) := fun w => zbD s d (by omega) hd w
 have HF : Hid (∀ i e w, Calls Tryz.prog 135 #[.int .i64 i, .int .i64 e] w fun e' w' => e' = .returned (zaE tk0 i e) /\ Below w.heap.size w w') := fun i e w => zax i e w
 have HX : Hid (BX w ((w.alloc (tkO tk0)).alloc (fxO 0 0)) tk0 0 0) := BX.new w
 have hge := zbo dgB s (by decide) d
 have hle := zbQ dgB s (by decide) d (by omega)
 have HU := (show Hid (zde s d (gtK k) = if spN dgB s d - d = 0 ∨ (1 < spN dgB s d - d /\ chr s d = 48) then .inr 50
  else if 6 < spN dgB s d - d ∨ gtK k < zbj s d 10 (spN dgB s d - d) then .inr 1 else .inl (zbj s d 10 (spN dgB s d - d))) from rfl)
 have HM := (show Hid (nmR s b d k = match zde s d (gtK k) with
  | .inr e => .inr (b, e)
  | .inl n => .inl ⟨k, n, b, spN dgB s d, ⟨#[]⟩, 0, 0, 0, 0⟩) from rfl)
 generalize spN dgB s d = n at *
 obtain ⟨m, hm⟩ : ∃ m, m = n - d := ⟨_, rfl⟩
 have u1 : IntKind.i64.wrap ((n : Int) - (d : Int)) = (m : Int) := by rw [IntKind.wrap_i64]; omega
 have z0 : (0 : Int) <= (d : Int) := by omega
 have z1 : (d : Int) <= (n : Int) := by omega
 have z2 : (n : Int) <= (s.size : Int) := by omega
 rw [<- hm] at HU h
 rw [<- hm] at h1
 have h0 : ¬ (m = 0 ∨ (1 < m /\ chr s d = 48)) := by omega
 have h6 : m <= 6 := by omega
 have t2 : (1 : Int) < (m : Int) := by omega
 have hlt : d < s.size := by omega
 have z3 : (d : Int) < (s.size : Int) := by omega
 have t3 : ((s[d].toNat : Int) == 48) = false := by rw [<- zak hlt, beq_eq_false_iff_ne]; exact h2
 have t1 : ((m : Int) == 0) = false := by rw [beq_eq_false_iff_ne]; omega
 have t4 : ¬ (6 : Int) < (m : Int) := by omega
 have HNo : Hid (∀ w, Calls Tryz.prog 137 #[.string (s.extract d n), .int .i64 10] w fun e w' => e = .returned (.int .i64 (zbj s d 10 m)) /\ w' = w) := fun w => by
  have hz : (s.extract d n).size = m := by rw [ByteArray.size_extract]; omega
  have e := zcE (s.extract d n) 10 (by omega) (by omega) w
  rw [hz, zfq (by omega) m (by omega)] at e
  exact e
 have HG : Hid (∀ w, Calls Tryz.prog 138 #[.int .i64 k] w fun e w' => e = .returned (.int .i64 (gtK k)) /\ w' = w) := fun w => zdO k w
 rw [if_neg h0] at HU
 generalize zbj s d 10 m = x at *
 generalize gtK k = y at *
 by_cases hg : y < x
 ·have HE : Hid (nmR s b d k = .inr (b, 1)) := by show nmR s b d k = _; rw [HM.out, HU.out, if_pos (.inr hg)]
  have t5 : decide (y < x) = true := decide_eq_true hg
  clear HU HM hm h h0 hg h1 h2
  go_enter Tryz.func113, Tryz.ntmps113
  go_wp2_with fail
  refine (HR.out _).mono ?_
  rintro e w2 ⟨rfl, rfl⟩
  clear HR
  go_wp2_with fail
  refine (HNo.out _).mono ?_
  rintro e w2 ⟨rfl, rfl⟩
  clear HNo
  go_wp2_with fail
  refine (HG.out _).mono ?_
  rintro e w2 ⟨rfl, rfl⟩
  clear HG
  go_wp2_with fail
  refine (HF.out _ _ _).mono ?_
  rintro e w3 ⟨rfl, b3⟩
  have HX3 : Hid (BX w w3 tk0 0 0) := HX.out.below b3
  clear b3 HX HF
  obtain ⟨f0, f1', f2', f3, f4, f5, f6, f7, f8, g0, g1⟩ := HX3.out.fz
  obtain ⟨c0, c1, c2, c3, c4, c5, c6, c7, c8, d0, d1⟩ := HX3.out.cells
  unfold zaE
  go_wp2_with fail
  have HP := HX3.out.put tk0 b 1
  exact zag rfl rfl rfl rfl HP ⟨by rw [HE.out]; rfl, HP.b⟩
 ·have HE : Hid (nmR s b d k = .inl ⟨k, x, b, n, ⟨#[]⟩, 0, 0, 0, 0⟩) := by show nmR s b d k = _; rw [HM.out, HU.out, if_neg (by omega)]
  have t5 : decide (y < x) = false := decide_eq_false hg
  clear HU HM hm h h0 hg HF h1 h2
  go_enter Tryz.func113, Tryz.ntmps113
  go_wp2_with fail
  refine (HR.out _).mono ?_
  rintro e w2 ⟨rfl, rfl⟩
  clear HR
  go_wp2_with fail
  refine (HNo.out _).mono ?_
  rintro e w2 ⟨rfl, rfl⟩
  clear HNo
  go_wp2_with fail
  refine (HG.out _).mono ?_
  rintro e w3 ⟨rfl, hw3⟩
  have HX3 : Hid (BX w w3 tk0 0 0) := hw3 ▸ HX.out
  clear hw3 HX HG
  obtain ⟨f0, f1', f2', f3, f4, f5, f6, f7, f8, g0, g1⟩ := HX3.out.fz
  obtain ⟨c0, c1, c2, c3, c4, c5, c6, c7, c8, d0, d1⟩ := HX3.out.cells
  go_wp2_with fail
  have HP := HX3.out.put ⟨k, x, b, n, ⟨#[]⟩, 0, 0, 0, 0⟩ 0 0
  exact zag rfl rfl rfl rfl HP ⟨by rw [HE.out]; rfl, HP.b⟩
theorem zbz (s : ByteArray) (b d : Nat) (k : Int) (hs : s.size <= 140737488355000) (hd : d <= s.size) (hb : b <= s.size) (w : World) : Calls Tryz.prog 113 #[.string s, .int .i64 b, .int .i64 d, .int .i64 k] w fun e w' => e = .returned (zaP (nmR s b d k)) /\ Below w.heap.size w w' := by
 by_cases h0 : spN dgB s d - d = 0
 ·exact zpB s b d k hs hd hb h0 w
 by_cases h1 : spN dgB s d - d = 1
 ·exact rn_one s b d k hs hd hb h1 w
 by_cases h2 : chr s d = 48
 ·exact zpC s b d k hs hd hb (by omega) h2 w
 by_cases h6 : 6 < spN dgB s d - d
 ·exact zpD s b d k hs hd hb h6 h2 w
 ·exact zpE s b d k hs hd hb (by omega) (by omega) h2 w
def sgTab : List (Int × List UInt8) := [(29, [37, 101]), (30, [37, 102]), (14, [94, 43]), (15, [94, 45]), (13, [94]), (6, [60, 45]), (27, [45, 62]), (7, [47]), (8, [38]), (9, [33]), (10, [63]), (11, [42]), (12, [43]), (16, [40]), (17, [41]), (18, [46]), (21, [123, 58]), (22, [58, 125]), (23, [123, 124]), (24, [124, 125]), (25, [123, 126]), (26, [126, 125]), (19, [123]), (20, [125])]
def zib (s : ByteArray) (i : Nat) : List (Int × List UInt8) -> Int × List UInt8
 | [] => (0, [])
 | p :: l => if pfx s i p.2 = true then p else zib s i l
def zai (s : ByteArray) (i : Nat) : Int × List UInt8 := zib s i sgTab
def tabL : List Value := [.int .i64 29, .string ⟨#[37, 101]⟩, .int .i64 30, .string ⟨#[37, 102]⟩, .int .i64 14, .string ⟨#[94, 43]⟩, .int .i64 15, .string ⟨#[94, 45]⟩, .int .i64 13, .string ⟨#[94]⟩, .int .i64 6, .string ⟨#[60, 45]⟩, .int .i64 27, .string ⟨#[45, 62]⟩, .int .i64 7, .string ⟨#[47]⟩, .int .i64 8, .string ⟨#[38]⟩, .int .i64 9, .string ⟨#[33]⟩, .int .i64 10, .string ⟨#[63]⟩, .int .i64 11, .string ⟨#[42]⟩, .int .i64 12, .string ⟨#[43]⟩, .int .i64 16, .string ⟨#[40]⟩, .int .i64 17, .string ⟨#[41]⟩, .int .i64 18, .string ⟨#[46]⟩, .int .i64 21, .string ⟨#[123, 58]⟩, .int .i64 22, .string ⟨#[58, 125]⟩, .int .i64 23, .string ⟨#[123, 124]⟩, .int .i64 24, .string ⟨#[124, 125]⟩, .int .i64 25, .string ⟨#[123, 126]⟩, .int .i64 26, .string ⟨#[126, 125]⟩, .int .i64 19, .string ⟨#[123]⟩, .int .i64 20, .string ⟨#[125]⟩]
structure SG (W : World) : Prop where
 lt : 1 < W.heap.size
 rng : W.rangeAt 1 0 tabL
theorem SG.below {B : Nat} {W W' : World} (h : SG W) (hb : Below B W W') (hB : 1 < B) : SG W' :=
 ⟨Nat.lt_of_lt_of_le h.lt hb.size, fun j v hv => (hb.cell (p := ⟨1, 0 + j, none⟩) hB).trans (h.rng j v hv)⟩
theorem SG.later {W W' : World} (h : SG W) (hb : Below W.heap.size W W') : SG W' := h.below hb h.lt
theorem zha (k : Nat) (p : Int × List UInt8) (h : sgTab[k]? = some p) (W : World) : (Instr.index 185 (.agg tabL.toArray) (.int .i64 (k : Int))).run Tryz.prog W = .ok (.agg #[.int .i64 p.1, .string ⟨p.2.toArray⟩]) W := by
 match k, h with
 | 0, h => cases h; simp [tabL, Instr.index, run_underlying Tryz.underlying185, asIntOf, go_sem]
 | 1, h => cases h; simp [tabL, Instr.index, run_underlying Tryz.underlying185, asIntOf, go_sem]
 | 2, h => cases h; simp [tabL, Instr.index, run_underlying Tryz.underlying185, asIntOf, go_sem]
 | 3, h => cases h; simp [tabL, Instr.index, run_underlying Tryz.underlying185, asIntOf, go_sem]
 | 4, h => cases h; simp [tabL, Instr.index, run_underlying Tryz.underlying185, asIntOf, go_sem]
 | 5, h => cases h; simp [tabL, Instr.index, run_underlying Tryz.underlying185, asIntOf, go_sem]
 | 6, h => cases h; simp [tabL, Instr.index, run_underlying Tryz.underlying185, asIntOf, go_sem]
 | 7, h => cases h; simp [tabL, Instr.index, run_underlying Tryz.underlying185, asIntOf, go_sem]
 | 8, h => cases h; simp [tabL, Instr.index, run_underlying Tryz.underlying185, asIntOf, go_sem]
 | 9, h => cases h; simp [tabL, Instr.index, run_underlying Tryz.underlying185, asIntOf, go_sem]
 | 10, h => cases h; simp [tabL, Instr.index, run_underlying Tryz.underlying185, asIntOf, go_sem]
 | 11, h => cases h; simp [tabL, Instr.index, run_underlying Tryz.underlying185, asIntOf, go_sem]
 | 12, h => cases h; simp [tabL, Instr.index, run_underlying Tryz.underlying185, asIntOf, go_sem]
 | 13, h => cases h; simp [tabL, Instr.index, run_underlying Tryz.underlying185, asIntOf, go_sem]
 | 14, h => cases h; simp [tabL, Instr.index, run_underlying Tryz.underlying185, asIntOf, go_sem]
 | 15, h => cases h; simp [tabL, Instr.index, run_underlying Tryz.underlying185, asIntOf, go_sem]
 | 16, h => cases h; simp [tabL, Instr.index, run_underlying Tryz.underlying185, asIntOf, go_sem]
 | 17, h => cases h; simp [tabL, Instr.index, run_underlying Tryz.underlying185, asIntOf, go_sem]
 | 18, h => cases h; simp [tabL, Instr.index, run_underlying Tryz.underlying185, asIntOf, go_sem]
 | 19, h => cases h; simp [tabL, Instr.index, run_underlying Tryz.underlying185, asIntOf, go_sem]
 | 20, h => cases h; simp [tabL, Instr.index, run_underlying Tryz.underlying185, asIntOf, go_sem]
 | 21, h => cases h; simp [tabL, Instr.index, run_underlying Tryz.underlying185, asIntOf, go_sem]
 | 22, h => cases h; simp [tabL, Instr.index, run_underlying Tryz.underlying185, asIntOf, go_sem]
 | 23, h => cases h; simp [tabL, Instr.index, run_underlying Tryz.underlying185, asIntOf, go_sem]
abbrev sgO (p : Int × List UInt8) : Obj := .cells #[.int .i64 p.1, .string ⟨p.2.toArray⟩] 169
structure SX (W : World) (b : Nat) (p : Int × List UInt8) : Prop where
 heap : W.heap[b]? = some (.cells #[.int .i64 p.1, .string ⟨p.2.toArray⟩] 169 (0, 0))
theorem SX.lt {W : World} {b : Nat} {p : Int × List UInt8} (h : SX W b p) : b < W.heap.size := (Array.getElem?_eq_some_iff.1 h.heap).1
theorem SX.below {W W' : World} {b : Nat} {p : Int × List UInt8} (h : SX W b p) (hb : Below W.heap.size W W') : SX W' b p := ⟨(hb.block b h.lt).trans h.heap⟩
theorem SX.new (W : World) (p : Int × List UInt8) : SX (W.alloc (sgO p)) W.heap.size p := ⟨heap_alloc_new W _⟩
theorem SX.c0 {W : World} {b : Nat} {p : Int × List UInt8} (h : SX W b p) : W.cell? ⟨b, 0, none⟩ = some (.int .i64 p.1) := by rw [cell_of_row W b 0 _ 169 (0, 0) h.heap]; rfl
theorem SX.c1 {W : World} {b : Nat} {p : Int × List UInt8} (h : SX W b p) : W.cell? ⟨b, 1, none⟩ = some (.string ⟨p.2.toArray⟩) := by rw [cell_of_row W b 1 _ 169 (0, 0) h.heap]; rfl
theorem SX.f0 {W : World} {b : Nat} {p : Int × List UInt8} (h : SX W b p) : W.frozen? ⟨b, 0, none⟩ = false := frozen_of_row W b 0 _ 169 h.heap
theorem SX.f1 {W : World} {b : Nat} {p : Int × List UInt8} (h : SX W b p) : W.frozen? ⟨b, 1, none⟩ = false := frozen_of_row W b 1 _ 169 h.heap
theorem SX.put {W : World} {b : Nat} {p0 : Int × List UInt8} (h : SX W b p0) (p : Int × List UInt8) : SX ((W.setCell ⟨b, 0, none⟩ (.int .i64 p.1)).setCell ⟨b, 1, none⟩ (.string ⟨p.2.toArray⟩)) b p := by
 have h := h.heap
 have h0 := heap_setCell_same _ b 0 _ 169 (.int .i64 p.1) h
 have h1 := heap_setCell_same _ b 1 _ 169 (.string ⟨p.2.toArray⟩) h0
 refine ⟨?_⟩
 rw [h1]
 simp
theorem zod {fn : Func} {R : Ending -> World -> Prop} {a : Act} {W : World} {b : Nat} {p : Int × List UInt8} (hF : fn.results = #[.cell 4 169]) (hd : a.defers = []) (h4 : a.tmps.getD 4 undef = .pointer (some ⟨b, 0, none⟩)) (hT : SX W b p) (hR : R (.returned (.agg #[.int .i64 p.1, .string ⟨p.2.toArray⟩])) W) : bodyPost Tryz.prog fn R .ret a W := by
 have c0 := hT.c0
 have c1 := hT.c1
 refine bodyPost_ret (v := .agg #[.int .i64 p.1, .string ⟨p.2.toArray⟩]) ?_ hd hR
 simp only [Array.getD_eq_getD_getElem?] at h4
 simp [results, hF, go_sem, h4, c0, c1]
structure AtTab (w wr : World) : Prop where
 b : Below w.heap.size w wr
 x : SX wr w.heap.size (0, [])
theorem zaR (s : ByteArray) (i : Nat) (hi : i <= s.size) (w : World) (hg : SG w) : Calls Tryz.prog 142 #[.string s, .int .i64 i] w fun e w' => e = .returned (.agg #[.int .i64 (zai s i).1, .string ⟨(zai s i).2.toArray⟩]) /\ Below w.heap.size w w' := by
 have HS : Hid (∀ (l : List UInt8) w, Calls Tryz.prog 86 #[.string s, .int .i64 i, .string ⟨l.toArray⟩] w fun e w' => e = .returned (.bool (pfx s i l)) /\ w' = w) := fun l w => by
  have e := zar s i ⟨l.toArray⟩ hi w
  rw [show (⟨l.toArray⟩ : ByteArray).data.toList = l from by simp] at e
  exact e
 have H0 : Hid (AtTab w (w.alloc (sgO (0, [])))) := ⟨zaa _ _, SX.new w (0, [])⟩
 have HI : Hid (∀ (k : Nat) p, sgTab[k]? = some p -> ∀ W : World, (Instr.index 185 (.agg tabL.toArray) (.int .i64 (k : Int))).run Tryz.prog W = .ok (.agg #[.int .i64 p.1, .string ⟨p.2.toArray⟩]) W) := zha
 have hR : (w.alloc (sgO (0, []))).rangeAt 1 0 tabL := (hg.later (zaa _ _)).rng
 have HL : Hid (zib s i (sgTab.drop 0) = zai s i) := rfl
 clear hg
 generalize htv : tabL.toArray = TV at HI
 go_enter Tryz.func142, Tryz.ntmps142
 go_wp2_with (refine wpList_load_mid rfl 185 _ rfl 1 0 rfl tabL _ hR Tryz.underlying185 rfl (by kernel_rfl) ?_)
 clear hR htv
 go_loopw [8] (fun t wr => ∃ k : Nat, k <= 24 /\ t = .int .i64 k /\ Hid (AtTab w wr) /\ Hid (zib s i (sgTab.drop k) = zai s i)) (fun t _ => 24 - (intOf t).toNat)
 case atStart => exact ⟨0, by omega, by go_num, H0, HL⟩
 case round =>
  obtain ⟨k, hk, rfl, HW, HD⟩ := hrel
  clear H0 HL
  by_cases hk4 : k < 24
  ·obtain ⟨p, hp⟩ : ∃ p, sgTab[k]? = some p := ⟨_, List.getElem?_eq_getElem (by show k < 24; exact hk4)⟩
   have hix := HI.out k p hp
   have z1 : (k : Int) < 24 := by omega
   have HSk := hO (HS.out p.2)
   have HU : Hid (zai s i = if pfx s i p.2 = true then p else zib s i (sgTab.drop (k + 1))) := by
    show zai s i = _
    have hd : sgTab.drop k = p :: sgTab.drop (k + 1) := by
     obtain ⟨h1, h2⟩ := List.getElem?_eq_some_iff.1 hp
     rw [List.drop_eq_getElem_cons h1, h2]
    rw [<- HD.out, hd, zib]
   clear HS hp HD
   cases hf : pfx s i p.2 with
   | true =>
    have HE : Hid (zai s i = p) := by show zai s i = p; rw [HU.out, if_pos hf]
    rw [hf] at HSk
    clear HU hf
    go_wp2_with fail
    refine (HSk.out _).mono ?_
    rintro e w3 ⟨rfl, hw3⟩
    have HX3 : Hid (SX w3 w.heap.size (0, [])) := by rw [hw3]; exact HW.out.x.below (zaa _ _)
    have HY3 : Hid (SX w3 wr.heap.size p) := by rw [hw3]; exact SX.new wr p
    have HB3 : Hid (Below w.heap.size w w3) := by rw [hw3]; exact HW.out.b.alloc HW.out.b.size _
    clear hw3 HW HSk hix HI
    have f0 := HX3.out.f0
    have f1' := HX3.out.f1
    have c0 := HX3.out.c0
    have c1 := HX3.out.c1
    have d0 := HY3.out.c0
    have d1 := HY3.out.c1
    go_wp2_with fail
    exact zod rfl rfl rfl (HX3.out.put p) ⟨by rw [HE.out], (HB3.out.setCell (p := ⟨w.heap.size, 0, none⟩) (Nat.le_refl _) _).setCell (p := ⟨w.heap.size, 1, none⟩) (Nat.le_refl _) _⟩
   | false =>
    have HE : Hid (zib s i (sgTab.drop (k + 1)) = zai s i) := by show _ = zai s i; rw [HU.out, if_neg (by rw [hf]; decide)]
    rw [hf] at HSk
    clear HU hf
    go_wp2_with fail
    refine (HSk.out _).mono ?_
    rintro e w3 ⟨rfl, hw3⟩
    have HW3 : Hid (AtTab w w3) := by rw [hw3]; exact ⟨HW.out.b.alloc HW.out.b.size _, HW.out.x.below (zaa _ _)⟩
    clear hw3 HW HSk hix
    go_wp2_with fail
    go_roundw
    case rel => exact ⟨k + 1, by omega, by go_num, HW3, HE⟩
    case measure => simp [intOf]; omega
  ·obtain rfl : k = 24 := by omega
   have HE : Hid (zai s i = (0, [])) := by show zai s i = _; rw [<- HD.out]; rfl
   have f0 := HW.out.x.f0
   have f1' := HW.out.x.f1
   have c0 := HW.out.x.c0
   have c1 := HW.out.x.c1
   clear HS HI HD
   go_wp2_with fail
   exact zod rfl rfl rfl (HW.out.x.put (0, [])) ⟨by rw [HE.out], (HW.out.b.setCell (p := ⟨w.heap.size, 0, none⟩) (Nat.le_refl _) _).setCell (p := ⟨w.heap.size, 1, none⟩) (Nat.le_refl _) _⟩
def ptP (s : ByteArray) (a : Nat) : Int × Nat × Bool :=
 if spN hxB s a = a ∨ 6 < spN hxB s a - a then (0, a, false) else (zbj s a 16 (spN hxB s a - a), spN hxB s a, decide (zbj s a 16 (spN hxB s a - a) <= 1114111))
theorem zaw (s : ByteArray) (a : Nat) (hs : s.size <= 140737488355000) (ha : a <= s.size) (w : World) : Calls Tryz.prog 159 #[.string s, .int .i64 a] w fun e w' => e = .returned (.tuple #[.int .i64 (ptP s a).1, .int .i64 (ptP s a).2.1, .bool (ptP s a).2.2]) /\ w' = w := by
 have HR : Hid (∀ w, Calls Tryz.prog 133 #[.string s, .int .i64 a, .func (.func 177) #[] #[]] w fun e w' => e = .returned (.int .i64 (spN hxB s a)) /\ w' = w) := fun w => ziW s a (by omega) ha w
 have hge := zbo hxB s (by decide) a
 have hle := zbQ hxB s (by decide) a ha
 have HU : Hid (ptP s a = if spN hxB s a = a ∨ 6 < spN hxB s a - a then (0, a, false) else (zbj s a 16 (spN hxB s a - a), spN hxB s a, decide (zbj s a 16 (spN hxB s a - a) <= 1114111))) := rfl
 generalize spN hxB s a = n at *
 obtain ⟨m, hm⟩ : ∃ m, m = n - a := ⟨_, rfl⟩
 have u1 : IntKind.i64.wrap ((n : Int) - (a : Int)) = (m : Int) := by rw [IntKind.wrap_i64]; omega
 rw [<- hm] at HU
 by_cases h0 : n = a
 ·have HE : Hid (ptP s a = (0, a, false)) := by show ptP s a = _; rw [HU.out, if_pos (.inl h0)]
  have t1 : ((n : Int) == (a : Int)) = true := by rw [h0]; exact beq_self_eq_true _
  clear HU hm h0
  go_enter Tryz.func159, Tryz.ntmps159
  go_wp2_with fail
  refine (HR.out _).mono ?_
  rintro e w2 ⟨rfl, rfl⟩
  clear HR
  go_wp2_with fail
  refine bodyPost_ret (v := .tuple #[.int .i64 0, .int .i64 a, .bool false]) (by simp [results, Tryz.results159, go_sem]) rfl ⟨by rw [HE.out], rfl⟩
 have t1 : ((n : Int) == (a : Int)) = false := by rw [beq_eq_false_iff_ne]; omega
 by_cases h6 : 6 < m
 ·have HE : Hid (ptP s a = (0, a, false)) := by show ptP s a = _; rw [HU.out, if_pos (.inr h6)]
  have t2 : (6 : Int) < (m : Int) := by omega
  clear HU hm h0 h6
  go_enter Tryz.func159, Tryz.ntmps159
  go_wp2_with fail
  refine (HR.out _).mono ?_
  rintro e w2 ⟨rfl, rfl⟩
  clear HR
  go_wp2_with fail
  refine bodyPost_ret (v := .tuple #[.int .i64 0, .int .i64 a, .bool false]) (by simp [results, Tryz.results159, go_sem]) rfl ⟨by rw [HE.out], rfl⟩
 ·have HE : Hid (ptP s a = (zbj s a 16 m, n, decide (zbj s a 16 m <= 1114111))) := by show ptP s a = _; rw [HU.out, if_neg (by omega)]
  have t2 : ¬ (6 : Int) < (m : Int) := by omega
  have z0 : (0 : Int) <= (a : Int) := by omega
  have z1 : (a : Int) <= (n : Int) := by omega
  have z2 : (n : Int) <= (s.size : Int) := by omega
  have HN : Hid (∀ w, Calls Tryz.prog 137 #[.string (s.extract a n), .int .i64 16] w fun e w' => e = .returned (.int .i64 (zbj s a 16 m)) /\ w' = w) := fun w => by
   have hz : (s.extract a n).size = m := by rw [ByteArray.size_extract]; omega
   have e := zcE (s.extract a n) 16 (by omega) (by omega) w
   rw [hz, zfq (by omega) m (by omega)] at e
   exact e
  clear HU hm h0 h6
  generalize zbj s a 16 m = x at *
  go_enter Tryz.func159, Tryz.ntmps159
  go_wp2_with fail
  refine (HR.out _).mono ?_
  rintro e w2 ⟨rfl, rfl⟩
  clear HR
  go_wp2_with fail
  refine (HN.out _).mono ?_
  rintro e w2 ⟨rfl, rfl⟩
  clear HN
  go_wp2_with fail
  refine bodyPost_ret (v := .tuple #[.int .i64 x, .int .i64 n, .bool (decide (x <= 1114111))]) (by simp [results, Tryz.results159, go_sem]) rfl ⟨by rw [HE.out], rfl⟩
def Kj (P : Program) (c : Code) (L : Nat) (J : Act -> World -> Prop) (Q : Exit -> Act -> World -> Prop) : Nat -> Exit -> Act -> World -> Prop
 | _, .normal, a, w => Q .normal a w
 | _, .exit i, a, w => Q (.exit i) a w
 | _, .ret, a, w => Q .ret a w
 | _, .panic ch, a, w => Q (.panic ch) a w
 | _, .outgrown, a, w => Q .outgrown a w
 | 0, .goto l, a, w => l = L /\ J a w
 | n + 1, .goto l, a, w => (l = L /\ J a w) ∨ ∃ rest, findLabel c l = some rest /\ rest.wp P (Kj P c L J Q n) a w
section
variable {P : Program} {c : Code} {L : Nat} {J : Act -> World -> Prop} {Q : Exit -> Act -> World -> Prop} {a : Act} {w : World}
@[go_sem] theorem Kj_normal (n : Nat) : Kj P c L J Q n .normal a w = Q .normal a w := by cases n <;> rfl
@[go_sem] theorem Kj_exit (n i : Nat) : Kj P c L J Q n (.exit i) a w = Q (.exit i) a w := by cases n <;> rfl
@[go_sem] theorem zdo (n : Nat) : Kj P c L J Q n .ret a w = Q .ret a w := by cases n <;> rfl
@[go_sem] theorem Kj_panic (n : Nat) (ch : List PanicEntry) : Kj P c L J Q n (.panic ch) a w = Q (.panic ch) a w := by cases n <;> rfl
theorem zpF (n : Nat) : Kj P c L J Q n .outgrown a w = Q .outgrown a w := by cases n <;> rfl
theorem zbp {K : Act -> World -> Prop} (l : Nat) : Exit.then K Q (.goto l) a w = Q (.goto l) a w := rfl
theorem zcG (b l : Nat) : Exit.inBlock b Q (.goto l) a w = Q (.goto l) a w := rfl
theorem zpG {J' : Act -> World -> Prop} (hJ : ∀ a w, J a w -> J' a w) : ∀ (n : Nat) (e : Exit) (a : Act) (w : World), Kj P c L J Q n e a w -> Kj P c L J' Q n e a w := by
 intro n
 induction n with
 | zero =>
  intro e a w h
  cases e with
  | goto l => exact ⟨h.1, hJ _ _ h.2⟩
  | normal => exact h
  | exit i => exact h
  | ret => exact h
  | panic ch => exact h
  | outgrown => exact h
 | succ n ih =>
  intro e a w h
  cases e with
  | goto l =>
   rcases h with ⟨h1, h2⟩ | ⟨r, h1, h2⟩
   ·exact .inl ⟨h1, hJ _ _ h2⟩
   ·exact .inr ⟨r, h1, wp_mono h2 (ih)⟩
  | normal => exact h
  | exit i => exact h
  | ret => exact h
  | panic ch => exact h
  | outgrown => exact h
theorem zku {n : Nat} (h : J a w) : Kj P c L J Q n (.goto L) a w := by
 cases n with
 | zero => exact ⟨rfl, h⟩
 | succ n => exact .inl ⟨rfl, h⟩
theorem zgp {n l : Nat} {rest : Code} (hf : findLabel c l = some rest) (h : rest.wp P (Kj P c L J Q n) a w) : Kj P c L J Q (n + 1) (.goto l) a w := .inr ⟨rest, hf, h⟩
theorem zoe {rest : Code} (hr : findLabel c L = some rest) (b : Frame) (k : List Item) (cs : List Frame) : ∀ (n : Nat) (d : Code) (a : Act) (w : World), d.wp P (Kj P c L J Q n) a w →
  (∃ e a' w', Q e a' w' /\ Arrives P (lone (b.at a (.code d :: .inScope c :: k)) cs w) b k cs e a' w') ∨ ∃ a' w', J a' w' /\ Steps P (lone (b.at a (.code d :: .inScope c :: k)) cs w) (lone (b.at a' (.code rest :: .inScope c :: k)) cs w') := by
 intro n
 induction n with
 | zero =>
  intro d a w h
  obtain ⟨e, a₁, w₁, hq, harr⟩ := h b (.inScope c :: k) cs
  cases e with
  | normal => exact .inl ⟨.normal, a₁, w₁, hq, Steps.trans harr (.one step_inScope)⟩
  | exit id => exact .inl ⟨.exit id, a₁, w₁, hq, fun k' hk => harr k' (by simp [exitTo, hk])⟩
  | goto l =>
   obtain ⟨rfl, hJ⟩ := hq
   exact .inr ⟨a₁, w₁, hJ, harr _ (by simp [gotoIn, hr])⟩
  | ret => exact .inl ⟨_, a₁, w₁, hq, harr⟩
  | panic ch => exact .inl ⟨_, a₁, w₁, hq, harr⟩
  | outgrown => exact .inl ⟨_, a₁, w₁, hq, harr⟩
 | succ n ih =>
  intro d a w h
  obtain ⟨e, a₁, w₁, hq, harr⟩ := h b (.inScope c :: k) cs
  cases e with
  | normal => exact .inl ⟨.normal, a₁, w₁, hq, Steps.trans harr (.one step_inScope)⟩
  | exit id => exact .inl ⟨.exit id, a₁, w₁, hq, fun k' hk => harr k' (by simp [exitTo, hk])⟩
  | goto l =>
   rcases hq with ⟨rfl, hJ⟩ | ⟨r2, hf, hw⟩
   ·exact .inr ⟨a₁, w₁, hJ, harr _ (by simp [gotoIn, hr])⟩
   ·have hs := harr _ (show gotoIn l (.inScope c :: k) = some (.code r2 :: .inScope c :: k) by simp [gotoIn, hf])
    rcases ih r2 a₁ w₁ hw with ⟨e2, a2, w2, hq2, harr2⟩ | ⟨a2, w2, hJ, hs2⟩
    ·exact .inl ⟨e2, a2, w2, hq2, .of_steps hs harr2⟩
    ·exact .inr ⟨a2, w2, hJ, hs.trans hs2⟩
  | ret => exact .inl ⟨_, a₁, w₁, hq, harr⟩
  | panic ch => exact .inl ⟨_, a₁, w₁, hq, harr⟩
  | outgrown => exact .inl ⟨_, a₁, w₁, hq, harr⟩
theorem zcX {rest : Code} (n L : Nat) (J : Act -> World -> Prop) (μ : Act -> World -> Nat) (hr : findLabel c L = some rest) (first : c.wp P (Kj P c L J Q n) a w)
  (pass : ∀ a w, J a w -> rest.wp P (Kj P c L (fun a' w' => J a' w' /\ μ a' w' < μ a w) Q n) a w) : (Code.scope c).wp P Q a w := by
 intro b k cs
 have key : ∀ m a w, μ a w = m -> J a w -> ∃ e a' w', Q e a' w' /\ Arrives P (lone (b.at a (.code rest :: .inScope c :: k)) cs w) b k cs e a' w' := by
  intro m
  induction m using Nat.strongRecOn with
  | _ m ih =>
   intro a w hm hJ
   rcases zoe hr b k cs n rest a w (pass a w hJ) with h | ⟨a2, w2, ⟨hJ2, hlt⟩, hs⟩
   ·exact h
   ·obtain ⟨e, a3, w3, hq, harr⟩ := ih _ (by omega) a2 w2 rfl hJ2
    exact ⟨e, a3, w3, hq, .of_steps hs harr⟩
 rcases zoe hr b k cs n c a w first with ⟨e, a2, w2, hq, harr⟩ | ⟨a2, w2, hJ, hs⟩
 ·exact ⟨e, a2, w2, hq, .of_steps (.one step_scope) harr⟩
 ·obtain ⟨e, a3, w3, hq, harr⟩ := key _ a2 w2 rfl hJ
  exact ⟨e, a3, w3, hq, .of_steps (.head step_scope hs) harr⟩
theorem zkv {X : Code} {R : Exit -> Act -> World -> Prop} (h : X.wp P R a w) : (Code.skip.seq X).wp P R a w := by
 apply wp_seq
 apply wp_skip
 exact h
theorem zeR {X : Code} (n L : Nat) (J : Act -> World -> Prop) (μ : Act -> World -> Nat) (hr : findLabel c L = some (Code.skip.seq X)) (first : (∀ a w, J a w -> X.wp P (Kj P c L J Q n) a w) -> c.wp P (Kj P c L J Q n) a w)
  (pass : ∀ a w, J a w -> X.wp P (Kj P c L (fun a' w' => J a' w' /\ μ a' w' < μ a w) Q n) a w) : (Code.scope c).wp P Q a w :=
 zcX n L J μ hr (first fun a w h => wp_mono (pass a w h) (zpG (fun _ _ h => h.1) n)) (fun a w h => zkv (pass a w h))
theorem zaG {rest : Code} (n L : Nat) (hr : findLabel c L = some rest) (first : c.wp P (Kj P c L (fun _ _ => False) Q n) a w) : (Code.scope c).wp P Q a w :=
 zcX n L (fun _ _ => False) (fun _ _ => 0) hr first (fun _ _ h => h.elim)
end
theorem hxB_hexV {c : Int} : hxB c = true ↔ 0 <= zbd c := by
 unfold hxB dgB zbd
 by_cases h1 : 48 <= c /\ c <= 57
 ·simp [h1]
 ·by_cases h2 : 97 <= c /\ c <= 102
  ·rw [if_neg h1, if_pos h2]; simp [h2]; omega
  ·rw [if_neg h1, if_neg h2]; simp; omega
theorem zmO {s : ByteArray} {i : Nat} {base : Int} (hb : 0 <= base) : ∀ k, (∀ j, j < k -> 0 <= zbd (chr s (i + j))) -> 0 <= zbj s i base k := by
 intro k
 induction k with
 | zero => intro _; exact Int.le_refl _
 | succ k ih =>
  intro h
  rw [zbj]
  have h1 := ih (fun j hj => h j (by omega))
  have h2 := h k (by omega)
  have := Int.mul_nonneg h1 hb
  omega
theorem zbW (s : ByteArray) (a : Nat) : 0 <= (ptP s a).1 := by
 unfold ptP
 split
 ·exact Int.le_refl _
 ·obtain ⟨h1, _, _, h4⟩ := zbe hxB s (by decide) _ a rfl
  exact zmO (by omega) _ (fun j hj => hxB_hexV.1 (h4 (a + j) (by omega) (by omega)))
theorem zdp {s : ByteArray} {a : Nat} (h : (ptP s a).2.2 = true) : (ptP s a).1 <= 1114111 := by
 unfold ptP at h ⊢
 split at h
 ·cases h
 ·next q => rw [if_neg q]; exact of_decide_eq_true h
theorem zbE {s : ByteArray} {a : Nat} (ha : a <= s.size) : a <= (ptP s a).2.1 /\ (ptP s a).2.1 <= s.size := by
 unfold ptP
 split
 ·exact ⟨Nat.le_refl _, ha⟩
 ·exact ⟨zbo hxB s (by decide) a, zbQ hxB s (by decide) a ha⟩
def zbY (s : ByteArray) (b : Nat) : Sum Tk (Nat × Int) :=
  if (ptP s (b + 3)).2.2 = false then .inr (b, 30)
  else if chr s (ptP s (b + 3)).2.1 = 45 then
    (if (ptP s ((ptP s (b + 3)).2.1 + 1)).2.2 = false ∨ (ptP s ((ptP s (b + 3)).2.1 + 1)).1 < (ptP s (b + 3)).1 then .inr (b, 30)
     else if chr s (ptP s ((ptP s (b + 3)).2.1 + 1)).2.1 = 125 then .inl ⟨5, (ptP s (b + 3)).1, b, ((ptP s ((ptP s (b + 3)).2.1 + 1)).2.1 + 1 : Nat), ⟨#[]⟩, (ptP s ((ptP s (b + 3)).2.1 + 1)).1, 0, 0, 0⟩ else .inr (b, 30))
  else if chr s (ptP s (b + 3)).2.1 = 125 then .inl ⟨5, (ptP s (b + 3)).1, b, ((ptP s (b + 3)).2.1 + 1 : Nat), ⟨#[]⟩, (ptP s (b + 3)).1, 0, 0, 0⟩ else .inr (b, 30)
theorem zkw (s : ByteArray) (i : Nat) (c : UInt8) : pfx s i [c] = (chr s i == (c.toNat : Int)) := by unfold pfx; unfold pfx; rw [Bool.and_true]
theorem runesA (s : ByteArray) (b : Nat) (hs : s.size <= 140737488355000) (hb : b + 3 <= s.size) (h1 : (ptP s (b + 3)).2.2 = false) (w : World) : Calls Tryz.prog 141 #[.string s, .int .i64 b] w fun e w' => e = .returned (zaP (zbY s b)) /\ Below w.heap.size w w' := by
 have HF : Hid (∀ i e w, Calls Tryz.prog 135 #[.int .i64 i, .int .i64 e] w fun e' w' => e' = .returned (zaE tk0 i e) /\ Below w.heap.size w w') := fun i e w => zax i e w
 have HX : Hid (BX w ((w.alloc (tkO tk0)).alloc (fxO 0 0)) tk0 0 0) := BX.new w
 have HE : Hid (zbY s b = .inr (b, 30)) := by show zbY s b = _; unfold zbY; rw [if_pos h1]
 have HP1 : Hid (∀ w, Calls Tryz.prog 159 #[.string s, .int .i64 ((b : Int) + 3)] w fun e w' => e = .returned (.tuple #[.int .i64 (ptP s (b + 3)).1, .int .i64 (ptP s (b + 3)).2.1, .bool (ptP s (b + 3)).2.2]) /\ w' = w) := fun w => zaw s (b + 3) hs hb w
 have hle := zbE hb
 have hp1 := zbW s (b + 3)
 rw [h1] at HP1
 generalize ptP s (b + 3) = p at *
 obtain ⟨n, e1, ok⟩ := p
 dsimp only at *
 clear h1
 go_enter Tryz.func141, Tryz.ntmps141
 go_wp2_with fail
 refine zaG 3 0 rfl ?_
 go_wp2_with fail
 refine (HP1.out _).mono ?_
 rintro e w2 ⟨rfl, rfl⟩
 clear HP1
 go_wp2_with fail
 go_step3
 simp (config := { zetaDelta := true }) only [zbp]
 refine zgp rfl ?_
 go_wp2_with fail
 refine (HF.out _ _ _).mono ?_
 rintro e w3 ⟨rfl, b3⟩
 have HX3 : Hid (BX w w3 tk0 0 0) := HX.out.below b3
 clear b3 HX HF
 obtain ⟨f0, f1', f2', f3, f4, f5, f6, f7, f8, g0, g1⟩ := HX3.out.fz
 obtain ⟨c0, c1, c2, c3, c4, c5, c6, c7, c8, d0, d1⟩ := HX3.out.cells
 unfold zaE
 go_wp2_with fail
 have HP := HX3.out.put tk0 b 30
 simp only [zdo]
 exact zag rfl rfl rfl rfl HP ⟨by rw [HE.out]; rfl, HP.b⟩
theorem runesB (s : ByteArray) (b : Nat) (hs : s.size <= 140737488355000) (hb : b + 3 <= s.size) (h1 : (ptP s (b + 3)).2.2 = true) (h2 : chr s (ptP s (b + 3)).2.1 = 45) (h3 : (ptP s ((ptP s (b + 3)).2.1 + 1)).2.2 = false) (w : World) : Calls Tryz.prog 141 #[.string s, .int .i64 b] w fun e w' => e = .returned (zaP (zbY s b)) /\ Below w.heap.size w w' := by
 have HF : Hid (∀ i e w, Calls Tryz.prog 135 #[.int .i64 i, .int .i64 e] w fun e' w' => e' = .returned (zaE tk0 i e) /\ Below w.heap.size w w') := fun i e w => zax i e w
 have HX : Hid (BX w ((w.alloc (tkO tk0)).alloc (fxO 0 0)) tk0 0 0) := BX.new w
 have HE : Hid (zbY s b = .inr (b, 30)) := by show zbY s b = _; unfold zbY; rw [if_neg (by rw [h1]; decide), if_pos h2, if_pos (.inl h3)]
 have HP1 : Hid (∀ w, Calls Tryz.prog 159 #[.string s, .int .i64 ((b : Int) + 3)] w fun e w' => e = .returned (.tuple #[.int .i64 (ptP s (b + 3)).1, .int .i64 (ptP s (b + 3)).2.1, .bool (ptP s (b + 3)).2.2]) /\ w' = w) := fun w => zaw s (b + 3) hs hb w
 have hle := zbE hb
 have hp1 := zbW s (b + 3)
 have hbd := zdp h1
 rw [h1] at HP1
 have HS : Hid (∀ w, Calls Tryz.prog 86 #[.string s, .int .i64 (((ptP s (b + 3)).2.1 : Nat) : Int), .string ⟨#[45]⟩] w fun e w' => e = .returned (.bool (chr s (ptP s (b + 3)).2.1 == 45)) /\ w' = w) := fun w => by
  have e := zar s (ptP s (b + 3)).2.1 ⟨#[45]⟩ hle.2 w
  rw [show (⟨#[45]⟩ : ByteArray).data.toList = [45] from rfl, zkw] at e
  exact e
 have hlt : (ptP s (b + 3)).2.1 + 1 <= s.size := zaC (by rw [h2]; decide)
 rw [h2] at HS
 have HP2 : Hid (∀ w, Calls Tryz.prog 159 #[.string s, .int .i64 (((ptP s (b + 3)).2.1 : Int) + 1)] w fun e w' => e = .returned (.tuple #[.int .i64 (ptP s ((ptP s (b + 3)).2.1 + 1)).1, .int .i64 (ptP s ((ptP s (b + 3)).2.1 + 1)).2.1, .bool (ptP s ((ptP s (b + 3)).2.1 + 1)).2.2]) /\ w' = w) := fun w => zaw s ((ptP s (b + 3)).2.1 + 1) hs hlt w
 have hle2 := zbE hlt
 have hp2 := zbW s ((ptP s (b + 3)).2.1 + 1)
 rw [h3] at HP2
 generalize ptP s ((ptP s (b + 3)).2.1 + 1) = q at *
 obtain ⟨m, e2, ok2⟩ := q
 generalize ptP s (b + 3) = p at *
 obtain ⟨n, e1, ok⟩ := p
 dsimp only at *
 clear h1 h2 h3
 go_enter Tryz.func141, Tryz.ntmps141
 go_wp2_with fail
 refine zaG 3 0 rfl ?_
 go_wp2_with fail
 refine (HP1.out _).mono ?_
 rintro e w2 ⟨rfl, rfl⟩
 clear HP1
 go_wp2_with fail
 refine (HS.out _).mono ?_
 rintro e w2 ⟨rfl, rfl⟩
 clear HS
 go_wp2_with fail
 refine (HP2.out _).mono ?_
 rintro e w2 ⟨rfl, rfl⟩
 clear HP2
 go_wp2_with fail
 go_step3
 simp (config := { zetaDelta := true }) only [zbp]
 refine zgp rfl ?_
 go_wp2_with fail
 refine (HF.out _ _ _).mono ?_
 rintro e w3 ⟨rfl, b3⟩
 have HX3 : Hid (BX w w3 tk0 0 0) := HX.out.below b3
 clear b3 HX HF
 obtain ⟨f0, f1', f2', f3, f4, f5, f6, f7, f8, g0, g1⟩ := HX3.out.fz
 obtain ⟨c0, c1, c2, c3, c4, c5, c6, c7, c8, d0, d1⟩ := HX3.out.cells
 unfold zaE
 go_wp2_with fail
 have HP := HX3.out.put tk0 b 30
 simp only [zdo]
 exact zag rfl rfl rfl rfl HP ⟨by rw [HE.out]; rfl, HP.b⟩
theorem runesC (s : ByteArray) (b : Nat) (hs : s.size <= 140737488355000) (hb : b + 3 <= s.size) (h1 : (ptP s (b + 3)).2.2 = true) (h2 : chr s (ptP s (b + 3)).2.1 = 45) (h3 : (ptP s ((ptP s (b + 3)).2.1 + 1)).2.2 = true) (h4 : (ptP s ((ptP s (b + 3)).2.1 + 1)).1 < (ptP s (b + 3)).1) (w : World) : Calls Tryz.prog 141 #[.string s, .int .i64 b] w fun e w' => e = .returned (zaP (zbY s b)) /\ Below w.heap.size w w' := by
 have HF : Hid (∀ i e w, Calls Tryz.prog 135 #[.int .i64 i, .int .i64 e] w fun e' w' => e' = .returned (zaE tk0 i e) /\ Below w.heap.size w w') := fun i e w => zax i e w
 have HX : Hid (BX w ((w.alloc (tkO tk0)).alloc (fxO 0 0)) tk0 0 0) := BX.new w
 have HE : Hid (zbY s b = .inr (b, 30)) := by show zbY s b = _; unfold zbY; rw [if_neg (by rw [h1]; decide), if_pos h2, if_pos (.inr h4)]
 have HP1 : Hid (∀ w, Calls Tryz.prog 159 #[.string s, .int .i64 ((b : Int) + 3)] w fun e w' => e = .returned (.tuple #[.int .i64 (ptP s (b + 3)).1, .int .i64 (ptP s (b + 3)).2.1, .bool (ptP s (b + 3)).2.2]) /\ w' = w) := fun w => zaw s (b + 3) hs hb w
 have hle := zbE hb
 have hp1 := zbW s (b + 3)
 have hbd := zdp h1
 rw [h1] at HP1
 have HS : Hid (∀ w, Calls Tryz.prog 86 #[.string s, .int .i64 (((ptP s (b + 3)).2.1 : Nat) : Int), .string ⟨#[45]⟩] w fun e w' => e = .returned (.bool (chr s (ptP s (b + 3)).2.1 == 45)) /\ w' = w) := fun w => by
  have e := zar s (ptP s (b + 3)).2.1 ⟨#[45]⟩ hle.2 w
  rw [show (⟨#[45]⟩ : ByteArray).data.toList = [45] from rfl, zkw] at e
  exact e
 have hlt : (ptP s (b + 3)).2.1 + 1 <= s.size := zaC (by rw [h2]; decide)
 rw [h2] at HS
 have HP2 : Hid (∀ w, Calls Tryz.prog 159 #[.string s, .int .i64 (((ptP s (b + 3)).2.1 : Int) + 1)] w fun e w' => e = .returned (.tuple #[.int .i64 (ptP s ((ptP s (b + 3)).2.1 + 1)).1, .int .i64 (ptP s ((ptP s (b + 3)).2.1 + 1)).2.1, .bool (ptP s ((ptP s (b + 3)).2.1 + 1)).2.2]) /\ w' = w) := fun w => zaw s ((ptP s (b + 3)).2.1 + 1) hs hlt w
 have hle2 := zbE hlt
 have hp2 := zbW s ((ptP s (b + 3)).2.1 + 1)
 rw [h3] at HP2
 have hbd2 := zdp h3
 generalize ptP s ((ptP s (b + 3)).2.1 + 1) = q at *
 obtain ⟨m, e2, ok2⟩ := q
 generalize ptP s (b + 3) = p at *
 obtain ⟨n, e1, ok⟩ := p
 dsimp only at *
 have t3 : m < n := h4
 clear h1 h2 h3 h4
 go_enter Tryz.func141, Tryz.ntmps141
 go_wp2_with fail
 refine zaG 3 0 rfl ?_
 go_wp2_with fail
 refine (HP1.out _).mono ?_
 rintro e w2 ⟨rfl, rfl⟩
 clear HP1
 go_wp2_with fail
 refine (HS.out _).mono ?_
 rintro e w2 ⟨rfl, rfl⟩
 clear HS
 go_wp2_with fail
 refine (HP2.out _).mono ?_
 rintro e w2 ⟨rfl, rfl⟩
 clear HP2
 go_wp2_with fail
 go_step3
 simp (config := { zetaDelta := true }) only [zbp]
 refine zgp rfl ?_
 go_wp2_with fail
 refine (HF.out _ _ _).mono ?_
 rintro e w3 ⟨rfl, b3⟩
 have HX3 : Hid (BX w w3 tk0 0 0) := HX.out.below b3
 clear b3 HX HF
 obtain ⟨f0, f1', f2', f3, f4, f5, f6, f7, f8, g0, g1⟩ := HX3.out.fz
 obtain ⟨c0, c1, c2, c3, c4, c5, c6, c7, c8, d0, d1⟩ := HX3.out.cells
 unfold zaE
 go_wp2_with fail
 have HP := HX3.out.put tk0 b 30
 simp only [zdo]
 exact zag rfl rfl rfl rfl HP ⟨by rw [HE.out]; rfl, HP.b⟩
theorem runesD (s : ByteArray) (b : Nat) (hs : s.size <= 140737488355000) (hb : b + 3 <= s.size) (h1 : (ptP s (b + 3)).2.2 = true) (h2 : chr s (ptP s (b + 3)).2.1 = 45) (h3 : (ptP s ((ptP s (b + 3)).2.1 + 1)).2.2 = true) (h4 : ¬ (ptP s ((ptP s (b + 3)).2.1 + 1)).1 < (ptP s (b + 3)).1) (h5 : chr s (ptP s ((ptP s (b + 3)).2.1 + 1)).2.1 = 125) (w : World) : Calls Tryz.prog 141 #[.string s, .int .i64 b] w fun e w' => e = .returned (zaP (zbY s b)) /\ Below w.heap.size w w' := by
 have HF : Hid (∀ i e w, Calls Tryz.prog 135 #[.int .i64 i, .int .i64 e] w fun e' w' => e' = .returned (zaE tk0 i e) /\ Below w.heap.size w w') := fun i e w => zax i e w
 have HX : Hid (BX w ((w.alloc (tkO tk0)).alloc (fxO 0 0)) tk0 0 0) := BX.new w
 have HE : Hid (zbY s b = .inl ⟨5, (ptP s (b + 3)).1, b, ((ptP s ((ptP s (b + 3)).2.1 + 1)).2.1 + 1 : Nat), ⟨#[]⟩, (ptP s ((ptP s (b + 3)).2.1 + 1)).1, 0, 0, 0⟩) := by show zbY s b = _; unfold zbY; rw [if_neg (by rw [h1]; decide), if_pos h2, if_neg (by rw [h3]; simp; omega), if_pos h5]
 have HP1 : Hid (∀ w, Calls Tryz.prog 159 #[.string s, .int .i64 ((b : Int) + 3)] w fun e w' => e = .returned (.tuple #[.int .i64 (ptP s (b + 3)).1, .int .i64 (ptP s (b + 3)).2.1, .bool (ptP s (b + 3)).2.2]) /\ w' = w) := fun w => zaw s (b + 3) hs hb w
 have hle := zbE hb
 have hp1 := zbW s (b + 3)
 have hbd := zdp h1
 rw [h1] at HP1
 have HS : Hid (∀ w, Calls Tryz.prog 86 #[.string s, .int .i64 (((ptP s (b + 3)).2.1 : Nat) : Int), .string ⟨#[45]⟩] w fun e w' => e = .returned (.bool (chr s (ptP s (b + 3)).2.1 == 45)) /\ w' = w) := fun w => by
  have e := zar s (ptP s (b + 3)).2.1 ⟨#[45]⟩ hle.2 w
  rw [show (⟨#[45]⟩ : ByteArray).data.toList = [45] from rfl, zkw] at e
  exact e
 have hlt : (ptP s (b + 3)).2.1 + 1 <= s.size := zaC (by rw [h2]; decide)
 rw [h2] at HS
 have HP2 : Hid (∀ w, Calls Tryz.prog 159 #[.string s, .int .i64 (((ptP s (b + 3)).2.1 : Int) + 1)] w fun e w' => e = .returned (.tuple #[.int .i64 (ptP s ((ptP s (b + 3)).2.1 + 1)).1, .int .i64 (ptP s ((ptP s (b + 3)).2.1 + 1)).2.1, .bool (ptP s ((ptP s (b + 3)).2.1 + 1)).2.2]) /\ w' = w) := fun w => zaw s ((ptP s (b + 3)).2.1 + 1) hs hlt w
 have hle2 := zbE hlt
 have hp2 := zbW s ((ptP s (b + 3)).2.1 + 1)
 rw [h3] at HP2
 have hbd2 := zdp h3
 have HS2 : Hid (∀ w, Calls Tryz.prog 86 #[.string s, .int .i64 (((ptP s ((ptP s (b + 3)).2.1 + 1)).2.1 : Nat) : Int), .string ⟨#[125]⟩] w fun e w' => e = .returned (.bool (chr s (ptP s ((ptP s (b + 3)).2.1 + 1)).2.1 == 125)) /\ w' = w) := fun w => by
  have e := zar s (ptP s ((ptP s (b + 3)).2.1 + 1)).2.1 ⟨#[125]⟩ hle2.2 w
  rw [show (⟨#[125]⟩ : ByteArray).data.toList = [125] from rfl, zkw] at e
  exact e
 rw [h5] at HS2
 generalize ptP s ((ptP s (b + 3)).2.1 + 1) = q at *
 obtain ⟨m, e2, ok2⟩ := q
 generalize ptP s (b + 3) = p at *
 obtain ⟨n, e1, ok⟩ := p
 dsimp only at *
 have t3 : ¬ m < n := h4
 have u3 : IntKind.u64.wrap m = m := by rw [IntKind.wrap_u64]; omega
 clear h1 h2 h3 h4 h5
 clear HF
 go_enter Tryz.func141, Tryz.ntmps141
 go_wp2_with fail
 refine zaG 3 0 rfl ?_
 go_wp2_with fail
 refine (HP1.out _).mono ?_
 rintro e w2 ⟨rfl, rfl⟩
 clear HP1
 go_wp2_with fail
 refine (HS.out _).mono ?_
 rintro e w2 ⟨rfl, rfl⟩
 clear HS
 go_wp2_with fail
 refine (HP2.out _).mono ?_
 rintro e w2 ⟨rfl, rfl⟩
 clear HP2
 go_wp2_with fail
 go_step3
 go_wp2_with fail
 refine (HS2.out _).mono ?_
 rintro e w3 ⟨rfl, hw3⟩
 have HX3 : Hid (BX w w3 tk0 0 0) := hw3 ▸ HX.out
 clear hw3 HX HS2
 obtain ⟨f0, f1', f2', f3, f4, f5, f6, f7, f8, g0, g1⟩ := HX3.out.fz
 obtain ⟨c0, c1, c2, c3, c4, c5, c6, c7, c8, d0, d1⟩ := HX3.out.cells
 go_wp2_with fail
 have HP := HX3.out.put ⟨5, n, b, (e2 + 1 : Nat), ⟨#[]⟩, m, 0, 0, 0⟩ 0 0
 simp only [zdo]
 exact zag rfl rfl rfl rfl HP ⟨by rw [HE.out]; rfl, HP.b⟩
theorem runesE (s : ByteArray) (b : Nat) (hs : s.size <= 140737488355000) (hb : b + 3 <= s.size) (h1 : (ptP s (b + 3)).2.2 = true) (h2 : chr s (ptP s (b + 3)).2.1 = 45) (h3 : (ptP s ((ptP s (b + 3)).2.1 + 1)).2.2 = true) (h4 : ¬ (ptP s ((ptP s (b + 3)).2.1 + 1)).1 < (ptP s (b + 3)).1) (h5 : ¬ chr s (ptP s ((ptP s (b + 3)).2.1 + 1)).2.1 = 125) (w : World) : Calls Tryz.prog 141 #[.string s, .int .i64 b] w fun e w' => e = .returned (zaP (zbY s b)) /\ Below w.heap.size w w' := by
 have HF : Hid (∀ i e w, Calls Tryz.prog 135 #[.int .i64 i, .int .i64 e] w fun e' w' => e' = .returned (zaE tk0 i e) /\ Below w.heap.size w w') := fun i e w => zax i e w
 have HX : Hid (BX w ((w.alloc (tkO tk0)).alloc (fxO 0 0)) tk0 0 0) := BX.new w
 have HE : Hid (zbY s b = .inr (b, 30)) := by show zbY s b = _; unfold zbY; rw [if_neg (by rw [h1]; decide), if_pos h2, if_neg (by rw [h3]; simp; omega), if_neg h5]
 have HP1 : Hid (∀ w, Calls Tryz.prog 159 #[.string s, .int .i64 ((b : Int) + 3)] w fun e w' => e = .returned (.tuple #[.int .i64 (ptP s (b + 3)).1, .int .i64 (ptP s (b + 3)).2.1, .bool (ptP s (b + 3)).2.2]) /\ w' = w) := fun w => zaw s (b + 3) hs hb w
 have hle := zbE hb
 have hp1 := zbW s (b + 3)
 have hbd := zdp h1
 rw [h1] at HP1
 have HS : Hid (∀ w, Calls Tryz.prog 86 #[.string s, .int .i64 (((ptP s (b + 3)).2.1 : Nat) : Int), .string ⟨#[45]⟩] w fun e w' => e = .returned (.bool (chr s (ptP s (b + 3)).2.1 == 45)) /\ w' = w) := fun w => by
  have e := zar s (ptP s (b + 3)).2.1 ⟨#[45]⟩ hle.2 w
  rw [show (⟨#[45]⟩ : ByteArray).data.toList = [45] from rfl, zkw] at e
  exact e
 have hlt : (ptP s (b + 3)).2.1 + 1 <= s.size := zaC (by rw [h2]; decide)
 rw [h2] at HS
 have HP2 : Hid (∀ w, Calls Tryz.prog 159 #[.string s, .int .i64 (((ptP s (b + 3)).2.1 : Int) + 1)] w fun e w' => e = .returned (.tuple #[.int .i64 (ptP s ((ptP s (b + 3)).2.1 + 1)).1, .int .i64 (ptP s ((ptP s (b + 3)).2.1 + 1)).2.1, .bool (ptP s ((ptP s (b + 3)).2.1 + 1)).2.2]) /\ w' = w) := fun w => zaw s ((ptP s (b + 3)).2.1 + 1) hs hlt w
 have hle2 := zbE hlt
 have hp2 := zbW s ((ptP s (b + 3)).2.1 + 1)
 rw [h3] at HP2
 have hbd2 := zdp h3
 have HS2 : Hid (∀ w, Calls Tryz.prog 86 #[.string s, .int .i64 (((ptP s ((ptP s (b + 3)).2.1 + 1)).2.1 : Nat) : Int), .string ⟨#[125]⟩] w fun e w' => e = .returned (.bool (chr s (ptP s ((ptP s (b + 3)).2.1 + 1)).2.1 == 125)) /\ w' = w) := fun w => by
  have e := zar s (ptP s ((ptP s (b + 3)).2.1 + 1)).2.1 ⟨#[125]⟩ hle2.2 w
  rw [show (⟨#[125]⟩ : ByteArray).data.toList = [125] from rfl, zkw] at e
  exact e
 rw [bF h5] at HS2
 generalize ptP s ((ptP s (b + 3)).2.1 + 1) = q at *
 obtain ⟨m, e2, ok2⟩ := q
 generalize ptP s (b + 3) = p at *
 obtain ⟨n, e1, ok⟩ := p
 dsimp only at *
 have t3 : ¬ m < n := h4
 have u3 : IntKind.u64.wrap m = m := by rw [IntKind.wrap_u64]; omega
 clear h1 h2 h3 h4 h5
 go_enter Tryz.func141, Tryz.ntmps141
 go_wp2_with fail
 refine zaG 3 0 rfl ?_
 go_wp2_with fail
 refine (HP1.out _).mono ?_
 rintro e w2 ⟨rfl, rfl⟩
 clear HP1
 go_wp2_with fail
 refine (HS.out _).mono ?_
 rintro e w2 ⟨rfl, rfl⟩
 clear HS
 go_wp2_with fail
 refine (HP2.out _).mono ?_
 rintro e w2 ⟨rfl, rfl⟩
 clear HP2
 go_wp2_with fail
 go_step3
 go_wp2_with fail
 refine (HS2.out _).mono ?_
 rintro e w2 ⟨rfl, rfl⟩
 clear HS2
 go_wp2_with fail
 go_step3
 go_wp2_with fail
 refine (HF.out _ _ _).mono ?_
 rintro e w3 ⟨rfl, b3⟩
 have HX3 : Hid (BX w w3 tk0 0 0) := HX.out.below b3
 clear b3 HX HF
 obtain ⟨f0, f1', f2', f3, f4, f5, f6, f7, f8, g0, g1⟩ := HX3.out.fz
 obtain ⟨c0, c1, c2, c3, c4, c5, c6, c7, c8, d0, d1⟩ := HX3.out.cells
 unfold zaE
 go_wp2_with fail
 have HP := HX3.out.put tk0 b 30
 simp only [zdo]
 exact zag rfl rfl rfl rfl HP ⟨by rw [HE.out]; rfl, HP.b⟩
theorem runesF (s : ByteArray) (b : Nat) (hs : s.size <= 140737488355000) (hb : b + 3 <= s.size) (h1 : (ptP s (b + 3)).2.2 = true) (h2 : ¬ chr s (ptP s (b + 3)).2.1 = 45) (h5 : chr s (ptP s (b + 3)).2.1 = 125) (w : World) : Calls Tryz.prog 141 #[.string s, .int .i64 b] w fun e w' => e = .returned (zaP (zbY s b)) /\ Below w.heap.size w w' := by
 have HF : Hid (∀ i e w, Calls Tryz.prog 135 #[.int .i64 i, .int .i64 e] w fun e' w' => e' = .returned (zaE tk0 i e) /\ Below w.heap.size w w') := fun i e w => zax i e w
 have HX : Hid (BX w ((w.alloc (tkO tk0)).alloc (fxO 0 0)) tk0 0 0) := BX.new w
 have HE : Hid (zbY s b = .inl ⟨5, (ptP s (b + 3)).1, b, ((ptP s (b + 3)).2.1 + 1 : Nat), ⟨#[]⟩, (ptP s (b + 3)).1, 0, 0, 0⟩) := by show zbY s b = _; unfold zbY; rw [if_neg (by rw [h1]; decide), if_neg h2, if_pos h5]
 have HP1 : Hid (∀ w, Calls Tryz.prog 159 #[.string s, .int .i64 ((b : Int) + 3)] w fun e w' => e = .returned (.tuple #[.int .i64 (ptP s (b + 3)).1, .int .i64 (ptP s (b + 3)).2.1, .bool (ptP s (b + 3)).2.2]) /\ w' = w) := fun w => zaw s (b + 3) hs hb w
 have hle := zbE hb
 have hp1 := zbW s (b + 3)
 have hbd := zdp h1
 rw [h1] at HP1
 have HS : Hid (∀ w, Calls Tryz.prog 86 #[.string s, .int .i64 (((ptP s (b + 3)).2.1 : Nat) : Int), .string ⟨#[45]⟩] w fun e w' => e = .returned (.bool (chr s (ptP s (b + 3)).2.1 == 45)) /\ w' = w) := fun w => by
  have e := zar s (ptP s (b + 3)).2.1 ⟨#[45]⟩ hle.2 w
  rw [show (⟨#[45]⟩ : ByteArray).data.toList = [45] from rfl, zkw] at e
  exact e
 rw [bF h2] at HS
 have HS2 : Hid (∀ w, Calls Tryz.prog 86 #[.string s, .int .i64 (((ptP s (b + 3)).2.1 : Nat) : Int), .string ⟨#[125]⟩] w fun e w' => e = .returned (.bool (chr s (ptP s (b + 3)).2.1 == 125)) /\ w' = w) := fun w => by
  have e := zar s (ptP s (b + 3)).2.1 ⟨#[125]⟩ hle.2 w
  rw [show (⟨#[125]⟩ : ByteArray).data.toList = [125] from rfl, zkw] at e
  exact e
 rw [h5] at HS2
 generalize ptP s (b + 3) = p at *
 obtain ⟨n, e1, ok⟩ := p
 dsimp only at *
 have u3 : IntKind.u64.wrap n = n := by rw [IntKind.wrap_u64]; omega
 clear h1 h2 h5
 clear HF
 go_enter Tryz.func141, Tryz.ntmps141
 go_wp2_with fail
 refine zaG 3 0 rfl ?_
 go_wp2_with fail
 refine (HP1.out _).mono ?_
 rintro e w2 ⟨rfl, rfl⟩
 clear HP1
 go_wp2_with fail
 refine (HS.out _).mono ?_
 rintro e w2 ⟨rfl, rfl⟩
 clear HS
 go_wp2_with fail
 go_step3
 simp (config := { zetaDelta := true }) only [zbp]
 refine zgp rfl ?_
 go_wp2_with fail
 refine (HS2.out _).mono ?_
 rintro e w3 ⟨rfl, hw3⟩
 have HX3 : Hid (BX w w3 tk0 0 0) := hw3 ▸ HX.out
 clear hw3 HX HS2
 obtain ⟨f0, f1', f2', f3, f4, f5, f6, f7, f8, g0, g1⟩ := HX3.out.fz
 obtain ⟨c0, c1, c2, c3, c4, c5, c6, c7, c8, d0, d1⟩ := HX3.out.cells
 go_wp2_with fail
 have HP := HX3.out.put ⟨5, n, b, (e1 + 1 : Nat), ⟨#[]⟩, n, 0, 0, 0⟩ 0 0
 simp only [zdo]
 exact zag rfl rfl rfl rfl HP ⟨by rw [HE.out]; rfl, HP.b⟩
theorem runesG (s : ByteArray) (b : Nat) (hs : s.size <= 140737488355000) (hb : b + 3 <= s.size) (h1 : (ptP s (b + 3)).2.2 = true) (h2 : ¬ chr s (ptP s (b + 3)).2.1 = 45) (h5 : ¬ chr s (ptP s (b + 3)).2.1 = 125) (w : World) : Calls Tryz.prog 141 #[.string s, .int .i64 b] w fun e w' => e = .returned (zaP (zbY s b)) /\ Below w.heap.size w w' := by
 have HF : Hid (∀ i e w, Calls Tryz.prog 135 #[.int .i64 i, .int .i64 e] w fun e' w' => e' = .returned (zaE tk0 i e) /\ Below w.heap.size w w') := fun i e w => zax i e w
 have HX : Hid (BX w ((w.alloc (tkO tk0)).alloc (fxO 0 0)) tk0 0 0) := BX.new w
 have HE : Hid (zbY s b = .inr (b, 30)) := by show zbY s b = _; unfold zbY; rw [if_neg (by rw [h1]; decide), if_neg h2, if_neg h5]
 have HP1 : Hid (∀ w, Calls Tryz.prog 159 #[.string s, .int .i64 ((b : Int) + 3)] w fun e w' => e = .returned (.tuple #[.int .i64 (ptP s (b + 3)).1, .int .i64 (ptP s (b + 3)).2.1, .bool (ptP s (b + 3)).2.2]) /\ w' = w) := fun w => zaw s (b + 3) hs hb w
 have hle := zbE hb
 have hp1 := zbW s (b + 3)
 have hbd := zdp h1
 rw [h1] at HP1
 have HS : Hid (∀ w, Calls Tryz.prog 86 #[.string s, .int .i64 (((ptP s (b + 3)).2.1 : Nat) : Int), .string ⟨#[45]⟩] w fun e w' => e = .returned (.bool (chr s (ptP s (b + 3)).2.1 == 45)) /\ w' = w) := fun w => by
  have e := zar s (ptP s (b + 3)).2.1 ⟨#[45]⟩ hle.2 w
  rw [show (⟨#[45]⟩ : ByteArray).data.toList = [45] from rfl, zkw] at e
  exact e
 rw [bF h2] at HS
 have HS2 : Hid (∀ w, Calls Tryz.prog 86 #[.string s, .int .i64 (((ptP s (b + 3)).2.1 : Nat) : Int), .string ⟨#[125]⟩] w fun e w' => e = .returned (.bool (chr s (ptP s (b + 3)).2.1 == 125)) /\ w' = w) := fun w => by
  have e := zar s (ptP s (b + 3)).2.1 ⟨#[125]⟩ hle.2 w
  rw [show (⟨#[125]⟩ : ByteArray).data.toList = [125] from rfl, zkw] at e
  exact e
 rw [bF h5] at HS2
 generalize ptP s (b + 3) = p at *
 obtain ⟨n, e1, ok⟩ := p
 dsimp only at *
 clear h1 h2 h5
 go_enter Tryz.func141, Tryz.ntmps141
 go_wp2_with fail
 refine zaG 3 0 rfl ?_
 go_wp2_with fail
 refine (HP1.out _).mono ?_
 rintro e w2 ⟨rfl, rfl⟩
 clear HP1
 go_wp2_with fail
 refine (HS.out _).mono ?_
 rintro e w2 ⟨rfl, rfl⟩
 clear HS
 go_wp2_with fail
 go_step3
 simp (config := { zetaDelta := true }) only [zbp]
 refine zgp rfl ?_
 go_wp2_with fail
 refine (HS2.out _).mono ?_
 rintro e w2 ⟨rfl, rfl⟩
 clear HS2
 go_wp2_with fail
 go_step3
 go_wp2_with fail
 refine (HF.out _ _ _).mono ?_
 rintro e w3 ⟨rfl, b3⟩
 have HX3 : Hid (BX w w3 tk0 0 0) := HX.out.below b3
 clear b3 HX HF
 obtain ⟨f0, f1', f2', f3, f4, f5, f6, f7, f8, g0, g1⟩ := HX3.out.fz
 obtain ⟨c0, c1, c2, c3, c4, c5, c6, c7, c8, d0, d1⟩ := HX3.out.cells
 unfold zaE
 go_wp2_with fail
 have HP := HX3.out.put tk0 b 30
 simp only [zdo]
 exact zag rfl rfl rfl rfl HP ⟨by rw [HE.out]; rfl, HP.b⟩
theorem zfG (s : ByteArray) (b : Nat) (hs : s.size <= 140737488355000) (hb : b + 3 <= s.size) (w : World) : Calls Tryz.prog 141 #[.string s, .int .i64 b] w fun e w' => e = .returned (zaP (zbY s b)) /\ Below w.heap.size w w' := by
 cases h1 : (ptP s (b + 3)).2.2 with
 | false => exact runesA s b hs hb h1 w
 | true =>
  by_cases h2 : chr s (ptP s (b + 3)).2.1 = 45
  ·cases h3 : (ptP s ((ptP s (b + 3)).2.1 + 1)).2.2 with
   | false => exact runesB s b hs hb h1 h2 h3 w
   | true =>
    by_cases h4 : (ptP s ((ptP s (b + 3)).2.1 + 1)).1 < (ptP s (b + 3)).1
    ·exact runesC s b hs hb h1 h2 h3 h4 w
    ·by_cases h5 : chr s (ptP s ((ptP s (b + 3)).2.1 + 1)).2.1 = 125
     ·exact runesD s b hs hb h1 h2 h3 h4 h5 w
     ·exact runesE s b hs hb h1 h2 h3 h4 h5 w
  ·by_cases h5 : chr s (ptP s (b + 3)).2.1 = 125
   ·exact runesF s b hs hb h1 h2 h5 w
   ·exact runesG s b hs hb h1 h2 h5 w
abbrev nlT (b d : Nat) : Tk := ⟨21, 0, b, d, ⟨#[]⟩, 0, 0, 0, 0⟩
def zcq (s : ByteArray) (b d : Nat) : Sum Tk (Nat × Int) :=
 if hdB (chr s d) = true then
  (if 32 < spN nmB s d - d then .inr (d, 2) else if chr s (spN nmB s d) = 58 then .inl ⟨21, 0, b, (spN nmB s d + 1 : Nat), s.extract d (spN nmB s d), 0, 0, 0, 0⟩ else .inl (nlT b d))
 else .inl (nlT b d)
theorem zpH (s : ByteArray) (b : Nat) (w : World) : Calls Tryz.prog 144 #[.string s, .int .i64 b, .int .i64 s.size] w fun e w' => e = .returned (zaP (zcq s b s.size)) /\ Below w.heap.size w w' := by
 have HE : Hid (zcq s b s.size = .inl (nlT b s.size)) := by show zcq s b s.size = _; unfold zcq; rw [zau (by omega), if_neg (by decide)]
 have t1 : ((s.size : Int) == (s.size : Int)) = true := beq_self_eq_true _
 go_enter Tryz.func144, Tryz.ntmps144
 go_wp2_with fail
 have HP := (BX.made w (nlT b s.size) 0 0).below (zaa _ (tkO (nlT b s.size)))
 exact zag rfl rfl rfl rfl HP ⟨by rw [HE.out]; rfl, HP.b⟩
theorem zpI (s : ByteArray) (b d : Nat) (hd : d < s.size) (hh : hdB (chr s d) = false) (w : World) : Calls Tryz.prog 144 #[.string s, .int .i64 b, .int .i64 d] w fun e w' => e = .returned (zaP (zcq s b d)) /\ Below w.heap.size w w' := by
 have HE : Hid (zcq s b d = .inl (nlT b d)) := by show zcq s b d = _; unfold zcq; rw [hh, if_neg (by decide)]
 have HH : Hid (∀ w, Calls Tryz.prog 110 #[.int .u8 (s[d].toNat : Int)] w fun e w' => e = .returned (.bool false) /\ w' = w) := fun w => by
  have e := zaJ (s[d].toNat : Int) w
  rw [<- zak hd, hh] at e
  rw [<- zak hd]
  exact e
 have HX : Hid (BX w (((w.alloc (tkO tk0)).alloc (fxO 0 0)).alloc (tkO (nlT b d))) tk0 0 0) := (BX.new w).below (zaa _ _)
 have HT := (show Hid (TX (((w.alloc (tkO tk0)).alloc (fxO 0 0)).alloc (tkO (nlT b d))) (w.heap.size + 1 + 1) (nlT b d)) from by
  have h := TX.new ((w.alloc (tkO tk0)).alloc (fxO 0 0)) (nlT b d)
  rw [World.size_alloc, World.size_alloc] at h
  exact h)
 have t1 : ((d : Int) == (s.size : Int)) = false := by rw [beq_eq_false_iff_ne]; omega
 have z0 : (0 : Int) <= (d : Int) := by omega
 have z1 : (d : Int) < (s.size : Int) := by omega
 clear hh
 go_enter Tryz.func144, Tryz.ntmps144
 go_wp2_with fail
 refine (HH.out _).mono ?_
 rintro e w3 ⟨rfl, hw3⟩
 have HX3 : Hid (BX w w3 tk0 0 0) := hw3 ▸ HX.out
 have HT3 : Hid (TX w3 (w.heap.size + 1 + 1) (nlT b d)) := hw3 ▸ HT.out
 clear hw3 HX HT HH
 obtain ⟨f0, f1', f2', f3, f4, f5, f6, f7, f8, g0, g1⟩ := HX3.out.fz
 obtain ⟨c0, c1, c2, c3, c4, c5, c6, c7, c8, d0, d1⟩ := HX3.out.cells
 obtain ⟨k0, k1, k2, k3, k4, k5, k6, k7, k8⟩ := HT3.out.cells
 go_wp2_with fail
 have HP := HX3.out.put (nlT b d) 0 0
 exact zag rfl rfl rfl rfl HP ⟨by rw [HE.out]; rfl, HP.b⟩
theorem zmP (s : ByteArray) (b d : Nat) (hs : s.size <= 140737488355000) (hd : d < s.size) (hh : hdB (chr s d) = true) (h32 : 32 < spN nmB s d - d) (w : World) : Calls Tryz.prog 144 #[.string s, .int .i64 b, .int .i64 d] w fun e w' => e = .returned (zaP (zcq s b d)) /\ Below w.heap.size w w' := by
 have HE : Hid (zcq s b d = .inr (d, 2)) := by show zcq s b d = _; unfold zcq; rw [if_pos hh, if_pos h32]
 have HN : Hid (∀ w, Calls Tryz.prog 111 #[.string s, .int .i64 d] w fun e w' => e = .returned (zaE tk0 d 2) /\ Below w.heap.size w w') := fun w => by
  have e := zcF s d hs (by omega) w
  unfold zb0 at e
  rw [if_pos h32] at e
  exact e
 have HH : Hid (∀ w, Calls Tryz.prog 110 #[.int .u8 (s[d].toNat : Int)] w fun e w' => e = .returned (.bool true) /\ w' = w) := fun w => by
  have e := zaJ (s[d].toNat : Int) w
  rw [<- zak hd, hh] at e
  rw [<- zak hd]
  exact e
 have HX : Hid (BX w (((w.alloc (tkO tk0)).alloc (fxO 0 0)).alloc (tkO (nlT b d))) tk0 0 0) := (BX.new w).below (zaa _ _)
 have t1 : ((d : Int) == (s.size : Int)) = false := by rw [beq_eq_false_iff_ne]; omega
 have z0 : (0 : Int) <= (d : Int) := by omega
 have z1 : (d : Int) < (s.size : Int) := by omega
 clear hh h32
 go_enter Tryz.func144, Tryz.ntmps144
 go_wp2_with fail
 refine (HH.out _).mono ?_
 rintro e w3 ⟨rfl, rfl⟩
 clear HH
 go_wp2_with fail
 refine (HN.out _).mono ?_
 rintro e w4 ⟨rfl, b4⟩
 have HX4 : Hid (BX w w4 tk0 0 0) := HX.out.below b4
 clear b4 HX HN
 have HX5 : Hid (BX w ((w4.alloc (tkO tk0)).alloc (fxO d 2)) tk0 0 0) := (HX4.out.below (zaa _ _)).below (zaa _ _)
 have HF5 := (show Hid (FX ((w4.alloc (tkO tk0)).alloc (fxO d 2)) (w4.heap.size + 1) d 2) from ⟨by
  have h := heap_alloc_new (w4.alloc (tkO tk0)) (fxO d 2)
  rw [World.size_alloc] at h
  exact h⟩)
 have hsz4 := HX4.out.size
 have ne1 : ¬ w4.heap.size + 1 = w.heap.size := by omega
 have ne2 : ¬ w.heap.size = w4.heap.size + 1 := by omega
 have ne3 : ¬ w4.heap.size = w.heap.size := by omega
 have ne4 : ¬ w.heap.size = w4.heap.size := by omega
 clear HX4 hsz4
 unfold zaE
 go_wp2_with fail
 generalize (w4.alloc (tkO tk0)).alloc (fxO d 2) = w5 at *
 obtain ⟨f0, f1', f2', f3, f4, f5, f6, f7, f8, g0, g1⟩ := HX5.out.fz
 obtain ⟨c0, c1, c2, c3, c4, c5, c6, c7, c8, d0, d1⟩ := HX5.out.cells
 have k0 := HF5.out.c0
 have k1 := HF5.out.c1
 go_region
 all_goals
  go_wp2_with fail
  have HP := (HX5.out.put tk0 d 2).below (Below.refl _ _).drew
  exact zag rfl rfl rfl rfl HP ⟨by rw [HE.out]; rfl, HP.b⟩
theorem zmQ (s : ByteArray) (b d : Nat) (hs : s.size <= 140737488355000) (hd : d < s.size) (hh : hdB (chr s d) = true) (h32 : ¬ 32 < spN nmB s d - d) (w : World) : Calls Tryz.prog 144 #[.string s, .int .i64 b, .int .i64 d] w fun e w' => e = .returned (zaP (zcq s b d)) /\ Below w.heap.size w w' := by
 have HU : Hid (zcq s b d = if chr s (spN nmB s d) = 58 then .inl ⟨21, 0, b, (spN nmB s d + 1 : Nat), s.extract d (spN nmB s d), 0, 0, 0, 0⟩ else .inl (nlT b d)) := by show zcq s b d = _; unfold zcq; rw [if_pos hh, if_neg h32]
 have HN : Hid (∀ w, Calls Tryz.prog 111 #[.string s, .int .i64 d] w fun e w' => e = .returned (zaE ⟨1, 0, d, spN nmB s d, s.extract d (spN nmB s d), 0, 0, 0, 0⟩ 0 0) /\ Below w.heap.size w w') := fun w => by
  have e := zcF s d hs (by omega) w
  unfold zb0 at e
  rw [if_neg h32] at e
  exact e
 have HH : Hid (∀ w, Calls Tryz.prog 110 #[.int .u8 (s[d].toNat : Int)] w fun e w' => e = .returned (.bool true) /\ w' = w) := fun w => by
  have e := zaJ (s[d].toNat : Int) w
  rw [<- zak hd, hh] at e
  rw [<- zak hd]
  exact e
 have hle := zbQ nmB s (by decide) d (by omega)
 have HS : Hid (∀ w, Calls Tryz.prog 86 #[.string s, .int .i64 (spN nmB s d : Nat), .string ⟨#[58]⟩] w fun e w' => e = .returned (.bool (chr s (spN nmB s d) == 58)) /\ w' = w) := fun w => by
  have e := zar s (spN nmB s d) ⟨#[58]⟩ hle w
  rw [show (⟨#[58]⟩ : ByteArray).data.toList = [58] from rfl, zkw] at e
  exact e
 have HX : Hid (BX w (((w.alloc (tkO tk0)).alloc (fxO 0 0)).alloc (tkO (nlT b d))) tk0 0 0) := (BX.new w).below (zaa _ _)
 have HT := (show Hid (TX (((w.alloc (tkO tk0)).alloc (fxO 0 0)).alloc (tkO (nlT b d))) (w.heap.size + 1 + 1) (nlT b d)) from by
  have h := TX.new ((w.alloc (tkO tk0)).alloc (fxO 0 0)) (nlT b d)
  rw [World.size_alloc, World.size_alloc] at h
  exact h)
 have t1 : ((d : Int) == (s.size : Int)) = false := by rw [beq_eq_false_iff_ne]; omega
 have z0 : (0 : Int) <= (d : Int) := by omega
 have z1 : (d : Int) < (s.size : Int) := by omega
 clear hh h32
 generalize spN nmB s d = n at *
 generalize s.extract d n = tx at *
 generalize hc : chr s n = c at *
 clear hc
 cases hq : (c == 58) with
 | true =>
  have HE : Hid (zcq s b d = .inl ⟨21, 0, b, (n + 1 : Nat), tx, 0, 0, 0, 0⟩) := by show zcq s b d = _; rw [HU.out, if_pos (beq_iff_eq.1 hq)]
  rw [hq] at HS
  clear HU hq HT
  go_enter Tryz.func144, Tryz.ntmps144
  go_wp2_with fail
  refine (HH.out _).mono ?_
  rintro e w3 ⟨rfl, rfl⟩
  clear HH
  go_wp2_with fail
  refine (HN.out _).mono ?_
  rintro e w4 ⟨rfl, b4⟩
  have HX5 : Hid (BX w ((w4.alloc (tkO ⟨1, 0, d, n, tx, 0, 0, 0, 0⟩)).alloc (fxO 0 0)) tk0 0 0) := ((HX.out.below b4).below (zaa _ _)).below (zaa _ _)
  have HT5 : Hid (TX ((w4.alloc (tkO ⟨1, 0, d, n, tx, 0, 0, 0, 0⟩)).alloc (fxO 0 0)) w4.heap.size ⟨1, 0, d, n, tx, 0, 0, 0, 0⟩) := (TX.new w4 _).below (zaa _ _)
  clear b4 HX HN
  unfold zaE
  go_wp2_with fail
  refine (HS.out _).mono ?_
  rintro e w6 ⟨rfl, hw6⟩
  have HX6 : Hid (BX w w6 tk0 0 0) := hw6 ▸ HX5.out
  have HT6 : Hid (TX w6 w4.heap.size ⟨1, 0, d, n, tx, 0, 0, 0, 0⟩) := hw6 ▸ HT5.out
  clear hw6 HX5 HT5 HS
  obtain ⟨f0, f1', f2', f3, f4, f5, f6, f7, f8, g0, g1⟩ := HX6.out.fz
  obtain ⟨c0, c1, c2, c3, c4, c5, c6, c7, c8, d0, d1⟩ := HX6.out.cells
  obtain ⟨k0, k1, k2, k3, k4, k5, k6, k7, k8⟩ := HT6.out.cells
  go_wp2_with fail
  have HP := HX6.out.put ⟨21, 0, b, (n + 1 : Nat), tx, 0, 0, 0, 0⟩ 0 0
  exact zag rfl rfl rfl rfl HP ⟨by rw [HE.out]; rfl, HP.b⟩
 | false =>
  have HE : Hid (zcq s b d = .inl (nlT b d)) := by show zcq s b d = _; rw [HU.out, if_neg (beq_eq_false_iff_ne.1 hq)]
  rw [hq] at HS
  clear HU hq
  go_enter Tryz.func144, Tryz.ntmps144
  go_wp2_with fail
  refine (HH.out _).mono ?_
  rintro e w3 ⟨rfl, rfl⟩
  clear HH
  go_wp2_with fail
  refine (HN.out _).mono ?_
  rintro e w4 ⟨rfl, b4⟩
  have HX5 : Hid (BX w ((w4.alloc (tkO ⟨1, 0, d, n, tx, 0, 0, 0, 0⟩)).alloc (fxO 0 0)) tk0 0 0) := ((HX.out.below b4).below (zaa _ _)).below (zaa _ _)
  have HY5 : Hid (TX ((w4.alloc (tkO ⟨1, 0, d, n, tx, 0, 0, 0, 0⟩)).alloc (fxO 0 0)) (w.heap.size + 1 + 1) (nlT b d)) := ((HT.out.below b4).below (zaa _ _)).below (zaa _ _)
  clear b4 HX HN HT
  unfold zaE
  go_wp2_with fail
  refine (HS.out _).mono ?_
  rintro e w6 ⟨rfl, hw6⟩
  have HX6 : Hid (BX w w6 tk0 0 0) := hw6 ▸ HX5.out
  have HT6 : Hid (TX w6 (w.heap.size + 1 + 1) (nlT b d)) := hw6 ▸ HY5.out
  clear hw6 HX5 HY5 HS
  obtain ⟨f0, f1', f2', f3, f4, f5, f6, f7, f8, g0, g1⟩ := HX6.out.fz
  obtain ⟨c0, c1, c2, c3, c4, c5, c6, c7, c8, d0, d1⟩ := HX6.out.cells
  obtain ⟨k0, k1, k2, k3, k4, k5, k6, k7, k8⟩ := HT6.out.cells
  go_wp2_with fail
  have HP := HX6.out.put (nlT b d) 0 0
  exact zag rfl rfl rfl rfl HP ⟨by rw [HE.out]; rfl, HP.b⟩
theorem zfH (s : ByteArray) (b d : Nat) (hs : s.size <= 140737488355000) (hd : d <= s.size) (w : World) : Calls Tryz.prog 144 #[.string s, .int .i64 b, .int .i64 d] w fun e w' => e = .returned (zaP (zcq s b d)) /\ Below w.heap.size w w' := by
 by_cases h : d = s.size
 ·subst h; exact zpH s b w
 ·cases hh : hdB (chr s d) with
  | false => exact zpI s b d (by omega) hh w
  | true =>
   by_cases h32 : 32 < spN nmB s d - d
   ·exact zmP s b d hs (by omega) hh h32 w
   ·exact zmQ s b d hs (by omega) hh h32 w
end Go.Proofs.YtnpifgcgjgddoaaGreatDoor
