/- DERIVED. Plain mathematics and walks, laid together (5). -/
import Derived.WalkKit
import Derived.ScopeJumps
import Derived.Test.YthffklhojdldkaaDoorProg
import Derived.Test.YthffklhojdldkaaDoorLx04
namespace Go.Proofs.YthffklhojdldkaaDoor
open Go.RowKit
def nmR (s : ByteArray) (b d : Nat) (k : Int) : Sum Tk (Nat × Int) := match numR s d (gtK k) with
  | .inr e => .inr (b, e)
  | .inl n => .inl ⟨k, n, b, spN dgB s d, ⟨#[]⟩, 0, 0, 0, 0⟩
set_option maxRecDepth 100000 in
set_option maxHeartbeats 8000000 in
theorem rn_none (s : ByteArray) (b d : Nat) (k : Int) (hs : s.size ≤ 140737488355000) (hd : d ≤ s.size) (_hb : b ≤ s.size) (h : spN dgB s d - d = 0) (w : World) : Calls Tryd.prog 24 #[.string s, .int .i64 b, .int .i64 d, .int .i64 k] w fun e w' => e = .returned (tokP (nmR s b d k)) ∧ Below w.heap.size w w' := by
  have HR : Hid (∀ w, Calls Tryd.prog 43 #[.string s, .int .i64 d, .func (.func 23) #[] #[]] w fun e w' => e = .returned (.int .i64 (spN dgB s d)) ∧ w' = w) := fun w => runDigit_any s d (by omega) hd w
  have HF : Hid (∀ i e w, Calls Tryd.prog 45 #[.int .i64 i, .int .i64 e] w fun e' w' => e' = .returned (pairV tk0 i e) ∧ Below w.heap.size w w') := fun i e w => fault_any i e w
  have HX := (show Hid (BX w ((w.alloc (tkO tk0)).alloc (fxO 0 0)) tk0 0 0) from BX.new w)
  have hge := spN_ge dgB s (by decide) d
  have hle := spN_le dgB s (by decide) d (by omega)
  have HU := (show Hid (numR s d (gtK k) = if spN dgB s d - d = 0 ∨ (1 < spN dgB s d - d ∧ chr s d = 48) then .inr 50
    else if 6 < spN dgB s d - d ∨ gtK k < wthR s d 10 (spN dgB s d - d) then .inr 1 else .inl (wthR s d 10 (spN dgB s d - d))) from rfl)
  have HM := (show Hid (nmR s b d k = match numR s d (gtK k) with
    | .inr e => .inr (b, e)
    | .inl n => .inl ⟨k, n, b, spN dgB s d, ⟨#[]⟩, 0, 0, 0, 0⟩) from rfl)
  generalize spN dgB s d = n at *
  obtain ⟨m, hm⟩ : ∃ m, m = n - d := ⟨_, rfl⟩
  have u1 : IntKind.i64.wrap ((n : Int) - (d : Int)) = (m : Int) := by rw [IntKind.wrap_i64]; omega
  have z0 : (0 : Int) ≤ (d : Int) := by omega
  have z1 : (d : Int) ≤ (n : Int) := by omega
  have z2 : (n : Int) ≤ (s.size : Int) := by omega
  rw [← hm] at HU h
  have HE : Hid (nmR s b d k = .inr (b, 50)) := by show nmR s b d k = _; rw [HM.out, HU.out, if_pos (.inl h)]
  have t1 : ((m : Int) == 0) = true := by rw [h]; rfl
  clear HU HM hm h
  go_enter Tryd.func24, Tryd.ntmps24
  go_wp2_with fail
  refine (HR.out _).mono ?_
  rintro e w2 ⟨rfl, rfl⟩
  clear HR
  go_wp2_with fail
  refine (HF.out _ _ _).mono ?_
  rintro e w3 ⟨rfl, b3⟩
  have HX3 := (show Hid (BX w w3 tk0 0 0) from HX.out.below b3)
  clear b3 HX HF
  obtain ⟨f0, f1', f2', f3, f4, f5, f6, f7, f8, g0, g1⟩ := HX3.out.fz
  obtain ⟨c0, c1, c2, c3, c4, c5, c6, c7, c8, d0, d1⟩ := HX3.out.cells
  unfold pairV
  go_wp2_with fail
  have HP := HX3.out.put tk0 b 50
  exact ret_bx rfl rfl rfl rfl HP ⟨by rw [HE.out]; rfl, HP.b⟩
set_option maxRecDepth 100000 in
set_option maxHeartbeats 8000000 in
theorem rn_zero (s : ByteArray) (b d : Nat) (k : Int) (hs : s.size ≤ 140737488355000) (hd : d ≤ s.size) (_hb : b ≤ s.size) (h : 1 < spN dgB s d - d) (h2 : chr s d = 48) (w : World) : Calls Tryd.prog 24 #[.string s, .int .i64 b, .int .i64 d, .int .i64 k] w fun e w' => e = .returned (tokP (nmR s b d k)) ∧ Below w.heap.size w w' := by
  have HR : Hid (∀ w, Calls Tryd.prog 43 #[.string s, .int .i64 d, .func (.func 23) #[] #[]] w fun e w' => e = .returned (.int .i64 (spN dgB s d)) ∧ w' = w) := fun w => runDigit_any s d (by omega) hd w
  have HF : Hid (∀ i e w, Calls Tryd.prog 45 #[.int .i64 i, .int .i64 e] w fun e' w' => e' = .returned (pairV tk0 i e) ∧ Below w.heap.size w w') := fun i e w => fault_any i e w
  have HX := (show Hid (BX w ((w.alloc (tkO tk0)).alloc (fxO 0 0)) tk0 0 0) from BX.new w)
  have hge := spN_ge dgB s (by decide) d
  have hle := spN_le dgB s (by decide) d (by omega)
  have HU := (show Hid (numR s d (gtK k) = if spN dgB s d - d = 0 ∨ (1 < spN dgB s d - d ∧ chr s d = 48) then .inr 50
    else if 6 < spN dgB s d - d ∨ gtK k < wthR s d 10 (spN dgB s d - d) then .inr 1 else .inl (wthR s d 10 (spN dgB s d - d))) from rfl)
  have HM := (show Hid (nmR s b d k = match numR s d (gtK k) with
    | .inr e => .inr (b, e)
    | .inl n => .inl ⟨k, n, b, spN dgB s d, ⟨#[]⟩, 0, 0, 0, 0⟩) from rfl)
  generalize spN dgB s d = n at *
  obtain ⟨m, hm⟩ : ∃ m, m = n - d := ⟨_, rfl⟩
  have u1 : IntKind.i64.wrap ((n : Int) - (d : Int)) = (m : Int) := by rw [IntKind.wrap_i64]; omega
  have z0 : (0 : Int) ≤ (d : Int) := by omega
  have z1 : (d : Int) ≤ (n : Int) := by omega
  have z2 : (n : Int) ≤ (s.size : Int) := by omega
  rw [← hm] at HU h
  have HE : Hid (nmR s b d k = .inr (b, 50)) := by show nmR s b d k = _; rw [HM.out, HU.out, if_pos (.inr ⟨h, h2⟩)]
  have t1 : ((m : Int) == 0) = false := by rw [beq_eq_false_iff_ne]; omega
  have t2 : (1 : Int) < (m : Int) := by omega
  have hlt : d < s.size := by omega
  have z3 : (d : Int) < (s.size : Int) := by omega
  have t3 : ((s[d].toNat : Int) == 48) = true := by rw [← chr_in hlt, h2]; rfl
  clear HU HM hm h h2
  go_enter Tryd.func24, Tryd.ntmps24
  go_wp2_with fail
  refine (HR.out _).mono ?_
  rintro e w2 ⟨rfl, rfl⟩
  clear HR
  go_wp2_with fail
  refine (HF.out _ _ _).mono ?_
  rintro e w3 ⟨rfl, b3⟩
  have HX3 := (show Hid (BX w w3 tk0 0 0) from HX.out.below b3)
  clear b3 HX HF
  obtain ⟨f0, f1', f2', f3, f4, f5, f6, f7, f8, g0, g1⟩ := HX3.out.fz
  obtain ⟨c0, c1, c2, c3, c4, c5, c6, c7, c8, d0, d1⟩ := HX3.out.cells
  unfold pairV
  go_wp2_with fail
  have HP := HX3.out.put tk0 b 50
  exact ret_bx rfl rfl rfl rfl HP ⟨by rw [HE.out]; rfl, HP.b⟩
set_option maxRecDepth 100000 in
set_option maxHeartbeats 8000000 in
theorem rn_long (s : ByteArray) (b d : Nat) (k : Int) (hs : s.size ≤ 140737488355000) (hd : d ≤ s.size) (_hb : b ≤ s.size) (h : 6 < spN dgB s d - d) (h2 : ¬ chr s d = 48) (w : World) : Calls Tryd.prog 24 #[.string s, .int .i64 b, .int .i64 d, .int .i64 k] w fun e w' => e = .returned (tokP (nmR s b d k)) ∧ Below w.heap.size w w' := by
  have HR : Hid (∀ w, Calls Tryd.prog 43 #[.string s, .int .i64 d, .func (.func 23) #[] #[]] w fun e w' => e = .returned (.int .i64 (spN dgB s d)) ∧ w' = w) := fun w => runDigit_any s d (by omega) hd w
  have HF : Hid (∀ i e w, Calls Tryd.prog 45 #[.int .i64 i, .int .i64 e] w fun e' w' => e' = .returned (pairV tk0 i e) ∧ Below w.heap.size w w') := fun i e w => fault_any i e w
  have HX := (show Hid (BX w ((w.alloc (tkO tk0)).alloc (fxO 0 0)) tk0 0 0) from BX.new w)
  have hge := spN_ge dgB s (by decide) d
  have hle := spN_le dgB s (by decide) d (by omega)
  have HU := (show Hid (numR s d (gtK k) = if spN dgB s d - d = 0 ∨ (1 < spN dgB s d - d ∧ chr s d = 48) then .inr 50
    else if 6 < spN dgB s d - d ∨ gtK k < wthR s d 10 (spN dgB s d - d) then .inr 1 else .inl (wthR s d 10 (spN dgB s d - d))) from rfl)
  have HM := (show Hid (nmR s b d k = match numR s d (gtK k) with
    | .inr e => .inr (b, e)
    | .inl n => .inl ⟨k, n, b, spN dgB s d, ⟨#[]⟩, 0, 0, 0, 0⟩) from rfl)
  generalize spN dgB s d = n at *
  obtain ⟨m, hm⟩ : ∃ m, m = n - d := ⟨_, rfl⟩
  have u1 : IntKind.i64.wrap ((n : Int) - (d : Int)) = (m : Int) := by rw [IntKind.wrap_i64]; omega
  have z0 : (0 : Int) ≤ (d : Int) := by omega
  have z1 : (d : Int) ≤ (n : Int) := by omega
  have z2 : (n : Int) ≤ (s.size : Int) := by omega
  rw [← hm] at HU h
  have HE : Hid (nmR s b d k = .inr (b, 1)) := by show nmR s b d k = _; rw [HM.out, HU.out, if_neg (by omega), if_pos (.inl h)]
  have t1 : ((m : Int) == 0) = false := by rw [beq_eq_false_iff_ne]; omega
  have t2 : (1 : Int) < (m : Int) := by omega
  have hlt : d < s.size := by omega
  have z3 : (d : Int) < (s.size : Int) := by omega
  have t3 : ((s[d].toNat : Int) == 48) = false := by rw [← chr_in hlt, beq_eq_false_iff_ne]; exact h2
  have t4 : (6 : Int) < (m : Int) := by omega
  clear HU HM hm h h2
  go_enter Tryd.func24, Tryd.ntmps24
  go_wp2_with fail
  refine (HR.out _).mono ?_
  rintro e w2 ⟨rfl, rfl⟩
  clear HR
  go_wp2_with fail
  refine (HF.out _ _ _).mono ?_
  rintro e w3 ⟨rfl, b3⟩
  have HX3 := (show Hid (BX w w3 tk0 0 0) from HX.out.below b3)
  clear b3 HX HF
  obtain ⟨f0, f1', f2', f3, f4, f5, f6, f7, f8, g0, g1⟩ := HX3.out.fz
  obtain ⟨c0, c1, c2, c3, c4, c5, c6, c7, c8, d0, d1⟩ := HX3.out.cells
  unfold pairV
  go_wp2_with fail
  have HP := HX3.out.put tk0 b 1
  exact ret_bx rfl rfl rfl rfl HP ⟨by rw [HE.out]; rfl, HP.b⟩
set_option maxRecDepth 100000 in
set_option maxHeartbeats 8000000 in
theorem rn_one (s : ByteArray) (b d : Nat) (k : Int) (hs : s.size ≤ 140737488355000) (hd : d ≤ s.size) (_hb : b ≤ s.size) (h : spN dgB s d - d = 1) (w : World) : Calls Tryd.prog 24 #[.string s, .int .i64 b, .int .i64 d, .int .i64 k] w fun e w' => e = .returned (tokP (nmR s b d k)) ∧ Below w.heap.size w w' := by
  have HR : Hid (∀ w, Calls Tryd.prog 43 #[.string s, .int .i64 d, .func (.func 23) #[] #[]] w fun e w' => e = .returned (.int .i64 (spN dgB s d)) ∧ w' = w) := fun w => runDigit_any s d (by omega) hd w
  have HF : Hid (∀ i e w, Calls Tryd.prog 45 #[.int .i64 i, .int .i64 e] w fun e' w' => e' = .returned (pairV tk0 i e) ∧ Below w.heap.size w w') := fun i e w => fault_any i e w
  have HX := (show Hid (BX w ((w.alloc (tkO tk0)).alloc (fxO 0 0)) tk0 0 0) from BX.new w)
  have hge := spN_ge dgB s (by decide) d
  have hle := spN_le dgB s (by decide) d (by omega)
  have HU := (show Hid (numR s d (gtK k) = if spN dgB s d - d = 0 ∨ (1 < spN dgB s d - d ∧ chr s d = 48) then .inr 50
    else if 6 < spN dgB s d - d ∨ gtK k < wthR s d 10 (spN dgB s d - d) then .inr 1 else .inl (wthR s d 10 (spN dgB s d - d))) from rfl)
  have HM := (show Hid (nmR s b d k = match numR s d (gtK k) with
    | .inr e => .inr (b, e)
    | .inl n => .inl ⟨k, n, b, spN dgB s d, ⟨#[]⟩, 0, 0, 0, 0⟩) from rfl)
  generalize spN dgB s d = n at *
  obtain ⟨m, hm⟩ : ∃ m, m = n - d := ⟨_, rfl⟩
  have u1 : IntKind.i64.wrap ((n : Int) - (d : Int)) = (m : Int) := by rw [IntKind.wrap_i64]; omega
  have z0 : (0 : Int) ≤ (d : Int) := by omega
  have z1 : (d : Int) ≤ (n : Int) := by omega
  have z2 : (n : Int) ≤ (s.size : Int) := by omega
  rw [← hm] at HU h
  have h0 : ¬ (m = 0 ∨ (1 < m ∧ chr s d = 48)) := by omega
  have h6 : m ≤ 6 := by omega
  have t2 : ¬ (1 : Int) < (m : Int) := by omega
  have t1 : ((m : Int) == 0) = false := by rw [beq_eq_false_iff_ne]; omega
  have t4 : ¬ (6 : Int) < (m : Int) := by omega
  have HNo : Hid (∀ w, Calls Tryd.prog 47 #[.string (s.extract d n), .int .i64 10] w fun e w' => e = .returned (.int .i64 (wthR s d 10 m)) ∧ w' = w) := fun w => by
    have hz : (s.extract d n).size = m := by rw [ByteArray.size_extract]; omega
    have e := numberOf_any (s.extract d n) 10 (by omega) (by omega) w
    rw [hz, wthR_ext (by omega) m (by omega)] at e
    exact e
  have HG : Hid (∀ w, Calls Tryd.prog 48 #[.int .i64 k] w fun e w' => e = .returned (.int .i64 (gtK k)) ∧ w' = w) := fun w => greatest_any k w
  rw [if_neg h0] at HU
  generalize wthR s d 10 m = x at *
  generalize gtK k = y at *
  by_cases hg : y < x
  · have HE : Hid (nmR s b d k = .inr (b, 1)) := by show nmR s b d k = _; rw [HM.out, HU.out, if_pos (.inr hg)]
    have t5 : decide (y < x) = true := decide_eq_true hg
    clear HU HM hm h h0 hg 
    go_enter Tryd.func24, Tryd.ntmps24
    go_wp2_with fail
    refine (HR.out _).mono ?_
    rintro e w2 ⟨rfl, rfl⟩
    clear HR
    go_wp2_with fail
    refine (HNo.out _).mono ?_
    rintro e w2 ⟨rfl, rfl⟩
    clear HNo
    go_wp2_with fail
    refine (HG.out _).mono ?_
    rintro e w2 ⟨rfl, rfl⟩
    clear HG
    go_wp2_with fail
    refine (HF.out _ _ _).mono ?_
    rintro e w3 ⟨rfl, b3⟩
    have HX3 := (show Hid (BX w w3 tk0 0 0) from HX.out.below b3)
    clear b3 HX HF
    obtain ⟨f0, f1', f2', f3, f4, f5, f6, f7, f8, g0, g1⟩ := HX3.out.fz
    obtain ⟨c0, c1, c2, c3, c4, c5, c6, c7, c8, d0, d1⟩ := HX3.out.cells
    unfold pairV
    go_wp2_with fail
    have HP := HX3.out.put tk0 b 1
    exact ret_bx rfl rfl rfl rfl HP ⟨by rw [HE.out]; rfl, HP.b⟩
  · have HE : Hid (nmR s b d k = .inl ⟨k, x, b, n, ⟨#[]⟩, 0, 0, 0, 0⟩) := by show nmR s b d k = _; rw [HM.out, HU.out, if_neg (by omega)]
    have t5 : decide (y < x) = false := decide_eq_false hg
    clear HU HM hm h h0 hg HF 
    go_enter Tryd.func24, Tryd.ntmps24
    go_wp2_with fail
    refine (HR.out _).mono ?_
    rintro e w2 ⟨rfl, rfl⟩
    clear HR
    go_wp2_with fail
    refine (HNo.out _).mono ?_
    rintro e w2 ⟨rfl, rfl⟩
    clear HNo
    go_wp2_with fail
    refine (HG.out _).mono ?_
    rintro e w3 ⟨rfl, hw3⟩
    have HX3 := (show Hid (BX w w3 tk0 0 0) from hw3 ▸ HX.out)
    clear hw3 HX HG
    obtain ⟨f0, f1', f2', f3, f4, f5, f6, f7, f8, g0, g1⟩ := HX3.out.fz
    obtain ⟨c0, c1, c2, c3, c4, c5, c6, c7, c8, d0, d1⟩ := HX3.out.cells
    go_wp2_with fail
    have HP := HX3.out.put ⟨k, x, b, n, ⟨#[]⟩, 0, 0, 0, 0⟩ 0 0
    exact ret_bx rfl rfl rfl rfl HP ⟨by rw [HE.out]; rfl, HP.b⟩
set_option maxRecDepth 100000 in
set_option maxHeartbeats 8000000 in
theorem rn_more (s : ByteArray) (b d : Nat) (k : Int) (hs : s.size ≤ 140737488355000) (hd : d ≤ s.size) (_hb : b ≤ s.size) (h : spN dgB s d - d ≤ 6) (h1 : 1 < spN dgB s d - d) (h2 : ¬ chr s d = 48) (w : World) : Calls Tryd.prog 24 #[.string s, .int .i64 b, .int .i64 d, .int .i64 k] w fun e w' => e = .returned (tokP (nmR s b d k)) ∧ Below w.heap.size w w' := by
  have HR : Hid (∀ w, Calls Tryd.prog 43 #[.string s, .int .i64 d, .func (.func 23) #[] #[]] w fun e w' => e = .returned (.int .i64 (spN dgB s d)) ∧ w' = w) := fun w => runDigit_any s d (by omega) hd w
  have HF : Hid (∀ i e w, Calls Tryd.prog 45 #[.int .i64 i, .int .i64 e] w fun e' w' => e' = .returned (pairV tk0 i e) ∧ Below w.heap.size w w') := fun i e w => fault_any i e w
  have HX := (show Hid (BX w ((w.alloc (tkO tk0)).alloc (fxO 0 0)) tk0 0 0) from BX.new w)
  have hge := spN_ge dgB s (by decide) d
  have hle := spN_le dgB s (by decide) d (by omega)
  have HU := (show Hid (numR s d (gtK k) = if spN dgB s d - d = 0 ∨ (1 < spN dgB s d - d ∧ chr s d = 48) then .inr 50
    else if 6 < spN dgB s d - d ∨ gtK k < wthR s d 10 (spN dgB s d - d) then .inr 1 else .inl (wthR s d 10 (spN dgB s d - d))) from rfl)
  have HM := (show Hid (nmR s b d k = match numR s d (gtK k) with
    | .inr e => .inr (b, e)
    | .inl n => .inl ⟨k, n, b, spN dgB s d, ⟨#[]⟩, 0, 0, 0, 0⟩) from rfl)
  generalize spN dgB s d = n at *
  obtain ⟨m, hm⟩ : ∃ m, m = n - d := ⟨_, rfl⟩
  have u1 : IntKind.i64.wrap ((n : Int) - (d : Int)) = (m : Int) := by rw [IntKind.wrap_i64]; omega
  have z0 : (0 : Int) ≤ (d : Int) := by omega
  have z1 : (d : Int) ≤ (n : Int) := by omega
  have z2 : (n : Int) ≤ (s.size : Int) := by omega
  rw [← hm] at HU h
  rw [← hm] at h1
  have h0 : ¬ (m = 0 ∨ (1 < m ∧ chr s d = 48)) := by omega
  have h6 : m ≤ 6 := by omega
  have t2 : (1 : Int) < (m : Int) := by omega
  have hlt : d < s.size := by omega
  have z3 : (d : Int) < (s.size : Int) := by omega
  have t3 : ((s[d].toNat : Int) == 48) = false := by rw [← chr_in hlt, beq_eq_false_iff_ne]; exact h2
  have t1 : ((m : Int) == 0) = false := by rw [beq_eq_false_iff_ne]; omega
  have t4 : ¬ (6 : Int) < (m : Int) := by omega
  have HNo : Hid (∀ w, Calls Tryd.prog 47 #[.string (s.extract d n), .int .i64 10] w fun e w' => e = .returned (.int .i64 (wthR s d 10 m)) ∧ w' = w) := fun w => by
    have hz : (s.extract d n).size = m := by rw [ByteArray.size_extract]; omega
    have e := numberOf_any (s.extract d n) 10 (by omega) (by omega) w
    rw [hz, wthR_ext (by omega) m (by omega)] at e
    exact e
  have HG : Hid (∀ w, Calls Tryd.prog 48 #[.int .i64 k] w fun e w' => e = .returned (.int .i64 (gtK k)) ∧ w' = w) := fun w => greatest_any k w
  rw [if_neg h0] at HU
  generalize wthR s d 10 m = x at *
  generalize gtK k = y at *
  by_cases hg : y < x
  · have HE : Hid (nmR s b d k = .inr (b, 1)) := by show nmR s b d k = _; rw [HM.out, HU.out, if_pos (.inr hg)]
    have t5 : decide (y < x) = true := decide_eq_true hg
    clear HU HM hm h h0 hg h1 h2
    go_enter Tryd.func24, Tryd.ntmps24
    go_wp2_with fail
    refine (HR.out _).mono ?_
    rintro e w2 ⟨rfl, rfl⟩
    clear HR
    go_wp2_with fail
    refine (HNo.out _).mono ?_
    rintro e w2 ⟨rfl, rfl⟩
    clear HNo
    go_wp2_with fail
    refine (HG.out _).mono ?_
    rintro e w2 ⟨rfl, rfl⟩
    clear HG
    go_wp2_with fail
    refine (HF.out _ _ _).mono ?_
    rintro e w3 ⟨rfl, b3⟩
    have HX3 := (show Hid (BX w w3 tk0 0 0) from HX.out.below b3)
    clear b3 HX HF
    obtain ⟨f0, f1', f2', f3, f4, f5, f6, f7, f8, g0, g1⟩ := HX3.out.fz
    obtain ⟨c0, c1, c2, c3, c4, c5, c6, c7, c8, d0, d1⟩ := HX3.out.cells
    unfold pairV
    go_wp2_with fail
    have HP := HX3.out.put tk0 b 1
    exact ret_bx rfl rfl rfl rfl HP ⟨by rw [HE.out]; rfl, HP.b⟩
  · have HE : Hid (nmR s b d k = .inl ⟨k, x, b, n, ⟨#[]⟩, 0, 0, 0, 0⟩) := by show nmR s b d k = _; rw [HM.out, HU.out, if_neg (by omega)]
    have t5 : decide (y < x) = false := decide_eq_false hg
    clear HU HM hm h h0 hg HF h1 h2
    go_enter Tryd.func24, Tryd.ntmps24
    go_wp2_with fail
    refine (HR.out _).mono ?_
    rintro e w2 ⟨rfl, rfl⟩
    clear HR
    go_wp2_with fail
    refine (HNo.out _).mono ?_
    rintro e w2 ⟨rfl, rfl⟩
    clear HNo
    go_wp2_with fail
    refine (HG.out _).mono ?_
    rintro e w3 ⟨rfl, hw3⟩
    have HX3 := (show Hid (BX w w3 tk0 0 0) from hw3 ▸ HX.out)
    clear hw3 HX HG
    obtain ⟨f0, f1', f2', f3, f4, f5, f6, f7, f8, g0, g1⟩ := HX3.out.fz
    obtain ⟨c0, c1, c2, c3, c4, c5, c6, c7, c8, d0, d1⟩ := HX3.out.cells
    go_wp2_with fail
    have HP := HX3.out.put ⟨k, x, b, n, ⟨#[]⟩, 0, 0, 0, 0⟩ 0 0
    exact ret_bx rfl rfl rfl rfl HP ⟨by rw [HE.out]; rfl, HP.b⟩
theorem readNumber_any (s : ByteArray) (b d : Nat) (k : Int) (hs : s.size ≤ 140737488355000) (hd : d ≤ s.size) (hb : b ≤ s.size) (w : World) : Calls Tryd.prog 24 #[.string s, .int .i64 b, .int .i64 d, .int .i64 k] w fun e w' => e = .returned (tokP (nmR s b d k)) ∧ Below w.heap.size w w' := by
  by_cases h0 : spN dgB s d - d = 0
  · exact rn_none s b d k hs hd hb h0 w
  by_cases h1 : spN dgB s d - d = 1
  · exact rn_one s b d k hs hd hb h1 w
  by_cases h2 : chr s d = 48
  · exact rn_zero s b d k hs hd hb (by omega) h2 w
  by_cases h6 : 6 < spN dgB s d - d
  · exact rn_long s b d k hs hd hb h6 h2 w
  · exact rn_more s b d k hs hd hb (by omega) (by omega) h2 w
end Go.Proofs.YthffklhojdldkaaDoor

namespace Go.Proofs.YthffklhojdldkaaDoor
open Go.RowKit
/-- A code point: the number, the place behind it, whether it is one. -/
def ptP (s : ByteArray) (a : Nat) : Int × Nat × Bool :=
  if spN hxB s a = a ∨ 6 < spN hxB s a - a then (0, a, false) else (wthR s a 16 (spN hxB s a - a), spN hxB s a, decide (wthR s a 16 (spN hxB s a - a) ≤ 1114111))
set_option maxRecDepth 100000 in
set_option maxHeartbeats 4000000 in
theorem readPoint_any (s : ByteArray) (a : Nat) (hs : s.size ≤ 140737488355000) (ha : a ≤ s.size) (w : World) : Calls Tryd.prog 71 #[.string s, .int .i64 a] w fun e w' => e = .returned (.tuple #[.int .i64 (ptP s a).1, .int .i64 (ptP s a).2.1, .bool (ptP s a).2.2]) ∧ w' = w := by
  have HR : Hid (∀ w, Calls Tryd.prog 43 #[.string s, .int .i64 a, .func (.func 84) #[] #[]] w fun e w' => e = .returned (.int .i64 (spN hxB s a)) ∧ w' = w) := fun w => runHex_any s a (by omega) ha w
  have hge := spN_ge hxB s (by decide) a
  have hle := spN_le hxB s (by decide) a ha
  have HU := (show Hid (ptP s a = if spN hxB s a = a ∨ 6 < spN hxB s a - a then (0, a, false) else (wthR s a 16 (spN hxB s a - a), spN hxB s a, decide (wthR s a 16 (spN hxB s a - a) ≤ 1114111))) from rfl)
  generalize spN hxB s a = n at *
  obtain ⟨m, hm⟩ : ∃ m, m = n - a := ⟨_, rfl⟩
  have u1 : IntKind.i64.wrap ((n : Int) - (a : Int)) = (m : Int) := by rw [IntKind.wrap_i64]; omega
  rw [← hm] at HU
  by_cases h0 : n = a
  · have HE : Hid (ptP s a = (0, a, false)) := by show ptP s a = _; rw [HU.out, if_pos (.inl h0)]
    have t1 : ((n : Int) == (a : Int)) = true := by rw [h0]; exact beq_self_eq_true _
    clear HU hm h0
    go_enter Tryd.func71, Tryd.ntmps71
    go_wp2_with fail
    refine (HR.out _).mono ?_
    rintro e w2 ⟨rfl, rfl⟩
    clear HR
    go_wp2_with fail
    refine bodyPost_ret (v := .tuple #[.int .i64 0, .int .i64 a, .bool false]) (by simp [results, Tryd.results71, go_sem]) rfl ⟨by rw [HE.out], rfl⟩
  have t1 : ((n : Int) == (a : Int)) = false := by rw [beq_eq_false_iff_ne]; omega
  by_cases h6 : 6 < m
  · have HE : Hid (ptP s a = (0, a, false)) := by show ptP s a = _; rw [HU.out, if_pos (.inr h6)]
    have t2 : (6 : Int) < (m : Int) := by omega
    clear HU hm h0 h6
    go_enter Tryd.func71, Tryd.ntmps71
    go_wp2_with fail
    refine (HR.out _).mono ?_
    rintro e w2 ⟨rfl, rfl⟩
    clear HR
    go_wp2_with fail
    refine bodyPost_ret (v := .tuple #[.int .i64 0, .int .i64 a, .bool false]) (by simp [results, Tryd.results71, go_sem]) rfl ⟨by rw [HE.out], rfl⟩
  · have HE : Hid (ptP s a = (wthR s a 16 m, n, decide (wthR s a 16 m ≤ 1114111))) := by show ptP s a = _; rw [HU.out, if_neg (by omega)]
    have t2 : ¬ (6 : Int) < (m : Int) := by omega
    have z0 : (0 : Int) ≤ (a : Int) := by omega
    have z1 : (a : Int) ≤ (n : Int) := by omega
    have z2 : (n : Int) ≤ (s.size : Int) := by omega
    have HN : Hid (∀ w, Calls Tryd.prog 47 #[.string (s.extract a n), .int .i64 16] w fun e w' => e = .returned (.int .i64 (wthR s a 16 m)) ∧ w' = w) := fun w => by
      have hz : (s.extract a n).size = m := by rw [ByteArray.size_extract]; omega
      have e := numberOf_any (s.extract a n) 16 (by omega) (by omega) w
      rw [hz, wthR_ext (by omega) m (by omega)] at e
      exact e
    clear HU hm h0 h6
    generalize wthR s a 16 m = x at *
    go_enter Tryd.func71, Tryd.ntmps71
    go_wp2_with fail
    refine (HR.out _).mono ?_
    rintro e w2 ⟨rfl, rfl⟩
    clear HR
    go_wp2_with fail
    refine (HN.out _).mono ?_
    rintro e w2 ⟨rfl, rfl⟩
    clear HN
    go_wp2_with fail
    refine bodyPost_ret (v := .tuple #[.int .i64 x, .int .i64 n, .bool (decide (x ≤ 1114111))]) (by simp [results, Tryd.results71, go_sem]) rfl ⟨by rw [HE.out], rfl⟩
end Go.Proofs.YthffklhojdldkaaDoor

namespace Go.Proofs.YthffklhojdldkaaDoor
open Go.RowKit

/-- As Q; by a goto to label L: J; by another: what stands behind that label goes on so, n times at most. -/
def Kj (P : Program) (c : Code) (L : Nat) (J : Act → World → Prop) (Q : Exit → Act → World → Prop) : Nat → Exit → Act → World → Prop
  | _, .normal, a, w => Q .normal a w
  | _, .exit i, a, w => Q (.exit i) a w
  | _, .ret, a, w => Q .ret a w
  | _, .panic ch, a, w => Q (.panic ch) a w
  | _, .outgrown, a, w => Q .outgrown a w
  | 0, .goto l, a, w => l = L ∧ J a w
  | n + 1, .goto l, a, w => (l = L ∧ J a w) ∨ ∃ rest, findLabel c l = some rest ∧ rest.wp P (Kj P c L J Q n) a w
section
variable {P : Program} {c : Code} {L : Nat} {J : Act → World → Prop} {Q : Exit → Act → World → Prop} {a : Act} {w : World}
@[go_sem] theorem Kj_normal (n : Nat) : Kj P c L J Q n .normal a w = Q .normal a w := by cases n <;> rfl
@[go_sem] theorem Kj_exit (n i : Nat) : Kj P c L J Q n (.exit i) a w = Q (.exit i) a w := by cases n <;> rfl
@[go_sem] theorem Kj_ret (n : Nat) : Kj P c L J Q n .ret a w = Q .ret a w := by cases n <;> rfl
@[go_sem] theorem Kj_panic (n : Nat) (ch : List PanicEntry) : Kj P c L J Q n (.panic ch) a w = Q (.panic ch) a w := by cases n <;> rfl
theorem Kj_outgrown (n : Nat) : Kj P c L J Q n .outgrown a w = Q .outgrown a w := by cases n <;> rfl
theorem then_goto {K : Act → World → Prop} (l : Nat) : Exit.then K Q (.goto l) a w = Q (.goto l) a w := rfl
theorem inBlock_goto (b l : Nat) : Exit.inBlock b Q (.goto l) a w = Q (.goto l) a w := rfl
theorem Kj_mono {J' : Act → World → Prop} (hJ : ∀ a w, J a w → J' a w) : ∀ (n : Nat) (e : Exit) (a : Act) (w : World), Kj P c L J Q n e a w → Kj P c L J' Q n e a w := by
  intro n
  induction n with
  | zero =>
    intro e a w h
    cases e with
    | goto l => exact ⟨h.1, hJ _ _ h.2⟩
    | normal => exact h
    | exit i => exact h
    | ret => exact h
    | panic ch => exact h
    | outgrown => exact h
  | succ n ih =>
    intro e a w h
    cases e with
    | goto l =>
      rcases h with ⟨h1, h2⟩ | ⟨r, h1, h2⟩
      · exact .inl ⟨h1, hJ _ _ h2⟩
      · exact .inr ⟨r, h1, wp_mono h2 (ih)⟩
    | normal => exact h
    | exit i => exact h
    | ret => exact h
    | panic ch => exact h
    | outgrown => exact h
theorem Kj_back {n : Nat} (h : J a w) : Kj P c L J Q n (.goto L) a w := by
  cases n with
  | zero => exact ⟨rfl, h⟩
  | succ n => exact .inl ⟨rfl, h⟩
theorem Kj_on {n l : Nat} {rest : Code} (hf : findLabel c l = some rest) (h : rest.wp P (Kj P c L J Q n) a w) : Kj P c L J Q (n + 1) (.goto l) a w := .inr ⟨rest, hf, h⟩
theorem Kj_arr {rest : Code} (hr : findLabel c L = some rest) (b : Frame) (k : List Item) (cs : List Frame) : ∀ (n : Nat) (d : Code) (a : Act) (w : World), d.wp P (Kj P c L J Q n) a w →
    (∃ e a' w', Q e a' w' ∧ Arrives P (lone (b.at a (.code d :: .inScope c :: k)) cs w) b k cs e a' w') ∨ ∃ a' w', J a' w' ∧ Steps P (lone (b.at a (.code d :: .inScope c :: k)) cs w) (lone (b.at a' (.code rest :: .inScope c :: k)) cs w') := by
  intro n
  induction n with
  | zero =>
    intro d a w h
    obtain ⟨e, a₁, w₁, hq, harr⟩ := h b (.inScope c :: k) cs
    cases e with
    | normal => exact .inl ⟨.normal, a₁, w₁, hq, Steps.trans harr (.one step_inScope)⟩
    | exit id => exact .inl ⟨.exit id, a₁, w₁, hq, fun k' hk => harr k' (by simp [exitTo, hk])⟩
    | goto l =>
      obtain ⟨rfl, hJ⟩ := hq
      exact .inr ⟨a₁, w₁, hJ, harr _ (by simp [gotoIn, hr])⟩
    | ret => exact .inl ⟨_, a₁, w₁, hq, harr⟩
    | panic ch => exact .inl ⟨_, a₁, w₁, hq, harr⟩
    | outgrown => exact .inl ⟨_, a₁, w₁, hq, harr⟩
  | succ n ih =>
    intro d a w h
    obtain ⟨e, a₁, w₁, hq, harr⟩ := h b (.inScope c :: k) cs
    cases e with
    | normal => exact .inl ⟨.normal, a₁, w₁, hq, Steps.trans harr (.one step_inScope)⟩
    | exit id => exact .inl ⟨.exit id, a₁, w₁, hq, fun k' hk => harr k' (by simp [exitTo, hk])⟩
    | goto l =>
      rcases hq with ⟨rfl, hJ⟩ | ⟨r2, hf, hw⟩
      · exact .inr ⟨a₁, w₁, hJ, harr _ (by simp [gotoIn, hr])⟩
      · have hs := harr _ (show gotoIn l (.inScope c :: k) = some (.code r2 :: .inScope c :: k) by simp [gotoIn, hf])
        rcases ih r2 a₁ w₁ hw with ⟨e2, a2, w2, hq2, harr2⟩ | ⟨a2, w2, hJ, hs2⟩
        · exact .inl ⟨e2, a2, w2, hq2, .of_steps hs harr2⟩
        · exact .inr ⟨a2, w2, hJ, hs.trans hs2⟩
    | ret => exact .inl ⟨_, a₁, w₁, hq, harr⟩
    | panic ch => exact .inl ⟨_, a₁, w₁, hq, harr⟩
    | outgrown => exact .inl ⟨_, a₁, w₁, hq, harr⟩
theorem wp_scope_round {rest : Code} (n L : Nat) (J : Act → World → Prop) (μ : Act → World → Nat) (hr : findLabel c L = some rest) (first : c.wp P (Kj P c L J Q n) a w)
    (pass : ∀ a w, J a w → rest.wp P (Kj P c L (fun a' w' => J a' w' ∧ μ a' w' < μ a w) Q n) a w) : (Code.scope c).wp P Q a w := by
  intro b k cs
  have key : ∀ m a w, μ a w = m → J a w → ∃ e a' w', Q e a' w' ∧ Arrives P (lone (b.at a (.code rest :: .inScope c :: k)) cs w) b k cs e a' w' := by
    intro m
    induction m using Nat.strongRecOn with
    | _ m ih =>
      intro a w hm hJ
      rcases Kj_arr hr b k cs n rest a w (pass a w hJ) with h | ⟨a2, w2, ⟨hJ2, hlt⟩, hs⟩
      · exact h
      · obtain ⟨e, a3, w3, hq, harr⟩ := ih _ (by omega) a2 w2 rfl hJ2
        exact ⟨e, a3, w3, hq, .of_steps hs harr⟩
  rcases Kj_arr hr b k cs n c a w first with ⟨e, a2, w2, hq, harr⟩ | ⟨a2, w2, hJ, hs⟩
  · exact ⟨e, a2, w2, hq, .of_steps (.one step_scope) harr⟩
  · obtain ⟨e, a3, w3, hq, harr⟩ := key _ a2 w2 rfl hJ
    exact ⟨e, a3, w3, hq, .of_steps (.head step_scope hs) harr⟩
theorem wp_behind {X : Code} {R : Exit → Act → World → Prop} (h : X.wp P R a w) : (Code.skip.seq X).wp P R a w := by
  apply wp_seq
  apply wp_skip
  exact h
theorem wp_scope_again {X : Code} (n L : Nat) (J : Act → World → Prop) (μ : Act → World → Nat) (hr : findLabel c L = some (Code.skip.seq X)) (first : (∀ a w, J a w → X.wp P (Kj P c L J Q n) a w) → c.wp P (Kj P c L J Q n) a w)
    (pass : ∀ a w, J a w → X.wp P (Kj P c L (fun a' w' => J a' w' ∧ μ a' w' < μ a w) Q n) a w) : (Code.scope c).wp P Q a w :=
  wp_scope_round n L J μ hr (first fun a w h => wp_mono (pass a w h) (Kj_mono (fun _ _ h => h.1) n)) (fun a w h => wp_behind (pass a w h))
/-- Jumps forth alone. -/
theorem wp_scope_forth {rest : Code} (n L : Nat) (hr : findLabel c L = some rest) (first : c.wp P (Kj P c L (fun _ _ => False) Q n) a w) : (Code.scope c).wp P Q a w :=
  wp_scope_round n L (fun _ _ => False) (fun _ _ => 0) hr first (fun _ _ h => h.elim)
end
end Go.Proofs.YthffklhojdldkaaDoor

namespace Go.Proofs.YthffklhojdldkaaDoor
open Go.RowKit
theorem hxB_hexV {c : Int} : hxB c = true ↔ 0 ≤ hexV c := by
  unfold hxB dgB hexV
  by_cases h1 : 48 ≤ c ∧ c ≤ 57
  · simp [h1]
  · by_cases h2 : 97 ≤ c ∧ c ≤ 102
    · rw [if_neg h1, if_pos h2]; simp [h2]; omega
    · rw [if_neg h1, if_neg h2]; simp; omega
theorem wthR_pos {s : ByteArray} {i : Nat} {base : Int} (hb : 0 ≤ base) : ∀ k, (∀ j, j < k → 0 ≤ hexV (chr s (i + j))) → 0 ≤ wthR s i base k := by
  intro k
  induction k with
  | zero => intro _; exact Int.le_refl _
  | succ k ih =>
    intro h
    rw [wthR]
    have h1 := ih (fun j hj => h j (by omega))
    have h2 := h k (by omega)
    have := Int.mul_nonneg h1 hb
    omega
theorem ptP_pos (s : ByteArray) (a : Nat) : 0 ≤ (ptP s a).1 := by
  unfold ptP
  split
  · exact Int.le_refl _
  · obtain ⟨h1, _, _, h4⟩ := spN_spec hxB s (by decide) _ a rfl
    exact wthR_pos (by omega) _ (fun j hj => hxB_hexV.1 (h4 (a + j) (by omega) (by omega)))
theorem ptP_bd {s : ByteArray} {a : Nat} (h : (ptP s a).2.2 = true) : (ptP s a).1 ≤ 1114111 := by
  unfold ptP at h ⊢
  split at h
  · cases h
  · next q => rw [if_neg q]; exact of_decide_eq_true h
theorem ptP_le {s : ByteArray} {a : Nat} (ha : a ≤ s.size) : a ≤ (ptP s a).2.1 ∧ (ptP s a).2.1 ≤ s.size := by
  unfold ptP
  split
  · exact ⟨Nat.le_refl _, ha⟩
  · exact ⟨spN_ge hxB s (by decide) a, spN_le hxB s (by decide) a ha⟩
def ptsP (s : ByteArray) (b : Nat) : Sum Tk (Nat × Int) :=
  if (ptP s (b + 3)).2.2 = false then .inr (b, 30)
  else if chr s (ptP s (b + 3)).2.1 = 45 then
    (if (ptP s ((ptP s (b + 3)).2.1 + 1)).2.2 = false ∨ (ptP s ((ptP s (b + 3)).2.1 + 1)).1 < (ptP s (b + 3)).1 then .inr (b, 30)
     else if chr s (ptP s ((ptP s (b + 3)).2.1 + 1)).2.1 = 125 then .inl ⟨5, (ptP s (b + 3)).1, b, ((ptP s ((ptP s (b + 3)).2.1 + 1)).2.1 + 1 : Nat), ⟨#[]⟩, (ptP s ((ptP s (b + 3)).2.1 + 1)).1, 0, 0, 0⟩ else .inr (b, 30))
  else if chr s (ptP s (b + 3)).2.1 = 125 then .inl ⟨5, (ptP s (b + 3)).1, b, ((ptP s (b + 3)).2.1 + 1 : Nat), ⟨#[]⟩, (ptP s (b + 3)).1, 0, 0, 0⟩ else .inr (b, 30)
theorem pfx1 (s : ByteArray) (i : Nat) (c : UInt8) : pfx s i [c] = (chr s i == (c.toNat : Int)) := by unfold pfx; unfold pfx; rw [Bool.and_true]
set_option maxRecDepth 100000 in
set_option maxHeartbeats 8000000 in
theorem runesA (s : ByteArray) (b : Nat) (hs : s.size ≤ 140737488355000) (hb : b + 3 ≤ s.size) (h1 : (ptP s (b + 3)).2.2 = false) (w : World) : Calls Tryd.prog 51 #[.string s, .int .i64 b] w fun e w' => e = .returned (tokP (ptsP s b)) ∧ Below w.heap.size w w' := by
  have HF : Hid (∀ i e w, Calls Tryd.prog 45 #[.int .i64 i, .int .i64 e] w fun e' w' => e' = .returned (pairV tk0 i e) ∧ Below w.heap.size w w') := fun i e w => fault_any i e w
  have HX := (show Hid (BX w ((w.alloc (tkO tk0)).alloc (fxO 0 0)) tk0 0 0) from BX.new w)
  have HE : Hid (ptsP s b = .inr (b, 30)) := by show ptsP s b = _; unfold ptsP; rw [if_pos h1]
  have HP1 : Hid (∀ w, Calls Tryd.prog 71 #[.string s, .int .i64 ((b : Int) + 3)] w fun e w' => e = .returned (.tuple #[.int .i64 (ptP s (b + 3)).1, .int .i64 (ptP s (b + 3)).2.1, .bool (ptP s (b + 3)).2.2]) ∧ w' = w) := fun w => readPoint_any s (b + 3) hs hb w
  have hle := ptP_le hb
  have hp1 := ptP_pos s (b + 3)
  rw [h1] at HP1
  generalize ptP s (b + 3) = p at *
  obtain ⟨n, e1, ok⟩ := p
  dsimp only at *
  clear h1
  go_enter Tryd.func51, Tryd.ntmps51
  go_wp2_with fail
  refine wp_scope_forth 3 0 rfl ?_
  go_wp2_with fail
  refine (HP1.out _).mono ?_
  rintro e w2 ⟨rfl, rfl⟩
  clear HP1
  go_wp2_with fail
  go_step3
  simp (config := { zetaDelta := true }) only [then_goto]
  refine Kj_on rfl ?_
  go_wp2_with fail
  refine (HF.out _ _ _).mono ?_
  rintro e w3 ⟨rfl, b3⟩
  have HX3 := (show Hid (BX w w3 tk0 0 0) from HX.out.below b3)
  clear b3 HX HF
  obtain ⟨f0, f1', f2', f3, f4, f5, f6, f7, f8, g0, g1⟩ := HX3.out.fz
  obtain ⟨c0, c1, c2, c3, c4, c5, c6, c7, c8, d0, d1⟩ := HX3.out.cells
  unfold pairV
  go_wp2_with fail
  have HP := HX3.out.put tk0 b 30
  simp only [Kj_ret]
  exact ret_bx rfl rfl rfl rfl HP ⟨by rw [HE.out]; rfl, HP.b⟩
set_option maxRecDepth 100000 in
set_option maxHeartbeats 8000000 in
theorem runesB (s : ByteArray) (b : Nat) (hs : s.size ≤ 140737488355000) (hb : b + 3 ≤ s.size) (h1 : (ptP s (b + 3)).2.2 = true) (h2 : chr s (ptP s (b + 3)).2.1 = 45) (h3 : (ptP s ((ptP s (b + 3)).2.1 + 1)).2.2 = false) (w : World) : Calls Tryd.prog 51 #[.string s, .int .i64 b] w fun e w' => e = .returned (tokP (ptsP s b)) ∧ Below w.heap.size w w' := by
  have HF : Hid (∀ i e w, Calls Tryd.prog 45 #[.int .i64 i, .int .i64 e] w fun e' w' => e' = .returned (pairV tk0 i e) ∧ Below w.heap.size w w') := fun i e w => fault_any i e w
  have HX := (show Hid (BX w ((w.alloc (tkO tk0)).alloc (fxO 0 0)) tk0 0 0) from BX.new w)
  have HE : Hid (ptsP s b = .inr (b, 30)) := by show ptsP s b = _; unfold ptsP; rw [if_neg (by rw [h1]; decide), if_pos h2, if_pos (.inl h3)]
  have HP1 : Hid (∀ w, Calls Tryd.prog 71 #[.string s, .int .i64 ((b : Int) + 3)] w fun e w' => e = .returned (.tuple #[.int .i64 (ptP s (b + 3)).1, .int .i64 (ptP s (b + 3)).2.1, .bool (ptP s (b + 3)).2.2]) ∧ w' = w) := fun w => readPoint_any s (b + 3) hs hb w
  have hle := ptP_le hb
  have hp1 := ptP_pos s (b + 3)
  have hbd := ptP_bd h1
  rw [h1] at HP1
  have HS : Hid (∀ w, Calls Tryd.prog 15 #[.string s, .int .i64 (((ptP s (b + 3)).2.1 : Nat) : Int), .string ⟨#[45]⟩] w fun e w' => e = .returned (.bool (chr s (ptP s (b + 3)).2.1 == 45)) ∧ w' = w) := fun w => by
    have e := stands_any s (ptP s (b + 3)).2.1 ⟨#[45]⟩ hle.2 w
    rw [show (⟨#[45]⟩ : ByteArray).data.toList = [45] from rfl, pfx1] at e
    exact e
  have hlt : (ptP s (b + 3)).2.1 + 1 ≤ s.size := chr_lt (by rw [h2]; decide)
  rw [h2] at HS
  have HP2 : Hid (∀ w, Calls Tryd.prog 71 #[.string s, .int .i64 (((ptP s (b + 3)).2.1 : Int) + 1)] w fun e w' => e = .returned (.tuple #[.int .i64 (ptP s ((ptP s (b + 3)).2.1 + 1)).1, .int .i64 (ptP s ((ptP s (b + 3)).2.1 + 1)).2.1, .bool (ptP s ((ptP s (b + 3)).2.1 + 1)).2.2]) ∧ w' = w) := fun w => readPoint_any s ((ptP s (b + 3)).2.1 + 1) hs hlt w
  have hle2 := ptP_le hlt
  have hp2 := ptP_pos s ((ptP s (b + 3)).2.1 + 1)
  rw [h3] at HP2
  generalize ptP s ((ptP s (b + 3)).2.1 + 1) = q at *
  obtain ⟨m, e2, ok2⟩ := q
  generalize ptP s (b + 3) = p at *
  obtain ⟨n, e1, ok⟩ := p
  dsimp only at *
  clear h1 h2 h3 
  go_enter Tryd.func51, Tryd.ntmps51
  go_wp2_with fail
  refine wp_scope_forth 3 0 rfl ?_
  go_wp2_with fail
  refine (HP1.out _).mono ?_
  rintro e w2 ⟨rfl, rfl⟩
  clear HP1
  go_wp2_with fail
  refine (HS.out _).mono ?_
  rintro e w2 ⟨rfl, rfl⟩
  clear HS
  go_wp2_with fail
  refine (HP2.out _).mono ?_
  rintro e w2 ⟨rfl, rfl⟩
  clear HP2
  go_wp2_with fail
  go_step3
  simp (config := { zetaDelta := true }) only [then_goto]
  refine Kj_on rfl ?_
  go_wp2_with fail
  refine (HF.out _ _ _).mono ?_
  rintro e w3 ⟨rfl, b3⟩
  have HX3 := (show Hid (BX w w3 tk0 0 0) from HX.out.below b3)
  clear b3 HX HF
  obtain ⟨f0, f1', f2', f3, f4, f5, f6, f7, f8, g0, g1⟩ := HX3.out.fz
  obtain ⟨c0, c1, c2, c3, c4, c5, c6, c7, c8, d0, d1⟩ := HX3.out.cells
  unfold pairV
  go_wp2_with fail
  have HP := HX3.out.put tk0 b 30
  simp only [Kj_ret]
  exact ret_bx rfl rfl rfl rfl HP ⟨by rw [HE.out]; rfl, HP.b⟩
set_option maxRecDepth 100000 in
set_option maxHeartbeats 8000000 in
theorem runesC (s : ByteArray) (b : Nat) (hs : s.size ≤ 140737488355000) (hb : b + 3 ≤ s.size) (h1 : (ptP s (b + 3)).2.2 = true) (h2 : chr s (ptP s (b + 3)).2.1 = 45) (h3 : (ptP s ((ptP s (b + 3)).2.1 + 1)).2.2 = true) (h4 : (ptP s ((ptP s (b + 3)).2.1 + 1)).1 < (ptP s (b + 3)).1) (w : World) : Calls Tryd.prog 51 #[.string s, .int .i64 b] w fun e w' => e = .returned (tokP (ptsP s b)) ∧ Below w.heap.size w w' := by
  have HF : Hid (∀ i e w, Calls Tryd.prog 45 #[.int .i64 i, .int .i64 e] w fun e' w' => e' = .returned (pairV tk0 i e) ∧ Below w.heap.size w w') := fun i e w => fault_any i e w
  have HX := (show Hid (BX w ((w.alloc (tkO tk0)).alloc (fxO 0 0)) tk0 0 0) from BX.new w)
  have HE : Hid (ptsP s b = .inr (b, 30)) := by show ptsP s b = _; unfold ptsP; rw [if_neg (by rw [h1]; decide), if_pos h2, if_pos (.inr h4)]
  have HP1 : Hid (∀ w, Calls Tryd.prog 71 #[.string s, .int .i64 ((b : Int) + 3)] w fun e w' => e = .returned (.tuple #[.int .i64 (ptP s (b + 3)).1, .int .i64 (ptP s (b + 3)).2.1, .bool (ptP s (b + 3)).2.2]) ∧ w' = w) := fun w => readPoint_any s (b + 3) hs hb w
  have hle := ptP_le hb
  have hp1 := ptP_pos s (b + 3)
  have hbd := ptP_bd h1
  rw [h1] at HP1
  have HS : Hid (∀ w, Calls Tryd.prog 15 #[.string s, .int .i64 (((ptP s (b + 3)).2.1 : Nat) : Int), .string ⟨#[45]⟩] w fun e w' => e = .returned (.bool (chr s (ptP s (b + 3)).2.1 == 45)) ∧ w' = w) := fun w => by
    have e := stands_any s (ptP s (b + 3)).2.1 ⟨#[45]⟩ hle.2 w
    rw [show (⟨#[45]⟩ : ByteArray).data.toList = [45] from rfl, pfx1] at e
    exact e
  have hlt : (ptP s (b + 3)).2.1 + 1 ≤ s.size := chr_lt (by rw [h2]; decide)
  rw [h2] at HS
  have HP2 : Hid (∀ w, Calls Tryd.prog 71 #[.string s, .int .i64 (((ptP s (b + 3)).2.1 : Int) + 1)] w fun e w' => e = .returned (.tuple #[.int .i64 (ptP s ((ptP s (b + 3)).2.1 + 1)).1, .int .i64 (ptP s ((ptP s (b + 3)).2.1 + 1)).2.1, .bool (ptP s ((ptP s (b + 3)).2.1 + 1)).2.2]) ∧ w' = w) := fun w => readPoint_any s ((ptP s (b + 3)).2.1 + 1) hs hlt w
  have hle2 := ptP_le hlt
  have hp2 := ptP_pos s ((ptP s (b + 3)).2.1 + 1)
  rw [h3] at HP2
  have hbd2 := ptP_bd h3
  generalize ptP s ((ptP s (b + 3)).2.1 + 1) = q at *
  obtain ⟨m, e2, ok2⟩ := q
  generalize ptP s (b + 3) = p at *
  obtain ⟨n, e1, ok⟩ := p
  dsimp only at *
  have t3 : m < n := h4
  clear h1 h2 h3 h4 
  go_enter Tryd.func51, Tryd.ntmps51
  go_wp2_with fail
  refine wp_scope_forth 3 0 rfl ?_
  go_wp2_with fail
  refine (HP1.out _).mono ?_
  rintro e w2 ⟨rfl, rfl⟩
  clear HP1
  go_wp2_with fail
  refine (HS.out _).mono ?_
  rintro e w2 ⟨rfl, rfl⟩
  clear HS
  go_wp2_with fail
  refine (HP2.out _).mono ?_
  rintro e w2 ⟨rfl, rfl⟩
  clear HP2
  go_wp2_with fail
  go_step3
  simp (config := { zetaDelta := true }) only [then_goto]
  refine Kj_on rfl ?_
  go_wp2_with fail
  refine (HF.out _ _ _).mono ?_
  rintro e w3 ⟨rfl, b3⟩
  have HX3 := (show Hid (BX w w3 tk0 0 0) from HX.out.below b3)
  clear b3 HX HF
  obtain ⟨f0, f1', f2', f3, f4, f5, f6, f7, f8, g0, g1⟩ := HX3.out.fz
  obtain ⟨c0, c1, c2, c3, c4, c5, c6, c7, c8, d0, d1⟩ := HX3.out.cells
  unfold pairV
  go_wp2_with fail
  have HP := HX3.out.put tk0 b 30
  simp only [Kj_ret]
  exact ret_bx rfl rfl rfl rfl HP ⟨by rw [HE.out]; rfl, HP.b⟩
set_option maxRecDepth 100000 in
set_option maxHeartbeats 8000000 in
theorem runesD (s : ByteArray) (b : Nat) (hs : s.size ≤ 140737488355000) (hb : b + 3 ≤ s.size) (h1 : (ptP s (b + 3)).2.2 = true) (h2 : chr s (ptP s (b + 3)).2.1 = 45) (h3 : (ptP s ((ptP s (b + 3)).2.1 + 1)).2.2 = true) (h4 : ¬ (ptP s ((ptP s (b + 3)).2.1 + 1)).1 < (ptP s (b + 3)).1) (h5 : chr s (ptP s ((ptP s (b + 3)).2.1 + 1)).2.1 = 125) (w : World) : Calls Tryd.prog 51 #[.string s, .int .i64 b] w fun e w' => e = .returned (tokP (ptsP s b)) ∧ Below w.heap.size w w' := by
  have HF : Hid (∀ i e w, Calls Tryd.prog 45 #[.int .i64 i, .int .i64 e] w fun e' w' => e' = .returned (pairV tk0 i e) ∧ Below w.heap.size w w') := fun i e w => fault_any i e w
  have HX := (show Hid (BX w ((w.alloc (tkO tk0)).alloc (fxO 0 0)) tk0 0 0) from BX.new w)
  have HE : Hid (ptsP s b = .inl ⟨5, (ptP s (b + 3)).1, b, ((ptP s ((ptP s (b + 3)).2.1 + 1)).2.1 + 1 : Nat), ⟨#[]⟩, (ptP s ((ptP s (b + 3)).2.1 + 1)).1, 0, 0, 0⟩) := by show ptsP s b = _; unfold ptsP; rw [if_neg (by rw [h1]; decide), if_pos h2, if_neg (by rw [h3]; simp; omega), if_pos h5]
  have HP1 : Hid (∀ w, Calls Tryd.prog 71 #[.string s, .int .i64 ((b : Int) + 3)] w fun e w' => e = .returned (.tuple #[.int .i64 (ptP s (b + 3)).1, .int .i64 (ptP s (b + 3)).2.1, .bool (ptP s (b + 3)).2.2]) ∧ w' = w) := fun w => readPoint_any s (b + 3) hs hb w
  have hle := ptP_le hb
  have hp1 := ptP_pos s (b + 3)
  have hbd := ptP_bd h1
  rw [h1] at HP1
  have HS : Hid (∀ w, Calls Tryd.prog 15 #[.string s, .int .i64 (((ptP s (b + 3)).2.1 : Nat) : Int), .string ⟨#[45]⟩] w fun e w' => e = .returned (.bool (chr s (ptP s (b + 3)).2.1 == 45)) ∧ w' = w) := fun w => by
    have e := stands_any s (ptP s (b + 3)).2.1 ⟨#[45]⟩ hle.2 w
    rw [show (⟨#[45]⟩ : ByteArray).data.toList = [45] from rfl, pfx1] at e
    exact e
  have hlt : (ptP s (b + 3)).2.1 + 1 ≤ s.size := chr_lt (by rw [h2]; decide)
  rw [h2] at HS
  have HP2 : Hid (∀ w, Calls Tryd.prog 71 #[.string s, .int .i64 (((ptP s (b + 3)).2.1 : Int) + 1)] w fun e w' => e = .returned (.tuple #[.int .i64 (ptP s ((ptP s (b + 3)).2.1 + 1)).1, .int .i64 (ptP s ((ptP s (b + 3)).2.1 + 1)).2.1, .bool (ptP s ((ptP s (b + 3)).2.1 + 1)).2.2]) ∧ w' = w) := fun w => readPoint_any s ((ptP s (b + 3)).2.1 + 1) hs hlt w
  have hle2 := ptP_le hlt
  have hp2 := ptP_pos s ((ptP s (b + 3)).2.1 + 1)
  rw [h3] at HP2
  have hbd2 := ptP_bd h3
  have HS2 : Hid (∀ w, Calls Tryd.prog 15 #[.string s, .int .i64 (((ptP s ((ptP s (b + 3)).2.1 + 1)).2.1 : Nat) : Int), .string ⟨#[125]⟩] w fun e w' => e = .returned (.bool (chr s (ptP s ((ptP s (b + 3)).2.1 + 1)).2.1 == 125)) ∧ w' = w) := fun w => by
    have e := stands_any s (ptP s ((ptP s (b + 3)).2.1 + 1)).2.1 ⟨#[125]⟩ hle2.2 w
    rw [show (⟨#[125]⟩ : ByteArray).data.toList = [125] from rfl, pfx1] at e
    exact e
  rw [h5] at HS2
  generalize ptP s ((ptP s (b + 3)).2.1 + 1) = q at *
  obtain ⟨m, e2, ok2⟩ := q
  generalize ptP s (b + 3) = p at *
  obtain ⟨n, e1, ok⟩ := p
  dsimp only at *
  have t3 : ¬ m < n := h4
  have u3 : IntKind.u64.wrap m = m := by rw [IntKind.wrap_u64]; omega
  clear h1 h2 h3 h4 h5 
  clear HF
  go_enter Tryd.func51, Tryd.ntmps51
  go_wp2_with fail
  refine wp_scope_forth 3 0 rfl ?_
  go_wp2_with fail
  refine (HP1.out _).mono ?_
  rintro e w2 ⟨rfl, rfl⟩
  clear HP1
  go_wp2_with fail
  refine (HS.out _).mono ?_
  rintro e w2 ⟨rfl, rfl⟩
  clear HS
  go_wp2_with fail
  refine (HP2.out _).mono ?_
  rintro e w2 ⟨rfl, rfl⟩
  clear HP2
  go_wp2_with fail
  go_step3
  go_wp2_with fail
  refine (HS2.out _).mono ?_
  rintro e w3 ⟨rfl, hw3⟩
  have HX3 := (show Hid (BX w w3 tk0 0 0) from hw3 ▸ HX.out)
  clear hw3 HX HS2
  obtain ⟨f0, f1', f2', f3, f4, f5, f6, f7, f8, g0, g1⟩ := HX3.out.fz
  obtain ⟨c0, c1, c2, c3, c4, c5, c6, c7, c8, d0, d1⟩ := HX3.out.cells
  go_wp2_with fail
  have HP := HX3.out.put ⟨5, n, b, (e2 + 1 : Nat), ⟨#[]⟩, m, 0, 0, 0⟩ 0 0
  simp only [Kj_ret]
  exact ret_bx rfl rfl rfl rfl HP ⟨by rw [HE.out]; rfl, HP.b⟩
set_option maxRecDepth 100000 in
set_option maxHeartbeats 8000000 in
theorem runesE (s : ByteArray) (b : Nat) (hs : s.size ≤ 140737488355000) (hb : b + 3 ≤ s.size) (h1 : (ptP s (b + 3)).2.2 = true) (h2 : chr s (ptP s (b + 3)).2.1 = 45) (h3 : (ptP s ((ptP s (b + 3)).2.1 + 1)).2.2 = true) (h4 : ¬ (ptP s ((ptP s (b + 3)).2.1 + 1)).1 < (ptP s (b + 3)).1) (h5 : ¬ chr s (ptP s ((ptP s (b + 3)).2.1 + 1)).2.1 = 125) (w : World) : Calls Tryd.prog 51 #[.string s, .int .i64 b] w fun e w' => e = .returned (tokP (ptsP s b)) ∧ Below w.heap.size w w' := by
  have HF : Hid (∀ i e w, Calls Tryd.prog 45 #[.int .i64 i, .int .i64 e] w fun e' w' => e' = .returned (pairV tk0 i e) ∧ Below w.heap.size w w') := fun i e w => fault_any i e w
  have HX := (show Hid (BX w ((w.alloc (tkO tk0)).alloc (fxO 0 0)) tk0 0 0) from BX.new w)
  have HE : Hid (ptsP s b = .inr (b, 30)) := by show ptsP s b = _; unfold ptsP; rw [if_neg (by rw [h1]; decide), if_pos h2, if_neg (by rw [h3]; simp; omega), if_neg h5]
  have HP1 : Hid (∀ w, Calls Tryd.prog 71 #[.string s, .int .i64 ((b : Int) + 3)] w fun e w' => e = .returned (.tuple #[.int .i64 (ptP s (b + 3)).1, .int .i64 (ptP s (b + 3)).2.1, .bool (ptP s (b + 3)).2.2]) ∧ w' = w) := fun w => readPoint_any s (b + 3) hs hb w
  have hle := ptP_le hb
  have hp1 := ptP_pos s (b + 3)
  have hbd := ptP_bd h1
  rw [h1] at HP1
  have HS : Hid (∀ w, Calls Tryd.prog 15 #[.string s, .int .i64 (((ptP s (b + 3)).2.1 : Nat) : Int), .string ⟨#[45]⟩] w fun e w' => e = .returned (.bool (chr s (ptP s (b + 3)).2.1 == 45)) ∧ w' = w) := fun w => by
    have e := stands_any s (ptP s (b + 3)).2.1 ⟨#[45]⟩ hle.2 w
    rw [show (⟨#[45]⟩ : ByteArray).data.toList = [45] from rfl, pfx1] at e
    exact e
  have hlt : (ptP s (b + 3)).2.1 + 1 ≤ s.size := chr_lt (by rw [h2]; decide)
  rw [h2] at HS
  have HP2 : Hid (∀ w, Calls Tryd.prog 71 #[.string s, .int .i64 (((ptP s (b + 3)).2.1 : Int) + 1)] w fun e w' => e = .returned (.tuple #[.int .i64 (ptP s ((ptP s (b + 3)).2.1 + 1)).1, .int .i64 (ptP s ((ptP s (b + 3)).2.1 + 1)).2.1, .bool (ptP s ((ptP s (b + 3)).2.1 + 1)).2.2]) ∧ w' = w) := fun w => readPoint_any s ((ptP s (b + 3)).2.1 + 1) hs hlt w
  have hle2 := ptP_le hlt
  have hp2 := ptP_pos s ((ptP s (b + 3)).2.1 + 1)
  rw [h3] at HP2
  have hbd2 := ptP_bd h3
  have HS2 : Hid (∀ w, Calls Tryd.prog 15 #[.string s, .int .i64 (((ptP s ((ptP s (b + 3)).2.1 + 1)).2.1 : Nat) : Int), .string ⟨#[125]⟩] w fun e w' => e = .returned (.bool (chr s (ptP s ((ptP s (b + 3)).2.1 + 1)).2.1 == 125)) ∧ w' = w) := fun w => by
    have e := stands_any s (ptP s ((ptP s (b + 3)).2.1 + 1)).2.1 ⟨#[125]⟩ hle2.2 w
    rw [show (⟨#[125]⟩ : ByteArray).data.toList = [125] from rfl, pfx1] at e
    exact e
  rw [beq_eq_false_iff_ne.2 h5] at HS2
  generalize ptP s ((ptP s (b + 3)).2.1 + 1) = q at *
  obtain ⟨m, e2, ok2⟩ := q
  generalize ptP s (b + 3) = p at *
  obtain ⟨n, e1, ok⟩ := p
  dsimp only at *
  have t3 : ¬ m < n := h4
  have u3 : IntKind.u64.wrap m = m := by rw [IntKind.wrap_u64]; omega
  clear h1 h2 h3 h4 h5 
  go_enter Tryd.func51, Tryd.ntmps51
  go_wp2_with fail
  refine wp_scope_forth 3 0 rfl ?_
  go_wp2_with fail
  refine (HP1.out _).mono ?_
  rintro e w2 ⟨rfl, rfl⟩
  clear HP1
  go_wp2_with fail
  refine (HS.out _).mono ?_
  rintro e w2 ⟨rfl, rfl⟩
  clear HS
  go_wp2_with fail
  refine (HP2.out _).mono ?_
  rintro e w2 ⟨rfl, rfl⟩
  clear HP2
  go_wp2_with fail
  go_step3
  go_wp2_with fail
  refine (HS2.out _).mono ?_
  rintro e w2 ⟨rfl, rfl⟩
  clear HS2
  go_wp2_with fail
  go_step3
  go_wp2_with fail
  refine (HF.out _ _ _).mono ?_
  rintro e w3 ⟨rfl, b3⟩
  have HX3 := (show Hid (BX w w3 tk0 0 0) from HX.out.below b3)
  clear b3 HX HF
  obtain ⟨f0, f1', f2', f3, f4, f5, f6, f7, f8, g0, g1⟩ := HX3.out.fz
  obtain ⟨c0, c1, c2, c3, c4, c5, c6, c7, c8, d0, d1⟩ := HX3.out.cells
  unfold pairV
  go_wp2_with fail
  have HP := HX3.out.put tk0 b 30
  simp only [Kj_ret]
  exact ret_bx rfl rfl rfl rfl HP ⟨by rw [HE.out]; rfl, HP.b⟩
set_option maxRecDepth 100000 in
set_option maxHeartbeats 8000000 in
theorem runesF (s : ByteArray) (b : Nat) (hs : s.size ≤ 140737488355000) (hb : b + 3 ≤ s.size) (h1 : (ptP s (b + 3)).2.2 = true) (h2 : ¬ chr s (ptP s (b + 3)).2.1 = 45) (h5 : chr s (ptP s (b + 3)).2.1 = 125) (w : World) : Calls Tryd.prog 51 #[.string s, .int .i64 b] w fun e w' => e = .returned (tokP (ptsP s b)) ∧ Below w.heap.size w w' := by
  have HF : Hid (∀ i e w, Calls Tryd.prog 45 #[.int .i64 i, .int .i64 e] w fun e' w' => e' = .returned (pairV tk0 i e) ∧ Below w.heap.size w w') := fun i e w => fault_any i e w
  have HX := (show Hid (BX w ((w.alloc (tkO tk0)).alloc (fxO 0 0)) tk0 0 0) from BX.new w)
  have HE : Hid (ptsP s b = .inl ⟨5, (ptP s (b + 3)).1, b, ((ptP s (b + 3)).2.1 + 1 : Nat), ⟨#[]⟩, (ptP s (b + 3)).1, 0, 0, 0⟩) := by show ptsP s b = _; unfold ptsP; rw [if_neg (by rw [h1]; decide), if_neg h2, if_pos h5]
  have HP1 : Hid (∀ w, Calls Tryd.prog 71 #[.string s, .int .i64 ((b : Int) + 3)] w fun e w' => e = .returned (.tuple #[.int .i64 (ptP s (b + 3)).1, .int .i64 (ptP s (b + 3)).2.1, .bool (ptP s (b + 3)).2.2]) ∧ w' = w) := fun w => readPoint_any s (b + 3) hs hb w
  have hle := ptP_le hb
  have hp1 := ptP_pos s (b + 3)
  have hbd := ptP_bd h1
  rw [h1] at HP1
  have HS : Hid (∀ w, Calls Tryd.prog 15 #[.string s, .int .i64 (((ptP s (b + 3)).2.1 : Nat) : Int), .string ⟨#[45]⟩] w fun e w' => e = .returned (.bool (chr s (ptP s (b + 3)).2.1 == 45)) ∧ w' = w) := fun w => by
    have e := stands_any s (ptP s (b + 3)).2.1 ⟨#[45]⟩ hle.2 w
    rw [show (⟨#[45]⟩ : ByteArray).data.toList = [45] from rfl, pfx1] at e
    exact e
  rw [beq_eq_false_iff_ne.2 h2] at HS
  have HS2 : Hid (∀ w, Calls Tryd.prog 15 #[.string s, .int .i64 (((ptP s (b + 3)).2.1 : Nat) : Int), .string ⟨#[125]⟩] w fun e w' => e = .returned (.bool (chr s (ptP s (b + 3)).2.1 == 125)) ∧ w' = w) := fun w => by
    have e := stands_any s (ptP s (b + 3)).2.1 ⟨#[125]⟩ hle.2 w
    rw [show (⟨#[125]⟩ : ByteArray).data.toList = [125] from rfl, pfx1] at e
    exact e
  rw [h5] at HS2
  generalize ptP s (b + 3) = p at *
  obtain ⟨n, e1, ok⟩ := p
  dsimp only at *
  have u3 : IntKind.u64.wrap n = n := by rw [IntKind.wrap_u64]; omega
  clear h1 h2 h5 
  clear HF
  go_enter Tryd.func51, Tryd.ntmps51
  go_wp2_with fail
  refine wp_scope_forth 3 0 rfl ?_
  go_wp2_with fail
  refine (HP1.out _).mono ?_
  rintro e w2 ⟨rfl, rfl⟩
  clear HP1
  go_wp2_with fail
  refine (HS.out _).mono ?_
  rintro e w2 ⟨rfl, rfl⟩
  clear HS
  go_wp2_with fail
  go_step3
  simp (config := { zetaDelta := true }) only [then_goto]
  refine Kj_on rfl ?_
  go_wp2_with fail
  refine (HS2.out _).mono ?_
  rintro e w3 ⟨rfl, hw3⟩
  have HX3 := (show Hid (BX w w3 tk0 0 0) from hw3 ▸ HX.out)
  clear hw3 HX HS2
  obtain ⟨f0, f1', f2', f3, f4, f5, f6, f7, f8, g0, g1⟩ := HX3.out.fz
  obtain ⟨c0, c1, c2, c3, c4, c5, c6, c7, c8, d0, d1⟩ := HX3.out.cells
  go_wp2_with fail
  have HP := HX3.out.put ⟨5, n, b, (e1 + 1 : Nat), ⟨#[]⟩, n, 0, 0, 0⟩ 0 0
  simp only [Kj_ret]
  exact ret_bx rfl rfl rfl rfl HP ⟨by rw [HE.out]; rfl, HP.b⟩
set_option maxRecDepth 100000 in
set_option maxHeartbeats 8000000 in
theorem runesG (s : ByteArray) (b : Nat) (hs : s.size ≤ 140737488355000) (hb : b + 3 ≤ s.size) (h1 : (ptP s (b + 3)).2.2 = true) (h2 : ¬ chr s (ptP s (b + 3)).2.1 = 45) (h5 : ¬ chr s (ptP s (b + 3)).2.1 = 125) (w : World) : Calls Tryd.prog 51 #[.string s, .int .i64 b] w fun e w' => e = .returned (tokP (ptsP s b)) ∧ Below w.heap.size w w' := by
  have HF : Hid (∀ i e w, Calls Tryd.prog 45 #[.int .i64 i, .int .i64 e] w fun e' w' => e' = .returned (pairV tk0 i e) ∧ Below w.heap.size w w') := fun i e w => fault_any i e w
  have HX := (show Hid (BX w ((w.alloc (tkO tk0)).alloc (fxO 0 0)) tk0 0 0) from BX.new w)
  have HE : Hid (ptsP s b = .inr (b, 30)) := by show ptsP s b = _; unfold ptsP; rw [if_neg (by rw [h1]; decide), if_neg h2, if_neg h5]
  have HP1 : Hid (∀ w, Calls Tryd.prog 71 #[.string s, .int .i64 ((b : Int) + 3)] w fun e w' => e = .returned (.tuple #[.int .i64 (ptP s (b + 3)).1, .int .i64 (ptP s (b + 3)).2.1, .bool (ptP s (b + 3)).2.2]) ∧ w' = w) := fun w => readPoint_any s (b + 3) hs hb w
  have hle := ptP_le hb
  have hp1 := ptP_pos s (b + 3)
  have hbd := ptP_bd h1
  rw [h1] at HP1
  have HS : Hid (∀ w, Calls Tryd.prog 15 #[.string s, .int .i64 (((ptP s (b + 3)).2.1 : Nat) : Int), .string ⟨#[45]⟩] w fun e w' => e = .returned (.bool (chr s (ptP s (b + 3)).2.1 == 45)) ∧ w' = w) := fun w => by
    have e := stands_any s (ptP s (b + 3)).2.1 ⟨#[45]⟩ hle.2 w
    rw [show (⟨#[45]⟩ : ByteArray).data.toList = [45] from rfl, pfx1] at e
    exact e
  rw [beq_eq_false_iff_ne.2 h2] at HS
  have HS2 : Hid (∀ w, Calls Tryd.prog 15 #[.string s, .int .i64 (((ptP s (b + 3)).2.1 : Nat) : Int), .string ⟨#[125]⟩] w fun e w' => e = .returned (.bool (chr s (ptP s (b + 3)).2.1 == 125)) ∧ w' = w) := fun w => by
    have e := stands_any s (ptP s (b + 3)).2.1 ⟨#[125]⟩ hle.2 w
    rw [show (⟨#[125]⟩ : ByteArray).data.toList = [125] from rfl, pfx1] at e
    exact e
  rw [beq_eq_false_iff_ne.2 h5] at HS2
  generalize ptP s (b + 3) = p at *
  obtain ⟨n, e1, ok⟩ := p
  dsimp only at *
  clear h1 h2 h5 
  go_enter Tryd.func51, Tryd.ntmps51
  go_wp2_with fail
  refine wp_scope_forth 3 0 rfl ?_
  go_wp2_with fail
  refine (HP1.out _).mono ?_
  rintro e w2 ⟨rfl, rfl⟩
  clear HP1
  go_wp2_with fail
  refine (HS.out _).mono ?_
  rintro e w2 ⟨rfl, rfl⟩
  clear HS
  go_wp2_with fail
  go_step3
  simp (config := { zetaDelta := true }) only [then_goto]
  refine Kj_on rfl ?_
  go_wp2_with fail
  refine (HS2.out _).mono ?_
  rintro e w2 ⟨rfl, rfl⟩
  clear HS2
  go_wp2_with fail
  go_step3
  go_wp2_with fail
  refine (HF.out _ _ _).mono ?_
  rintro e w3 ⟨rfl, b3⟩
  have HX3 := (show Hid (BX w w3 tk0 0 0) from HX.out.below b3)
  clear b3 HX HF
  obtain ⟨f0, f1', f2', f3, f4, f5, f6, f7, f8, g0, g1⟩ := HX3.out.fz
  obtain ⟨c0, c1, c2, c3, c4, c5, c6, c7, c8, d0, d1⟩ := HX3.out.cells
  unfold pairV
  go_wp2_with fail
  have HP := HX3.out.put tk0 b 30
  simp only [Kj_ret]
  exact ret_bx rfl rfl rfl rfl HP ⟨by rw [HE.out]; rfl, HP.b⟩
theorem readRunes_any (s : ByteArray) (b : Nat) (hs : s.size ≤ 140737488355000) (hb : b + 3 ≤ s.size) (w : World) : Calls Tryd.prog 51 #[.string s, .int .i64 b] w fun e w' => e = .returned (tokP (ptsP s b)) ∧ Below w.heap.size w w' := by
  cases h1 : (ptP s (b + 3)).2.2 with
  | false => exact runesA s b hs hb h1 w
  | true =>
    by_cases h2 : chr s (ptP s (b + 3)).2.1 = 45
    · cases h3 : (ptP s ((ptP s (b + 3)).2.1 + 1)).2.2 with
      | false => exact runesB s b hs hb h1 h2 h3 w
      | true =>
        by_cases h4 : (ptP s ((ptP s (b + 3)).2.1 + 1)).1 < (ptP s (b + 3)).1
        · exact runesC s b hs hb h1 h2 h3 h4 w
        · by_cases h5 : chr s (ptP s ((ptP s (b + 3)).2.1 + 1)).2.1 = 125
          · exact runesD s b hs hb h1 h2 h3 h4 h5 w
          · exact runesE s b hs hb h1 h2 h3 h4 h5 w
    · by_cases h5 : chr s (ptP s (b + 3)).2.1 = 125
      · exact runesF s b hs hb h1 h2 h5 w
      · exact runesG s b hs hb h1 h2 h5 w
end Go.Proofs.YthffklhojdldkaaDoor
