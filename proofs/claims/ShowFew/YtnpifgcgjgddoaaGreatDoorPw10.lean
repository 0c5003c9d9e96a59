/- DERIVED. Plain mathematics and walks, laid together (10). -/
import Derived.Test.YtnpifgcgjgddoaaGreatDoorPw09
set_option maxRecDepth 100000
set_option maxHeartbeats 8000000
namespace Go.Proofs.YtnpifgcgjgddoaaGreatDoor
open Go.RowKit
theorem hxB_hexV {c : Int} : hxB c = true ↔ 0 <= zbj c := by
 unfold hxB dgB zbj
 by_cases h1 : 48 <= c /\ c <= 57
 ·simp [h1]
 ·by_cases h2 : 97 <= c /\ c <= 102
  ·rw [if_neg h1, if_pos h2]; simp [h2]; omega
  ·rw [if_neg h1, if_neg h2]; simp; omega
theorem zmy {s : ByteArray} {i : Nat} {base : Int} (hb : 0 <= base) : ∀ k, (∀ j, j < k -> 0 <= zbj (chr s (i + j))) -> 0 <= zbn s i base k := by
 intro k
 induction k with
 | zero => intro _; exact Int.le_refl _
 | succ k ih =>
  intro h
  rw [zbn]
  have h1 := ih (fun j hj => h j (by omega))
  have h2 := h k (by omega)
  have := Int.mul_nonneg h1 hb
  omega
theorem zb1 (s : ByteArray) (a : Nat) : 0 <= (ptP s a).1 := by
 unfold ptP
 split
 ·exact Int.le_refl _
 ·obtain ⟨h1, _, _, h4⟩ := za8 hxB s (by decide) _ a rfl
  exact zmy (by omega) _ (fun j hj => hxB_hexV.1 (h4 (a + j) (by omega) (by omega)))
theorem zdn {s : ByteArray} {a : Nat} (h : (ptP s a).2.2 = true) : (ptP s a).1 <= 1114111 := by
 unfold ptP at h ⊢
 split at h
 ·cases h
 ·next q => rw [if_neg q]; exact of_decide_eq_true h
theorem zbH {s : ByteArray} {a : Nat} (ha : a <= s.size) : a <= (ptP s a).2.1 /\ (ptP s a).2.1 <= s.size := by
 unfold ptP
 split
 ·exact ⟨Nat.le_refl _, ha⟩
 ·exact ⟨zbs hxB s (by decide) a, zbV hxB s (by decide) a ha⟩
def zbQ (s : ByteArray) (b : Nat) : Sum Tk (Nat × Int) :=
  if (ptP s (b + 3)).2.2 = false then .inr (b, 30)
  else if chr s (ptP s (b + 3)).2.1 = 45 then
    (if (ptP s ((ptP s (b + 3)).2.1 + 1)).2.2 = false ∨ (ptP s ((ptP s (b + 3)).2.1 + 1)).1 < (ptP s (b + 3)).1 then .inr (b, 30)
     else if chr s (ptP s ((ptP s (b + 3)).2.1 + 1)).2.1 = 125 then .inl ⟨5, (ptP s (b + 3)).1, b, ((ptP s ((ptP s (b + 3)).2.1 + 1)).2.1 + 1 : Nat), ⟨#[]⟩, (ptP s ((ptP s (b + 3)).2.1 + 1)).1, 0, 0, 0⟩ else .inr (b, 30))
  else if chr s (ptP s (b + 3)).2.1 = 125 then .inl ⟨5, (ptP s (b + 3)).1, b, ((ptP s (b + 3)).2.1 + 1 : Nat), ⟨#[]⟩, (ptP s (b + 3)).1, 0, 0, 0⟩ else .inr (b, 30)
theorem zkz (s : ByteArray) (i : Nat) (c : UInt8) : pfx s i [c] = (chr s i == (c.toNat : Int)) := by unfold pfx; unfold pfx; rw [Bool.and_true]
theorem runesA (s : ByteArray) (b : Nat) (hs : s.size <= 140737488355000) (hb : b + 3 <= s.size) (h1 : (ptP s (b + 3)).2.2 = false) (w : World) : Calls Tryz.prog 141 #[.string s, .int .i64 b] w fun e w' => e = .returned (zaT (zbQ s b)) /\ Below w.heap.size w w' := by
 have HF : Hid (∀ i e w, Calls Tryz.prog 135 #[.int .i64 i, .int .i64 e] w fun e' w' => e' = .returned (zaE tk0 i e) /\ Below w.heap.size w w') := fun i e w => zax i e w
 have HX : Hid (BX w ((w.alloc (tkO tk0)).alloc (fxO 0 0)) tk0 0 0) := BX.new w
 have HE : Hid (zbQ s b = .inr (b, 30)) := by show zbQ s b = _; unfold zbQ; rw [if_pos h1]
 have HP1 : Hid (∀ w, Calls Tryz.prog 159 #[.string s, .int .i64 ((b : Int) + 3)] w fun e w' => e = .returned (.tuple #[.int .i64 (ptP s (b + 3)).1, .int .i64 (ptP s (b + 3)).2.1, .bool (ptP s (b + 3)).2.2]) /\ w' = w) := fun w => zav s (b + 3) hs hb w
 have hle := zbH hb
 have hp1 := zb1 s (b + 3)
 rw [h1] at HP1
 generalize ptP s (b + 3) = p at *
 obtain ⟨n, e1, ok⟩ := p
 dsimp only at *
 clear h1
 go_enter Tryz.func141, Tryz.ntmps141
 go_wp2_with fail
 refine zaI 3 0 rfl ?_
 go_wp2_with fail
 refine (HP1.out _).mono ?_
 rintro e w2 ⟨rfl, rfl⟩
 clear HP1
 go_wp2_with fail
 go_step3
 simp (config := { zetaDelta := true }) only [zbu]
 refine zgG rfl ?_
 go_wp2_with fail
 refine (HF.out _ _ _).mono ?_
 rintro e w3 ⟨rfl, b3⟩
 have HX3 : Hid (BX w w3 tk0 0 0) := HX.out.below b3
 clear b3 HX HF
 obtain ⟨f0, f1', f2', f3, f4, f5, f6, f7, f8, g0, g1⟩ := HX3.out.fz
 obtain ⟨c0, c1, c2, c3, c4, c5, c6, c7, c8, d0, d1⟩ := HX3.out.cells
 unfold zaE
 go_wp2_with fail
 have HP := HX3.out.put tk0 b 30
 simp only [zdm]
 exact zah rfl rfl rfl rfl HP ⟨by rw [HE.out]; rfl, HP.b⟩
theorem runesB (s : ByteArray) (b : Nat) (hs : s.size <= 140737488355000) (hb : b + 3 <= s.size) (h1 : (ptP s (b + 3)).2.2 = true) (h2 : chr s (ptP s (b + 3)).2.1 = 45) (h3 : (ptP s ((ptP s (b + 3)).2.1 + 1)).2.2 = false) (w : World) : Calls Tryz.prog 141 #[.string s, .int .i64 b] w fun e w' => e = .returned (zaT (zbQ s b)) /\ Below w.heap.size w w' := by
 have HF : Hid (∀ i e w, Calls Tryz.prog 135 #[.int .i64 i, .int .i64 e] w fun e' w' => e' = .returned (zaE tk0 i e) /\ Below w.heap.size w w') := fun i e w => zax i e w
 have HX : Hid (BX w ((w.alloc (tkO tk0)).alloc (fxO 0 0)) tk0 0 0) := BX.new w
 have HE : Hid (zbQ s b = .inr (b, 30)) := by show zbQ s b = _; unfold zbQ; rw [if_neg (by rw [h1]; decide), if_pos h2, if_pos (.inl h3)]
 have HP1 : Hid (∀ w, Calls Tryz.prog 159 #[.string s, .int .i64 ((b : Int) + 3)] w fun e w' => e = .returned (.tuple #[.int .i64 (ptP s (b + 3)).1, .int .i64 (ptP s (b + 3)).2.1, .bool (ptP s (b + 3)).2.2]) /\ w' = w) := fun w => zav s (b + 3) hs hb w
 have hle := zbH hb
 have hp1 := zb1 s (b + 3)
 have hbd := zdn h1
 rw [h1] at HP1
 have HS : Hid (∀ w, Calls Tryz.prog 86 #[.string s, .int .i64 (((ptP s (b + 3)).2.1 : Nat) : Int), .string ⟨#[45]⟩] w fun e w' => e = .returned (.bool (chr s (ptP s (b + 3)).2.1 == 45)) /\ w' = w) := fun w => by
  have e := zao s (ptP s (b + 3)).2.1 ⟨#[45]⟩ hle.2 w
  rw [show (⟨#[45]⟩ : ByteArray).data.toList = [45] from rfl, zkz] at e
  exact e
 have hlt : (ptP s (b + 3)).2.1 + 1 <= s.size := zaD (by rw [h2]; decide)
 rw [h2] at HS
 have HP2 : Hid (∀ w, Calls Tryz.prog 159 #[.string s, .int .i64 (((ptP s (b + 3)).2.1 : Int) + 1)] w fun e w' => e = .returned (.tuple #[.int .i64 (ptP s ((ptP s (b + 3)).2.1 + 1)).1, .int .i64 (ptP s ((ptP s (b + 3)).2.1 + 1)).2.1, .bool (ptP s ((ptP s (b + 3)).2.1 + 1)).2.2]) /\ w' = w) := fun w => zav s ((ptP s (b + 3)).2.1 + 1) hs hlt w
 have hle2 := zbH hlt
 have hp2 := zb1 s ((ptP s (b + 3)).2.1 + 1)
 rw [h3] at HP2
 generalize ptP s ((ptP s (b + 3)).2.1 + 1) = q at *
 obtain ⟨m, e2, ok2⟩ := q
 generalize ptP s (b + 3) = p at *
 obtain ⟨n, e1, ok⟩ := p
 dsimp only at *
 clear h1 h2 h3
 go_enter Tryz.func141, Tryz.ntmps141
 go_wp2_with fail
 refine zaI 3 0 rfl ?_
 go_wp2_with fail
 refine (HP1.out _).mono ?_
 rintro e w2 ⟨rfl, rfl⟩
 clear HP1
 go_wp2_with fail
 refine (HS.out _).mono ?_
 rintro e w2 ⟨rfl, rfl⟩
 clear HS
 go_wp2_with fail
 refine (HP2.out _).mono ?_
 rintro e w2 ⟨rfl, rfl⟩
 clear HP2
 go_wp2_with fail
 go_step3
 simp (config := { zetaDelta := true }) only [zbu]
 refine zgG rfl ?_
 go_wp2_with fail
 refine (HF.out _ _ _).mono ?_
 rintro e w3 ⟨rfl, b3⟩
 have HX3 : Hid (BX w w3 tk0 0 0) := HX.out.below b3
 clear b3 HX HF
 obtain ⟨f0, f1', f2', f3, f4, f5, f6, f7, f8, g0, g1⟩ := HX3.out.fz
 obtain ⟨c0, c1, c2, c3, c4, c5, c6, c7, c8, d0, d1⟩ := HX3.out.cells
 unfold zaE
 go_wp2_with fail
 have HP := HX3.out.put tk0 b 30
 simp only [zdm]
 exact zah rfl rfl rfl rfl HP ⟨by rw [HE.out]; rfl, HP.b⟩
theorem runesC (s : ByteArray) (b : Nat) (hs : s.size <= 140737488355000) (hb : b + 3 <= s.size) (h1 : (ptP s (b + 3)).2.2 = true) (h2 : chr s (ptP s (b + 3)).2.1 = 45) (h3 : (ptP s ((ptP s (b + 3)).2.1 + 1)).2.2 = true) (h4 : (ptP s ((ptP s (b + 3)).2.1 + 1)).1 < (ptP s (b + 3)).1) (w : World) : Calls Tryz.prog 141 #[.string s, .int .i64 b] w fun e w' => e = .returned (zaT (zbQ s b)) /\ Below w.heap.size w w' := by
 have HF : Hid (∀ i e w, Calls Tryz.prog 135 #[.int .i64 i, .int .i64 e] w fun e' w' => e' = .returned (zaE tk0 i e) /\ Below w.heap.size w w') := fun i e w => zax i e w
 have HX : Hid (BX w ((w.alloc (tkO tk0)).alloc (fxO 0 0)) tk0 0 0) := BX.new w
 have HE : Hid (zbQ s b = .inr (b, 30)) := by show zbQ s b = _; unfold zbQ; rw [if_neg (by rw [h1]; decide), if_pos h2, if_pos (.inr h4)]
 have HP1 : Hid (∀ w, Calls Tryz.prog 159 #[.string s, .int .i64 ((b : Int) + 3)] w fun e w' => e = .returned (.tuple #[.int .i64 (ptP s (b + 3)).1, .int .i64 (ptP s (b + 3)).2.1, .bool (ptP s (b + 3)).2.2]) /\ w' = w) := fun w => zav s (b + 3) hs hb w
 have hle := zbH hb
 have hp1 := zb1 s (b + 3)
 have hbd := zdn h1
 rw [h1] at HP1
 have HS : Hid (∀ w, Calls Tryz.prog 86 #[.string s, .int .i64 (((ptP s (b + 3)).2.1 : Nat) : Int), .string ⟨#[45]⟩] w fun e w' => e = .returned (.bool (chr s (ptP s (b + 3)).2.1 == 45)) /\ w' = w) := fun w => by
  have e := zao s (ptP s (b + 3)).2.1 ⟨#[45]⟩ hle.2 w
  rw [show (⟨#[45]⟩ : ByteArray).data.toList = [45] from rfl, zkz] at e
  exact e
 have hlt : (ptP s (b + 3)).2.1 + 1 <= s.size := zaD (by rw [h2]; decide)
 rw [h2] at HS
 have HP2 : Hid (∀ w, Calls Tryz.prog 159 #[.string s, .int .i64 (((ptP s (b + 3)).2.1 : Int) + 1)] w fun e w' => e = .returned (.tuple #[.int .i64 (ptP s ((ptP s (b + 3)).2.1 + 1)).1, .int .i64 (ptP s ((ptP s (b + 3)).2.1 + 1)).2.1, .bool (ptP s ((ptP s (b + 3)).2.1 + 1)).2.2]) /\ w' = w) := fun w => zav s ((ptP s (b + 3)).2.1 + 1) hs hlt w
 have hle2 := zbH hlt
 have hp2 := zb1 s ((ptP s (b + 3)).2.1 + 1)
 rw [h3] at HP2
 have hbd2 := zdn h3
 generalize ptP s ((ptP s (b + 3)).2.1 + 1) = q at *
 obtain ⟨m, e2, ok2⟩ := q
 generalize ptP s (b + 3) = p at *
 obtain ⟨n, e1, ok⟩ := p
 dsimp only at *
 have t3 : m < n := h4
 clear h1 h2 h3 h4
 go_enter Tryz.func141, Tryz.ntmps141
 go_wp2_with fail
 refine zaI 3 0 rfl ?_
 go_wp2_with fail
 refine (HP1.out _).mono ?_
 rintro e w2 ⟨rfl, rfl⟩
 clear HP1
 go_wp2_with fail
 refine (HS.out _).mono ?_
 rintro e w2 ⟨rfl, rfl⟩
 clear HS
 go_wp2_with fail
 refine (HP2.out _).mono ?_
 rintro e w2 ⟨rfl, rfl⟩
 clear HP2
 go_wp2_with fail
 go_step3
 simp (config := { zetaDelta := true }) only [zbu]
 refine zgG rfl ?_
 go_wp2_with fail
 refine (HF.out _ _ _).mono ?_
 rintro e w3 ⟨rfl, b3⟩
 have HX3 : Hid (BX w w3 tk0 0 0) := HX.out.below b3
 clear b3 HX HF
 obtain ⟨f0, f1', f2', f3, f4, f5, f6, f7, f8, g0, g1⟩ := HX3.out.fz
 obtain ⟨c0, c1, c2, c3, c4, c5, c6, c7, c8, d0, d1⟩ := HX3.out.cells
 unfold zaE
 go_wp2_with fail
 have HP := HX3.out.put tk0 b 30
 simp only [zdm]
 exact zah rfl rfl rfl rfl HP ⟨by rw [HE.out]; rfl, HP.b⟩
theorem runesD (s : ByteArray) (b : Nat) (hs : s.size <= 140737488355000) (hb : b + 3 <= s.size) (h1 : (ptP s (b + 3)).2.2 = true) (h2 : chr s (ptP s (b + 3)).2.1 = 45) (h3 : (ptP s ((ptP s (b + 3)).2.1 + 1)).2.2 = true) (h4 : ¬ (ptP s ((ptP s (b + 3)).2.1 + 1)).1 < (ptP s (b + 3)).1) (h5 : chr s (ptP s ((ptP s (b + 3)).2.1 + 1)).2.1 = 125) (w : World) : Calls Tryz.prog 141 #[.string s, .int .i64 b] w fun e w' => e = .returned (zaT (zbQ s b)) /\ Below w.heap.size w w' := by
 have HF : Hid (∀ i e w, Calls Tryz.prog 135 #[.int .i64 i, .int .i64 e] w fun e' w' => e' = .returned (zaE tk0 i e) /\ Below w.heap.size w w') := fun i e w => zax i e w
 have HX : Hid (BX w ((w.alloc (tkO tk0)).alloc (fxO 0 0)) tk0 0 0) := BX.new w
 have HE : Hid (zbQ s b = .inl ⟨5, (ptP s (b + 3)).1, b, ((ptP s ((ptP s (b + 3)).2.1 + 1)).2.1 + 1 : Nat), ⟨#[]⟩, (ptP s ((ptP s (b + 3)).2.1 + 1)).1, 0, 0, 0⟩) := by show zbQ s b = _; unfold zbQ; rw [if_neg (by rw [h1]; decide), if_pos h2, if_neg (by rw [h3]; simp; omega), if_pos h5]
 have HP1 : Hid (∀ w, Calls Tryz.prog 159 #[.string s, .int .i64 ((b : Int) + 3)] w fun e w' => e = .returned (.tuple #[.int .i64 (ptP s (b + 3)).1, .int .i64 (ptP s (b + 3)).2.1, .bool (ptP s (b + 3)).2.2]) /\ w' = w) := fun w => zav s (b + 3) hs hb w
 have hle := zbH hb
 have hp1 := zb1 s (b + 3)
 have hbd := zdn h1
 rw [h1] at HP1
 have HS : Hid (∀ w, Calls Tryz.prog 86 #[.string s, .int .i64 (((ptP s (b + 3)).2.1 : Nat) : Int), .string ⟨#[45]⟩] w fun e w' => e = .returned (.bool (chr s (ptP s (b + 3)).2.1 == 45)) /\ w' = w) := fun w => by
  have e := zao s (ptP s (b + 3)).2.1 ⟨#[45]⟩ hle.2 w
  rw [show (⟨#[45]⟩ : ByteArray).data.toList = [45] from rfl, zkz] at e
  exact e
 have hlt : (ptP s (b + 3)).2.1 + 1 <= s.size := zaD (by rw [h2]; decide)
 rw [h2] at HS
 have HP2 : Hid (∀ w, Calls Tryz.prog 159 #[.string s, .int .i64 (((ptP s (b + 3)).2.1 : Int) + 1)] w fun e w' => e = .returned (.tuple #[.int .i64 (ptP s ((ptP s (b + 3)).2.1 + 1)).1, .int .i64 (ptP s ((ptP s (b + 3)).2.1 + 1)).2.1, .bool (ptP s ((ptP s (b + 3)).2.1 + 1)).2.2]) /\ w' = w) := fun w => zav s ((ptP s (b + 3)).2.1 + 1) hs hlt w
 have hle2 := zbH hlt
 have hp2 := zb1 s ((ptP s (b + 3)).2.1 + 1)
 rw [h3] at HP2
 have hbd2 := zdn h3
 have HS2 : Hid (∀ w, Calls Tryz.prog 86 #[.string s, .int .i64 (((ptP s ((ptP s (b + 3)).2.1 + 1)).2.1 : Nat) : Int), .string ⟨#[125]⟩] w fun e w' => e = .returned (.bool (chr s (ptP s ((ptP s (b + 3)).2.1 + 1)).2.1 == 125)) /\ w' = w) := fun w => by
  have e := zao s (ptP s ((ptP s (b + 3)).2.1 + 1)).2.1 ⟨#[125]⟩ hle2.2 w
  rw [show (⟨#[125]⟩ : ByteArray).data.toList = [125] from rfl, zkz] at e
  exact e
 rw [h5] at HS2
 generalize ptP s ((ptP s (b + 3)).2.1 + 1) = q at *
 obtain ⟨m, e2, ok2⟩ := q
 generalize ptP s (b + 3) = p at *
 obtain ⟨n, e1, ok⟩ := p
 dsimp only at *
 have t3 : ¬ m < n := h4
 have u3 : IntKind.u64.wrap m = m := by rw [IntKind.wrap_u64]; omega
 clear h1 h2 h3 h4 h5
 clear HF
 go_enter Tryz.func141, Tryz.ntmps141
 go_wp2_with fail
 refine zaI 3 0 rfl ?_
 go_wp2_with fail
 refine (HP1.out _).mono ?_
 rintro e w2 ⟨rfl, rfl⟩
 clear HP1
 go_wp2_with fail
 refine (HS.out _).mono ?_
 rintro e w2 ⟨rfl, rfl⟩
 clear HS
 go_wp2_with fail
 refine (HP2.out _).mono ?_
 rintro e w2 ⟨rfl, rfl⟩
 clear HP2
 go_wp2_with fail
 go_step3
 go_wp2_with fail
 refine (HS2.out _).mono ?_
 rintro e w3 ⟨rfl, hw3⟩
 have HX3 : Hid (BX w w3 tk0 0 0) := hw3 ▸ HX.out
 clear hw3 HX HS2
 obtain ⟨f0, f1', f2', f3, f4, f5, f6, f7, f8, g0, g1⟩ := HX3.out.fz
 obtain ⟨c0, c1, c2, c3, c4, c5, c6, c7, c8, d0, d1⟩ := HX3.out.cells
 go_wp2_with fail
 have HP := HX3.out.put ⟨5, n, b, (e2 + 1 : Nat), ⟨#[]⟩, m, 0, 0, 0⟩ 0 0
 simp only [zdm]
 exact zah rfl rfl rfl rfl HP ⟨by rw [HE.out]; rfl, HP.b⟩
theorem runesE (s : ByteArray) (b : Nat) (hs : s.size <= 140737488355000) (hb : b + 3 <= s.size) (h1 : (ptP s (b + 3)).2.2 = true) (h2 : chr s (ptP s (b + 3)).2.1 = 45) (h3 : (ptP s ((ptP s (b + 3)).2.1 + 1)).2.2 = true) (h4 : ¬ (ptP s ((ptP s (b + 3)).2.1 + 1)).1 < (ptP s (b + 3)).1) (h5 : ¬ chr s (ptP s ((ptP s (b + 3)).2.1 + 1)).2.1 = 125) (w : World) : Calls Tryz.prog 141 #[.string s, .int .i64 b] w fun e w' => e = .returned (zaT (zbQ s b)) /\ Below w.heap.size w w' := by
 have HF : Hid (∀ i e w, Calls Tryz.prog 135 #[.int .i64 i, .int .i64 e] w fun e' w' => e' = .returned (zaE tk0 i e) /\ Below w.heap.size w w') := fun i e w => zax i e w
 have HX : Hid (BX w ((w.alloc (tkO tk0)).alloc (fxO 0 0)) tk0 0 0) := BX.new w
 have HE : Hid (zbQ s b = .inr (b, 30)) := by show zbQ s b = _; unfold zbQ; rw [if_neg (by rw [h1]; decide), if_pos h2, if_neg (by rw [h3]; simp; omega), if_neg h5]
 have HP1 : Hid (∀ w, Calls Tryz.prog 159 #[.string s, .int .i64 ((b : Int) + 3)] w fun e w' => e = .returned (.tuple #[.int .i64 (ptP s (b + 3)).1, .int .i64 (ptP s (b + 3)).2.1, .bool (ptP s (b + 3)).2.2]) /\ w' = w) := fun w => zav s (b + 3) hs hb w
 have hle := zbH hb
 have hp1 := zb1 s (b + 3)
 have hbd := zdn h1
 rw [h1] at HP1
 have HS : Hid (∀ w, Calls Tryz.prog 86 #[.string s, .int .i64 (((ptP s (b + 3)).2.1 : Nat) : Int), .string ⟨#[45]⟩] w fun e w' => e = .returned (.bool (chr s (ptP s (b + 3)).2.1 == 45)) /\ w' = w) := fun w => by
  have e := zao s (ptP s (b + 3)).2.1 ⟨#[45]⟩ hle.2 w
  rw [show (⟨#[45]⟩ : ByteArray).data.toList = [45] from rfl, zkz] at e
  exact e
 have hlt : (ptP s (b + 3)).2.1 + 1 <= s.size := zaD (by rw [h2]; decide)
 rw [h2] at HS
 have HP2 : Hid (∀ w, Calls Tryz.prog 159 #[.string s, .int .i64 (((ptP s (b + 3)).2.1 : Int) + 1)] w fun e w' => e = .returned (.tuple #[.int .i64 (ptP s ((ptP s (b + 3)).2.1 + 1)).1, .int .i64 (ptP s ((ptP s (b + 3)).2.1 + 1)).2.1, .bool (ptP s ((ptP s (b + 3)).2.1 + 1)).2.2]) /\ w' = w) := fun w => zav s ((ptP s (b + 3)).2.1 + 1) hs hlt w
 have hle2 := zbH hlt
 have hp2 := zb1 s ((ptP s (b + 3)).2.1 + 1)
 rw [h3] at HP2
 have hbd2 := zdn h3
 have HS2 : Hid (∀ w, Calls Tryz.prog 86 #[.string s, .int .i64 (((ptP s ((ptP s (b + 3)).2.1 + 1)).2.1 : Nat) : Int), .string ⟨#[125]⟩] w fun e w' => e = .returned (.bool (chr s (ptP s ((ptP s (b + 3)).2.1 + 1)).2.1 == 125)) /\ w' = w) := fun w => by
  have e := zao s (ptP s ((ptP s (b + 3)).2.1 + 1)).2.1 ⟨#[125]⟩ hle2.2 w
  rw [show (⟨#[125]⟩ : ByteArray).data.toList = [125] from rfl, zkz] at e
  exact e
 rw [bF h5] at HS2
 generalize ptP s ((ptP s (b + 3)).2.1 + 1) = q at *
 obtain ⟨m, e2, ok2⟩ := q
 generalize ptP s (b + 3) = p at *
 obtain ⟨n, e1, ok⟩ := p
 dsimp only at *
 have t3 : ¬ m < n := h4
 have u3 : IntKind.u64.wrap m = m := by rw [IntKind.wrap_u64]; omega
 clear h1 h2 h3 h4 h5
 go_enter Tryz.func141, Tryz.ntmps141
 go_wp2_with fail
 refine zaI 3 0 rfl ?_
 go_wp2_with fail
 refine (HP1.out _).mono ?_
 rintro e w2 ⟨rfl, rfl⟩
 clear HP1
 go_wp2_with fail
 refine (HS.out _).mono ?_
 rintro e w2 ⟨rfl, rfl⟩
 clear HS
 go_wp2_with fail
 refine (HP2.out _).mono ?_
 rintro e w2 ⟨rfl, rfl⟩
 clear HP2
 go_wp2_with fail
 go_step3
 go_wp2_with fail
 refine (HS2.out _).mono ?_
 rintro e w2 ⟨rfl, rfl⟩
 clear HS2
 go_wp2_with fail
 go_step3
 go_wp2_with fail
 refine (HF.out _ _ _).mono ?_
 rintro e w3 ⟨rfl, b3⟩
 have HX3 : Hid (BX w w3 tk0 0 0) := HX.out.below b3
 clear b3 HX HF
 obtain ⟨f0, f1', f2', f3, f4, f5, f6, f7, f8, g0, g1⟩ := HX3.out.fz
 obtain ⟨c0, c1, c2, c3, c4, c5, c6, c7, c8, d0, d1⟩ := HX3.out.cells
 unfold zaE
 go_wp2_with fail
 have HP := HX3.out.put tk0 b 30
 simp only [zdm]
 exact zah rfl rfl rfl rfl HP ⟨by rw [HE.out]; rfl, HP.b⟩
theorem runesF (s : ByteArray) (b : Nat) (hs : s.size <= 140737488355000) (hb : b + 3 <= s.size) (h1 : (ptP s (b + 3)).2.2 = true) (h2 : ¬ chr s (ptP s (b + 3)).2.1 = 45) (h5 : chr s (ptP s (b + 3)).2.1 = 125) (w : World) : Calls Tryz.prog 141 #[.string s, .int .i64 b] w fun e w' => e = .returned (zaT (zbQ s b)) /\ Below w.heap.size w w' := by
 have HF : Hid (∀ i e w, Calls Tryz.prog 135 #[.int .i64 i, .int .i64 e] w fun e' w' => e' = .returned (zaE tk0 i e) /\ Below w.heap.size w w') := fun i e w => zax i e w
 have HX : Hid (BX w ((w.alloc (tkO tk0)).alloc (fxO 0 0)) tk0 0 0) := BX.new w
 have HE : Hid (zbQ s b = .inl ⟨5, (ptP s (b + 3)).1, b, ((ptP s (b + 3)).2.1 + 1 : Nat), ⟨#[]⟩, (ptP s (b + 3)).1, 0, 0, 0⟩) := by show zbQ s b = _; unfold zbQ; rw [if_neg (by rw [h1]; decide), if_neg h2, if_pos h5]
 have HP1 : Hid (∀ w, Calls Tryz.prog 159 #[.string s, .int .i64 ((b : Int) + 3)] w fun e w' => e = .returned (.tuple #[.int .i64 (ptP s (b + 3)).1, .int .i64 (ptP s (b + 3)).2.1, .bool (ptP s (b + 3)).2.2]) /\ w' = w) := fun w => zav s (b + 3) hs hb w
 have hle := zbH hb
 have hp1 := zb1 s (b + 3)
 have hbd := zdn h1
 rw [h1] at HP1
 have HS : Hid (∀ w, Calls Tryz.prog 86 #[.string s, .int .i64 (((ptP s (b + 3)).2.1 : Nat) : Int), .string ⟨#[45]⟩] w fun e w' => e = .returned (.bool (chr s (ptP s (b + 3)).2.1 == 45)) /\ w' = w) := fun w => by
  have e := zao s (ptP s (b + 3)).2.1 ⟨#[45]⟩ hle.2 w
  rw [show (⟨#[45]⟩ : ByteArray).data.toList = [45] from rfl, zkz] at e
  exact e
 rw [bF h2] at HS
 have HS2 : Hid (∀ w, Calls Tryz.prog 86 #[.string s, .int .i64 (((ptP s (b + 3)).2.1 : Nat) : Int), .string ⟨#[125]⟩] w fun e w' => e = .returned (.bool (chr s (ptP s (b + 3)).2.1 == 125)) /\ w' = w) := fun w => by
  have e := zao s (ptP s (b + 3)).2.1 ⟨#[125]⟩ hle.2 w
  rw [show (⟨#[125]⟩ : ByteArray).data.toList = [125] from rfl, zkz] at e
  exact e
 rw [h5] at HS2
 generalize ptP s (b + 3) = p at *
 obtain ⟨n, e1, ok⟩ := p
 dsimp only at *
 have u3 : IntKind.u64.wrap n = n := by rw [IntKind.wrap_u64]; omega
 clear h1 h2 h5
 clear HF
 go_enter Tryz.func141, Tryz.ntmps141
 go_wp2_with fail
 refine zaI 3 0 rfl ?_
 go_wp2_with fail
 refine (HP1.out _).mono ?_
 rintro e w2 ⟨rfl, rfl⟩
 clear HP1
 go_wp2_with fail
 refine (HS.out _).mono ?_
 rintro e w2 ⟨rfl, rfl⟩
 clear HS
 go_wp2_with fail
 go_step3
 simp (config := { zetaDelta := true }) only [zbu]
 refine zgG rfl ?_
 go_wp2_with fail
 refine (HS2.out _).mono ?_
 rintro e w3 ⟨rfl, hw3⟩
 have HX3 : Hid (BX w w3 tk0 0 0) := hw3 ▸ HX.out
 clear hw3 HX HS2
 obtain ⟨f0, f1', f2', f3, f4, f5, f6, f7, f8, g0, g1⟩ := HX3.out.fz
 obtain ⟨c0, c1, c2, c3, c4, c5, c6, c7, c8, d0, d1⟩ := HX3.out.cells
 go_wp2_with fail
 have HP := HX3.out.put ⟨5, n, b, (e1 + 1 : Nat), ⟨#[]⟩, n, 0, 0, 0⟩ 0 0
 simp only [zdm]
 exact zah rfl rfl rfl rfl HP ⟨by rw [HE.out]; rfl, HP.b⟩
theorem runesG (s : ByteArray) (b : Nat) (hs : s.size <= 140737488355000) (hb : b + 3 <= s.size) (h1 : (ptP s (b + 3)).2.2 = true) (h2 : ¬ chr s (ptP s (b + 3)).2.1 = 45) (h5 : ¬ chr s (ptP s (b + 3)).2.1 = 125) (w : World) : Calls Tryz.prog 141 #[.string s, .int .i64 b] w fun e w' => e = .returned (zaT (zbQ s b)) /\ Below w.heap.size w w' := by
 have HF : Hid (∀ i e w, Calls Tryz.prog 135 #[.int .i64 i, .int .i64 e] w fun e' w' => e' = .returned (zaE tk0 i e) /\ Below w.heap.size w w') := fun i e w => zax i e w
 have HX : Hid (BX w ((w.alloc (tkO tk0)).alloc (fxO 0 0)) tk0 0 0) := BX.new w
 have HE : Hid (zbQ s b = .inr (b, 30)) := by show zbQ s b = _; unfold zbQ; rw [if_neg (by rw [h1]; decide), if_neg h2, if_neg h5]
 have HP1 : Hid (∀ w, Calls Tryz.prog 159 #[.string s, .int .i64 ((b : Int) + 3)] w fun e w' => e = .returned (.tuple #[.int .i64 (ptP s (b + 3)).1, .int .i64 (ptP s (b + 3)).2.1, .bool (ptP s (b + 3)).2.2]) /\ w' = w) := fun w => zav s (b + 3) hs hb w
 have hle := zbH hb
 have hp1 := zb1 s (b + 3)
 have hbd := zdn h1
 rw [h1] at HP1
 have HS : Hid (∀ w, Calls Tryz.prog 86 #[.string s, .int .i64 (((ptP s (b + 3)).2.1 : Nat) : Int), .string ⟨#[45]⟩] w fun e w' => e = .returned (.bool (chr s (ptP s (b + 3)).2.1 == 45)) /\ w' = w) := fun w => by
  have e := zao s (ptP s (b + 3)).2.1 ⟨#[45]⟩ hle.2 w
  rw [show (⟨#[45]⟩ : ByteArray).data.toList = [45] from rfl, zkz] at e
  exact e
 rw [bF h2] at HS
 have HS2 : Hid (∀ w, Calls Tryz.prog 86 #[.string s, .int .i64 (((ptP s (b + 3)).2.1 : Nat) : Int), .string ⟨#[125]⟩] w fun e w' => e = .returned (.bool (chr s (ptP s (b + 3)).2.1 == 125)) /\ w' = w) := fun w => by
  have e := zao s (ptP s (b + 3)).2.1 ⟨#[125]⟩ hle.2 w
  rw [show (⟨#[125]⟩ : ByteArray).data.toList = [125] from rfl, zkz] at e
  exact e
 rw [bF h5] at HS2
 generalize ptP s (b + 3) = p at *
 obtain ⟨n, e1, ok⟩ := p
 dsimp only at *
 clear h1 h2 h5
 go_enter Tryz.func141, Tryz.ntmps141
 go_wp2_with fail
 refine zaI 3 0 rfl ?_
 go_wp2_with fail
 refine (HP1.out _).mono ?_
 rintro e w2 ⟨rfl, rfl⟩
 clear HP1
 go_wp2_with fail
 refine (HS.out _).mono ?_
 rintro e w2 ⟨rfl, rfl⟩
 clear HS
 go_wp2_with fail
 go_step3
 simp (config := { zetaDelta := true }) only [zbu]
 refine zgG rfl ?_
 go_wp2_with fail
 refine (HS2.out _).mono ?_
 rintro e w2 ⟨rfl, rfl⟩
 clear HS2
 go_wp2_with fail
 go_step3
 go_wp2_with fail
 refine (HF.out _ _ _).mono ?_
 rintro e w3 ⟨rfl, b3⟩
 have HX3 : Hid (BX w w3 tk0 0 0) := HX.out.below b3
 clear b3 HX HF
 obtain ⟨f0, f1', f2', f3, f4, f5, f6, f7, f8, g0, g1⟩ := HX3.out.fz
 obtain ⟨c0, c1, c2, c3, c4, c5, c6, c7, c8, d0, d1⟩ := HX3.out.cells
 unfold zaE
 go_wp2_with fail
 have HP := HX3.out.put tk0 b 30
 simp only [zdm]
 exact zah rfl rfl rfl rfl HP ⟨by rw [HE.out]; rfl, HP.b⟩
theorem zfR (s : ByteArray) (b : Nat) (hs : s.size <= 140737488355000) (hb : b + 3 <= s.size) (w : World) : Calls Tryz.prog 141 #[.string s, .int .i64 b] w fun e w' => e = .returned (zaT (zbQ s b)) /\ Below w.heap.size w w' := by
 cases h1 : (ptP s (b + 3)).2.2 with
 | false => exact runesA s b hs hb h1 w
 | true =>
  by_cases h2 : chr s (ptP s (b + 3)).2.1 = 45
  ·cases h3 : (ptP s ((ptP s (b + 3)).2.1 + 1)).2.2 with
   | false => exact runesB s b hs hb h1 h2 h3 w
   | true =>
    by_cases h4 : (ptP s ((ptP s (b + 3)).2.1 + 1)).1 < (ptP s (b + 3)).1
    ·exact runesC s b hs hb h1 h2 h3 h4 w
    ·by_cases h5 : chr s (ptP s ((ptP s (b + 3)).2.1 + 1)).2.1 = 125
     ·exact runesD s b hs hb h1 h2 h3 h4 h5 w
     ·exact runesE s b hs hb h1 h2 h3 h4 h5 w
  ·by_cases h5 : chr s (ptP s (b + 3)).2.1 = 125
   ·exact runesF s b hs hb h1 h2 h5 w
   ·exact runesG s b hs hb h1 h2 h5 w
abbrev nlT (b d : Nat) : Tk := ⟨21, 0, b, d, ⟨#[]⟩, 0, 0, 0, 0⟩
def zck (s : ByteArray) (b d : Nat) : Sum Tk (Nat × Int) :=
 if hdB (chr s d) = true then
  (if 32 < spN nmB s d - d then .inr (d, 2) else if chr s (spN nmB s d) = 58 then .inl ⟨21, 0, b, (spN nmB s d + 1 : Nat), s.extract d (spN nmB s d), 0, 0, 0, 0⟩ else .inl (nlT b d))
 else .inl (nlT b d)
theorem zpS (s : ByteArray) (b : Nat) (w : World) : Calls Tryz.prog 144 #[.string s, .int .i64 b, .int .i64 s.size] w fun e w' => e = .returned (zaT (zck s b s.size)) /\ Below w.heap.size w w' := by
 have HE : Hid (zck s b s.size = .inl (nlT b s.size)) := by show zck s b s.size = _; unfold zck; rw [zas (by omega), if_neg (by decide)]
 have t1 : ((s.size : Int) == (s.size : Int)) = true := beq_self_eq_true _
 go_enter Tryz.func144, Tryz.ntmps144
 go_wp2_with fail
 have HP := (BX.made w (nlT b s.size) 0 0).below (zaa _ (tkO (nlT b s.size)))
 exact zah rfl rfl rfl rfl HP ⟨by rw [HE.out]; rfl, HP.b⟩
theorem zpT (s : ByteArray) (b d : Nat) (hd : d < s.size) (hh : hdB (chr s d) = false) (w : World) : Calls Tryz.prog 144 #[.string s, .int .i64 b, .int .i64 d] w fun e w' => e = .returned (zaT (zck s b d)) /\ Below w.heap.size w w' := by
 have HE : Hid (zck s b d = .inl (nlT b d)) := by show zck s b d = _; unfold zck; rw [hh, if_neg (by decide)]
 have HH : Hid (∀ w, Calls Tryz.prog 110 #[.int .u8 (s[d].toNat : Int)] w fun e w' => e = .returned (.bool false) /\ w' = w) := fun w => by
  have e := zaM (s[d].toNat : Int) w
  rw [<- zai hd, hh] at e
  rw [<- zai hd]
  exact e
 have HX : Hid (BX w (((w.alloc (tkO tk0)).alloc (fxO 0 0)).alloc (tkO (nlT b d))) tk0 0 0) := (BX.new w).below (zaa _ _)
 have HT := (show Hid (TX (((w.alloc (tkO tk0)).alloc (fxO 0 0)).alloc (tkO (nlT b d))) (w.heap.size + 1 + 1) (nlT b d)) from by
  have h := TX.new ((w.alloc (tkO tk0)).alloc (fxO 0 0)) (nlT b d)
  rw [World.size_alloc, World.size_alloc] at h
  exact h)
 have t1 : ((d : Int) == (s.size : Int)) = false := by rw [beq_eq_false_iff_ne]; omega
 have z0 : (0 : Int) <= (d : Int) := by omega
 have z1 : (d : Int) < (s.size : Int) := by omega
 clear hh
 go_enter Tryz.func144, Tryz.ntmps144
 go_wp2_with fail
 refine (HH.out _).mono ?_
 rintro e w3 ⟨rfl, hw3⟩
 have HX3 : Hid (BX w w3 tk0 0 0) := hw3 ▸ HX.out
 have HT3 : Hid (TX w3 (w.heap.size + 1 + 1) (nlT b d)) := hw3 ▸ HT.out
 clear hw3 HX HT HH
 obtain ⟨f0, f1', f2', f3, f4, f5, f6, f7, f8, g0, g1⟩ := HX3.out.fz
 obtain ⟨c0, c1, c2, c3, c4, c5, c6, c7, c8, d0, d1⟩ := HX3.out.cells
 obtain ⟨k0, k1, k2, k3, k4, k5, k6, k7, k8⟩ := HT3.out.cells
 go_wp2_with fail
 have HP := HX3.out.put (nlT b d) 0 0
 exact zah rfl rfl rfl rfl HP ⟨by rw [HE.out]; rfl, HP.b⟩
theorem zmz (s : ByteArray) (b d : Nat) (hs : s.size <= 140737488355000) (hd : d < s.size) (hh : hdB (chr s d) = true) (h32 : 32 < spN nmB s d - d) (w : World) : Calls Tryz.prog 144 #[.string s, .int .i64 b, .int .i64 d] w fun e w' => e = .returned (zaT (zck s b d)) /\ Below w.heap.size w w' := by
 have HE : Hid (zck s b d = .inr (d, 2)) := by show zck s b d = _; unfold zck; rw [if_pos hh, if_pos h32]
 have HN : Hid (∀ w, Calls Tryz.prog 111 #[.string s, .int .i64 d] w fun e w' => e = .returned (zaE tk0 d 2) /\ Below w.heap.size w w') := fun w => by
  have e := zcI s d hs (by omega) w
  unfold zb0 at e
  rw [if_pos h32] at e
  exact e
 have HH : Hid (∀ w, Calls Tryz.prog 110 #[.int .u8 (s[d].toNat : Int)] w fun e w' => e = .returned (.bool true) /\ w' = w) := fun w => by
  have e := zaM (s[d].toNat : Int) w
  rw [<- zai hd, hh] at e
  rw [<- zai hd]
  exact e
 have HX : Hid (BX w (((w.alloc (tkO tk0)).alloc (fxO 0 0)).alloc (tkO (nlT b d))) tk0 0 0) := (BX.new w).below (zaa _ _)
 have t1 : ((d : Int) == (s.size : Int)) = false := by rw [beq_eq_false_iff_ne]; omega
 have z0 : (0 : Int) <= (d : Int) := by omega
 have z1 : (d : Int) < (s.size : Int) := by omega
 clear hh h32
 go_enter Tryz.func144, Tryz.ntmps144
 go_wp2_with fail
 refine (HH.out _).mono ?_
 rintro e w3 ⟨rfl, rfl⟩
 clear HH
 go_wp2_with fail
 refine (HN.out _).mono ?_
 rintro e w4 ⟨rfl, b4⟩
 have HX4 : Hid (BX w w4 tk0 0 0) := HX.out.below b4
 clear b4 HX HN
 have HX5 : Hid (BX w ((w4.alloc (tkO tk0)).alloc (fxO d 2)) tk0 0 0) := (HX4.out.below (zaa _ _)).below (zaa _ _)
 have HF5 := (show Hid (FX ((w4.alloc (tkO tk0)).alloc (fxO d 2)) (w4.heap.size + 1) d 2) from ⟨by
  have h := heap_alloc_new (w4.alloc (tkO tk0)) (fxO d 2)
  rw [World.size_alloc] at h
  exact h⟩)
 have hsz4 := HX4.out.size
 have ne1 : ¬ w4.heap.size + 1 = w.heap.size := by omega
 have ne2 : ¬ w.heap.size = w4.heap.size + 1 := by omega
 have ne3 : ¬ w4.heap.size = w.heap.size := by omega
 have ne4 : ¬ w.heap.size = w4.heap.size := by omega
 clear HX4 hsz4
 unfold zaE
 go_wp2_with fail
 generalize (w4.alloc (tkO tk0)).alloc (fxO d 2) = w5 at *
 obtain ⟨f0, f1', f2', f3, f4, f5, f6, f7, f8, g0, g1⟩ := HX5.out.fz
 obtain ⟨c0, c1, c2, c3, c4, c5, c6, c7, c8, d0, d1⟩ := HX5.out.cells
 have k0 := HF5.out.c0
 have k1 := HF5.out.c1
 go_region
 all_goals
  go_wp2_with fail
  have HP := (HX5.out.put tk0 d 2).below (Below.refl _ _).drew
  exact zah rfl rfl rfl rfl HP ⟨by rw [HE.out]; rfl, HP.b⟩
theorem zmA (s : ByteArray) (b d : Nat) (hs : s.size <= 140737488355000) (hd : d < s.size) (hh : hdB (chr s d) = true) (h32 : ¬ 32 < spN nmB s d - d) (w : World) : Calls Tryz.prog 144 #[.string s, .int .i64 b, .int .i64 d] w fun e w' => e = .returned (zaT (zck s b d)) /\ Below w.heap.size w w' := by
 have HU : Hid (zck s b d = if chr s (spN nmB s d) = 58 then .inl ⟨21, 0, b, (spN nmB s d + 1 : Nat), s.extract d (spN nmB s d), 0, 0, 0, 0⟩ else .inl (nlT b d)) := by show zck s b d = _; unfold zck; rw [if_pos hh, if_neg h32]
 have HN : Hid (∀ w, Calls Tryz.prog 111 #[.string s, .int .i64 d] w fun e w' => e = .returned (zaE ⟨1, 0, d, spN nmB s d, s.extract d (spN nmB s d), 0, 0, 0, 0⟩ 0 0) /\ Below w.heap.size w w') := fun w => by
  have e := zcI s d hs (by omega) w
  unfold zb0 at e
  rw [if_neg h32] at e
  exact e
 have HH : Hid (∀ w, Calls Tryz.prog 110 #[.int .u8 (s[d].toNat : Int)] w fun e w' => e = .returned (.bool true) /\ w' = w) := fun w => by
  have e := zaM (s[d].toNat : Int) w
  rw [<- zai hd, hh] at e
  rw [<- zai hd]
  exact e
 have hle := zbV nmB s (by decide) d (by omega)
 have HS : Hid (∀ w, Calls Tryz.prog 86 #[.string s, .int .i64 (spN nmB s d : Nat), .string ⟨#[58]⟩] w fun e w' => e = .returned (.bool (chr s (spN nmB s d) == 58)) /\ w' = w) := fun w => by
  have e := zao s (spN nmB s d) ⟨#[58]⟩ hle w
  rw [show (⟨#[58]⟩ : ByteArray).data.toList = [58] from rfl, zkz] at e
  exact e
 have HX : Hid (BX w (((w.alloc (tkO tk0)).alloc (fxO 0 0)).alloc (tkO (nlT b d))) tk0 0 0) := (BX.new w).below (zaa _ _)
 have HT := (show Hid (TX (((w.alloc (tkO tk0)).alloc (fxO 0 0)).alloc (tkO (nlT b d))) (w.heap.size + 1 + 1) (nlT b d)) from by
  have h := TX.new ((w.alloc (tkO tk0)).alloc (fxO 0 0)) (nlT b d)
  rw [World.size_alloc, World.size_alloc] at h
  exact h)
 have t1 : ((d : Int) == (s.size : Int)) = false := by rw [beq_eq_false_iff_ne]; omega
 have z0 : (0 : Int) <= (d : Int) := by omega
 have z1 : (d : Int) < (s.size : Int) := by omega
 clear hh h32
 generalize spN nmB s d = n at *
 generalize s.extract d n = tx at *
 generalize hc : chr s n = c at *
 clear hc
 cases hq : (c == 58) with
 | true =>
  have HE : Hid (zck s b d = .inl ⟨21, 0, b, (n + 1 : Nat), tx, 0, 0, 0, 0⟩) := by show zck s b d = _; rw [HU.out, if_pos (beq_iff_eq.1 hq)]
  rw [hq] at HS
  clear HU hq HT
  go_enter Tryz.func144, Tryz.ntmps144
  go_wp2_with fail
  refine (HH.out _).mono ?_
  rintro e w3 ⟨rfl, rfl⟩
  clear HH
  go_wp2_with fail
  refine (HN.out _).mono ?_
  rintro e w4 ⟨rfl, b4⟩
  have HX5 : Hid (BX w ((w4.alloc (tkO ⟨1, 0, d, n, tx, 0, 0, 0, 0⟩)).alloc (fxO 0 0)) tk0 0 0) := ((HX.out.below b4).below (zaa _ _)).below (zaa _ _)
  have HT5 : Hid (TX ((w4.alloc (tkO ⟨1, 0, d, n, tx, 0, 0, 0, 0⟩)).alloc (fxO 0 0)) w4.heap.size ⟨1, 0, d, n, tx, 0, 0, 0, 0⟩) := (TX.new w4 _).below (zaa _ _)
  clear b4 HX HN
  unfold zaE
  go_wp2_with fail
  refine (HS.out _).mono ?_
  rintro e w6 ⟨rfl, hw6⟩
  have HX6 : Hid (BX w w6 tk0 0 0) := hw6 ▸ HX5.out
  have HT6 : Hid (TX w6 w4.heap.size ⟨1, 0, d, n, tx, 0, 0, 0, 0⟩) := hw6 ▸ HT5.out
  clear hw6 HX5 HT5 HS
  obtain ⟨f0, f1', f2', f3, f4, f5, f6, f7, f8, g0, g1⟩ := HX6.out.fz
  obtain ⟨c0, c1, c2, c3, c4, c5, c6, c7, c8, d0, d1⟩ := HX6.out.cells
  obtain ⟨k0, k1, k2, k3, k4, k5, k6, k7, k8⟩ := HT6.out.cells
  go_wp2_with fail
  have HP := HX6.out.put ⟨21, 0, b, (n + 1 : Nat), tx, 0, 0, 0, 0⟩ 0 0
  exact zah rfl rfl rfl rfl HP ⟨by rw [HE.out]; rfl, HP.b⟩
 | false =>
  have HE : Hid (zck s b d = .inl (nlT b d)) := by show zck s b d = _; rw [HU.out, if_neg (beq_eq_false_iff_ne.1 hq)]
  rw [hq] at HS
  clear HU hq
  go_enter Tryz.func144, Tryz.ntmps144
  go_wp2_with fail
  refine (HH.out _).mono ?_
  rintro e w3 ⟨rfl, rfl⟩
  clear HH
  go_wp2_with fail
  refine (HN.out _).mono ?_
  rintro e w4 ⟨rfl, b4⟩
  have HX5 : Hid (BX w ((w4.alloc (tkO ⟨1, 0, d, n, tx, 0, 0, 0, 0⟩)).alloc (fxO 0 0)) tk0 0 0) := ((HX.out.below b4).below (zaa _ _)).below (zaa _ _)
  have HY5 : Hid (TX ((w4.alloc (tkO ⟨1, 0, d, n, tx, 0, 0, 0, 0⟩)).alloc (fxO 0 0)) (w.heap.size + 1 + 1) (nlT b d)) := ((HT.out.below b4).below (zaa _ _)).below (zaa _ _)
  clear b4 HX HN HT
  unfold zaE
  go_wp2_with fail
  refine (HS.out _).mono ?_
  rintro e w6 ⟨rfl, hw6⟩
  have HX6 : Hid (BX w w6 tk0 0 0) := hw6 ▸ HX5.out
  have HT6 : Hid (TX w6 (w.heap.size + 1 + 1) (nlT b d)) := hw6 ▸ HY5.out
  clear hw6 HX5 HY5 HS
  obtain ⟨f0, f1', f2', f3, f4, f5, f6, f7, f8, g0, g1⟩ := HX6.out.fz
  obtain ⟨c0, c1, c2, c3, c4, c5, c6, c7, c8, d0, d1⟩ := HX6.out.cells
  obtain ⟨k0, k1, k2, k3, k4, k5, k6, k7, k8⟩ := HT6.out.cells
  go_wp2_with fail
  have HP := HX6.out.put (nlT b d) 0 0
  exact zah rfl rfl rfl rfl HP ⟨by rw [HE.out]; rfl, HP.b⟩
theorem zfS (s : ByteArray) (b d : Nat) (hs : s.size <= 140737488355000) (hd : d <= s.size) (w : World) : Calls Tryz.prog 144 #[.string s, .int .i64 b, .int .i64 d] w fun e w' => e = .returned (zaT (zck s b d)) /\ Below w.heap.size w w' := by
 by_cases h : d = s.size
 ·subst h; exact zpS s b w
 ·cases hh : hdB (chr s d) with
  | false => exact zpT s b d (by omega) hh w
  | true =>
   by_cases h32 : 32 < spN nmB s d - d
   ·exact zmz s b d hs (by omega) hh h32 w
   ·exact zmA s b d hs (by omega) hh h32 w
theorem zfT {s : ByteArray} : ∀ {l : List UInt8} {i : Nat}, i <= s.size -> pfx s i l = true -> i + l.length <= s.size := by
 intro l
 induction l with
 | nil => intro i h _; exact h
 | cons c l ih =>
  intro i h hp
  rw [pfx, Bool.and_eq_true] at hp
  have h1 : i < s.size := zaD (by rw [beq_iff_eq.1 hp.1]; omega)
  have := ih (i := i + 1) (by omega) hp.2
  rw [List.length_cons]; omega
theorem zmB (s : ByteArray) (i : Nat) (hi : i <= s.size) : ∀ l, i + (zik s i l).2.length <= s.size := by
 intro l
 induction l with
 | nil => exact hi
 | cons p l ih =>
  rw [zik]
  split
  ·next h => exact zfT hi h
  ·exact ih
theorem zbC (s : ByteArray) (i : Nat) (hi : i <= s.size) : i + (zak s i).2.length <= s.size := zmB s i hi _
def zbm (s : ByteArray) (b : Nat) : Sum Tk (Nat × Int) :=
 if (zak s b).1 = 0 then .inr (b, 50) else if (zak s b).1 = 13 ∨ (zak s b).1 = 14 ∨ (zak s b).1 = 15 then nmR s b (b + (zak s b).2.length) (zak s b).1
 else if (zak s b).1 = 21 then zck s b (b + (zak s b).2.length) else .inl ⟨(zak s b).1, 0, b, (b + (zak s b).2.length : Nat), ⟨#[]⟩, 0, 0, 0, 0⟩
theorem zpU (s : ByteArray) (b : Nat) (hs : s.size <= 140737488355000) (hb : b <= s.size) (h : (zak s b).1 = 0) (w : World) (hg : SG w) : Calls Tryz.prog 117 #[.string s, .int .i64 b] w fun e w' => e = .returned (zaT (zbm s b)) /\ Below w.heap.size w w' := by
 have HC : Hid (Calls Tryz.prog 142 #[.string s, .int .i64 b] ((w.alloc (tkO tk0)).alloc (fxO 0 0)) fun e w' => e = .returned (.agg #[.int .i64 (zak s b).1, .string ⟨(zak s b).2.toArray⟩]) /\ Below ((w.alloc (tkO tk0)).alloc (fxO 0 0)).heap.size ((w.alloc (tkO tk0)).alloc (fxO 0 0)) w') := zaW s b hb _ ((hg.later (zaa _ _)).later (zaa _ _))
 have HX : Hid (BX w ((w.alloc (tkO tk0)).alloc (fxO 0 0)) tk0 0 0) := BX.new w
 have hln := zbC s b hb
 have hz : (⟨(zak s b).2.toArray⟩ : ByteArray).size = (zak s b).2.length := by show (zak s b).2.toArray.size = _; simp
 have HF : Hid (∀ i e w, Calls Tryz.prog 135 #[.int .i64 i, .int .i64 e] w fun e' w' => e' = .returned (zaE tk0 i e) /\ Below w.heap.size w w') := fun i e w => zax i e w
 have HE : Hid (zbm s b = .inr (b, 50)) := by show zbm s b = _; unfold zbm; rw [if_pos h]
 generalize ByteArray.mk (zak s b).2.toArray = tx at *
 generalize (zak s b).2.length = n at *
 generalize (zak s b).1 = k at *
 obtain ⟨d, hd⟩ : ∃ d, d = b + n := ⟨_, rfl⟩
 have u1 : IntKind.i64.wrap ((b : Int) + (tx.size : Int)) = (d : Int) := by rw [IntKind.wrap_i64]; omega
 clear hd hz hln
 subst h
 go_enter Tryz.func117, Tryz.ntmps117
 go_wp2_with fail
 refine HC.out.mono ?_
 rintro e w2 ⟨rfl, b2⟩
 have HX2 : Hid (BX w (w2.alloc (.cells #[.int .i64 0, .string tx] 169)) tk0 0 0) := (HX.out.below b2).below (zaa _ _)
 clear b2 HX HC
 go_wp2_with fail
 refine (HF.out _ _ _).mono ?_
 rintro e w3 ⟨rfl, b3⟩
 have HX3 : Hid (BX w w3 tk0 0 0) := HX2.out.below b3
 clear b3 HX2 HF
 obtain ⟨f0, f1', f2', f3, f4, f5, f6, f7, f8, g0, g1⟩ := HX3.out.fz
 obtain ⟨c0, c1, c2, c3, c4, c5, c6, c7, c8, d0, d1⟩ := HX3.out.cells
 unfold zaE
 go_wp2_with fail
 have HP := HX3.out.put tk0 b 50
 exact zah rfl rfl rfl rfl HP ⟨by rw [HE.out]; rfl, HP.b⟩
theorem zmC (s : ByteArray) (b : Nat) (hs : s.size <= 140737488355000) (hb : b <= s.size) (h : (zak s b).1 = 13) (w : World) (hg : SG w) : Calls Tryz.prog 117 #[.string s, .int .i64 b] w fun e w' => e = .returned (zaT (zbm s b)) /\ Below w.heap.size w w' := by
 have HC : Hid (Calls Tryz.prog 142 #[.string s, .int .i64 b] ((w.alloc (tkO tk0)).alloc (fxO 0 0)) fun e w' => e = .returned (.agg #[.int .i64 (zak s b).1, .string ⟨(zak s b).2.toArray⟩]) /\ Below ((w.alloc (tkO tk0)).alloc (fxO 0 0)).heap.size ((w.alloc (tkO tk0)).alloc (fxO 0 0)) w') := zaW s b hb _ ((hg.later (zaa _ _)).later (zaa _ _))
 have HX : Hid (BX w ((w.alloc (tkO tk0)).alloc (fxO 0 0)) tk0 0 0) := BX.new w
 have hln := zbC s b hb
 have hz : (⟨(zak s b).2.toArray⟩ : ByteArray).size = (zak s b).2.length := by show (zak s b).2.toArray.size = _; simp
 have HN : Hid (∀ w, Calls Tryz.prog 113 #[.string s, .int .i64 b, .int .i64 ((b + (zak s b).2.length : Nat) : Int), .int .i64 13] w fun e w' => e = .returned (zaT (nmR s b (b + (zak s b).2.length) 13)) /\ Below w.heap.size w w') := fun w => zbB s b _ 13 hs hln hb w
 have HE : Hid (zbm s b = nmR s b (b + (zak s b).2.length) 13) := by show zbm s b = _; unfold zbm; rw [if_neg (by omega), if_pos (by omega), h]
 generalize ByteArray.mk (zak s b).2.toArray = tx at *
 generalize (zak s b).2.length = n at *
 generalize (zak s b).1 = k at *
 obtain ⟨d, hd⟩ : ∃ d, d = b + n := ⟨_, rfl⟩
 rw [<- hd] at HE hln HN
 have u1 : IntKind.i64.wrap ((b : Int) + (tx.size : Int)) = (d : Int) := by rw [IntKind.wrap_i64]; omega
 clear hd hz hln
 subst h
 go_enter Tryz.func117, Tryz.ntmps117
 go_wp2_with fail
 refine HC.out.mono ?_
 rintro e w2 ⟨rfl, b2⟩
 have HX2 : Hid (BX w (w2.alloc (.cells #[.int .i64 13, .string tx] 169)) tk0 0 0) := (HX.out.below b2).below (zaa _ _)
 clear b2 HX HC
 go_wp2_with fail
 refine (HN.out _).mono ?_
 rintro e w3 ⟨rfl, b3⟩
 have HX3 : Hid (BX w w3 tk0 0 0) := HX2.out.below b3
 clear b3 HX2 HN
 obtain ⟨f0, f1', f2', f3, f4, f5, f6, f7, f8, g0, g1⟩ := HX3.out.fz
 obtain ⟨c0, c1, c2, c3, c4, c5, c6, c7, c8, d0, d1⟩ := HX3.out.cells
 generalize nmR s b d 13 = r at *
 cases r with
 | inl t =>
  unfold zaT
  go_wp2_with fail
  have HP := HX3.out.put t 0 0
  exact zah rfl rfl rfl rfl HP ⟨by rw [HE.out]; rfl, HP.b⟩
 | inr q =>
  unfold zaT
  go_wp2_with fail
  have HP := HX3.out.put tk0 q.1 q.2
  exact zah rfl rfl rfl rfl HP ⟨by rw [HE.out]; rfl, HP.b⟩
theorem zmD (s : ByteArray) (b : Nat) (hs : s.size <= 140737488355000) (hb : b <= s.size) (h : (zak s b).1 = 14) (w : World) (hg : SG w) : Calls Tryz.prog 117 #[.string s, .int .i64 b] w fun e w' => e = .returned (zaT (zbm s b)) /\ Below w.heap.size w w' := by
 have HC : Hid (Calls Tryz.prog 142 #[.string s, .int .i64 b] ((w.alloc (tkO tk0)).alloc (fxO 0 0)) fun e w' => e = .returned (.agg #[.int .i64 (zak s b).1, .string ⟨(zak s b).2.toArray⟩]) /\ Below ((w.alloc (tkO tk0)).alloc (fxO 0 0)).heap.size ((w.alloc (tkO tk0)).alloc (fxO 0 0)) w') := zaW s b hb _ ((hg.later (zaa _ _)).later (zaa _ _))
 have HX : Hid (BX w ((w.alloc (tkO tk0)).alloc (fxO 0 0)) tk0 0 0) := BX.new w
 have hln := zbC s b hb
 have hz : (⟨(zak s b).2.toArray⟩ : ByteArray).size = (zak s b).2.length := by show (zak s b).2.toArray.size = _; simp
 have HN : Hid (∀ w, Calls Tryz.prog 113 #[.string s, .int .i64 b, .int .i64 ((b + (zak s b).2.length : Nat) : Int), .int .i64 14] w fun e w' => e = .returned (zaT (nmR s b (b + (zak s b).2.length) 14)) /\ Below w.heap.size w w') := fun w => zbB s b _ 14 hs hln hb w
 have HE : Hid (zbm s b = nmR s b (b + (zak s b).2.length) 14) := by show zbm s b = _; unfold zbm; rw [if_neg (by omega), if_pos (by omega), h]
 generalize ByteArray.mk (zak s b).2.toArray = tx at *
 generalize (zak s b).2.length = n at *
 generalize (zak s b).1 = k at *
 obtain ⟨d, hd⟩ : ∃ d, d = b + n := ⟨_, rfl⟩
 rw [<- hd] at HE hln HN
 have u1 : IntKind.i64.wrap ((b : Int) + (tx.size : Int)) = (d : Int) := by rw [IntKind.wrap_i64]; omega
 clear hd hz hln
 subst h
 go_enter Tryz.func117, Tryz.ntmps117
 go_wp2_with fail
 refine HC.out.mono ?_
 rintro e w2 ⟨rfl, b2⟩
 have HX2 : Hid (BX w (w2.alloc (.cells #[.int .i64 14, .string tx] 169)) tk0 0 0) := (HX.out.below b2).below (zaa _ _)
 clear b2 HX HC
 go_wp2_with fail
 refine (HN.out _).mono ?_
 rintro e w3 ⟨rfl, b3⟩
 have HX3 : Hid (BX w w3 tk0 0 0) := HX2.out.below b3
 clear b3 HX2 HN
 obtain ⟨f0, f1', f2', f3, f4, f5, f6, f7, f8, g0, g1⟩ := HX3.out.fz
 obtain ⟨c0, c1, c2, c3, c4, c5, c6, c7, c8, d0, d1⟩ := HX3.out.cells
 generalize nmR s b d 14 = r at *
 cases r with
 | inl t =>
  unfold zaT
  go_wp2_with fail
  have HP := HX3.out.put t 0 0
  exact zah rfl rfl rfl rfl HP ⟨by rw [HE.out]; rfl, HP.b⟩
 | inr q =>
  unfold zaT
  go_wp2_with fail
  have HP := HX3.out.put tk0 q.1 q.2
  exact zah rfl rfl rfl rfl HP ⟨by rw [HE.out]; rfl, HP.b⟩
theorem zpV (s : ByteArray) (b : Nat) (hs : s.size <= 140737488355000) (hb : b <= s.size) (h : (zak s b).1 = 15) (w : World) (hg : SG w) : Calls Tryz.prog 117 #[.string s, .int .i64 b] w fun e w' => e = .returned (zaT (zbm s b)) /\ Below w.heap.size w w' := by
 have HC : Hid (Calls Tryz.prog 142 #[.string s, .int .i64 b] ((w.alloc (tkO tk0)).alloc (fxO 0 0)) fun e w' => e = .returned (.agg #[.int .i64 (zak s b).1, .string ⟨(zak s b).2.toArray⟩]) /\ Below ((w.alloc (tkO tk0)).alloc (fxO 0 0)).heap.size ((w.alloc (tkO tk0)).alloc (fxO 0 0)) w') := zaW s b hb _ ((hg.later (zaa _ _)).later (zaa _ _))
 have HX : Hid (BX w ((w.alloc (tkO tk0)).alloc (fxO 0 0)) tk0 0 0) := BX.new w
 have hln := zbC s b hb
 have hz : (⟨(zak s b).2.toArray⟩ : ByteArray).size = (zak s b).2.length := by show (zak s b).2.toArray.size = _; simp
 have HN : Hid (∀ w, Calls Tryz.prog 113 #[.string s, .int .i64 b, .int .i64 ((b + (zak s b).2.length : Nat) : Int), .int .i64 15] w fun e w' => e = .returned (zaT (nmR s b (b + (zak s b).2.length) 15)) /\ Below w.heap.size w w') := fun w => zbB s b _ 15 hs hln hb w
 have HE : Hid (zbm s b = nmR s b (b + (zak s b).2.length) 15) := by show zbm s b = _; unfold zbm; rw [if_neg (by omega), if_pos (by omega), h]
 generalize ByteArray.mk (zak s b).2.toArray = tx at *
 generalize (zak s b).2.length = n at *
 generalize (zak s b).1 = k at *
 obtain ⟨d, hd⟩ : ∃ d, d = b + n := ⟨_, rfl⟩
 rw [<- hd] at HE hln HN
 have u1 : IntKind.i64.wrap ((b : Int) + (tx.size : Int)) = (d : Int) := by rw [IntKind.wrap_i64]; omega
 clear hd hz hln
 subst h
 go_enter Tryz.func117, Tryz.ntmps117
 go_wp2_with fail
 refine HC.out.mono ?_
 rintro e w2 ⟨rfl, b2⟩
 have HX2 : Hid (BX w (w2.alloc (.cells #[.int .i64 15, .string tx] 169)) tk0 0 0) := (HX.out.below b2).below (zaa _ _)
 clear b2 HX HC
 go_wp2_with fail
 refine (HN.out _).mono ?_
 rintro e w3 ⟨rfl, b3⟩
 have HX3 : Hid (BX w w3 tk0 0 0) := HX2.out.below b3
 clear b3 HX2 HN
 obtain ⟨f0, f1', f2', f3, f4, f5, f6, f7, f8, g0, g1⟩ := HX3.out.fz
 obtain ⟨c0, c1, c2, c3, c4, c5, c6, c7, c8, d0, d1⟩ := HX3.out.cells
 generalize nmR s b d 15 = r at *
 cases r with
 | inl t =>
  unfold zaT
  go_wp2_with fail
  have HP := HX3.out.put t 0 0
  exact zah rfl rfl rfl rfl HP ⟨by rw [HE.out]; rfl, HP.b⟩
 | inr q =>
  unfold zaT
  go_wp2_with fail
  have HP := HX3.out.put tk0 q.1 q.2
  exact zah rfl rfl rfl rfl HP ⟨by rw [HE.out]; rfl, HP.b⟩
theorem zmE (s : ByteArray) (b : Nat) (hs : s.size <= 140737488355000) (hb : b <= s.size) (h : (zak s b).1 = 21) (w : World) (hg : SG w) : Calls Tryz.prog 117 #[.string s, .int .i64 b] w fun e w' => e = .returned (zaT (zbm s b)) /\ Below w.heap.size w w' := by
 have HC : Hid (Calls Tryz.prog 142 #[.string s, .int .i64 b] ((w.alloc (tkO tk0)).alloc (fxO 0 0)) fun e w' => e = .returned (.agg #[.int .i64 (zak s b).1, .string ⟨(zak s b).2.toArray⟩]) /\ Below ((w.alloc (tkO tk0)).alloc (fxO 0 0)).heap.size ((w.alloc (tkO tk0)).alloc (fxO 0 0)) w') := zaW s b hb _ ((hg.later (zaa _ _)).later (zaa _ _))
 have HX : Hid (BX w ((w.alloc (tkO tk0)).alloc (fxO 0 0)) tk0 0 0) := BX.new w
 have hln := zbC s b hb
 have hz : (⟨(zak s b).2.toArray⟩ : ByteArray).size = (zak s b).2.length := by show (zak s b).2.toArray.size = _; simp
 have HN : Hid (∀ w, Calls Tryz.prog 144 #[.string s, .int .i64 b, .int .i64 ((b + (zak s b).2.length : Nat) : Int)] w fun e w' => e = .returned (zaT (zck s b (b + (zak s b).2.length))) /\ Below w.heap.size w w') := fun w => zfS s b _ hs hln w
 have HE : Hid (zbm s b = zck s b (b + (zak s b).2.length)) := by show zbm s b = _; unfold zbm; rw [if_neg (by omega), if_neg (by omega), if_pos h]
 generalize ByteArray.mk (zak s b).2.toArray = tx at *
 generalize (zak s b).2.length = n at *
 generalize (zak s b).1 = k at *
 obtain ⟨d, hd⟩ : ∃ d, d = b + n := ⟨_, rfl⟩
 rw [<- hd] at HE hln HN
 have u1 : IntKind.i64.wrap ((b : Int) + (tx.size : Int)) = (d : Int) := by rw [IntKind.wrap_i64]; omega
 clear hd hz hln
 subst h
 go_enter Tryz.func117, Tryz.ntmps117
 go_wp2_with fail
 refine HC.out.mono ?_
 rintro e w2 ⟨rfl, b2⟩
 have HX2 : Hid (BX w (w2.alloc (.cells #[.int .i64 21, .string tx] 169)) tk0 0 0) := (HX.out.below b2).below (zaa _ _)
 clear b2 HX HC
 go_wp2_with fail
 refine (HN.out _).mono ?_
 rintro e w3 ⟨rfl, b3⟩
 have HX3 : Hid (BX w w3 tk0 0 0) := HX2.out.below b3
 clear b3 HX2 HN
 obtain ⟨f0, f1', f2', f3, f4, f5, f6, f7, f8, g0, g1⟩ := HX3.out.fz
 obtain ⟨c0, c1, c2, c3, c4, c5, c6, c7, c8, d0, d1⟩ := HX3.out.cells
 generalize zck s b d = r at *
 cases r with
 | inl t =>
  unfold zaT
  go_wp2_with fail
  have HP := HX3.out.put t 0 0
  exact zah rfl rfl rfl rfl HP ⟨by rw [HE.out]; rfl, HP.b⟩
 | inr q =>
  unfold zaT
  go_wp2_with fail
  have HP := HX3.out.put tk0 q.1 q.2
  exact zah rfl rfl rfl rfl HP ⟨by rw [HE.out]; rfl, HP.b⟩
theorem zmF (s : ByteArray) (b : Nat) (hs : s.size <= 140737488355000) (hb : b <= s.size) (h0 : ¬ (zak s b).1 = 0) (h1 : ¬ (zak s b).1 = 13) (h2 : ¬ (zak s b).1 = 14) (h3 : ¬ (zak s b).1 = 15) (h4 : ¬ (zak s b).1 = 21) (w : World) (hg : SG w) : Calls Tryz.prog 117 #[.string s, .int .i64 b] w fun e w' => e = .returned (zaT (zbm s b)) /\ Below w.heap.size w w' := by
 have HC : Hid (Calls Tryz.prog 142 #[.string s, .int .i64 b] ((w.alloc (tkO tk0)).alloc (fxO 0 0)) fun e w' => e = .returned (.agg #[.int .i64 (zak s b).1, .string ⟨(zak s b).2.toArray⟩]) /\ Below ((w.alloc (tkO tk0)).alloc (fxO 0 0)).heap.size ((w.alloc (tkO tk0)).alloc (fxO 0 0)) w') := zaW s b hb _ ((hg.later (zaa _ _)).later (zaa _ _))
 have HX : Hid (BX w ((w.alloc (tkO tk0)).alloc (fxO 0 0)) tk0 0 0) := BX.new w
 have hln := zbC s b hb
 have hz : (⟨(zak s b).2.toArray⟩ : ByteArray).size = (zak s b).2.length := by show (zak s b).2.toArray.size = _; simp
 have HE : Hid (zbm s b = .inl ⟨(zak s b).1, 0, b, (b + (zak s b).2.length : Nat), ⟨#[]⟩, 0, 0, 0, 0⟩) := by show zbm s b = _; unfold zbm; rw [if_neg h0, if_neg (by omega), if_neg h4]
 generalize ByteArray.mk (zak s b).2.toArray = tx at *
 generalize (zak s b).2.length = n at *
 generalize (zak s b).1 = k at *
 obtain ⟨d, hd⟩ : ∃ d, d = b + n := ⟨_, rfl⟩
 rw [<- hd] at HE hln
 have u1 : IntKind.i64.wrap ((b : Int) + (tx.size : Int)) = (d : Int) := by rw [IntKind.wrap_i64]; omega
 clear hd hz hln
 have v0 : (k == 0) = false := bF h0
 have v1 : (k == 13) = false := bF h1
 have v2 : (k == 14) = false := bF h2
 have v3 : (k == 15) = false := bF h3
 have v4 : (k == 21) = false := bF h4
 clear h0 h1 h2 h3 h4
 go_enter Tryz.func117, Tryz.ntmps117
 go_wp2_with fail
 refine HC.out.mono ?_
 rintro e w2 ⟨rfl, b2⟩
 have HX2 : Hid (BX w w2 tk0 0 0) := HX.out.below b2
 clear b2 HX HC
 obtain ⟨f0, f1', f2', f3, f4, f5, f6, f7, f8, g0, g1⟩ := HX2.out.fz
 obtain ⟨c0, c1, c2, c3, c4, c5, c6, c7, c8, d0, d1⟩ := HX2.out.cells
 have hsz2 := HX2.out.size
 have hl1 : w.heap.size < w2.heap.size := by omega
 have hne1 : w.heap.size ≠ w2.heap.size := by omega
 have hne2 : w.heap.size + 1 ≠ w2.heap.size := by omega
 go_wp2_with fail
 have HP := (HX2.out.put ⟨k, 0, b, d, ⟨#[]⟩, 0, 0, 0, 0⟩ 0 0).below (zaa _ (.cells #[.int .i64 k, .string tx] 169))
 exact zah rfl rfl rfl rfl HP ⟨by rw [HE.out]; rfl, HP.b⟩
theorem zdK (s : ByteArray) (b : Nat) (hs : s.size <= 140737488355000) (hb : b <= s.size) (w : World) (hg : SG w) : Calls Tryz.prog 117 #[.string s, .int .i64 b] w fun e w' => e = .returned (zaT (zbm s b)) /\ Below w.heap.size w w' := by
 by_cases h0 : (zak s b).1 = 0
 ·exact zpU s b hs hb h0 w hg
 by_cases h1 : (zak s b).1 = 13
 ·exact zmC s b hs hb h1 w hg
 by_cases h2 : (zak s b).1 = 14
 ·exact zmD s b hs hb h2 w hg
 by_cases h3 : (zak s b).1 = 15
 ·exact zpV s b hs hb h3 w hg
 by_cases h4 : (zak s b).1 = 21
 ·exact zmE s b hs hb h4 w hg
 ·exact zmF s b hs hb h0 h1 h2 h3 h4 w hg
theorem zpW (w : World) :
  Calls Tryz.prog 161 #[.int .u8 97] w fun e w' => e = .returned (.tuple #[sv (spn 65 90 ||| spn 97 122), .int .i64 0]) /\ Below w.heap.size w w' := by
 have HH := hO (Holds.zero w)
 have HR := hO (zaX w z4)
 have HQ : Hid (Below (w.heap.size + 1) (w.alloc z4) (w.alloc z4)) := Below.refl _ _
 go_enter Tryz.func161, Tryz.ntmps161
 go_wp2_with fail
 refine (zec _).mono ?_
 rintro e w1 ⟨rfl, hb⟩
 replace HQ := (show Hid _ from HQ.out.trans (hb.mono (by first | exact HQ.out.size | (have h := HQ.out.size; simp at h; omega) | simp)))
 have HR1 := hO (HR.out.trans (HQ.out.mono (by omega)))
 obtain ⟨l0, c0, c1, c2, c3, f0, f1, f2, f3⟩ := HH.out.below HQ.out (by omega)
 generalize hr : spn 65 90 ||| spn 97 122 = r
 have Hr := hO hr
 clear hr
 go_wp2
 exact bodyPost_ret (v := .tuple #[sv r, .int .i64 0]) (by simp [results, Tryz.results161, go_sem, *]) rfl ⟨by rw [Hr.out], (((HR1.out.setCell (by simp) _).setCell (by simp) _).setCell (by simp) _).setCell (by simp) _⟩
theorem zpX (w : World) :
  Calls Tryz.prog 161 #[.int .u8 99] w fun e w' => e = .returned (.tuple #[sv (spn 0 31 ||| bt 127), .int .i64 0]) /\ Below w.heap.size w w' := by
 have HH := hO (Holds.zero w)
 have HR := hO (zaX w z4)
 have HQ : Hid (Below (w.heap.size + 1) (w.alloc z4) (w.alloc z4)) := Below.refl _ _
 go_enter Tryz.func161, Tryz.ntmps161
 go_wp2_with fail
 refine (zat 0 31 _ (by omega) (by omega) (by omega)).mono ?_
 rintro e w1 ⟨rfl, hb⟩
 replace HQ := (show Hid _ from HQ.out.trans (hb.mono (by first | exact HQ.out.size | (have h := HQ.out.size; simp at h; omega) | simp)))
 go_wp2_with fail
 refine (zfu _ 127 _ (by omega) (by omega)).mono ?_
 rintro e w1 ⟨rfl, hb⟩
 replace HQ := (show Hid _ from HQ.out.trans (hb.mono (by first | exact HQ.out.size | (have h := HQ.out.size; simp at h; omega) | simp)))
 rw [show (127 : Int).toNat = 127 from rfl]
 have HR1 := hO (HR.out.trans (HQ.out.mono (by omega)))
 obtain ⟨l0, c0, c1, c2, c3, f0, f1, f2, f3⟩ := HH.out.below HQ.out (by omega)
 generalize hr : spn 0 31 ||| bt 127 = r
 have Hr := hO hr
 clear hr
 go_wp2
 exact bodyPost_ret (v := .tuple #[sv r, .int .i64 0]) (by simp [results, Tryz.results161, go_sem, *]) rfl ⟨by rw [Hr.out], (((HR1.out.setCell (by simp) _).setCell (by simp) _).setCell (by simp) _).setCell (by simp) _⟩
theorem zmG (w : World) :
  Calls Tryz.prog 161 #[.int .u8 100] w fun e w' => e = .returned (.tuple #[sv (spn 48 57), .int .i64 0]) /\ Below w.heap.size w w' := by
 have HH := hO (Holds.zero w)
 have HR := hO (zaX w z4)
 have HQ : Hid (Below (w.heap.size + 1) (w.alloc z4) (w.alloc z4)) := Below.refl _ _
 go_enter Tryz.func161, Tryz.ntmps161
 go_wp2_with fail
 refine (zat 48 57 _ (by omega) (by omega) (by omega)).mono ?_
 rintro e w1 ⟨rfl, hb⟩
 replace HQ := (show Hid _ from HQ.out.trans (hb.mono (by first | exact HQ.out.size | (have h := HQ.out.size; simp at h; omega) | simp)))
 have HR1 := hO (HR.out.trans (HQ.out.mono (by omega)))
 obtain ⟨l0, c0, c1, c2, c3, f0, f1, f2, f3⟩ := HH.out.below HQ.out (by omega)
 generalize hr : spn 48 57 = r
 have Hr := hO hr
 clear hr
 go_wp2
 exact bodyPost_ret (v := .tuple #[sv r, .int .i64 0]) (by simp [results, Tryz.results161, go_sem, *]) rfl ⟨by rw [Hr.out], (((HR1.out.setCell (by simp) _).setCell (by simp) _).setCell (by simp) _).setCell (by simp) _⟩
theorem zmH (w : World) :
  Calls Tryz.prog 161 #[.int .u8 103] w fun e w' => e = .returned (.tuple #[sv (spn 33 126), .int .i64 0]) /\ Below w.heap.size w w' := by
 have HH := hO (Holds.zero w)
 have HR := hO (zaX w z4)
 have HQ : Hid (Below (w.heap.size + 1) (w.alloc z4) (w.alloc z4)) := Below.refl _ _
 go_enter Tryz.func161, Tryz.ntmps161
 go_wp2_with fail
 refine (zat 33 126 _ (by omega) (by omega) (by omega)).mono ?_
 rintro e w1 ⟨rfl, hb⟩
 replace HQ := (show Hid _ from HQ.out.trans (hb.mono (by first | exact HQ.out.size | (have h := HQ.out.size; simp at h; omega) | simp)))
 have HR1 := hO (HR.out.trans (HQ.out.mono (by omega)))
 obtain ⟨l0, c0, c1, c2, c3, f0, f1, f2, f3⟩ := HH.out.below HQ.out (by omega)
 generalize hr : spn 33 126 = r
 have Hr := hO hr
 clear hr
 go_wp2
 exact bodyPost_ret (v := .tuple #[sv r, .int .i64 0]) (by simp [results, Tryz.results161, go_sem, *]) rfl ⟨by rw [Hr.out], (((HR1.out.setCell (by simp) _).setCell (by simp) _).setCell (by simp) _).setCell (by simp) _⟩
theorem zmI (w : World) :
  Calls Tryz.prog 161 #[.int .u8 108] w fun e w' => e = .returned (.tuple #[sv (spn 97 122), .int .i64 0]) /\ Below w.heap.size w w' := by
 have HH := hO (Holds.zero w)
 have HR := hO (zaX w z4)
 have HQ : Hid (Below (w.heap.size + 1) (w.alloc z4) (w.alloc z4)) := Below.refl _ _
 go_enter Tryz.func161, Tryz.ntmps161
 go_wp2_with fail
 refine (zat 97 122 _ (by omega) (by omega) (by omega)).mono ?_
 rintro e w1 ⟨rfl, hb⟩
 replace HQ := (show Hid _ from HQ.out.trans (hb.mono (by first | exact HQ.out.size | (have h := HQ.out.size; simp at h; omega) | simp)))
 have HR1 := hO (HR.out.trans (HQ.out.mono (by omega)))
 obtain ⟨l0, c0, c1, c2, c3, f0, f1, f2, f3⟩ := HH.out.below HQ.out (by omega)
 generalize hr : spn 97 122 = r
 have Hr := hO hr
 clear hr
 go_wp2
 exact bodyPost_ret (v := .tuple #[sv r, .int .i64 0]) (by simp [results, Tryz.results161, go_sem, *]) rfl ⟨by rw [Hr.out], (((HR1.out.setCell (by simp) _).setCell (by simp) _).setCell (by simp) _).setCell (by simp) _⟩
theorem zmJ (w : World) :
  Calls Tryz.prog 161 #[.int .u8 112] w fun e w' => e = .returned (.tuple #[sv (spn 33 126 &&& ~~~ (spn 65 90 ||| spn 97 122 ||| spn 48 57)), .int .i64 0]) /\ Below w.heap.size w w' := by
 have HH := hO (Holds.zero w)
 have HR := hO (zaX w z4)
 have HQ : Hid (Below (w.heap.size + 1) (w.alloc z4) (w.alloc z4)) := Below.refl _ _
 go_enter Tryz.func161, Tryz.ntmps161
 go_wp2_with fail
 refine (zat 33 126 _ (by omega) (by omega) (by omega)).mono ?_
 rintro e w1 ⟨rfl, hb⟩
 replace HQ := (show Hid _ from HQ.out.trans (hb.mono (by first | exact HQ.out.size | (have h := HQ.out.size; simp at h; omega) | simp)))
 go_wp2_with fail
 refine (zcd _).mono ?_
 rintro e w1 ⟨rfl, hb⟩
 replace HQ := (show Hid _ from HQ.out.trans (hb.mono (by first | exact HQ.out.size | (have h := HQ.out.size; simp at h; omega) | simp)))
 go_wp2_with fail
 refine (zl5 _ _ _).mono ?_
 rintro e w1 ⟨rfl, hb⟩
 replace HQ := (show Hid _ from HQ.out.trans (hb.mono (by first | exact HQ.out.size | (have h := HQ.out.size; simp at h; omega) | simp)))
 have HR1 := hO (HR.out.trans (HQ.out.mono (by omega)))
 obtain ⟨l0, c0, c1, c2, c3, f0, f1, f2, f3⟩ := HH.out.below HQ.out (by omega)
 generalize hr : spn 33 126 &&& ~~~ (spn 65 90 ||| spn 97 122 ||| spn 48 57) = r
 have Hr := hO hr
 clear hr
 go_wp2
 exact bodyPost_ret (v := .tuple #[sv r, .int .i64 0]) (by simp [results, Tryz.results161, go_sem, *]) rfl ⟨by rw [Hr.out], (((HR1.out.setCell (by simp) _).setCell (by simp) _).setCell (by simp) _).setCell (by simp) _⟩
theorem zmK (w : World) :
  Calls Tryz.prog 161 #[.int .u8 115] w fun e w' => e = .returned (.tuple #[sv (spn 9 13 ||| bt 32), .int .i64 0]) /\ Below w.heap.size w w' := by
 have HH := hO (Holds.zero w)
 have HR := hO (zaX w z4)
 have HQ : Hid (Below (w.heap.size + 1) (w.alloc z4) (w.alloc z4)) := Below.refl _ _
 go_enter Tryz.func161, Tryz.ntmps161
 go_wp2_with fail
 refine (zat 9 13 _ (by omega) (by omega) (by omega)).mono ?_
 rintro e w1 ⟨rfl, hb⟩
 replace HQ := (show Hid _ from HQ.out.trans (hb.mono (by first | exact HQ.out.size | (have h := HQ.out.size; simp at h; omega) | simp)))
 go_wp2_with fail
 refine (zfu _ 32 _ (by omega) (by omega)).mono ?_
 rintro e w1 ⟨rfl, hb⟩
 replace HQ := (show Hid _ from HQ.out.trans (hb.mono (by first | exact HQ.out.size | (have h := HQ.out.size; simp at h; omega) | simp)))
 rw [show (32 : Int).toNat = 32 from rfl]
 have HR1 := hO (HR.out.trans (HQ.out.mono (by omega)))
 obtain ⟨l0, c0, c1, c2, c3, f0, f1, f2, f3⟩ := HH.out.below HQ.out (by omega)
 generalize hr : spn 9 13 ||| bt 32 = r
 have Hr := hO hr
 clear hr
 go_wp2
 exact bodyPost_ret (v := .tuple #[sv r, .int .i64 0]) (by simp [results, Tryz.results161, go_sem, *]) rfl ⟨by rw [Hr.out], (((HR1.out.setCell (by simp) _).setCell (by simp) _).setCell (by simp) _).setCell (by simp) _⟩
theorem zmL (w : World) :
  Calls Tryz.prog 161 #[.int .u8 117] w fun e w' => e = .returned (.tuple #[sv (spn 65 90), .int .i64 0]) /\ Below w.heap.size w w' := by
 have HH := hO (Holds.zero w)
 have HR := hO (zaX w z4)
 have HQ : Hid (Below (w.heap.size + 1) (w.alloc z4) (w.alloc z4)) := Below.refl _ _
 go_enter Tryz.func161, Tryz.ntmps161
 go_wp2_with fail
 refine (zat 65 90 _ (by omega) (by omega) (by omega)).mono ?_
 rintro e w1 ⟨rfl, hb⟩
 replace HQ := (show Hid _ from HQ.out.trans (hb.mono (by first | exact HQ.out.size | (have h := HQ.out.size; simp at h; omega) | simp)))
 have HR1 := hO (HR.out.trans (HQ.out.mono (by omega)))
 obtain ⟨l0, c0, c1, c2, c3, f0, f1, f2, f3⟩ := HH.out.below HQ.out (by omega)
 generalize hr : spn 65 90 = r
 have Hr := hO hr
 clear hr
 go_wp2
 exact bodyPost_ret (v := .tuple #[sv r, .int .i64 0]) (by simp [results, Tryz.results161, go_sem, *]) rfl ⟨by rw [Hr.out], (((HR1.out.setCell (by simp) _).setCell (by simp) _).setCell (by simp) _).setCell (by simp) _⟩
theorem zmM (w : World) :
  Calls Tryz.prog 161 #[.int .u8 119] w fun e w' => e = .returned (.tuple #[sv (spn 65 90 ||| spn 97 122 ||| spn 48 57), .int .i64 0]) /\ Below w.heap.size w w' := by
 have HH := hO (Holds.zero w)
 have HR := hO (zaX w z4)
 have HQ : Hid (Below (w.heap.size + 1) (w.alloc z4) (w.alloc z4)) := Below.refl _ _
 go_enter Tryz.func161, Tryz.ntmps161
 go_wp2_with fail
 refine (zcd _).mono ?_
 rintro e w1 ⟨rfl, hb⟩
 replace HQ := (show Hid _ from HQ.out.trans (hb.mono (by first | exact HQ.out.size | (have h := HQ.out.size; simp at h; omega) | simp)))
 have HR1 := hO (HR.out.trans (HQ.out.mono (by omega)))
 obtain ⟨l0, c0, c1, c2, c3, f0, f1, f2, f3⟩ := HH.out.below HQ.out (by omega)
 generalize hr : spn 65 90 ||| spn 97 122 ||| spn 48 57 = r
 have Hr := hO hr
 clear hr
 go_wp2
 exact bodyPost_ret (v := .tuple #[sv r, .int .i64 0]) (by simp [results, Tryz.results161, go_sem, *]) rfl ⟨by rw [Hr.out], (((HR1.out.setCell (by simp) _).setCell (by simp) _).setCell (by simp) _).setCell (by simp) _⟩
theorem zmN (w : World) :
  Calls Tryz.prog 161 #[.int .u8 120] w fun e w' => e = .returned (.tuple #[sv (spn 48 57 ||| spn 65 70 ||| spn 97 102), .int .i64 0]) /\ Below w.heap.size w w' := by
 have HH := hO (Holds.zero w)
 have HR := hO (zaX w z4)
 have HQ : Hid (Below (w.heap.size + 1) (w.alloc z4) (w.alloc z4)) := Below.refl _ _
 go_enter Tryz.func161, Tryz.ntmps161
 go_wp2_with fail
 refine (zat 48 57 _ (by omega) (by omega) (by omega)).mono ?_
 rintro e w1 ⟨rfl, hb⟩
 replace HQ := (show Hid _ from HQ.out.trans (hb.mono (by first | exact HQ.out.size | (have h := HQ.out.size; simp at h; omega) | simp)))
 go_wp2_with fail
 refine (zcP _ 65 70 _ (by omega) (by omega) (by omega)).mono ?_
 rintro e w1 ⟨rfl, hb⟩
 replace HQ := (show Hid _ from HQ.out.trans (hb.mono (by first | exact HQ.out.size | (have h := HQ.out.size; simp at h; omega) | simp)))
 go_wp2_with fail
 refine (zcP _ 97 102 _ (by omega) (by omega) (by omega)).mono ?_
 rintro e w1 ⟨rfl, hb⟩
 replace HQ := (show Hid _ from HQ.out.trans (hb.mono (by first | exact HQ.out.size | (have h := HQ.out.size; simp at h; omega) | simp)))
 have HR1 := hO (HR.out.trans (HQ.out.mono (by omega)))
 obtain ⟨l0, c0, c1, c2, c3, f0, f1, f2, f3⟩ := HH.out.below HQ.out (by omega)
 generalize hr : spn 48 57 ||| spn 65 70 ||| spn 97 102 = r
 have Hr := hO hr
 clear hr
 go_wp2
 exact bodyPost_ret (v := .tuple #[sv r, .int .i64 0]) (by simp [results, Tryz.results161, go_sem, *]) rfl ⟨by rw [Hr.out], (((HR1.out.setCell (by simp) _).setCell (by simp) _).setCell (by simp) _).setCell (by simp) _⟩
theorem zkA (n : Int) (w : World) (h97 : (n == 97) = false) (h99 : (n == 99) = false) (h100 : (n == 100) = false) (h103 : (n == 103) = false) (h108 : (n == 108) = false) (h112 : (n == 112) = false) (h115 : (n == 115) = false) (h117 : (n == 117) = false) (h119 : (n == 119) = false) (h120 : (n == 120) = false) :
  Calls Tryz.prog 161 #[.int .u8 n] w fun e w' => e = .returned (.tuple #[sv 0#256, .int .i64 10]) /\ Below w.heap.size w w' := by
 have HR := hO (zaX w z4)
 go_enter Tryz.func161, Tryz.ntmps161
 go_wp2
 exact bodyPost_ret (v := .tuple #[sv 0#256, .int .i64 10]) (by simp [results, Tryz.results161, go_sem, zaj]) rfl ⟨rfl, HR.out⟩
theorem zeq (n : Nat) (w : World) :
  Calls Tryz.prog 161 #[.int .u8 n] w fun e w' => e = .returned (.tuple #[sv (sml n).1, .int .i64 (sml n).2]) /\ Below w.heap.size w w' := by
 by_cases h97 : n = 97
 ·subst h97; rw [sml97]; exact zpW w
 by_cases h99 : n = 99
 ·subst h99; rw [sml99]; exact zpX w
 by_cases h100 : n = 100
 ·subst h100; rw [znX]; exact zmG w
 by_cases h103 : n = 103
 ·subst h103; rw [znY]; exact zmH w
 by_cases h108 : n = 108
 ·subst h108; rw [znZ]; exact zmI w
 by_cases h112 : n = 112
 ·subst h112; rw [zn0]; exact zmJ w
 by_cases h115 : n = 115
 ·subst h115; rw [zn1]; exact zmK w
 by_cases h117 : n = 117
 ·subst h117; rw [zn2]; exact zmL w
 by_cases h119 : n = 119
 ·subst h119; rw [zn3]; exact zmM w
 by_cases h120 : n = 120
 ·subst h120; rw [zn4]; exact zmN w
 rw [zh6 n h97 h99 h100 h103 h108 h112 h115 h117 h119 h120]
 exact zkA n w (bF (by omega)) (bF (by omega)) (bF (by omega)) (bF (by omega)) (bF (by omega)) (bF (by omega)) (bF (by omega)) (bF (by omega)) (bF (by omega)) (bF (by omega))
theorem zkB (n : Nat) (h : ¬ (65 <= n /\ n <= 90)) : cls n = sml n := by unfold cls; rw [if_neg h]
theorem zpY (n : Nat) (h : 65 <= n /\ n <= 90) (he : (sml (n + 32)).2 = 0) : cls n = (~~~ (sml (n + 32)).1, 0) := by unfold cls; rw [if_pos h, if_pos he]
theorem cls_no (n : Nat) (h : 65 <= n /\ n <= 90) (he : (sml (n + 32)).2 = 10) : cls n = (0#256, 10) := by
 unfold cls; rw [if_pos h, if_neg (by omega), he]
theorem zcT {B : Nat} {w w' : World} {b : Nat} (h : Below B w w') (hb : B <= b) (y : BitVec 256) : Below B w (put4 w' b y) :=
 (((h.setCell hb _).setCell hb _).setCell hb _).setCell hb _
theorem zer (n : Nat) (hn : n < 256) (w : World) :
  Calls Tryz.prog 143 #[.int .u8 n] w fun e w' => e = .returned (.tuple #[sv (cls n).1, .int .i64 (cls n).2]) /\ Below w.heap.size w w' := by
 have HH := hO (Holds.zero w)
 have HR := hO (zaX w z4)
 have hw8 : IntKind.i64.wrap (n : Int) = (n : Int) := by rw [IntKind.wrap_i64]; omega
 by_cases hc : 65 <= n /\ n <= 90
 ·have hcap : zoZ (n : Int) = true := by simp [zoZ]; omega
  have hn1 : (n : Int) <= 90 := by omega
  have Hc := hO hc
  clear hc
  rcases zo1 (n + 32) with he | he
  ·have HE := hO (zpY n Hc.out he)
   go_enter Tryz.func143, Tryz.ntmps143
   go_wp2_with fail
   refine (zcr _ _).mono ?_
   rintro e w1 ⟨rfl, rfl⟩
   go_wp2_with fail
   rw [show (n : Int) + 32 = ((n + 32 : Nat) : Int) from by omega]
   refine (zeq (n + 32) _).mono ?_
   rintro e w1 ⟨rfl, hb⟩
   have hl : w.heap.size < w1.heap.size := by have h := hb.size; simp at h; omega
   have HR1 := hO (HR.out.trans (hb.mono (by simp)))
   have HH1 := hO (HH.out.below hb (by simp))
   rw [he]
   clear he hb HH HR
   generalize (sml (n + 32)).1 = r at *
   go_wp2_with fail
   refine (zfv r _).mono ?_
   rintro e w2 ⟨rfl, hb⟩
   have HR2 := hO ((HR1.out.alloc (by omega) (c4 r)).trans (hb.mono (by simp; omega)))
   have hl2 : w.heap.size < w2.heap.size := by have h := hb.size; simp at h; omega
   obtain ⟨l0, c0, c1, c2, c3, f0, f1, f2, f3⟩ := (HH1.out.alloc (c4 r)).below hb (by simp; omega)
   generalize hr : ~~~ r = q at *
   clear hr hb
   go_wp2
   rw [HE.out]
   refine bodyPost_ret (v := .tuple #[sv q, .int .i64 0]) (by simp [results, Tryz.results143, go_sem, *]) rfl ⟨rfl, zcT HR2.out (Nat.le_refl _) _⟩
  ·have HE := hO (cls_no n Hc.out he)
   go_enter Tryz.func143, Tryz.ntmps143
   go_wp2_with fail
   refine (zcr _ _).mono ?_
   rintro e w1 ⟨rfl, rfl⟩
   go_wp2_with fail
   rw [show (n : Int) + 32 = ((n + 32 : Nat) : Int) from by omega]
   refine (zeq (n + 32) _).mono ?_
   rintro e w1 ⟨rfl, hb⟩
   have hl : w.heap.size < w1.heap.size := by have h := hb.size; simp at h; omega
   have HR1 := hO (HR.out.trans (hb.mono (by simp)))
   obtain ⟨l0, c0, c1, c2, c3, f0, f1, f2, f3⟩ := HH.out.below hb (by simp)
   rw [he]
   clear he hb HH HR
   generalize (sml (n + 32)).1 = r at *
   go_wp2
   rw [HE.out]
   refine bodyPost_ret (v := .tuple #[sv 0#256, .int .i64 10]) (by simp [results, Tryz.results143, go_sem, zaj, *]) rfl ⟨rfl, ?_⟩
   repeat (first | exact HR1.out | (refine Below.setCell ?_ (by first | omega | (simp <;> omega)) _) | (refine Below.alloc ?_ (by first | omega | (simp <;> omega)) _))
 ·have hcap : zoZ (n : Int) = false := by simp [zoZ]; omega
  have HE := hO (zkB n hc)
  clear hc
  go_enter Tryz.func143, Tryz.ntmps143
  go_wp2_with fail
  refine (zcr _ _).mono ?_
  rintro e w1 ⟨rfl, rfl⟩
  go_wp2_with fail
  refine (zeq n _).mono ?_
  rintro e w1 ⟨rfl, hb⟩
  have hl : w.heap.size < w1.heap.size := by have h := hb.size; simp at h; omega
  have HR1 := hO (HR.out.trans (hb.mono (by simp)))
  obtain ⟨l0, c0, c1, c2, c3, f0, f1, f2, f3⟩ := HH.out.below hb (by simp)
  clear hb HH HR
  generalize sml n = rq at *
  obtain ⟨r, q⟩ := rq
  dsimp only
  go_wp2
  refine bodyPost_ret (v := .tuple #[sv r, .int .i64 q]) (by simp [results, Tryz.results143, go_sem, *]) rfl ⟨by rw [HE.out], zcT HR1.out (Nat.le_refl _) _⟩
end Go.Proofs.YtnpifgcgjgddoaaGreatDoor
