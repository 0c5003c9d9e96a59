/- DERIVED. Plain mathematics and walks, laid together (10). -/
import Derived.Deep.RegionLaw
import Derived.Laws.Bits64
import Derived.Test.YtnpifgcgjgddoaaGreatDoorPb09
set_option maxRecDepth 100000
set_option maxHeartbeats 8000000
namespace Go.Proofs.YtnpifgcgjgddoaaGreatDoor
open Go.RowKit
theorem zfI {s : ByteArray} : ∀ {l : List UInt8} {i : Nat}, i <= s.size -> pfx s i l = true -> i + l.length <= s.size := by
 intro l
 induction l with
 | nil => intro i h _; exact h
 | cons c l ih =>
  intro i h hp
  rw [pfx, Bool.and_eq_true] at hp
  have h1 : i < s.size := zaC (by rw [beq_iff_eq.1 hp.1]; omega)
  have := ih (i := i + 1) (by omega) hp.2
  rw [List.length_cons]; omega
theorem zmR (s : ByteArray) (i : Nat) (hi : i <= s.size) : ∀ l, i + (zib s i l).2.length <= s.size := by
 intro l
 induction l with
 | nil => exact hi
 | cons p l ih =>
  rw [zib]
  split
  ·next h => exact zfI hi h
  ·exact ih
theorem zbA (s : ByteArray) (i : Nat) (hi : i <= s.size) : i + (zai s i).2.length <= s.size := zmR s i hi _
def zbk (s : ByteArray) (b : Nat) : Sum Tk (Nat × Int) :=
 if (zai s b).1 = 0 then .inr (b, 50) else if (zai s b).1 = 13 ∨ (zai s b).1 = 14 ∨ (zai s b).1 = 15 then nmR s b (b + (zai s b).2.length) (zai s b).1
 else if (zai s b).1 = 21 then zcq s b (b + (zai s b).2.length) else .inl ⟨(zai s b).1, 0, b, (b + (zai s b).2.length : Nat), ⟨#[]⟩, 0, 0, 0, 0⟩
theorem zpJ (s : ByteArray) (b : Nat) (hs : s.size <= 140737488355000) (hb : b <= s.size) (h : (zai s b).1 = 0) (w : World) (hg : SG w) : Calls Tryz.prog 117 #[.string s, .int .i64 b] w fun e w' => e = .returned (zaP (zbk s b)) /\ Below w.heap.size w w' := by
 have HC : Hid (Calls Tryz.prog 142 #[.string s, .int .i64 b] ((w.alloc (tkO tk0)).alloc (fxO 0 0)) fun e w' => e = .returned (.agg #[.int .i64 (zai s b).1, .string ⟨(zai s b).2.toArray⟩]) /\ Below ((w.alloc (tkO tk0)).alloc (fxO 0 0)).heap.size ((w.alloc (tkO tk0)).alloc (fxO 0 0)) w') := zaR s b hb _ ((hg.later (zaa _ _)).later (zaa _ _))
 have HX : Hid (BX w ((w.alloc (tkO tk0)).alloc (fxO 0 0)) tk0 0 0) := BX.new w
 have hln := zbA s b hb
 have hz : (⟨(zai s b).2.toArray⟩ : ByteArray).size = (zai s b).2.length := by show (zai s b).2.toArray.size = _; simp
 have HF : Hid (∀ i e w, Calls Tryz.prog 135 #[.int .i64 i, .int .i64 e] w fun e' w' => e' = .returned (zaE tk0 i e) /\ Below w.heap.size w w') := fun i e w => zax i e w
 have HE : Hid (zbk s b = .inr (b, 50)) := by show zbk s b = _; unfold zbk; rw [if_pos h]
 generalize ByteArray.mk (zai s b).2.toArray = tx at *
 generalize (zai s b).2.length = n at *
 generalize (zai s b).1 = k at *
 obtain ⟨d, hd⟩ : ∃ d, d = b + n := ⟨_, rfl⟩
 have u1 : IntKind.i64.wrap ((b : Int) + (tx.size : Int)) = (d : Int) := by rw [IntKind.wrap_i64]; omega
 clear hd hz hln
 subst h
 go_enter Tryz.func117, Tryz.ntmps117
 go_wp2_with fail
 refine HC.out.mono ?_
 rintro e w2 ⟨rfl, b2⟩
 have HX2 : Hid (BX w (w2.alloc (.cells #[.int .i64 0, .string tx] 169)) tk0 0 0) := (HX.out.below b2).below (zaa _ _)
 clear b2 HX HC
 go_wp2_with fail
 refine (HF.out _ _ _).mono ?_
 rintro e w3 ⟨rfl, b3⟩
 have HX3 : Hid (BX w w3 tk0 0 0) := HX2.out.below b3
 clear b3 HX2 HF
 obtain ⟨f0, f1', f2', f3, f4, f5, f6, f7, f8, g0, g1⟩ := HX3.out.fz
 obtain ⟨c0, c1, c2, c3, c4, c5, c6, c7, c8, d0, d1⟩ := HX3.out.cells
 unfold zaE
 go_wp2_with fail
 have HP := HX3.out.put tk0 b 50
 exact zag rfl rfl rfl rfl HP ⟨by rw [HE.out]; rfl, HP.b⟩
theorem zmS (s : ByteArray) (b : Nat) (hs : s.size <= 140737488355000) (hb : b <= s.size) (h : (zai s b).1 = 13) (w : World) (hg : SG w) : Calls Tryz.prog 117 #[.string s, .int .i64 b] w fun e w' => e = .returned (zaP (zbk s b)) /\ Below w.heap.size w w' := by
 have HC : Hid (Calls Tryz.prog 142 #[.string s, .int .i64 b] ((w.alloc (tkO tk0)).alloc (fxO 0 0)) fun e w' => e = .returned (.agg #[.int .i64 (zai s b).1, .string ⟨(zai s b).2.toArray⟩]) /\ Below ((w.alloc (tkO tk0)).alloc (fxO 0 0)).heap.size ((w.alloc (tkO tk0)).alloc (fxO 0 0)) w') := zaR s b hb _ ((hg.later (zaa _ _)).later (zaa _ _))
 have HX : Hid (BX w ((w.alloc (tkO tk0)).alloc (fxO 0 0)) tk0 0 0) := BX.new w
 have hln := zbA s b hb
 have hz : (⟨(zai s b).2.toArray⟩ : ByteArray).size = (zai s b).2.length := by show (zai s b).2.toArray.size = _; simp
 have HN : Hid (∀ w, Calls Tryz.prog 113 #[.string s, .int .i64 b, .int .i64 ((b + (zai s b).2.length : Nat) : Int), .int .i64 13] w fun e w' => e = .returned (zaP (nmR s b (b + (zai s b).2.length) 13)) /\ Below w.heap.size w w') := fun w => zbz s b _ 13 hs hln hb w
 have HE : Hid (zbk s b = nmR s b (b + (zai s b).2.length) 13) := by show zbk s b = _; unfold zbk; rw [if_neg (by omega), if_pos (by omega), h]
 generalize ByteArray.mk (zai s b).2.toArray = tx at *
 generalize (zai s b).2.length = n at *
 generalize (zai s b).1 = k at *
 obtain ⟨d, hd⟩ : ∃ d, d = b + n := ⟨_, rfl⟩
 rw [<- hd] at HE hln HN
 have u1 : IntKind.i64.wrap ((b : Int) + (tx.size : Int)) = (d : Int) := by rw [IntKind.wrap_i64]; omega
 clear hd hz hln
 subst h
 go_enter Tryz.func117, Tryz.ntmps117
 go_wp2_with fail
 refine HC.out.mono ?_
 rintro e w2 ⟨rfl, b2⟩
 have HX2 : Hid (BX w (w2.alloc (.cells #[.int .i64 13, .string tx] 169)) tk0 0 0) := (HX.out.below b2).below (zaa _ _)
 clear b2 HX HC
 go_wp2_with fail
 refine (HN.out _).mono ?_
 rintro e w3 ⟨rfl, b3⟩
 have HX3 : Hid (BX w w3 tk0 0 0) := HX2.out.below b3
 clear b3 HX2 HN
 obtain ⟨f0, f1', f2', f3, f4, f5, f6, f7, f8, g0, g1⟩ := HX3.out.fz
 obtain ⟨c0, c1, c2, c3, c4, c5, c6, c7, c8, d0, d1⟩ := HX3.out.cells
 generalize nmR s b d 13 = r at *
 cases r with
 | inl t =>
  unfold zaP
  go_wp2_with fail
  have HP := HX3.out.put t 0 0
  exact zag rfl rfl rfl rfl HP ⟨by rw [HE.out]; rfl, HP.b⟩
 | inr q =>
  unfold zaP
  go_wp2_with fail
  have HP := HX3.out.put tk0 q.1 q.2
  exact zag rfl rfl rfl rfl HP ⟨by rw [HE.out]; rfl, HP.b⟩
theorem zmT (s : ByteArray) (b : Nat) (hs : s.size <= 140737488355000) (hb : b <= s.size) (h : (zai s b).1 = 14) (w : World) (hg : SG w) : Calls Tryz.prog 117 #[.string s, .int .i64 b] w fun e w' => e = .returned (zaP (zbk s b)) /\ Below w.heap.size w w' := by
 have HC : Hid (Calls Tryz.prog 142 #[.string s, .int .i64 b] ((w.alloc (tkO tk0)).alloc (fxO 0 0)) fun e w' => e = .returned (.agg #[.int .i64 (zai s b).1, .string ⟨(zai s b).2.toArray⟩]) /\ Below ((w.alloc (tkO tk0)).alloc (fxO 0 0)).heap.size ((w.alloc (tkO tk0)).alloc (fxO 0 0)) w') := zaR s b hb _ ((hg.later (zaa _ _)).later (zaa _ _))
 have HX : Hid (BX w ((w.alloc (tkO tk0)).alloc (fxO 0 0)) tk0 0 0) := BX.new w
 have hln := zbA s b hb
 have hz : (⟨(zai s b).2.toArray⟩ : ByteArray).size = (zai s b).2.length := by show (zai s b).2.toArray.size = _; simp
 have HN : Hid (∀ w, Calls Tryz.prog 113 #[.string s, .int .i64 b, .int .i64 ((b + (zai s b).2.length : Nat) : Int), .int .i64 14] w fun e w' => e = .returned (zaP (nmR s b (b + (zai s b).2.length) 14)) /\ Below w.heap.size w w') := fun w => zbz s b _ 14 hs hln hb w
 have HE : Hid (zbk s b = nmR s b (b + (zai s b).2.length) 14) := by show zbk s b = _; unfold zbk; rw [if_neg (by omega), if_pos (by omega), h]
 generalize ByteArray.mk (zai s b).2.toArray = tx at *
 generalize (zai s b).2.length = n at *
 generalize (zai s b).1 = k at *
 obtain ⟨d, hd⟩ : ∃ d, d = b + n := ⟨_, rfl⟩
 rw [<- hd] at HE hln HN
 have u1 : IntKind.i64.wrap ((b : Int) + (tx.size : Int)) = (d : Int) := by rw [IntKind.wrap_i64]; omega
 clear hd hz hln
 subst h
 go_enter Tryz.func117, Tryz.ntmps117
 go_wp2_with fail
 refine HC.out.mono ?_
 rintro e w2 ⟨rfl, b2⟩
 have HX2 : Hid (BX w (w2.alloc (.cells #[.int .i64 14, .string tx] 169)) tk0 0 0) := (HX.out.below b2).below (zaa _ _)
 clear b2 HX HC
 go_wp2_with fail
 refine (HN.out _).mono ?_
 rintro e w3 ⟨rfl, b3⟩
 have HX3 : Hid (BX w w3 tk0 0 0) := HX2.out.below b3
 clear b3 HX2 HN
 obtain ⟨f0, f1', f2', f3, f4, f5, f6, f7, f8, g0, g1⟩ := HX3.out.fz
 obtain ⟨c0, c1, c2, c3, c4, c5, c6, c7, c8, d0, d1⟩ := HX3.out.cells
 generalize nmR s b d 14 = r at *
 cases r with
 | inl t =>
  unfold zaP
  go_wp2_with fail
  have HP := HX3.out.put t 0 0
  exact zag rfl rfl rfl rfl HP ⟨by rw [HE.out]; rfl, HP.b⟩
 | inr q =>
  unfold zaP
  go_wp2_with fail
  have HP := HX3.out.put tk0 q.1 q.2
  exact zag rfl rfl rfl rfl HP ⟨by rw [HE.out]; rfl, HP.b⟩
theorem zpK (s : ByteArray) (b : Nat) (hs : s.size <= 140737488355000) (hb : b <= s.size) (h : (zai s b).1 = 15) (w : World) (hg : SG w) : Calls Tryz.prog 117 #[.string s, .int .i64 b] w fun e w' => e = .returned (zaP (zbk s b)) /\ Below w.heap.size w w' := by
 have HC : Hid (Calls Tryz.prog 142 #[.string s, .int .i64 b] ((w.alloc (tkO tk0)).alloc (fxO 0 0)) fun e w' => e = .returned (.agg #[.int .i64 (zai s b).1, .string ⟨(zai s b).2.toArray⟩]) /\ Below ((w.alloc (tkO tk0)).alloc (fxO 0 0)).heap.size ((w.alloc (tkO tk0)).alloc (fxO 0 0)) w') := zaR s b hb _ ((hg.later (zaa _ _)).later (zaa _ _))
 have HX : Hid (BX w ((w.alloc (tkO tk0)).alloc (fxO 0 0)) tk0 0 0) := BX.new w
 have hln := zbA s b hb
 have hz : (⟨(zai s b).2.toArray⟩ : ByteArray).size = (zai s b).2.length := by show (zai s b).2.toArray.size = _; simp
 have HN : Hid (∀ w, Calls Tryz.prog 113 #[.string s, .int .i64 b, .int .i64 ((b + (zai s b).2.length : Nat) : Int), .int .i64 15] w fun e w' => e = .returned (zaP (nmR s b (b + (zai s b).2.length) 15)) /\ Below w.heap.size w w') := fun w => zbz s b _ 15 hs hln hb w
 have HE : Hid (zbk s b = nmR s b (b + (zai s b).2.length) 15) := by show zbk s b = _; unfold zbk; rw [if_neg (by omega), if_pos (by omega), h]
 generalize ByteArray.mk (zai s b).2.toArray = tx at *
 generalize (zai s b).2.length = n at *
 generalize (zai s b).1 = k at *
 obtain ⟨d, hd⟩ : ∃ d, d = b + n := ⟨_, rfl⟩
 rw [<- hd] at HE hln HN
 have u1 : IntKind.i64.wrap ((b : Int) + (tx.size : Int)) = (d : Int) := by rw [IntKind.wrap_i64]; omega
 clear hd hz hln
 subst h
 go_enter Tryz.func117, Tryz.ntmps117
 go_wp2_with fail
 refine HC.out.mono ?_
 rintro e w2 ⟨rfl, b2⟩
 have HX2 : Hid (BX w (w2.alloc (.cells #[.int .i64 15, .string tx] 169)) tk0 0 0) := (HX.out.below b2).below (zaa _ _)
 clear b2 HX HC
 go_wp2_with fail
 refine (HN.out _).mono ?_
 rintro e w3 ⟨rfl, b3⟩
 have HX3 : Hid (BX w w3 tk0 0 0) := HX2.out.below b3
 clear b3 HX2 HN
 obtain ⟨f0, f1', f2', f3, f4, f5, f6, f7, f8, g0, g1⟩ := HX3.out.fz
 obtain ⟨c0, c1, c2, c3, c4, c5, c6, c7, c8, d0, d1⟩ := HX3.out.cells
 generalize nmR s b d 15 = r at *
 cases r with
 | inl t =>
  unfold zaP
  go_wp2_with fail
  have HP := HX3.out.put t 0 0
  exact zag rfl rfl rfl rfl HP ⟨by rw [HE.out]; rfl, HP.b⟩
 | inr q =>
  unfold zaP
  go_wp2_with fail
  have HP := HX3.out.put tk0 q.1 q.2
  exact zag rfl rfl rfl rfl HP ⟨by rw [HE.out]; rfl, HP.b⟩
theorem zmU (s : ByteArray) (b : Nat) (hs : s.size <= 140737488355000) (hb : b <= s.size) (h : (zai s b).1 = 21) (w : World) (hg : SG w) : Calls Tryz.prog 117 #[.string s, .int .i64 b] w fun e w' => e = .returned (zaP (zbk s b)) /\ Below w.heap.size w w' := by
 have HC : Hid (Calls Tryz.prog 142 #[.string s, .int .i64 b] ((w.alloc (tkO tk0)).alloc (fxO 0 0)) fun e w' => e = .returned (.agg #[.int .i64 (zai s b).1, .string ⟨(zai s b).2.toArray⟩]) /\ Below ((w.alloc (tkO tk0)).alloc (fxO 0 0)).heap.size ((w.alloc (tkO tk0)).alloc (fxO 0 0)) w') := zaR s b hb _ ((hg.later (zaa _ _)).later (zaa _ _))
 have HX : Hid (BX w ((w.alloc (tkO tk0)).alloc (fxO 0 0)) tk0 0 0) := BX.new w
 have hln := zbA s b hb
 have hz : (⟨(zai s b).2.toArray⟩ : ByteArray).size = (zai s b).2.length := by show (zai s b).2.toArray.size = _; simp
 have HN : Hid (∀ w, Calls Tryz.prog 144 #[.string s, .int .i64 b, .int .i64 ((b + (zai s b).2.length : Nat) : Int)] w fun e w' => e = .returned (zaP (zcq s b (b + (zai s b).2.length))) /\ Below w.heap.size w w') := fun w => zfH s b _ hs hln w
 have HE : Hid (zbk s b = zcq s b (b + (zai s b).2.length)) := by show zbk s b = _; unfold zbk; rw [if_neg (by omega), if_neg (by omega), if_pos h]
 generalize ByteArray.mk (zai s b).2.toArray = tx at *
 generalize (zai s b).2.length = n at *
 generalize (zai s b).1 = k at *
 obtain ⟨d, hd⟩ : ∃ d, d = b + n := ⟨_, rfl⟩
 rw [<- hd] at HE hln HN
 have u1 : IntKind.i64.wrap ((b : Int) + (tx.size : Int)) = (d : Int) := by rw [IntKind.wrap_i64]; omega
 clear hd hz hln
 subst h
 go_enter Tryz.func117, Tryz.ntmps117
 go_wp2_with fail
 refine HC.out.mono ?_
 rintro e w2 ⟨rfl, b2⟩
 have HX2 : Hid (BX w (w2.alloc (.cells #[.int .i64 21, .string tx] 169)) tk0 0 0) := (HX.out.below b2).below (zaa _ _)
 clear b2 HX HC
 go_wp2_with fail
 refine (HN.out _).mono ?_
 rintro e w3 ⟨rfl, b3⟩
 have HX3 : Hid (BX w w3 tk0 0 0) := HX2.out.below b3
 clear b3 HX2 HN
 obtain ⟨f0, f1', f2', f3, f4, f5, f6, f7, f8, g0, g1⟩ := HX3.out.fz
 obtain ⟨c0, c1, c2, c3, c4, c5, c6, c7, c8, d0, d1⟩ := HX3.out.cells
 generalize zcq s b d = r at *
 cases r with
 | inl t =>
  unfold zaP
  go_wp2_with fail
  have HP := HX3.out.put t 0 0
  exact zag rfl rfl rfl rfl HP ⟨by rw [HE.out]; rfl, HP.b⟩
 | inr q =>
  unfold zaP
  go_wp2_with fail
  have HP := HX3.out.put tk0 q.1 q.2
  exact zag rfl rfl rfl rfl HP ⟨by rw [HE.out]; rfl, HP.b⟩
theorem zmV (s : ByteArray) (b : Nat) (hs : s.size <= 140737488355000) (hb : b <= s.size) (h0 : ¬ (zai s b).1 = 0) (h1 : ¬ (zai s b).1 = 13) (h2 : ¬ (zai s b).1 = 14) (h3 : ¬ (zai s b).1 = 15) (h4 : ¬ (zai s b).1 = 21) (w : World) (hg : SG w) : Calls Tryz.prog 117 #[.string s, .int .i64 b] w fun e w' => e = .returned (zaP (zbk s b)) /\ Below w.heap.size w w' := by
 have HC : Hid (Calls Tryz.prog 142 #[.string s, .int .i64 b] ((w.alloc (tkO tk0)).alloc (fxO 0 0)) fun e w' => e = .returned (.agg #[.int .i64 (zai s b).1, .string ⟨(zai s b).2.toArray⟩]) /\ Below ((w.alloc (tkO tk0)).alloc (fxO 0 0)).heap.size ((w.alloc (tkO tk0)).alloc (fxO 0 0)) w') := zaR s b hb _ ((hg.later (zaa _ _)).later (zaa _ _))
 have HX : Hid (BX w ((w.alloc (tkO tk0)).alloc (fxO 0 0)) tk0 0 0) := BX.new w
 have hln := zbA s b hb
 have hz : (⟨(zai s b).2.toArray⟩ : ByteArray).size = (zai s b).2.length := by show (zai s b).2.toArray.size = _; simp
 have HE : Hid (zbk s b = .inl ⟨(zai s b).1, 0, b, (b + (zai s b).2.length : Nat), ⟨#[]⟩, 0, 0, 0, 0⟩) := by show zbk s b = _; unfold zbk; rw [if_neg h0, if_neg (by omega), if_neg h4]
 generalize ByteArray.mk (zai s b).2.toArray = tx at *
 generalize (zai s b).2.length = n at *
 generalize (zai s b).1 = k at *
 obtain ⟨d, hd⟩ : ∃ d, d = b + n := ⟨_, rfl⟩
 rw [<- hd] at HE hln
 have u1 : IntKind.i64.wrap ((b : Int) + (tx.size : Int)) = (d : Int) := by rw [IntKind.wrap_i64]; omega
 clear hd hz hln
 have v0 : (k == 0) = false := bF h0
 have v1 : (k == 13) = false := bF h1
 have v2 : (k == 14) = false := bF h2
 have v3 : (k == 15) = false := bF h3
 have v4 : (k == 21) = false := bF h4
 clear h0 h1 h2 h3 h4
 go_enter Tryz.func117, Tryz.ntmps117
 go_wp2_with fail
 refine HC.out.mono ?_
 rintro e w2 ⟨rfl, b2⟩
 have HX2 : Hid (BX w w2 tk0 0 0) := HX.out.below b2
 clear b2 HX HC
 obtain ⟨f0, f1', f2', f3, f4, f5, f6, f7, f8, g0, g1⟩ := HX2.out.fz
 obtain ⟨c0, c1, c2, c3, c4, c5, c6, c7, c8, d0, d1⟩ := HX2.out.cells
 have hsz2 := HX2.out.size
 have hl1 : w.heap.size < w2.heap.size := by omega
 have hne1 : w.heap.size ≠ w2.heap.size := by omega
 have hne2 : w.heap.size + 1 ≠ w2.heap.size := by omega
 go_wp2_with fail
 have HP := (HX2.out.put ⟨k, 0, b, d, ⟨#[]⟩, 0, 0, 0, 0⟩ 0 0).below (zaa _ (.cells #[.int .i64 k, .string tx] 169))
 exact zag rfl rfl rfl rfl HP ⟨by rw [HE.out]; rfl, HP.b⟩
theorem zdP (s : ByteArray) (b : Nat) (hs : s.size <= 140737488355000) (hb : b <= s.size) (w : World) (hg : SG w) : Calls Tryz.prog 117 #[.string s, .int .i64 b] w fun e w' => e = .returned (zaP (zbk s b)) /\ Below w.heap.size w w' := by
 by_cases h0 : (zai s b).1 = 0
 ·exact zpJ s b hs hb h0 w hg
 by_cases h1 : (zai s b).1 = 13
 ·exact zmS s b hs hb h1 w hg
 by_cases h2 : (zai s b).1 = 14
 ·exact zmT s b hs hb h2 w hg
 by_cases h3 : (zai s b).1 = 15
 ·exact zpK s b hs hb h3 w hg
 by_cases h4 : (zai s b).1 = 21
 ·exact zmU s b hs hb h4 w hg
 ·exact zmV s b hs hb h0 h1 h2 h3 h4 w hg
theorem zpL (w : World) :
  Calls Tryz.prog 161 #[.int .u8 97] w fun e w' => e = .returned (.tuple #[sv (spn 65 90 ||| spn 97 122), .int .i64 0]) /\ Below w.heap.size w w' := by
 have HH := hO (Holds.zero w)
 have HR := hO (zaS w z4)
 have HQ : Hid (Below (w.heap.size + 1) (w.alloc z4) (w.alloc z4)) := Below.refl _ _
 go_enter Tryz.func161, Tryz.ntmps161
 go_wp2_with fail
 refine (zei _).mono ?_
 rintro e w1 ⟨rfl, hb⟩
 replace HQ := (show Hid _ from HQ.out.trans (hb.mono (by first | exact HQ.out.size | (have h := HQ.out.size; simp at h; omega) | simp)))
 have HR1 := hO (HR.out.trans (HQ.out.mono (by omega)))
 obtain ⟨l0, c0, c1, c2, c3, f0, f1, f2, f3⟩ := HH.out.below HQ.out (by omega)
 generalize hr : spn 65 90 ||| spn 97 122 = r
 have Hr := hO hr
 clear hr
 go_wp2
 exact bodyPost_ret (v := .tuple #[sv r, .int .i64 0]) (by simp [results, Tryz.results161, go_sem, *]) rfl ⟨by rw [Hr.out], (((HR1.out.setCell (by simp) _).setCell (by simp) _).setCell (by simp) _).setCell (by simp) _⟩
theorem zpM (w : World) :
  Calls Tryz.prog 161 #[.int .u8 99] w fun e w' => e = .returned (.tuple #[sv (spn 0 31 ||| bt 127), .int .i64 0]) /\ Below w.heap.size w w' := by
 have HH := hO (Holds.zero w)
 have HR := hO (zaS w z4)
 have HQ : Hid (Below (w.heap.size + 1) (w.alloc z4) (w.alloc z4)) := Below.refl _ _
 go_enter Tryz.func161, Tryz.ntmps161
 go_wp2_with fail
 refine (zav 0 31 _ (by omega) (by omega) (by omega)).mono ?_
 rintro e w1 ⟨rfl, hb⟩
 replace HQ := (show Hid _ from HQ.out.trans (hb.mono (by first | exact HQ.out.size | (have h := HQ.out.size; simp at h; omega) | simp)))
 go_wp2_with fail
 refine (zfk _ 127 _ (by omega) (by omega)).mono ?_
 rintro e w1 ⟨rfl, hb⟩
 replace HQ := (show Hid _ from HQ.out.trans (hb.mono (by first | exact HQ.out.size | (have h := HQ.out.size; simp at h; omega) | simp)))
 rw [show (127 : Int).toNat = 127 from rfl]
 have HR1 := hO (HR.out.trans (HQ.out.mono (by omega)))
 obtain ⟨l0, c0, c1, c2, c3, f0, f1, f2, f3⟩ := HH.out.below HQ.out (by omega)
 generalize hr : spn 0 31 ||| bt 127 = r
 have Hr := hO hr
 clear hr
 go_wp2
 exact bodyPost_ret (v := .tuple #[sv r, .int .i64 0]) (by simp [results, Tryz.results161, go_sem, *]) rfl ⟨by rw [Hr.out], (((HR1.out.setCell (by simp) _).setCell (by simp) _).setCell (by simp) _).setCell (by simp) _⟩
theorem zmW (w : World) :
  Calls Tryz.prog 161 #[.int .u8 100] w fun e w' => e = .returned (.tuple #[sv (spn 48 57), .int .i64 0]) /\ Below w.heap.size w w' := by
 have HH := hO (Holds.zero w)
 have HR := hO (zaS w z4)
 have HQ : Hid (Below (w.heap.size + 1) (w.alloc z4) (w.alloc z4)) := Below.refl _ _
 go_enter Tryz.func161, Tryz.ntmps161
 go_wp2_with fail
 refine (zav 48 57 _ (by omega) (by omega) (by omega)).mono ?_
 rintro e w1 ⟨rfl, hb⟩
 replace HQ := (show Hid _ from HQ.out.trans (hb.mono (by first | exact HQ.out.size | (have h := HQ.out.size; simp at h; omega) | simp)))
 have HR1 := hO (HR.out.trans (HQ.out.mono (by omega)))
 obtain ⟨l0, c0, c1, c2, c3, f0, f1, f2, f3⟩ := HH.out.below HQ.out (by omega)
 generalize hr : spn 48 57 = r
 have Hr := hO hr
 clear hr
 go_wp2
 exact bodyPost_ret (v := .tuple #[sv r, .int .i64 0]) (by simp [results, Tryz.results161, go_sem, *]) rfl ⟨by rw [Hr.out], (((HR1.out.setCell (by simp) _).setCell (by simp) _).setCell (by simp) _).setCell (by simp) _⟩
theorem zmX (w : World) :
  Calls Tryz.prog 161 #[.int .u8 103] w fun e w' => e = .returned (.tuple #[sv (spn 33 126), .int .i64 0]) /\ Below w.heap.size w w' := by
 have HH := hO (Holds.zero w)
 have HR := hO (zaS w z4)
 have HQ : Hid (Below (w.heap.size + 1) (w.alloc z4) (w.alloc z4)) := Below.refl _ _
 go_enter Tryz.func161, Tryz.ntmps161
 go_wp2_with fail
 refine (zav 33 126 _ (by omega) (by omega) (by omega)).mono ?_
 rintro e w1 ⟨rfl, hb⟩
 replace HQ := (show Hid _ from HQ.out.trans (hb.mono (by first | exact HQ.out.size | (have h := HQ.out.size; simp at h; omega) | simp)))
 have HR1 := hO (HR.out.trans (HQ.out.mono (by omega)))
 obtain ⟨l0, c0, c1, c2, c3, f0, f1, f2, f3⟩ := HH.out.below HQ.out (by omega)
 generalize hr : spn 33 126 = r
 have Hr := hO hr
 clear hr
 go_wp2
 exact bodyPost_ret (v := .tuple #[sv r, .int .i64 0]) (by simp [results, Tryz.results161, go_sem, *]) rfl ⟨by rw [Hr.out], (((HR1.out.setCell (by simp) _).setCell (by simp) _).setCell (by simp) _).setCell (by simp) _⟩
theorem zmY (w : World) :
  Calls Tryz.prog 161 #[.int .u8 108] w fun e w' => e = .returned (.tuple #[sv (spn 97 122), .int .i64 0]) /\ Below w.heap.size w w' := by
 have HH := hO (Holds.zero w)
 have HR := hO (zaS w z4)
 have HQ : Hid (Below (w.heap.size + 1) (w.alloc z4) (w.alloc z4)) := Below.refl _ _
 go_enter Tryz.func161, Tryz.ntmps161
 go_wp2_with fail
 refine (zav 97 122 _ (by omega) (by omega) (by omega)).mono ?_
 rintro e w1 ⟨rfl, hb⟩
 replace HQ := (show Hid _ from HQ.out.trans (hb.mono (by first | exact HQ.out.size | (have h := HQ.out.size; simp at h; omega) | simp)))
 have HR1 := hO (HR.out.trans (HQ.out.mono (by omega)))
 obtain ⟨l0, c0, c1, c2, c3, f0, f1, f2, f3⟩ := HH.out.below HQ.out (by omega)
 generalize hr : spn 97 122 = r
 have Hr := hO hr
 clear hr
 go_wp2
 exact bodyPost_ret (v := .tuple #[sv r, .int .i64 0]) (by simp [results, Tryz.results161, go_sem, *]) rfl ⟨by rw [Hr.out], (((HR1.out.setCell (by simp) _).setCell (by simp) _).setCell (by simp) _).setCell (by simp) _⟩
theorem zmZ (w : World) :
  Calls Tryz.prog 161 #[.int .u8 112] w fun e w' => e = .returned (.tuple #[sv (spn 33 126 &&& ~~~ (spn 65 90 ||| spn 97 122 ||| spn 48 57)), .int .i64 0]) /\ Below w.heap.size w w' := by
 have HH := hO (Holds.zero w)
 have HR := hO (zaS w z4)
 have HQ : Hid (Below (w.heap.size + 1) (w.alloc z4) (w.alloc z4)) := Below.refl _ _
 go_enter Tryz.func161, Tryz.ntmps161
 go_wp2_with fail
 refine (zav 33 126 _ (by omega) (by omega) (by omega)).mono ?_
 rintro e w1 ⟨rfl, hb⟩
 replace HQ := (show Hid _ from HQ.out.trans (hb.mono (by first | exact HQ.out.size | (have h := HQ.out.size; simp at h; omega) | simp)))
 go_wp2_with fail
 refine (zcb _).mono ?_
 rintro e w1 ⟨rfl, hb⟩
 replace HQ := (show Hid _ from HQ.out.trans (hb.mono (by first | exact HQ.out.size | (have h := HQ.out.size; simp at h; omega) | simp)))
 go_wp2_with fail
 refine (zmm _ _ _).mono ?_
 rintro e w1 ⟨rfl, hb⟩
 replace HQ := (show Hid _ from HQ.out.trans (hb.mono (by first | exact HQ.out.size | (have h := HQ.out.size; simp at h; omega) | simp)))
 have HR1 := hO (HR.out.trans (HQ.out.mono (by omega)))
 obtain ⟨l0, c0, c1, c2, c3, f0, f1, f2, f3⟩ := HH.out.below HQ.out (by omega)
 generalize hr : spn 33 126 &&& ~~~ (spn 65 90 ||| spn 97 122 ||| spn 48 57) = r
 have Hr := hO hr
 clear hr
 go_wp2
 exact bodyPost_ret (v := .tuple #[sv r, .int .i64 0]) (by simp [results, Tryz.results161, go_sem, *]) rfl ⟨by rw [Hr.out], (((HR1.out.setCell (by simp) _).setCell (by simp) _).setCell (by simp) _).setCell (by simp) _⟩
theorem zm0 (w : World) :
  Calls Tryz.prog 161 #[.int .u8 115] w fun e w' => e = .returned (.tuple #[sv (spn 9 13 ||| bt 32), .int .i64 0]) /\ Below w.heap.size w w' := by
 have HH := hO (Holds.zero w)
 have HR := hO (zaS w z4)
 have HQ : Hid (Below (w.heap.size + 1) (w.alloc z4) (w.alloc z4)) := Below.refl _ _
 go_enter Tryz.func161, Tryz.ntmps161
 go_wp2_with fail
 refine (zav 9 13 _ (by omega) (by omega) (by omega)).mono ?_
 rintro e w1 ⟨rfl, hb⟩
 replace HQ := (show Hid _ from HQ.out.trans (hb.mono (by first | exact HQ.out.size | (have h := HQ.out.size; simp at h; omega) | simp)))
 go_wp2_with fail
 refine (zfk _ 32 _ (by omega) (by omega)).mono ?_
 rintro e w1 ⟨rfl, hb⟩
 replace HQ := (show Hid _ from HQ.out.trans (hb.mono (by first | exact HQ.out.size | (have h := HQ.out.size; simp at h; omega) | simp)))
 rw [show (32 : Int).toNat = 32 from rfl]
 have HR1 := hO (HR.out.trans (HQ.out.mono (by omega)))
 obtain ⟨l0, c0, c1, c2, c3, f0, f1, f2, f3⟩ := HH.out.below HQ.out (by omega)
 generalize hr : spn 9 13 ||| bt 32 = r
 have Hr := hO hr
 clear hr
 go_wp2
 exact bodyPost_ret (v := .tuple #[sv r, .int .i64 0]) (by simp [results, Tryz.results161, go_sem, *]) rfl ⟨by rw [Hr.out], (((HR1.out.setCell (by simp) _).setCell (by simp) _).setCell (by simp) _).setCell (by simp) _⟩
theorem zm1 (w : World) :
  Calls Tryz.prog 161 #[.int .u8 117] w fun e w' => e = .returned (.tuple #[sv (spn 65 90), .int .i64 0]) /\ Below w.heap.size w w' := by
 have HH := hO (Holds.zero w)
 have HR := hO (zaS w z4)
 have HQ : Hid (Below (w.heap.size + 1) (w.alloc z4) (w.alloc z4)) := Below.refl _ _
 go_enter Tryz.func161, Tryz.ntmps161
 go_wp2_with fail
 refine (zav 65 90 _ (by omega) (by omega) (by omega)).mono ?_
 rintro e w1 ⟨rfl, hb⟩
 replace HQ := (show Hid _ from HQ.out.trans (hb.mono (by first | exact HQ.out.size | (have h := HQ.out.size; simp at h; omega) | simp)))
 have HR1 := hO (HR.out.trans (HQ.out.mono (by omega)))
 obtain ⟨l0, c0, c1, c2, c3, f0, f1, f2, f3⟩ := HH.out.below HQ.out (by omega)
 generalize hr : spn 65 90 = r
 have Hr := hO hr
 clear hr
 go_wp2
 exact bodyPost_ret (v := .tuple #[sv r, .int .i64 0]) (by simp [results, Tryz.results161, go_sem, *]) rfl ⟨by rw [Hr.out], (((HR1.out.setCell (by simp) _).setCell (by simp) _).setCell (by simp) _).setCell (by simp) _⟩
theorem zm2 (w : World) :
  Calls Tryz.prog 161 #[.int .u8 119] w fun e w' => e = .returned (.tuple #[sv (spn 65 90 ||| spn 97 122 ||| spn 48 57), .int .i64 0]) /\ Below w.heap.size w w' := by
 have HH := hO (Holds.zero w)
 have HR := hO (zaS w z4)
 have HQ : Hid (Below (w.heap.size + 1) (w.alloc z4) (w.alloc z4)) := Below.refl _ _
 go_enter Tryz.func161, Tryz.ntmps161
 go_wp2_with fail
 refine (zcb _).mono ?_
 rintro e w1 ⟨rfl, hb⟩
 replace HQ := (show Hid _ from HQ.out.trans (hb.mono (by first | exact HQ.out.size | (have h := HQ.out.size; simp at h; omega) | simp)))
 have HR1 := hO (HR.out.trans (HQ.out.mono (by omega)))
 obtain ⟨l0, c0, c1, c2, c3, f0, f1, f2, f3⟩ := HH.out.below HQ.out (by omega)
 generalize hr : spn 65 90 ||| spn 97 122 ||| spn 48 57 = r
 have Hr := hO hr
 clear hr
 go_wp2
 exact bodyPost_ret (v := .tuple #[sv r, .int .i64 0]) (by simp [results, Tryz.results161, go_sem, *]) rfl ⟨by rw [Hr.out], (((HR1.out.setCell (by simp) _).setCell (by simp) _).setCell (by simp) _).setCell (by simp) _⟩
theorem zm3 (w : World) :
  Calls Tryz.prog 161 #[.int .u8 120] w fun e w' => e = .returned (.tuple #[sv (spn 48 57 ||| spn 65 70 ||| spn 97 102), .int .i64 0]) /\ Below w.heap.size w w' := by
 have HH := hO (Holds.zero w)
 have HR := hO (zaS w z4)
 have HQ : Hid (Below (w.heap.size + 1) (w.alloc z4) (w.alloc z4)) := Below.refl _ _
 go_enter Tryz.func161, Tryz.ntmps161
 go_wp2_with fail
 refine (zav 48 57 _ (by omega) (by omega) (by omega)).mono ?_
 rintro e w1 ⟨rfl, hb⟩
 replace HQ := (show Hid _ from HQ.out.trans (hb.mono (by first | exact HQ.out.size | (have h := HQ.out.size; simp at h; omega) | simp)))
 go_wp2_with fail
 refine (zcO _ 65 70 _ (by omega) (by omega) (by omega)).mono ?_
 rintro e w1 ⟨rfl, hb⟩
 replace HQ := (show Hid _ from HQ.out.trans (hb.mono (by first | exact HQ.out.size | (have h := HQ.out.size; simp at h; omega) | simp)))
 go_wp2_with fail
 refine (zcO _ 97 102 _ (by omega) (by omega) (by omega)).mono ?_
 rintro e w1 ⟨rfl, hb⟩
 replace HQ := (show Hid _ from HQ.out.trans (hb.mono (by first | exact HQ.out.size | (have h := HQ.out.size; simp at h; omega) | simp)))
 have HR1 := hO (HR.out.trans (HQ.out.mono (by omega)))
 obtain ⟨l0, c0, c1, c2, c3, f0, f1, f2, f3⟩ := HH.out.below HQ.out (by omega)
 generalize hr : spn 48 57 ||| spn 65 70 ||| spn 97 102 = r
 have Hr := hO hr
 clear hr
 go_wp2
 exact bodyPost_ret (v := .tuple #[sv r, .int .i64 0]) (by simp [results, Tryz.results161, go_sem, *]) rfl ⟨by rw [Hr.out], (((HR1.out.setCell (by simp) _).setCell (by simp) _).setCell (by simp) _).setCell (by simp) _⟩
theorem zkx (n : Int) (w : World) (h97 : (n == 97) = false) (h99 : (n == 99) = false) (h100 : (n == 100) = false) (h103 : (n == 103) = false) (h108 : (n == 108) = false) (h112 : (n == 112) = false) (h115 : (n == 115) = false) (h117 : (n == 117) = false) (h119 : (n == 119) = false) (h120 : (n == 120) = false) :
  Calls Tryz.prog 161 #[.int .u8 n] w fun e w' => e = .returned (.tuple #[sv 0#256, .int .i64 10]) /\ Below w.heap.size w w' := by
 have HR := hO (zaS w z4)
 go_enter Tryz.func161, Tryz.ntmps161
 go_wp2
 exact bodyPost_ret (v := .tuple #[sv 0#256, .int .i64 10]) (by simp [results, Tryz.results161, go_sem, zah]) rfl ⟨rfl, HR.out⟩
theorem zew (n : Nat) (w : World) :
  Calls Tryz.prog 161 #[.int .u8 n] w fun e w' => e = .returned (.tuple #[sv (sml n).1, .int .i64 (sml n).2]) /\ Below w.heap.size w w' := by
 by_cases h97 : n = 97
 ·subst h97; rw [sml97]; exact zpL w
 by_cases h99 : n = 99
 ·subst h99; rw [sml99]; exact zpM w
 by_cases h100 : n = 100
 ·subst h100; rw [znW]; exact zmW w
 by_cases h103 : n = 103
 ·subst h103; rw [znX]; exact zmX w
 by_cases h108 : n = 108
 ·subst h108; rw [znY]; exact zmY w
 by_cases h112 : n = 112
 ·subst h112; rw [znZ]; exact zmZ w
 by_cases h115 : n = 115
 ·subst h115; rw [zn0]; exact zm0 w
 by_cases h117 : n = 117
 ·subst h117; rw [zn1]; exact zm1 w
 by_cases h119 : n = 119
 ·subst h119; rw [zn2]; exact zm2 w
 by_cases h120 : n = 120
 ·subst h120; rw [zn3]; exact zm3 w
 rw [zhV n h97 h99 h100 h103 h108 h112 h115 h117 h119 h120]
 exact zkx n w (bF (by omega)) (bF (by omega)) (bF (by omega)) (bF (by omega)) (bF (by omega)) (bF (by omega)) (bF (by omega)) (bF (by omega)) (bF (by omega)) (bF (by omega))
theorem zky (n : Nat) (h : ¬ (65 <= n /\ n <= 90)) : cls n = sml n := by unfold cls; rw [if_neg h]
theorem zpN (n : Nat) (h : 65 <= n /\ n <= 90) (he : (sml (n + 32)).2 = 0) : cls n = (~~~ (sml (n + 32)).1, 0) := by unfold cls; rw [if_pos h, if_pos he]
theorem cls_no (n : Nat) (h : 65 <= n /\ n <= 90) (he : (sml (n + 32)).2 = 10) : cls n = (0#256, 10) := by
 unfold cls; rw [if_pos h, if_neg (by omega), he]
theorem zcS {B : Nat} {w w' : World} {b : Nat} (h : Below B w w') (hb : B <= b) (y : BitVec 256) : Below B w (put4 w' b y) :=
 (((h.setCell hb _).setCell hb _).setCell hb _).setCell hb _
theorem zex (n : Nat) (hn : n < 256) (w : World) :
  Calls Tryz.prog 143 #[.int .u8 n] w fun e w' => e = .returned (.tuple #[sv (cls n).1, .int .i64 (cls n).2]) /\ Below w.heap.size w w' := by
 have HH := hO (Holds.zero w)
 have HR := hO (zaS w z4)
 have hw8 : IntKind.i64.wrap (n : Int) = (n : Int) := by rw [IntKind.wrap_i64]; omega
 by_cases hc : 65 <= n /\ n <= 90
 ·have hcap : zoR (n : Int) = true := by simp [zoR]; omega
  have hn1 : (n : Int) <= 90 := by omega
  have Hc := hO hc
  clear hc
  rcases zoT (n + 32) with he | he
  ·have HE := hO (zpN n Hc.out he)
   go_enter Tryz.func143, Tryz.ntmps143
   go_wp2_with fail
   refine (zcn _ _).mono ?_
   rintro e w1 ⟨rfl, rfl⟩
   go_wp2_with fail
   rw [show (n : Int) + 32 = ((n + 32 : Nat) : Int) from by omega]
   refine (zew (n + 32) _).mono ?_
   rintro e w1 ⟨rfl, hb⟩
   have hl : w.heap.size < w1.heap.size := by have h := hb.size; simp at h; omega
   have HR1 := hO (HR.out.trans (hb.mono (by simp)))
   have HH1 := hO (HH.out.below hb (by simp))
   rw [he]
   clear he hb HH HR
   generalize (sml (n + 32)).1 = r at *
   go_wp2_with fail
   refine (zfl r _).mono ?_
   rintro e w2 ⟨rfl, hb⟩
   have HR2 := hO ((HR1.out.alloc (by omega) (c4 r)).trans (hb.mono (by simp; omega)))
   have hl2 : w.heap.size < w2.heap.size := by have h := hb.size; simp at h; omega
   obtain ⟨l0, c0, c1, c2, c3, f0, f1, f2, f3⟩ := (HH1.out.alloc (c4 r)).below hb (by simp; omega)
   generalize hr : ~~~ r = q at *
   clear hr hb
   go_wp2
   rw [HE.out]
   refine bodyPost_ret (v := .tuple #[sv q, .int .i64 0]) (by simp [results, Tryz.results143, go_sem, *]) rfl ⟨rfl, zcS HR2.out (Nat.le_refl _) _⟩
  ·have HE := hO (cls_no n Hc.out he)
   go_enter Tryz.func143, Tryz.ntmps143
   go_wp2_with fail
   refine (zcn _ _).mono ?_
   rintro e w1 ⟨rfl, rfl⟩
   go_wp2_with fail
   rw [show (n : Int) + 32 = ((n + 32 : Nat) : Int) from by omega]
   refine (zew (n + 32) _).mono ?_
   rintro e w1 ⟨rfl, hb⟩
   have hl : w.heap.size < w1.heap.size := by have h := hb.size; simp at h; omega
   have HR1 := hO (HR.out.trans (hb.mono (by simp)))
   obtain ⟨l0, c0, c1, c2, c3, f0, f1, f2, f3⟩ := HH.out.below hb (by simp)
   rw [he]
   clear he hb HH HR
   generalize (sml (n + 32)).1 = r at *
   go_wp2
   rw [HE.out]
   refine bodyPost_ret (v := .tuple #[sv 0#256, .int .i64 10]) (by simp [results, Tryz.results143, go_sem, zah, *]) rfl ⟨rfl, ?_⟩
   repeat (first | exact HR1.out | (refine Below.setCell ?_ (by first | omega | (simp <;> omega)) _) | (refine Below.alloc ?_ (by first | omega | (simp <;> omega)) _))
 ·have hcap : zoR (n : Int) = false := by simp [zoR]; omega
  have HE := hO (zky n hc)
  clear hc
  go_enter Tryz.func143, Tryz.ntmps143
  go_wp2_with fail
  refine (zcn _ _).mono ?_
  rintro e w1 ⟨rfl, rfl⟩
  go_wp2_with fail
  refine (zew n _).mono ?_
  rintro e w1 ⟨rfl, hb⟩
  have hl : w.heap.size < w1.heap.size := by have h := hb.size; simp at h; omega
  have HR1 := hO (HR.out.trans (hb.mono (by simp)))
  obtain ⟨l0, c0, c1, c2, c3, f0, f1, f2, f3⟩ := HH.out.below hb (by simp)
  clear hb HH HR
  generalize sml n = rq at *
  obtain ⟨r, q⟩ := rq
  dsimp only
  go_wp2
  refine bodyPost_ret (v := .tuple #[sv r, .int .i64 q]) (by simp [results, Tryz.results143, go_sem, *]) rfl ⟨by rw [HE.out], zcS HR1.out (Nat.le_refl _) _⟩
theorem below_drewN {B : Nat} {a w : World} (h : Below B a w) (n : Nat) : Below B a (w.drewN n) := by
 induction n with
 | zero => exact h
 | succ n ih => exact ih.drew
def mbV : Rd (BitVec 256 × Nat) -> Value
 | .inl (x, n) => .tuple #[sv x, .int .i64 n, .agg #[.int .i64 0, .int .i64 0]]
 | .inr (a, c) => .tuple #[sv 0#256, .int .i64 0, .agg #[.int .i64 a, .int .i64 c]]
structure FHolds (w : World) (b : Nat) (p q : Int) : Prop where
 lt : b < w.heap.size
 c0 : w.cell? ⟨b, 0, none⟩ = some (.int .i64 p)
 c1 : w.cell? ⟨b, 1, none⟩ = some (.int .i64 q)
 f0 : w.frozen? ⟨b, 0, none⟩ = false
 f1 : w.frozen? ⟨b, 1, none⟩ = false
theorem FHolds.below {B : Nat} {w w' : World} {b : Nat} {p q : Int} (h : FHolds w b p q) (hb : Below B w w') (hB : b < B) : FHolds w' b p q :=
 ⟨Nat.lt_of_lt_of_le h.lt hb.size, (hb.cell (p := ⟨b, 0, none⟩) hB).trans h.c0, (hb.cell (p := ⟨b, 1, none⟩) hB).trans h.c1, (hb.frozen (p := ⟨b, 0, none⟩) hB).trans h.f0, (hb.frozen (p := ⟨b, 1, none⟩) hB).trans h.f1⟩
theorem FHolds.new (w : World) (p q : Int) : FHolds (w.alloc (.cells #[.int .i64 p, .int .i64 q] 39)) w.heap.size p q := by
 constructor <;> simp [go_sem]
abbrev fz : Obj := .cells #[.int .i64 0, .int .i64 0] 39
theorem zcH (w : World) : Holds ((w.alloc z4).alloc fz) w.heap.size 0#256 /\ FHolds ((w.alloc z4).alloc fz) (w.heap.size + 1) 0 0 /\ Below w.heap.size w ((w.alloc z4).alloc fz) := by
 refine ⟨(Holds.zero w).alloc _, ?_, ((Below.refl _ _).alloc (Nat.le_refl _) _).alloc (by simp) _⟩
 have h := FHolds.new (w.alloc z4) 0 0
 rw [show (w.alloc z4).heap.size = w.heap.size + 1 from by simp] at h
 exact h
theorem zaA {B : Nat} {w w' : World} {b c : Nat} {x0 x1 x2 x3 y0 y1 : Value} (h : Below B w w') (hb : B <= b) (hc : B <= c) :
  Below B w ((((((w'.setCell ⟨b, 0, none⟩ x0).setCell ⟨b, 1, none⟩ x1).setCell ⟨b, 2, none⟩ x2).setCell ⟨b, 3, none⟩ x3).setCell ⟨c, 0, none⟩ y0).setCell ⟨c, 1, none⟩ y1) :=
 (((((h.setCell hb _).setCell hb _).setCell hb _).setCell hb _).setCell hc _).setCell hc _
theorem zm4 (w : World) (p : Addr) (v : Value) : (w.setCell p v).heap.size = w.heap.size := by simp [World.setCell]
theorem zgq {w' : World} {b c : Nat} {x0 x1 x2 x3 y0 y1 : Value} :
  ((((((w'.setCell ⟨b, 0, none⟩ x0).setCell ⟨b, 1, none⟩ x1).setCell ⟨b, 2, none⟩ x2).setCell ⟨b, 3, none⟩ x3).setCell ⟨c, 0, none⟩ y0).setCell ⟨c, 1, none⟩ y1).heap.size = w'.heap.size := by
 simp only [zm4]
theorem zfJ (s : ByteArray) (i : Nat) (hi : i <= s.size) (hs : s.size <= 140737488355328) (w : World) :
  Calls Tryz.prog 198 #[.string s, .int .i64 i] w fun e w' => e = .returned (mbV (za1 s i)) /\ Below w.heap.size w w' := by
 obtain ⟨q1, q2, q3⟩ := zcH w
 have HH := hO q1
 have HG := hO q2
 have HR := hO q3
 clear q1 q2 q3
 by_cases h : i + 1 < s.size
 ·have hb : s[i + 1].toNat < 256 := s[i + 1].toNat_lt
  have HX : Hid (∀ w, Calls Tryz.prog 143 #[.int .u8 (s[i + 1].toNat : Int)] w fun e w' => e = .returned (.tuple #[sv (cls s[i + 1].toNat).1, .int .i64 (cls s[i + 1].toNat).2]) /\ Below w.heap.size w w') := fun w => zex _ hb w
  by_cases hc : (cls s[i + 1].toNat).2 = 0
  ·have HF : Hid (za1 s i = .inl ((cls s[i + 1].toNat).1, i + 2)) := (by show za1 s i = _; unfold za1; rw [zak h]; rw [if_pos ⟨h, hc⟩]; rfl)
   go_enter Tryz.func198, Tryz.ntmps198
   go_wp2_with fail
   refine (HX.out _).mono ?_
   rintro e w1 ⟨rfl, hb1⟩
   rw [hc]
   have hl : w.heap.size + 1 < w1.heap.size := by have h := hb1.size; simp at h; omega
   have HR1 := hO (HR.out.trans (hb1.mono (by simp; omega)))
   obtain ⟨_, g0, g1, k0, k1⟩ := HG.out.below hb1 (by simp)
   obtain ⟨_, c0, c1, c2, c3, f0, f1, f2, f3⟩ := HH.out.below hb1 (by simp; omega)
   clear hb1 HX hc HH HG HR
   generalize (cls s[i + 1].toNat).1 = r at *
   go_wp2
   rw [HF.out]
   refine bodyPost_ret (v := mbV (.inl (r, i + 2))) (by simp [results, Tryz.results198, go_sem, mbV, zah, *]) rfl ⟨rfl, ?_⟩
   exact (zaA HR1.out (Nat.le_refl _) (by omega)).alloc (by rw [zgq]; omega) _
  ·have HF : Hid (za1 s i = .inr (i, 10)) := (by show za1 s i = _; unfold za1; rw [zak h]; rw [if_neg (fun q => hc q.2)])
   have hc' : ((cls s[i + 1].toNat).2 == 0) = false := bF hc
   clear hc
   go_enter Tryz.func198, Tryz.ntmps198
   go_wp2_with fail
   refine (HX.out _).mono ?_
   rintro e w1 ⟨rfl, hb1⟩
   have hl : w.heap.size + 1 < w1.heap.size := by have h := hb1.size; simp at h; omega
   have HR1 := hO (HR.out.trans (hb1.mono (by simp; omega)))
   obtain ⟨_, g0, g1, k0, k1⟩ := HG.out.below hb1 (by simp)
   obtain ⟨_, c0, c1, c2, c3, f0, f1, f2, f3⟩ := HH.out.below hb1 (by simp; omega)
   clear hb1 HX HH HG HR
   generalize cls s[i + 1].toNat = r at *
   go_wp2
   rw [HF.out]
   refine bodyPost_ret (v := mbV (.inr (i, 10))) (by simp [results, Tryz.results198, go_sem, mbV, zah, *]) rfl ⟨rfl, ?_⟩
   exact (zaA HR1.out (Nat.le_refl _) (by omega)).alloc (by rw [zgq]; omega) _
 ·have HF : Hid (za1 s i = .inr (i, 10)) := (by show za1 s i = _; unfold za1; rw [if_neg (fun q => h q.1)])
  have h1 : ¬ (i : Int) + 1 < (s.size : Int) := by omega
  go_enter Tryz.func198, Tryz.ntmps198
  go_wp2
  rw [HF.out]
  refine bodyPost_ret (v := mbV (.inr (i, 10))) (by simp [results, Tryz.results198, go_sem, mbV, zah, *]) rfl ⟨rfl, ?_⟩
  exact ((Below.refl _ _).alloc (Nat.le_refl _) _).alloc (by simp) _
theorem zgr (s : ByteArray) (i : Nat) (hi : i <= s.size) (hs : s.size <= 140737488355328) (w : World) (hc : (chr s i == 37) = true) :
  Calls Tryz.prog 175 #[.string s, .int .i64 i] w fun e w' => e = .returned (mbV (zad s i)) /\ Below w.heap.size w w' := by
 have HF : Hid (zad s i = za1 s i) := (by show zad s i = _; unfold zad; rw [if_pos (beq_iff_eq.1 hc)])
 obtain ⟨q1, q2, q3⟩ := zcH w
 have HH := hO q1
 have HG := hO q2
 have HR := hO q3
 clear q1 q2 q3
 go_enter Tryz.func175, Tryz.ntmps175
 go_wp2_with fail
 refine (zaf s i 37 (by omega) _).mono ?_
 rintro e w1 ⟨rfl, rfl⟩
 rw [hc]
 clear hc
 go_wp2_with fail
 refine (zfJ s i hi hs _).mono ?_
 rintro e w1 ⟨rfl, hb1⟩
 have hl : w.heap.size + 1 < w1.heap.size := by have h := hb1.size; simp at h; omega
 have HR1 := hO (HR.out.trans (hb1.mono (by simp; omega)))
 obtain ⟨_, g0, g1, k0, k1⟩ := HG.out.below hb1 (by simp)
 obtain ⟨_, c0, c1, c2, c3, f0, f1, f2, f3⟩ := HH.out.below hb1 (by simp; omega)
 clear hb1 HH HG HR
 cases hq : za1 s i with
 | inl p =>
  obtain ⟨y, n⟩ := p
  rw [hq] at HF
  dsimp only [mbV]
  clear hq
  go_wp2
  rw [HF.out]
  refine bodyPost_ret (v := mbV (.inl (y, n))) (by simp [results, Tryz.results175, go_sem, mbV, zah, *]) rfl ⟨rfl, ?_⟩
  exact zaA HR1.out (Nat.le_refl _) (by omega)
 | inr pq =>
  obtain ⟨a, c⟩ := pq
  rw [hq] at HF
  dsimp only [mbV]
  clear hq
  go_wp2
  rw [HF.out]
  refine bodyPost_ret (v := mbV (.inr (a, c))) (by simp [results, Tryz.results175, go_sem, mbV, zah, *]) rfl ⟨rfl, ?_⟩
  exact zaA HR1.out (Nat.le_refl _) (by omega)
theorem zhe (s : ByteArray) (i : Nat) (_hi : i <= s.size) (hs : s.size <= 140737488355328) (w : World) (hc : (chr s i == 37) = false) (h1 : zas s i = none) :
  Calls Tryz.prog 175 #[.string s, .int .i64 i] w fun e w' => e = .returned (mbV (zad s i)) /\ Below w.heap.size w w' := by
 have hn37 : ¬ chr s i = 37 := beq_eq_false_iff_ne.1 hc
 have HF : Hid (zad s i = .inr (i, 6)) := (by show zad s i = _; unfold zad; rw [if_neg hn37, h1])
 clear hn37
 obtain ⟨q1, q2, q3⟩ := zcH w
 have HH := hO q1
 have HG := hO q2
 have HR := hO q3
 clear q1 q2 q3
 go_enter Tryz.func175, Tryz.ntmps175
 go_wp2_with fail
 refine (zaf s i 37 (by omega) _).mono ?_
 rintro e w1 ⟨rfl, rfl⟩
 rw [hc]
 clear hc
 go_wp2_with fail
 refine (zaT s i hs _).mono ?_
 rintro e w1 ⟨rfl, rfl⟩
 rw [h1]
 dsimp only [itV]
 clear h1
 go_wp2
 rw [HF.out]
 refine bodyPost_ret (v := mbV (.inr (i, 6))) (by simp [results, Tryz.results175, go_sem, mbV, zah, *]) rfl ⟨rfl, ?_⟩
 exact ((Below.refl _ _).alloc (Nat.le_refl _) _).alloc (by simp) _
theorem zjc (s : ByteArray) (i : Nat) (_hi : i <= s.size) (hs : s.size <= 140737488355328) (w : World) (hc : (chr s i == 37) = false) (lo n : Nat) (h1 : zas s i = some (lo, n)) (h2 : (chr s n == 45) = false) :
  Calls Tryz.prog 175 #[.string s, .int .i64 i] w fun e w' => e = .returned (mbV (zad s i)) /\ Below w.heap.size w w' := by
 have hn37 : ¬ chr s i = 37 := beq_eq_false_iff_ne.1 hc
 have HF : Hid (zad s i = .inl (spn lo lo, n)) := (by show zad s i = _; unfold zad; rw [if_neg hn37, h1]; exact if_neg (beq_eq_false_iff_ne.1 h2))
 obtain ⟨b1, b2, b3⟩ := za7 h1
 clear hn37
 obtain ⟨q1, q2, q3⟩ := zcH w
 have HH := hO q1
 have HG := hO q2
 have HR := hO q3
 clear q1 q2 q3
 go_enter Tryz.func175, Tryz.ntmps175
 go_wp2_with fail
 refine (zaf s i 37 (by omega) _).mono ?_
 rintro e w1 ⟨rfl, rfl⟩
 rw [hc]
 clear hc
 go_wp2_with fail
 refine (zaT s i hs _).mono ?_
 rintro e w1 ⟨rfl, rfl⟩
 rw [h1]
 dsimp only [itV]
 clear h1
 go_wp2_with fail
 refine (zaf s n 45 (by omega) _).mono ?_
 rintro e w1 ⟨rfl, rfl⟩
 rw [h2]
 clear h2
 go_wp2_with fail
 refine (zav lo lo _ (by omega) (by omega) (by omega)).mono ?_
 rintro e w1 ⟨rfl, hb1⟩
 have hl : w.heap.size + 1 < w1.heap.size := by have h := hb1.size; simp at h; omega
 have HR1 := hO (HR.out.trans (hb1.mono (by simp; omega)))
 obtain ⟨_, g0, g1, k0, k1⟩ := HG.out.below hb1 (by simp)
 obtain ⟨_, c0, c1, c2, c3, f0, f1, f2, f3⟩ := HH.out.below hb1 (by simp; omega)
 clear hb1 HH HG HR
 generalize spn lo lo = y at *
 go_wp2
 rw [HF.out]
 refine bodyPost_ret (v := mbV (.inl (y, n))) (by simp [results, Tryz.results175, go_sem, mbV, zah, *]) rfl ⟨rfl, ?_⟩
 exact zaA HR1.out (Nat.le_refl _) (by omega)
theorem zhf (s : ByteArray) (i : Nat) (_hi : i <= s.size) (hs : s.size <= 140737488355328) (w : World) (hc : (chr s i == 37) = false) (lo n : Nat) (h1 : zas s i = some (lo, n)) (h2 : (chr s n == 45) = true) (h3 : zas s (n + 1) = none) :
  Calls Tryz.prog 175 #[.string s, .int .i64 i] w fun e w' => e = .returned (mbV (zad s i)) /\ Below w.heap.size w w' := by
 have hn37 : ¬ chr s i = 37 := beq_eq_false_iff_ne.1 hc
 have HF : Hid (zad s i = .inr ((n + 1), 6)) := (by show zad s i = _; unfold zad; rw [if_neg hn37, h1]; exact (if_pos (beq_iff_eq.1 h2)).trans (by rw [h3]))
 obtain ⟨b1, b2, b3⟩ := za7 h1
 clear hn37
 obtain ⟨q1, q2, q3⟩ := zcH w
 have HH := hO q1
 have HG := hO q2
 have HR := hO q3
 clear q1 q2 q3
 go_enter Tryz.func175, Tryz.ntmps175
 go_wp2_with fail
 refine (zaf s i 37 (by omega) _).mono ?_
 rintro e w1 ⟨rfl, rfl⟩
 rw [hc]
 clear hc
 go_wp2_with fail
 refine (zaT s i hs _).mono ?_
 rintro e w1 ⟨rfl, rfl⟩
 rw [h1]
 dsimp only [itV]
 clear h1
 go_wp2_with fail
 refine (zaf s n 45 (by omega) _).mono ?_
 rintro e w1 ⟨rfl, rfl⟩
 rw [h2]
 clear h2
 go_wp2_with fail
 rw [show (n : Int) + 1 = ((n + 1 : Nat) : Int) from by omega]
 refine (zaT s (n + 1) hs _).mono ?_
 rintro e w1 ⟨rfl, rfl⟩
 rw [h3]
 dsimp only [itV]
 clear h3
 go_wp2
 rw [HF.out]
 refine bodyPost_ret (v := mbV (.inr ((n + 1), 6))) (by simp [results, Tryz.results175, go_sem, mbV, zah, *]) rfl ⟨rfl, ?_⟩
 exact ((Below.refl _ _).alloc (Nat.le_refl _) _).alloc (by simp) _
theorem zfK (s : ByteArray) (i : Nat) (_hi : i <= s.size) (hs : s.size <= 140737488355328) (w : World) (hc : (chr s i == 37) = false) (lo n hi_ e_ : Nat) (h1 : zas s i = some (lo, n)) (h2 : (chr s n == 45) = true) (h3 : zas s (n + 1) = some (hi_, e_)) (h4 : hi_ < lo) :
  Calls Tryz.prog 175 #[.string s, .int .i64 i] w fun e w' => e = .returned (mbV (zad s i)) /\ Below w.heap.size w w' := by
 have hn37 : ¬ chr s i = 37 := beq_eq_false_iff_ne.1 hc
 have HF : Hid (zad s i = .inr (i, 1)) := (by show zad s i = _; unfold zad; rw [if_neg hn37, h1]; exact (if_pos (beq_iff_eq.1 h2)).trans (by rw [h3]; exact if_pos h4))
 obtain ⟨b1, b2, b3⟩ := za7 h1
 have h5 : (hi_ : Int) < (lo : Int) := by omega
 clear hn37
 obtain ⟨q1, q2, q3⟩ := zcH w
 have HH := hO q1
 have HG := hO q2
 have HR := hO q3
 clear q1 q2 q3
 go_enter Tryz.func175, Tryz.ntmps175
 go_wp2_with fail
 refine (zaf s i 37 (by omega) _).mono ?_
 rintro e w1 ⟨rfl, rfl⟩
 rw [hc]
 clear hc
 go_wp2_with fail
 refine (zaT s i hs _).mono ?_
 rintro e w1 ⟨rfl, rfl⟩
 rw [h1]
 dsimp only [itV]
 clear h1
 go_wp2_with fail
 refine (zaf s n 45 (by omega) _).mono ?_
 rintro e w1 ⟨rfl, rfl⟩
 rw [h2]
 clear h2
 go_wp2_with fail
 rw [show (n : Int) + 1 = ((n + 1 : Nat) : Int) from by omega]
 refine (zaT s (n + 1) hs _).mono ?_
 rintro e w1 ⟨rfl, rfl⟩
 rw [h3]
 dsimp only [itV]
 clear h3
 go_wp2
 rw [HF.out]
 refine bodyPost_ret (v := mbV (.inr (i, 1))) (by simp [results, Tryz.results175, go_sem, mbV, zah, *]) rfl ⟨rfl, ?_⟩
 exact ((Below.refl _ _).alloc (Nat.le_refl _) _).alloc (by simp) _
theorem zhg (s : ByteArray) (i : Nat) (_hi : i <= s.size) (hs : s.size <= 140737488355328) (w : World) (hc : (chr s i == 37) = false) (lo n hi_ e_ : Nat) (h1 : zas s i = some (lo, n)) (h2 : (chr s n == 45) = true) (h3 : zas s (n + 1) = some (hi_, e_)) (h4 : ¬ hi_ < lo) :
  Calls Tryz.prog 175 #[.string s, .int .i64 i] w fun e w' => e = .returned (mbV (zad s i)) /\ Below w.heap.size w w' := by
 have hn37 : ¬ chr s i = 37 := beq_eq_false_iff_ne.1 hc
 have HF : Hid (zad s i = .inl (spn lo hi_, e_)) := (by show zad s i = _; unfold zad; rw [if_neg hn37, h1]; exact (if_pos (beq_iff_eq.1 h2)).trans (by rw [h3]; exact if_neg h4))
 obtain ⟨b1, b2, b3⟩ := za7 h1
 obtain ⟨d1, d2, d3⟩ := za7 h3
 have h5 : ¬ (hi_ : Int) < (lo : Int) := by omega
 clear hn37
 obtain ⟨q1, q2, q3⟩ := zcH w
 have HH := hO q1
 have HG := hO q2
 have HR := hO q3
 clear q1 q2 q3
 go_enter Tryz.func175, Tryz.ntmps175
 go_wp2_with fail
 refine (zaf s i 37 (by omega) _).mono ?_
 rintro e w1 ⟨rfl, rfl⟩
 rw [hc]
 clear hc
 go_wp2_with fail
 refine (zaT s i hs _).mono ?_
 rintro e w1 ⟨rfl, rfl⟩
 rw [h1]
 dsimp only [itV]
 clear h1
 go_wp2_with fail
 refine (zaf s n 45 (by omega) _).mono ?_
 rintro e w1 ⟨rfl, rfl⟩
 rw [h2]
 clear h2
 go_wp2_with fail
 rw [show (n : Int) + 1 = ((n + 1 : Nat) : Int) from by omega]
 refine (zaT s (n + 1) hs _).mono ?_
 rintro e w1 ⟨rfl, rfl⟩
 rw [h3]
 dsimp only [itV]
 clear h3
 go_wp2_with fail
 refine (zav lo hi_ _ (by omega) (by omega) (by omega)).mono ?_
 rintro e w1 ⟨rfl, hb1⟩
 have hl : w.heap.size + 1 < w1.heap.size := by have h := hb1.size; simp at h; omega
 have HR1 := hO (HR.out.trans (hb1.mono (by simp; omega)))
 obtain ⟨_, g0, g1, k0, k1⟩ := HG.out.below hb1 (by simp)
 obtain ⟨_, c0, c1, c2, c3, f0, f1, f2, f3⟩ := HH.out.below hb1 (by simp; omega)
 clear hb1 HH HG HR
 generalize spn lo hi_ = y at *
 go_wp2
 rw [HF.out]
 refine bodyPost_ret (v := mbV (.inl (y, e_))) (by simp [results, Tryz.results175, go_sem, mbV, zah, *]) rfl ⟨rfl, ?_⟩
 exact zaA HR1.out (Nat.le_refl _) (by omega)
theorem zcY (s : ByteArray) (i : Nat) (hi : i <= s.size) (hs : s.size <= 140737488355328) (w : World) :
  Calls Tryz.prog 175 #[.string s, .int .i64 i] w fun e w' => e = .returned (mbV (zad s i)) /\ Below w.heap.size w w' := by
 cases hc : (chr s i == 37)
 ·cases h1 : zas s i with
  | none => exact zhe s i hi hs w hc h1
  | some p =>
   obtain ⟨lo, n⟩ := p
   cases h2 : (chr s n == 45)
   ·exact zjc s i hi hs w hc lo n h1 h2
   ·cases h3 : zas s (n + 1) with
    | none => exact zhf s i hi hs w hc lo n h1 h2 h3
    | some p =>
     obtain ⟨hi_, e_⟩ := p
     by_cases h4 : hi_ < lo
     ·exact zfK s i hi hs w hc lo n hi_ e_ h1 h2 h3 h4
     ·exact zhg s i hi hs w hc lo n hi_ e_ h1 h2 h3 h4
 ·exact zgr s i hi hs w hc
theorem zbq {s : ByteArray} {f : Nat} {x : BitVec 256} {k : Nat} (h : chr s k = 93) : zab s (f + 1) x k = .inl (x, k) := by
 unfold zab; rw [if_pos h]
theorem zbJ {s : ByteArray} {f : Nat} {x : BitVec 256} {k a : Nat} {c : Int} (h : ¬ chr s k = 93) (h1 : zad s k = .inr (a, c)) : zab s (f + 1) x k = .inr (a, c) := by
 rw [zab, if_neg h, h1]
theorem zaH {s : ByteArray} {f : Nat} {x y : BitVec 256} {k n : Nat} (h : ¬ chr s k = 93) (h1 : zad s k = .inl (y, n)) : zab s (f + 1) x k = zab s f (x ||| y) n := by
 rw [zab, if_neg h, h1]
theorem zdq {s : ByteArray} {i a : Nat} {c : Int} (h : zad s i = .inr (a, c)) : (c != 0) = true /\ a <= s.size + i + 1 := by
 unfold zad at h
 split at h
 ·unfold za1 at h
  split at h
  ·simp at h
  ·simp only [Sum.inr.injEq, Prod.mk.injEq] at h; obtain ⟨rfl, rfl⟩ := h; exact ⟨rfl, by omega⟩
 ·split at h
  ·simp only [Sum.inr.injEq, Prod.mk.injEq] at h; obtain ⟨rfl, rfl⟩ := h; exact ⟨rfl, by omega⟩
  ·rename_i lo m hm
   have b1 := za7 hm
   split at h
   ·split at h
    ·simp only [Sum.inr.injEq, Prod.mk.injEq] at h; obtain ⟨rfl, rfl⟩ := h; exact ⟨rfl, by omega⟩
    ·split at h
     ·simp only [Sum.inr.injEq, Prod.mk.injEq] at h; obtain ⟨rfl, rfl⟩ := h; exact ⟨rfl, by omega⟩
     ·simp at h
   ·simp at h
theorem zcZ {s : ByteArray} : ∀ {f : Nat} {x : BitVec 256} {i a : Nat} {c : Int}, zab s f x i = .inr (a, c) -> (c != 0) = true := by
 intro f
 induction f with
 | zero => intro x i a c h; simp only [zab, Sum.inr.injEq, Prod.mk.injEq] at h; obtain ⟨rfl, rfl⟩ := h; rfl
 | succ f ih =>
  intro x i a c h
  by_cases hc : chr s i = 93
  ·rw [zbq hc] at h; simp at h
  ·cases hm : zad s i with
   | inr pq =>
    obtain ⟨a', c'⟩ := pq
    rw [zbJ hc hm] at h; simp only [Sum.inr.injEq, Prod.mk.injEq] at h; obtain ⟨rfl, rfl⟩ := h; exact (zdq hm).1
   | inl p => obtain ⟨y, n⟩ := p; rw [zaH hc hm] at h; exact ih h
theorem zaI {s : ByteArray} : ∀ {f : Nat} {x y : BitVec 256} {i n : Nat}, zab s f x i = .inl (y, n) -> i <= n /\ n < s.size /\ chr s n = 93 := by
 intro f
 induction f with
 | zero => intro x y i n h; simp [zab] at h
 | succ f ih =>
  intro x y i n h
  by_cases hc : chr s i = 93
  ·rw [zbq hc] at h; simp only [Sum.inl.injEq, Prod.mk.injEq] at h; obtain ⟨rfl, rfl⟩ := h; exact ⟨by omega, zaC (by omega), hc⟩
  ·cases hm : zad s i with
   | inr pq =>
    obtain ⟨a', c'⟩ := pq
    rw [zbJ hc hm] at h; simp at h
   | inl p => obtain ⟨y, n⟩ := p; have b := zbP hm; rw [zaH hc hm] at h; have b2 := ih h; exact ⟨by omega, b2.2⟩
theorem boxes3 (w : World) : Holds (((w.alloc z4).alloc fz).alloc z4) w.heap.size 0#256 /\ FHolds (((w.alloc z4).alloc fz).alloc z4) (w.heap.size + 1) 0 0 /\ Holds (((w.alloc z4).alloc fz).alloc z4) (w.heap.size + 1 + 1) 0#256 /\ Below w.heap.size w (((w.alloc z4).alloc fz).alloc z4) := by
 obtain ⟨h1, h2, h3⟩ := zcH w
 have hs : ((w.alloc z4).alloc fz).heap.size = w.heap.size + 1 + 1 := by simp
 refine ⟨h1.alloc _, h2.below (B := w.heap.size + 1 + 1) ((Below.refl _ _).alloc (by rw [hs]; exact Nat.le_refl _) _) (by omega), ?_, h3.alloc (by rw [hs]; omega) _⟩
 have h := Holds.zero ((w.alloc z4).alloc fz)
 rw [hs] at h
 exact h
structure AtM (w wr : World) (x : BitVec 256) : Prop where
 h1 : Holds wr w.heap.size 0#256
 h2 : FHolds wr (w.heap.size + 1) 0 0
 h3 : Holds wr (w.heap.size + 1 + 1) x
 hb : Below w.heap.size w wr
theorem AtM.below {B : Nat} {w wr w1 : World} {x : BitVec 256} (h : AtM w wr x) (hb : Below B wr w1) (hB : w.heap.size + 1 + 1 < B) : AtM w w1 x :=
 ⟨h.h1.below hb (by omega), h.h2.below hb (by omega), h.h3.below hb hB, h.hb.trans (hb.mono (by omega))⟩
theorem FHolds.put_other {w : World} {b c : Nat} {p q : Int} (h : FHolds w c p q) (hne : c ≠ b) (y : BitVec 256) : FHolds (put4 w b y) c p q := by
 obtain ⟨lt, c0, c1, f0, f1⟩ := h
 constructor <;> simp [go_sem, *]
theorem AtM.put {w wr : World} {x : BitVec 256} (h : AtM w wr x) (y : BitVec 256) : AtM w (put4 wr (w.heap.size + 1 + 1) y) y :=
 ⟨h.h1.put_other (by omega) y, h.h2.put_other (by omega) y, h.h3.put y, zcS h.hb (by omega) y⟩
theorem zbr (s : ByteArray) (i : Nat) (hi : i <= s.size) (hs : s.size <= 140737488355328) (w : World) :
  Calls Tryz.prog 158 #[.string s, .int .i64 i] w fun e w' => e = .returned (mbV (zab s (s.size + 1) 0#256 i)) /\ Below w.heap.size w w' := by
 obtain ⟨q1, q2, q3, q4⟩ := boxes3 w
 have HA : Hid (AtM w (((w.alloc z4).alloc fz).alloc z4) 0#256) := ⟨q1, q2, q3, q4⟩
 clear q1 q2 q3 q4
 generalize hR : zab s (s.size + 1) 0#256 i = R
 have HR := hO hR
 clear hR
 go_enter Tryz.func158, Tryz.ntmps158
 go_wp2_with fail
 go_loopw [1] (fun t wr => ∃ k : Nat, ∃ f : Nat, ∃ x : BitVec 256, k <= s.size /\ t = .int .i64 k /\ Hid (s.size + 1 <= f + k) /\ Hid (zab s f x k = R) /\ Hid (AtM w wr x)) (fun t _ => s.size - (intOf t).toNat)
 case atStart => exact ⟨i, s.size + 1, 0#256, hi, rfl, show _ <= _ by omega, HR, HA⟩
 case round =>
  obtain ⟨k, f, x, hk, rfl, hf, hr, ha⟩ := hrel
  obtain ⟨g, rfl⟩ : ∃ g, f = g + 1 := ⟨f - 1, by have h := hf.out; omega⟩
  clear HA HR
  go_wp2_with fail
  refine (zaf s k 93 (by omega) _).mono ?_
  rintro e w1 ⟨rfl, rfl⟩
  cases hc : (chr s k == 93)
  ·have hn : ¬ chr s k = 93 := beq_eq_false_iff_ne.1 hc
   cases hm : zad s k with
   | inl p =>
    obtain ⟨y, n⟩ := p
    obtain ⟨b1, b2⟩ := zbP hm
    have hr' : Hid (zab s g (x ||| y) n = R) := ((zaH hn hm).symm.trans hr.out)
    have hf' : Hid (s.size + 1 <= g + n) := (by have h := hf.out; show _ <= _; omega)
    have HM := hO hm
    clear hn hm hc hr hf
    go_wp2_with fail
    refine (zcY s k hk hs _).mono ?_
    rintro e w1 ⟨rfl, hb1⟩
    rw [HM.out]
    dsimp only [mbV]
    have HA1 := hO (ha.out.below hb1 ha.out.h3.lt)
    clear hb1 ha HM
    have hl : w.heap.size + 1 + 1 < w1.heap.size := HA1.out.h3.lt
    have HA2 : Hid (AtM w ((w1.alloc (c4 y)).alloc fz) x) := HA1.out.below (B := w1.heap.size) (((Below.refl _ _).alloc (Nat.le_refl _) _).alloc (by simp) _) hl
    clear HA1
    obtain ⟨_, c0, c1, c2, c3, f0, f1, f2, f3⟩ := HA2.out.h3
    go_wp2_with fail
    refine (zjG x y _).mono ?_
    rintro e w2 ⟨rfl, hb2⟩
    have HA3 := hO (HA2.out.below hb2 HA2.out.h3.lt)
    clear HA2 hb2 c0 c1 c2 c3 f0 f1 f2 f3
    obtain ⟨_, c0, c1, c2, c3, f0, f1, f2, f3⟩ := HA3.out.h3
    go_wp2_with fail
    go_roundw
    case rel =>
     exact ⟨n, g, x ||| y, b2, rfl, hf', hr', HA3.out.put (x ||| y)⟩
    case measure => simp [intOf]; omega
   | inr pq =>
    obtain ⟨a, c⟩ := pq
    have hr' : Hid (R = .inr (a, c)) := (hr.out.symm.trans (zbJ hn hm))
    have HM := hO hm
    have hcn := (zdq hm).1
    clear hn hm hc hr hf
    go_wp2_with fail
    refine (zcY s k hk hs _).mono ?_
    rintro e w1 ⟨rfl, hb1⟩
    rw [HM.out]
    dsimp only [mbV]
    have HA1 := hO (ha.out.below hb1 ha.out.h3.lt)
    clear hb1 ha HM
    have hl : w.heap.size + 1 + 1 < w1.heap.size := HA1.out.h3.lt
    have HA2 : Hid (AtM w ((w1.alloc (c4 0#256)).alloc (.cells #[.int .i64 (a : Int), .int .i64 c] 39)) x) := HA1.out.below (B := w1.heap.size) (((Below.refl _ _).alloc (Nat.le_refl _) _).alloc (by simp) _) hl
    clear HA1
    obtain ⟨_, c0, c1, c2, c3, f0, f1, f2, f3⟩ := HA2.out.h1
    obtain ⟨_, d0, d1, g0, g1⟩ := HA2.out.h2
    go_wp2_with fail
    go_region
    all_goals
     go_wp2
     rw [hr'.out]
     have HB2 := HA2.out.hb
     simp only [c4, zah] at c0 c1 c2 c3 f0 f1 f2 f3 d0 d1 g0 g1 HB2 ⊢
     refine bodyPost_ret (v := mbV (.inr (a, c))) (by simp [results, Tryz.results158, go_sem, mbV, zah, *]) rfl ⟨rfl, ?_⟩
     first | exact (zaA HB2 (Nat.le_refl _) (by omega)).drew | exact zaA HB2 (Nat.le_refl _) (by omega)
  ·have he : chr s k = 93 := beq_iff_eq.1 hc
   have hr' : Hid (R = .inl (x, k)) := (hr.out.symm.trans (zbq he))
   clear he hr hf hc
   have hl : w.heap.size + 1 + 1 < w1.heap.size := ha.out.h3.lt
   obtain ⟨_, c0, c1, c2, c3, f0, f1, f2, f3⟩ := ha.out.h1
   obtain ⟨_, d0, d1, g0, g1⟩ := ha.out.h2
   obtain ⟨_, e0, e1, e2, e3, k0, k1, k2, k3⟩ := ha.out.h3
   go_wp2_with fail
   rw [hr'.out]
   refine bodyPost_ret (v := mbV (.inl (x, k))) (by simp [results, Tryz.results158, go_sem, mbV, zah, *]) rfl ⟨rfl, ?_⟩
   exact zaA ha.out.hb (Nat.le_refl _) (by omega)
def zfL : Rd (BitVec 256 × Nat) -> Rd (BitVec 256 × Nat)
 | .inr (a, c) => .inr (a, c)
 | .inl (x, e) => .inl (x, e + 1)
def zdQ : Rd (BitVec 256 × Nat) -> Rd (BitVec 256 × Nat)
 | .inr (a, c) => .inr (a, c)
 | .inl (x, e) => .inl (~~~ x, e + 1)
def zal (s : ByteArray) (i : Int) : Rd (BitVec 256 × Nat) :=
 if i < 0 ∨ (s.size : Int) < i then .inr (0, 1) else
 if chr s i.toNat = 91 then
  if chr s (i.toNat + 1) = 94 then zdQ (zab s (s.size + 1) 0#256 (i.toNat + 2)) else zfL (zab s (s.size + 1) 0#256 (i.toNat + 1))
 else .inr (i.toNat, 6)
theorem zm5 (s : ByteArray) (i : Int) (h : i < 0 ∨ (s.size : Int) < i) (w : World) :
  Calls Tryz.prog 140 #[.string s, .int .i64 i] w fun e w' => e = .returned (mbV (zal s i)) /\ Below w.heap.size w w' := by
 have HF : Hid (zal s i = .inr (0, 1)) := (by show zal s i = _; unfold zal; rw [if_pos h])
 rcases h with h | h
 ·go_enter Tryz.func140, Tryz.ntmps140
  go_wp2
  rw [HF.out]
  refine bodyPost_ret (v := mbV (.inr (0, 1))) (by simp [results, Tryz.results140, go_sem, mbV, zah, *]) rfl ⟨rfl, ?_⟩
  exact ((Below.refl _ _).alloc (Nat.le_refl _) _).alloc (by simp) _
 ·have h0 : ¬ i < 0 := by omega
  go_enter Tryz.func140, Tryz.ntmps140
  go_wp2
  rw [HF.out]
  refine bodyPost_ret (v := mbV (.inr (0, 1))) (by simp [results, Tryz.results140, go_sem, mbV, zah, *]) rfl ⟨rfl, ?_⟩
  exact ((Below.refl _ _).alloc (Nat.le_refl _) _).alloc (by simp) _
theorem zkz (s : ByteArray) (i : Nat) (hi : i <= s.size) (_hs : s.size <= 140737488355328) (h : (chr s i == 91) = false) (w : World) :
  Calls Tryz.prog 140 #[.string s, .int .i64 i] w fun e w' => e = .returned (mbV (zal s i)) /\ Below w.heap.size w w' := by
 have HF : Hid (zal s i = .inr (i, 6)) := (by show zal s i = _; unfold zal; rw [if_neg (by omega), if_neg (by exact beq_eq_false_iff_ne.1 h)]; rfl)
 go_enter Tryz.func140, Tryz.ntmps140
 go_wp2_with fail
 refine (zaf s i 91 (by omega) _).mono ?_
 rintro e w1 ⟨rfl, rfl⟩
 rw [h]
 clear h
 go_wp2_with fail
 rw [HF.out]
 refine bodyPost_ret (v := mbV (.inr (i, 6))) (by simp [results, Tryz.results140, go_sem, mbV, zah, *]) rfl ⟨rfl, ?_⟩
 exact ((Below.refl _ _).alloc (Nat.le_refl _) _).alloc (by simp) _
structure AtR (w wr : World) : Prop where
 h1 : Holds wr w.heap.size 0#256
 h2 : FHolds wr (w.heap.size + 1) 0 0
 hb : Below w.heap.size w wr
theorem AtR.below {B : Nat} {w wr w1 : World} (h : AtR w wr) (hb : Below B wr w1) (hB : w.heap.size + 1 < B) : AtR w w1 :=
 ⟨h.h1.below hb (by omega), h.h2.below hb hB, h.hb.trans (hb.mono (by omega))⟩
theorem AtR.start (w : World) : AtR w ((w.alloc z4).alloc fz) := ⟨(zcH w).1, (zcH w).2.1, (zcH w).2.2⟩
theorem zeS (s : ByteArray) (i : Nat) (hi : i + 1 <= s.size) (hs : s.size <= 140737488355328) (h : (chr s i == 91) = true) (h2 : (chr s (i + 1) == 94) = false) (a : Nat) (c : Int) (hm : zab s (s.size + 1) 0#256 (i + 1) = .inr (a, c)) (w : World) :
  Calls Tryz.prog 140 #[.string s, .int .i64 i] w fun e w' => e = .returned (mbV (zal s i)) /\ Below w.heap.size w w' := by
 have HF := (show Hid (zal s i = .inr (a, c)) from (by
  show zal s i = _; unfold zal
  rw [if_neg (by omega), Int.toNat_natCast, if_pos (beq_iff_eq.1 h), if_neg (beq_eq_false_iff_ne.1 h2), hm]; rfl))
 have HM := hO hm
 have HA := hO (AtR.start w)
 have hcn := zcZ hm
 clear hm
 go_enter Tryz.func140, Tryz.ntmps140
 go_wp2_with fail
 refine (zaf s i 91 (by omega) _).mono ?_
 rintro e w1 ⟨rfl, rfl⟩
 rw [h]
 clear h
 go_wp2_with fail
 rw [show (i : Int) + 1 = ((i + 1 : Nat) : Int) from by omega]
 refine (zaf s (i + 1) 94 (by omega) _).mono ?_
 rintro e w1 ⟨rfl, rfl⟩
 rw [h2]
 clear h2
 go_wp2_with fail
 refine (zbr s (i + 1) hi hs _).mono ?_
 rintro e w1 ⟨rfl, hb1⟩
 rw [HM.out]
 dsimp only [mbV]
 have HA1 := hO (HA.out.below hb1 HA.out.h2.lt)
 clear hb1 HA HM
 have hl : w.heap.size + 1 < w1.heap.size := HA1.out.h2.lt
 have HA2 : Hid (AtR w ((w1.alloc (c4 0#256)).alloc (.cells #[.int .i64 (a : Int), .int .i64 c] 39))) := HA1.out.below (B := w1.heap.size) (((Below.refl _ _).alloc (Nat.le_refl _) _).alloc (by simp) _) hl
 clear HA1
 obtain ⟨_, c0, c1, c2, c3, f0, f1, f2, f3⟩ := HA2.out.h1
 obtain ⟨_, d0, d1, g0, g1⟩ := HA2.out.h2
 go_wp2_with fail
 go_region
 all_goals
  go_wp2
  rw [HF.out]
  have HB2 := HA2.out.hb
  simp only [c4, zah] at c0 c1 c2 c3 f0 f1 f2 f3 d0 d1 g0 g1 HB2 ⊢
  refine bodyPost_ret (v := mbV (.inr (a, c))) (by simp [results, Tryz.results140, go_sem, mbV, zah, *]) rfl ⟨rfl, ?_⟩
  first | exact (zaA HB2 (Nat.le_refl _) (by omega)).drew | exact zaA HB2 (Nat.le_refl _) (by omega)
theorem zfM (s : ByteArray) (i : Nat) (hi : i + 2 <= s.size) (hs : s.size <= 140737488355328) (h : (chr s i == 91) = true) (h2 : (chr s (i + 1) == 94) = true) (a : Nat) (c : Int) (hm : zab s (s.size + 1) 0#256 (i + 2) = .inr (a, c)) (w : World) :
  Calls Tryz.prog 140 #[.string s, .int .i64 i] w fun e w' => e = .returned (mbV (zal s i)) /\ Below w.heap.size w w' := by
 have HF := (show Hid (zal s i = .inr (a, c)) from (by
  show zal s i = _; unfold zal
  rw [if_neg (by omega), Int.toNat_natCast, if_pos (beq_iff_eq.1 h), if_pos (beq_iff_eq.1 h2), hm]; rfl))
 have HM := hO hm
 have HA := hO (AtR.start w)
 have hcn := zcZ hm
 clear hm
 go_enter Tryz.func140, Tryz.ntmps140
 go_wp2_with fail
 refine (zaf s i 91 (by omega) _).mono ?_
 rintro e w1 ⟨rfl, rfl⟩
 rw [h]
 clear h
 go_wp2_with fail
 rw [show (i : Int) + 1 = ((i + 1 : Nat) : Int) from by omega]
 refine (zaf s (i + 1) 94 (by omega) _).mono ?_
 rintro e w1 ⟨rfl, rfl⟩
 rw [h2]
 clear h2
 go_wp2_with fail
 rw [show (i : Int) + 1 + 1 = ((i + 2 : Nat) : Int) from by omega]
 refine (zbr s (i + 2) hi hs _).mono ?_
 rintro e w1 ⟨rfl, hb1⟩
 rw [HM.out]
 dsimp only [mbV]
 have HA1 := hO (HA.out.below hb1 HA.out.h2.lt)
 clear hb1 HA HM
 have hl : w.heap.size + 1 < w1.heap.size := HA1.out.h2.lt
 have HA2 : Hid (AtR w ((w1.alloc (c4 0#256)).alloc (.cells #[.int .i64 (a : Int), .int .i64 c] 39))) := HA1.out.below (B := w1.heap.size) (((Below.refl _ _).alloc (Nat.le_refl _) _).alloc (by simp) _) hl
 clear HA1
 obtain ⟨_, c0, c1, c2, c3, f0, f1, f2, f3⟩ := HA2.out.h1
 obtain ⟨_, d0, d1, g0, g1⟩ := HA2.out.h2
 go_wp2_with fail
 go_region
 all_goals
  go_wp2
  rw [HF.out]
  have HB2 := HA2.out.hb
  simp only [c4, zah] at c0 c1 c2 c3 f0 f1 f2 f3 d0 d1 g0 g1 HB2 ⊢
  refine bodyPost_ret (v := mbV (.inr (a, c))) (by simp [results, Tryz.results140, go_sem, mbV, zah, *]) rfl ⟨rfl, ?_⟩
  first | exact (zaA HB2 (Nat.le_refl _) (by omega)).drew | exact zaA HB2 (Nat.le_refl _) (by omega)
theorem zfN (s : ByteArray) (i : Nat) (hi : i + 1 <= s.size) (hs : s.size <= 140737488355328) (h : (chr s i == 91) = true) (h2 : (chr s (i + 1) == 94) = false) (x : BitVec 256) (n : Nat) (hm : zab s (s.size + 1) 0#256 (i + 1) = .inl (x, n)) (w : World) :
  Calls Tryz.prog 140 #[.string s, .int .i64 i] w fun e w' => e = .returned (mbV (zal s i)) /\ Below w.heap.size w w' := by
 have HF := (show Hid (zal s i = .inl (x, n + 1)) from (by
  show zal s i = _; unfold zal
  rw [if_neg (by omega), Int.toNat_natCast, if_pos (beq_iff_eq.1 h), if_neg (beq_eq_false_iff_ne.1 h2), hm]; rfl))
 have HM := hO hm
 have HA := hO (AtR.start w)
 obtain ⟨hn1, hn2, -⟩ := zaI hm
 clear hm
 go_enter Tryz.func140, Tryz.ntmps140
 go_wp2_with fail
 refine (zaf s i 91 (by omega) _).mono ?_
 rintro e w1 ⟨rfl, rfl⟩
 rw [h]
 clear h
 go_wp2_with fail
 rw [show (i : Int) + 1 = ((i + 1 : Nat) : Int) from by omega]
 refine (zaf s (i + 1) 94 (by omega) _).mono ?_
 rintro e w1 ⟨rfl, rfl⟩
 rw [h2]
 clear h2
 go_wp2_with fail
 refine (zbr s (i + 1) hi hs _).mono ?_
 rintro e w1 ⟨rfl, hb1⟩
 rw [HM.out]
 dsimp only [mbV]
 have HA1 := hO (HA.out.below hb1 HA.out.h2.lt)
 clear hb1 HA HM
 have hl : w.heap.size + 1 < w1.heap.size := HA1.out.h2.lt
 have HA2 : Hid (AtR w ((w1.alloc (c4 x)).alloc fz)) := HA1.out.below (B := w1.heap.size) (((Below.refl _ _).alloc (Nat.le_refl _) _).alloc (by simp) _) hl
 clear HA1
 obtain ⟨_, c0, c1, c2, c3, f0, f1, f2, f3⟩ := HA2.out.h1
 obtain ⟨_, d0, d1, g0, g1⟩ := HA2.out.h2
 go_wp2_with fail
 rw [HF.out]
 refine bodyPost_ret (v := mbV (.inl (x, n + 1))) (by simp [results, Tryz.results140, go_sem, mbV, zah, *]) rfl ⟨rfl, ?_⟩
 exact zaA HA2.out.hb (Nat.le_refl _) (by omega)
theorem zgs (s : ByteArray) (i : Nat) (hi : i + 2 <= s.size) (hs : s.size <= 140737488355328) (h : (chr s i == 91) = true) (h2 : (chr s (i + 1) == 94) = true) (x : BitVec 256) (n : Nat) (hm : zab s (s.size + 1) 0#256 (i + 2) = .inl (x, n)) (w : World) :
  Calls Tryz.prog 140 #[.string s, .int .i64 i] w fun e w' => e = .returned (mbV (zal s i)) /\ Below w.heap.size w w' := by
 have HF := (show Hid (zal s i = .inl (~~~ x, n + 1)) from (by
  show zal s i = _; unfold zal
  rw [if_neg (by omega), Int.toNat_natCast, if_pos (beq_iff_eq.1 h), if_pos (beq_iff_eq.1 h2), hm]; rfl))
 have HM := hO hm
 have HA := hO (AtR.start w)
 obtain ⟨hn1, hn2, -⟩ := zaI hm
 clear hm
 go_enter Tryz.func140, Tryz.ntmps140
 go_wp2_with fail
 refine (zaf s i 91 (by omega) _).mono ?_
 rintro e w1 ⟨rfl, rfl⟩
 rw [h]
 clear h
 go_wp2_with fail
 rw [show (i : Int) + 1 = ((i + 1 : Nat) : Int) from by omega]
 refine (zaf s (i + 1) 94 (by omega) _).mono ?_
 rintro e w1 ⟨rfl, rfl⟩
 rw [h2]
 clear h2
 go_wp2_with fail
 rw [show (i : Int) + 1 + 1 = ((i + 2 : Nat) : Int) from by omega]
 refine (zbr s (i + 2) hi hs _).mono ?_
 rintro e w1 ⟨rfl, hb1⟩
 rw [HM.out]
 dsimp only [mbV]
 have HA1 := hO (HA.out.below hb1 HA.out.h2.lt)
 clear hb1 HA HM
 have hl : w.heap.size + 1 < w1.heap.size := HA1.out.h2.lt
 have HA2 : Hid (AtR w ((w1.alloc (c4 x)).alloc fz)) := HA1.out.below (B := w1.heap.size) (((Below.refl _ _).alloc (Nat.le_refl _) _).alloc (by simp) _) hl
 clear HA1
 have HX : Hid (Holds ((w1.alloc (c4 x)).alloc fz) w1.heap.size x) := (Holds.new w1 x).alloc _
 go_wp2_with fail
 refine (zfl x _).mono ?_
 rintro e w2 ⟨rfl, hb2⟩
 have HA3 := hO (HA2.out.below hb2 HA2.out.h2.lt)
 have HX3 := hO (HX.out.below hb2 HX.out.lt)
 have hl2 : w1.heap.size + 1 < w2.heap.size := by have h := hb2.size; simp at h; omega
 clear hb2 HA2 HX
 obtain ⟨_, c0, c1, c2, c3, f0, f1, f2, f3⟩ := HA3.out.h1
 obtain ⟨_, d0, d1, g0, g1⟩ := HA3.out.h2
 obtain ⟨_, e0, e1, e2, e3, k0, k1, k2, k3⟩ := HX3.out
 generalize ~~~ x = y at *
 go_wp2_with fail
 rw [HF.out]
 refine bodyPost_ret (v := mbV (.inl (y, n + 1))) (by simp [results, Tryz.results140, go_sem, mbV, zah, *]) rfl ⟨rfl, ?_⟩
 exact zaA (zcS HA3.out.hb (by omega) y) (Nat.le_refl _) (by omega)
theorem zm6 (s : ByteArray) (i : Int) (hs : s.size <= 140737488355328) (w : World) :
  Calls Tryz.prog 140 #[.string s, .int .i64 i] w fun e w' => e = .returned (mbV (zal s i)) /\ Below w.heap.size w w' := by
 by_cases h : i < 0 ∨ (s.size : Int) < i
 ·exact zm5 s i h w
 ·obtain ⟨n, rfl⟩ : ∃ n : Nat, i = n := ⟨i.toNat, by omega⟩
  have hn : n <= s.size := by omega
  cases h1 : (chr s n == 91)
  ·exact zkz s n hn hs h1 w
  ·have hlt : n < s.size := zaC (by rw [beq_iff_eq.1 h1]; omega)
   cases h2 : (chr s (n + 1) == 94)
   ·cases hm : zab s (s.size + 1) 0#256 (n + 1) with
    | inr pq =>
     obtain ⟨a, c⟩ := pq
     exact zeS s n hlt hs h1 h2 a c hm w
    | inl p => obtain ⟨x, e⟩ := p; exact zfN s n hlt hs h1 h2 x e hm w
   ·have hlt2 : n + 1 < s.size := zaC (by rw [beq_iff_eq.1 h2]; omega)
    cases hm : zab s (s.size + 1) 0#256 (n + 2) with
    | inr pq =>
     obtain ⟨a, c⟩ := pq
     exact zfM s n hlt2 hs h1 h2 a c hm w
    | inl p => obtain ⟨x, e⟩ := p; exact zgs s n hlt2 hs h1 h2 x e hm w
theorem zgt {s : ByteArray} {i : Int} {x : BitVec 256} {n : Nat} (h : zal s i = .inl (x, n)) : n <= s.size := by
 unfold zal at h
 split at h
 ·simp at h
 ·split at h
  ·split at h
   ·cases hm : zab s (s.size + 1) 0#256 (i.toNat + 2) with
    | inr pq =>
     obtain ⟨a', c'⟩ := pq
     rw [hm] at h; simp [zdQ] at h
    | inl p => obtain ⟨y, m⟩ := p; have b := zaI hm; rw [hm] at h; simp only [zdQ, Sum.inl.injEq, Prod.mk.injEq] at h; omega
   ·cases hm : zab s (s.size + 1) 0#256 (i.toNat + 1) with
    | inr pq =>
     obtain ⟨a', c'⟩ := pq
     rw [hm] at h; simp [zfL] at h
    | inl p => obtain ⟨y, m⟩ := p; have b := zaI hm; rw [hm] at h; simp only [zfL, Sum.inl.injEq, Prod.mk.injEq] at h; omega
  ·simp at h
end Go.Proofs.YtnpifgcgjgddoaaGreatDoor
