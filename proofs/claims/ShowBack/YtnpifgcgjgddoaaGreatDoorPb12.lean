/- DERIVED. Plain mathematics and walks, laid together (12). -/
import Derived.Test.YtnpifgcgjgddoaaGreatDoorPb11
set_option maxRecDepth 100000
set_option maxHeartbeats 8000000
namespace Go.Proofs.YtnpifgcgjgddoaaGreatDoor
open Go.RowKit
def zaz (s : ByteArray) (b : Nat) : Sum Tk (Nat × Int) :=
 if hdB (chr s b) = true then zb0 s b else if dgB (chr s b) = true then nmR s b b 4 else if chr s b = 39 ∨ chr s b = 34 then zeJ s b
 else if chr s b = 91 then clT s b (zal s b) else if chr s b = 37 then zcr s b else zbk s b
theorem zpR (s : ByteArray) (b : Nat) (hs : s.size <= 65536) (hb : b < s.size) (h : hdB (chr s b) = true) (w : World) (hg : SG w) : Calls Tryz.prog 88 #[.string s, .int .i64 b] w fun e w' => e = .returned (zaP (zaz s b)) /\ Below w.heap.size w w' := by
 have HX : Hid (BX w ((w.alloc (tkO tk0)).alloc (fxO 0 0)) tk0 0 0) := BX.new w
 have HG : Hid (SG ((w.alloc (tkO tk0)).alloc (fxO 0 0))) := (hg.later (zaa _ _)).later (zaa _ _)
 have hc := zak hb
 have HH : Hid (∀ w, Calls Tryz.prog 110 #[.int .u8 (s[b].toNat : Int)] w fun e w' => e = .returned (.bool (hdB (chr s b))) /\ w' = w) := fun w => by rw [hc]; exact zaJ _ w
 have HD : Hid (∀ w, Calls Tryz.prog 112 #[.int .u8 (s[b].toNat : Int)] w fun e w' => e = .returned (.bool (dgB (chr s b))) /\ w' = w) := fun w => by rw [hc]; exact za0 _ w
 have z0 : (0 : Int) <= (b : Int) := by omega
 have z1 : (b : Int) < (s.size : Int) := by omega
 clear hg
 have HN : Hid (∀ w, Calls Tryz.prog 111 #[.string s, .int .i64 b] w fun e w' => e = .returned (zaP (zb0 s b)) /\ Below w.heap.size w w') := fun w => zcF s b (by omega) (by omega) w
 have HE : Hid (zaz s b = zb0 s b) := by show zaz s b = _; unfold zaz; rw [if_pos h]
 rw [h] at HH
 clear HD HG hc h
 go_enter Tryz.func88, Tryz.ntmps88
 go_wp2_with fail
 refine (HH.out _).mono ?_
 rintro e w1 ⟨rfl, rfl⟩
 clear HH
 go_wp2_with fail
 refine (HN.out _).mono ?_
 rintro e w3 ⟨rfl, b3⟩
 have HX3 : Hid (BX w w3 tk0 0 0) := HX.out.below b3
 clear b3 HX HN
 obtain ⟨f0, f1', f2', f3, f4, f5, f6, f7, f8, g0, g1⟩ := HX3.out.fz
 obtain ⟨c0, c1, c2, c3, c4, c5, c6, c7, c8, d0, d1⟩ := HX3.out.cells
 generalize zb0 s b = r at *
 cases r with
 | inl t =>
  unfold zaP
  go_wp2_with fail
  have HP := HX3.out.put t 0 0
  exact zag rfl rfl rfl rfl HP ⟨by rw [HE.out]; rfl, HP.b⟩
 | inr q =>
  unfold zaP
  go_wp2_with fail
  have HP := HX3.out.put tk0 q.1 q.2
  exact zag rfl rfl rfl rfl HP ⟨by rw [HE.out]; rfl, HP.b⟩
theorem rt_num (s : ByteArray) (b : Nat) (hs : s.size <= 65536) (hb : b < s.size) (h : hdB (chr s b) = false) (h2 : dgB (chr s b) = true) (w : World) (hg : SG w) : Calls Tryz.prog 88 #[.string s, .int .i64 b] w fun e w' => e = .returned (zaP (zaz s b)) /\ Below w.heap.size w w' := by
 have HX : Hid (BX w ((w.alloc (tkO tk0)).alloc (fxO 0 0)) tk0 0 0) := BX.new w
 have HG : Hid (SG ((w.alloc (tkO tk0)).alloc (fxO 0 0))) := (hg.later (zaa _ _)).later (zaa _ _)
 have hc := zak hb
 have HH : Hid (∀ w, Calls Tryz.prog 110 #[.int .u8 (s[b].toNat : Int)] w fun e w' => e = .returned (.bool (hdB (chr s b))) /\ w' = w) := fun w => by rw [hc]; exact zaJ _ w
 have HD : Hid (∀ w, Calls Tryz.prog 112 #[.int .u8 (s[b].toNat : Int)] w fun e w' => e = .returned (.bool (dgB (chr s b))) /\ w' = w) := fun w => by rw [hc]; exact za0 _ w
 have z0 : (0 : Int) <= (b : Int) := by omega
 have z1 : (b : Int) < (s.size : Int) := by omega
 clear hg
 have HN : Hid (∀ w, Calls Tryz.prog 113 #[.string s, .int .i64 b, .int .i64 b, .int .i64 4] w fun e w' => e = .returned (zaP (nmR s b b 4)) /\ Below w.heap.size w w') := fun w => zbz s b b 4 (by omega) (by omega) (by omega) w
 have HE : Hid (zaz s b = nmR s b b 4) := by show zaz s b = _; unfold zaz; rw [if_neg (by rw [h]; decide), if_pos h2]
 rw [h] at HH
 rw [h2] at HD
 clear HG hc h h2
 go_enter Tryz.func88, Tryz.ntmps88
 go_wp2_with fail
 refine (HH.out _).mono ?_
 rintro e w1 ⟨rfl, rfl⟩
 clear HH
 go_wp2_with fail
 refine (HD.out _).mono ?_
 rintro e w1 ⟨rfl, rfl⟩
 clear HD
 go_wp2_with fail
 refine (HN.out _).mono ?_
 rintro e w3 ⟨rfl, b3⟩
 have HX3 : Hid (BX w w3 tk0 0 0) := HX.out.below b3
 clear b3 HX HN
 obtain ⟨f0, f1', f2', f3, f4, f5, f6, f7, f8, g0, g1⟩ := HX3.out.fz
 obtain ⟨c0, c1, c2, c3, c4, c5, c6, c7, c8, d0, d1⟩ := HX3.out.cells
 generalize nmR s b b 4 = r at *
 cases r with
 | inl t =>
  unfold zaP
  go_wp2_with fail
  have HP := HX3.out.put t 0 0
  exact zag rfl rfl rfl rfl HP ⟨by rw [HE.out]; rfl, HP.b⟩
 | inr q =>
  unfold zaP
  go_wp2_with fail
  have HP := HX3.out.put tk0 q.1 q.2
  exact zag rfl rfl rfl rfl HP ⟨by rw [HE.out]; rfl, HP.b⟩
theorem zpS (s : ByteArray) (b : Nat) (hs : s.size <= 65536) (hb : b < s.size) (h : hdB (chr s b) = false) (h2 : dgB (chr s b) = false) (h3 : chr s b = 39) (w : World) (hg : SG w) : Calls Tryz.prog 88 #[.string s, .int .i64 b] w fun e w' => e = .returned (zaP (zaz s b)) /\ Below w.heap.size w w' := by
 have HX : Hid (BX w ((w.alloc (tkO tk0)).alloc (fxO 0 0)) tk0 0 0) := BX.new w
 have HG : Hid (SG ((w.alloc (tkO tk0)).alloc (fxO 0 0))) := (hg.later (zaa _ _)).later (zaa _ _)
 have hc := zak hb
 have HH : Hid (∀ w, Calls Tryz.prog 110 #[.int .u8 (s[b].toNat : Int)] w fun e w' => e = .returned (.bool (hdB (chr s b))) /\ w' = w) := fun w => by rw [hc]; exact zaJ _ w
 have HD : Hid (∀ w, Calls Tryz.prog 112 #[.int .u8 (s[b].toNat : Int)] w fun e w' => e = .returned (.bool (dgB (chr s b))) /\ w' = w) := fun w => by rw [hc]; exact za0 _ w
 have z0 : (0 : Int) <= (b : Int) := by omega
 have z1 : (b : Int) < (s.size : Int) := by omega
 clear hg
 have HN : Hid (∀ w, Calls Tryz.prog 114 #[.string s, .int .i64 b] w fun e w' => e = .returned (zaP (zeJ s b)) /\ Below w.heap.size w w') := fun w => zcI s b hs (by omega) (.inl h3) w
 have HE : Hid (zaz s b = zeJ s b) := by show zaz s b = _; unfold zaz; rw [if_neg (by rw [h]; decide), if_neg (by rw [h2]; decide), if_pos (.inl h3)]
 rw [h] at HH
 rw [h2] at HD
 have v1 : ((s[b].toNat : Int) == 39) = true := by rw [<- hc, h3]; rfl
 clear h3
 clear hc h h2 HG
 go_enter Tryz.func88, Tryz.ntmps88
 go_wp2_with fail
 refine (HH.out _).mono ?_
 rintro e w1 ⟨rfl, rfl⟩
 clear HH
 go_wp2_with fail
 refine (HD.out _).mono ?_
 rintro e w1 ⟨rfl, rfl⟩
 clear HD
 go_wp2_with fail
 refine (HN.out _).mono ?_
 rintro e w3 ⟨rfl, b3⟩
 have HX3 : Hid (BX w w3 tk0 0 0) := HX.out.below b3
 clear b3 HX HN
 obtain ⟨f0, f1', f2', f3, f4, f5, f6, f7, f8, g0, g1⟩ := HX3.out.fz
 obtain ⟨c0, c1, c2, c3, c4, c5, c6, c7, c8, d0, d1⟩ := HX3.out.cells
 generalize zeJ s b = r at *
 cases r with
 | inl t =>
  unfold zaP
  go_wp2_with fail
  have HP := HX3.out.put t 0 0
  exact zag rfl rfl rfl rfl HP ⟨by rw [HE.out]; rfl, HP.b⟩
 | inr q =>
  unfold zaP
  go_wp2_with fail
  have HP := HX3.out.put tk0 q.1 q.2
  exact zag rfl rfl rfl rfl HP ⟨by rw [HE.out]; rfl, HP.b⟩
theorem zpT (s : ByteArray) (b : Nat) (hs : s.size <= 65536) (hb : b < s.size) (h : hdB (chr s b) = false) (h2 : dgB (chr s b) = false) (h3 : chr s b = 34) (w : World) (hg : SG w) : Calls Tryz.prog 88 #[.string s, .int .i64 b] w fun e w' => e = .returned (zaP (zaz s b)) /\ Below w.heap.size w w' := by
 have HX : Hid (BX w ((w.alloc (tkO tk0)).alloc (fxO 0 0)) tk0 0 0) := BX.new w
 have HG : Hid (SG ((w.alloc (tkO tk0)).alloc (fxO 0 0))) := (hg.later (zaa _ _)).later (zaa _ _)
 have hc := zak hb
 have HH : Hid (∀ w, Calls Tryz.prog 110 #[.int .u8 (s[b].toNat : Int)] w fun e w' => e = .returned (.bool (hdB (chr s b))) /\ w' = w) := fun w => by rw [hc]; exact zaJ _ w
 have HD : Hid (∀ w, Calls Tryz.prog 112 #[.int .u8 (s[b].toNat : Int)] w fun e w' => e = .returned (.bool (dgB (chr s b))) /\ w' = w) := fun w => by rw [hc]; exact za0 _ w
 have z0 : (0 : Int) <= (b : Int) := by omega
 have z1 : (b : Int) < (s.size : Int) := by omega
 clear hg
 have HN : Hid (∀ w, Calls Tryz.prog 114 #[.string s, .int .i64 b] w fun e w' => e = .returned (zaP (zeJ s b)) /\ Below w.heap.size w w') := fun w => zcI s b hs (by omega) (.inr h3) w
 have HE : Hid (zaz s b = zeJ s b) := by show zaz s b = _; unfold zaz; rw [if_neg (by rw [h]; decide), if_neg (by rw [h2]; decide), if_pos (.inr h3)]
 rw [h] at HH
 rw [h2] at HD
 have v1 : ((s[b].toNat : Int) == 39) = false := by rw [<- hc, h3]; rfl
 have v2 : ((s[b].toNat : Int) == 34) = true := by rw [<- hc, h3]; rfl
 clear h3
 clear hc h h2 HG
 go_enter Tryz.func88, Tryz.ntmps88
 go_wp2_with fail
 refine (HH.out _).mono ?_
 rintro e w1 ⟨rfl, rfl⟩
 clear HH
 go_wp2_with fail
 refine (HD.out _).mono ?_
 rintro e w1 ⟨rfl, rfl⟩
 clear HD
 go_wp2_with fail
 refine (HN.out _).mono ?_
 rintro e w3 ⟨rfl, b3⟩
 have HX3 : Hid (BX w w3 tk0 0 0) := HX.out.below b3
 clear b3 HX HN
 obtain ⟨f0, f1', f2', f3, f4, f5, f6, f7, f8, g0, g1⟩ := HX3.out.fz
 obtain ⟨c0, c1, c2, c3, c4, c5, c6, c7, c8, d0, d1⟩ := HX3.out.cells
 generalize zeJ s b = r at *
 cases r with
 | inl t =>
  unfold zaP
  go_wp2_with fail
  have HP := HX3.out.put t 0 0
  exact zag rfl rfl rfl rfl HP ⟨by rw [HE.out]; rfl, HP.b⟩
 | inr q =>
  unfold zaP
  go_wp2_with fail
  have HP := HX3.out.put tk0 q.1 q.2
  exact zag rfl rfl rfl rfl HP ⟨by rw [HE.out]; rfl, HP.b⟩
theorem rt_cls (s : ByteArray) (b : Nat) (hs : s.size <= 65536) (hb : b < s.size) (h : hdB (chr s b) = false) (h2 : dgB (chr s b) = false) (h3 : chr s b = 91) (w : World) (hg : SG w) : Calls Tryz.prog 88 #[.string s, .int .i64 b] w fun e w' => e = .returned (zaP (zaz s b)) /\ Below w.heap.size w w' := by
 have HX : Hid (BX w ((w.alloc (tkO tk0)).alloc (fxO 0 0)) tk0 0 0) := BX.new w
 have HG : Hid (SG ((w.alloc (tkO tk0)).alloc (fxO 0 0))) := (hg.later (zaa _ _)).later (zaa _ _)
 have hc := zak hb
 have HH : Hid (∀ w, Calls Tryz.prog 110 #[.int .u8 (s[b].toNat : Int)] w fun e w' => e = .returned (.bool (hdB (chr s b))) /\ w' = w) := fun w => by rw [hc]; exact zaJ _ w
 have HD : Hid (∀ w, Calls Tryz.prog 112 #[.int .u8 (s[b].toNat : Int)] w fun e w' => e = .returned (.bool (dgB (chr s b))) /\ w' = w) := fun w => by rw [hc]; exact za0 _ w
 have z0 : (0 : Int) <= (b : Int) := by omega
 have z1 : (b : Int) < (s.size : Int) := by omega
 clear hg
 have HN : Hid (∀ w, Calls Tryz.prog 115 #[.string s, .int .i64 b] w fun e w' => e = .returned (zaP (clT s b (zal s b))) /\ Below w.heap.size w w') := fun w => zhi s b (by omega) w
 have HE : Hid (zaz s b = clT s b (zal s b)) := by show zaz s b = _; unfold zaz; rw [if_neg (by rw [h]; decide), if_neg (by rw [h2]; decide), if_neg (by omega), if_pos h3]
 rw [h] at HH
 rw [h2] at HD
 have v1 : ((s[b].toNat : Int) == 39) = false := by rw [<- hc, beq_eq_false_iff_ne]; omega
 have v2 : ((s[b].toNat : Int) == 34) = false := by rw [<- hc, beq_eq_false_iff_ne]; omega
 have v3 : ((s[b].toNat : Int) == 91) = true := by rw [<- hc, h3]; rfl
 clear h3
 clear hc h h2 HG
 go_enter Tryz.func88, Tryz.ntmps88
 go_wp2_with fail
 refine (HH.out _).mono ?_
 rintro e w1 ⟨rfl, rfl⟩
 clear HH
 go_wp2_with fail
 refine (HD.out _).mono ?_
 rintro e w1 ⟨rfl, rfl⟩
 clear HD
 go_wp2_with fail
 refine (HN.out _).mono ?_
 rintro e w3 ⟨rfl, b3⟩
 have HX3 : Hid (BX w w3 tk0 0 0) := HX.out.below b3
 clear b3 HX HN
 obtain ⟨f0, f1', f2', f3, f4, f5, f6, f7, f8, g0, g1⟩ := HX3.out.fz
 obtain ⟨c0, c1, c2, c3, c4, c5, c6, c7, c8, d0, d1⟩ := HX3.out.cells
 generalize clT s b (zal s b) = r at *
 cases r with
 | inl t =>
  unfold zaP
  go_wp2_with fail
  have HP := HX3.out.put t 0 0
  exact zag rfl rfl rfl rfl HP ⟨by rw [HE.out]; rfl, HP.b⟩
 | inr q =>
  unfold zaP
  go_wp2_with fail
  have HP := HX3.out.put tk0 q.1 q.2
  exact zag rfl rfl rfl rfl HP ⟨by rw [HE.out]; rfl, HP.b⟩
theorem rt_pct (s : ByteArray) (b : Nat) (hs : s.size <= 65536) (hb : b < s.size) (h : hdB (chr s b) = false) (h2 : dgB (chr s b) = false) (h3 : chr s b = 37) (w : World) (hg : SG w) : Calls Tryz.prog 88 #[.string s, .int .i64 b] w fun e w' => e = .returned (zaP (zaz s b)) /\ Below w.heap.size w w' := by
 have HX : Hid (BX w ((w.alloc (tkO tk0)).alloc (fxO 0 0)) tk0 0 0) := BX.new w
 have HG : Hid (SG ((w.alloc (tkO tk0)).alloc (fxO 0 0))) := (hg.later (zaa _ _)).later (zaa _ _)
 have hc := zak hb
 have HH : Hid (∀ w, Calls Tryz.prog 110 #[.int .u8 (s[b].toNat : Int)] w fun e w' => e = .returned (.bool (hdB (chr s b))) /\ w' = w) := fun w => by rw [hc]; exact zaJ _ w
 have HD : Hid (∀ w, Calls Tryz.prog 112 #[.int .u8 (s[b].toNat : Int)] w fun e w' => e = .returned (.bool (dgB (chr s b))) /\ w' = w) := fun w => by rw [hc]; exact za0 _ w
 have z0 : (0 : Int) <= (b : Int) := by omega
 have z1 : (b : Int) < (s.size : Int) := by omega
 clear hg
 have HN : Hid (∀ w, SG w -> Calls Tryz.prog 116 #[.string s, .int .i64 b] w fun e w' => e = .returned (zaP (zcr s b)) /\ Below w.heap.size w w') := fun w g => zey s b (by omega) (by omega) w g
 have HE : Hid (zaz s b = zcr s b) := by show zaz s b = _; unfold zaz; rw [if_neg (by rw [h]; decide), if_neg (by rw [h2]; decide), if_neg (by omega), if_neg (by omega), if_pos h3]
 rw [h] at HH
 rw [h2] at HD
 have v1 : ((s[b].toNat : Int) == 39) = false := by rw [<- hc, beq_eq_false_iff_ne]; omega
 have v2 : ((s[b].toNat : Int) == 34) = false := by rw [<- hc, beq_eq_false_iff_ne]; omega
 have v3 : ((s[b].toNat : Int) == 91) = false := by rw [<- hc, h3]; rfl
 have v4 : ((s[b].toNat : Int) == 37) = true := by rw [<- hc, h3]; rfl
 clear h3
 clear hc h h2
 go_enter Tryz.func88, Tryz.ntmps88
 go_wp2_with fail
 refine (HH.out _).mono ?_
 rintro e w1 ⟨rfl, rfl⟩
 clear HH
 go_wp2_with fail
 refine (HD.out _).mono ?_
 rintro e w1 ⟨rfl, rfl⟩
 clear HD
 go_wp2_with fail
 refine (HN.out _ HG.out).mono ?_
 rintro e w3 ⟨rfl, b3⟩
 have HX3 : Hid (BX w w3 tk0 0 0) := HX.out.below b3
 clear b3 HX HN HG
 obtain ⟨f0, f1', f2', f3, f4, f5, f6, f7, f8, g0, g1⟩ := HX3.out.fz
 obtain ⟨c0, c1, c2, c3, c4, c5, c6, c7, c8, d0, d1⟩ := HX3.out.cells
 generalize zcr s b = r at *
 cases r with
 | inl t =>
  unfold zaP
  go_wp2_with fail
  have HP := HX3.out.put t 0 0
  exact zag rfl rfl rfl rfl HP ⟨by rw [HE.out]; rfl, HP.b⟩
 | inr q =>
  unfold zaP
  go_wp2_with fail
  have HP := HX3.out.put tk0 q.1 q.2
  exact zag rfl rfl rfl rfl HP ⟨by rw [HE.out]; rfl, HP.b⟩
theorem rt_sgn (s : ByteArray) (b : Nat) (hs : s.size <= 65536) (hb : b < s.size) (h : hdB (chr s b) = false) (h2 : dgB (chr s b) = false) (h3 : ¬ chr s b = 39) (h4 : ¬ chr s b = 34) (h5 : ¬ chr s b = 91) (h6 : ¬ chr s b = 37) (w : World) (hg : SG w) : Calls Tryz.prog 88 #[.string s, .int .i64 b] w fun e w' => e = .returned (zaP (zaz s b)) /\ Below w.heap.size w w' := by
 have HX : Hid (BX w ((w.alloc (tkO tk0)).alloc (fxO 0 0)) tk0 0 0) := BX.new w
 have HG : Hid (SG ((w.alloc (tkO tk0)).alloc (fxO 0 0))) := (hg.later (zaa _ _)).later (zaa _ _)
 have hc := zak hb
 have HH : Hid (∀ w, Calls Tryz.prog 110 #[.int .u8 (s[b].toNat : Int)] w fun e w' => e = .returned (.bool (hdB (chr s b))) /\ w' = w) := fun w => by rw [hc]; exact zaJ _ w
 have HD : Hid (∀ w, Calls Tryz.prog 112 #[.int .u8 (s[b].toNat : Int)] w fun e w' => e = .returned (.bool (dgB (chr s b))) /\ w' = w) := fun w => by rw [hc]; exact za0 _ w
 have z0 : (0 : Int) <= (b : Int) := by omega
 have z1 : (b : Int) < (s.size : Int) := by omega
 clear hg
 have HN : Hid (∀ w, SG w -> Calls Tryz.prog 117 #[.string s, .int .i64 b] w fun e w' => e = .returned (zaP (zbk s b)) /\ Below w.heap.size w w') := fun w g => zdP s b (by omega) (by omega) w g
 have HE : Hid (zaz s b = zbk s b) := by show zaz s b = _; unfold zaz; rw [if_neg (by rw [h]; decide), if_neg (by rw [h2]; decide), if_neg (by omega), if_neg h5, if_neg h6]
 rw [h] at HH
 rw [h2] at HD
 have v1 : ((s[b].toNat : Int) == 39) = false := by rw [<- hc, beq_eq_false_iff_ne]; omega
 have v2 : ((s[b].toNat : Int) == 34) = false := by rw [<- hc, beq_eq_false_iff_ne]; omega
 have v3 : ((s[b].toNat : Int) == 91) = false := by rw [<- hc, beq_eq_false_iff_ne]; exact h5
 have v4 : ((s[b].toNat : Int) == 37) = false := by rw [<- hc, beq_eq_false_iff_ne]; exact h6
 clear h3 h4 h5 h6
 clear hc h h2
 go_enter Tryz.func88, Tryz.ntmps88
 go_wp2_with fail
 refine (HH.out _).mono ?_
 rintro e w1 ⟨rfl, rfl⟩
 clear HH
 go_wp2_with fail
 refine (HD.out _).mono ?_
 rintro e w1 ⟨rfl, rfl⟩
 clear HD
 go_wp2_with fail
 refine (HN.out _ HG.out).mono ?_
 rintro e w3 ⟨rfl, b3⟩
 have HX3 : Hid (BX w w3 tk0 0 0) := HX.out.below b3
 clear b3 HX HN HG
 obtain ⟨f0, f1', f2', f3, f4, f5, f6, f7, f8, g0, g1⟩ := HX3.out.fz
 obtain ⟨c0, c1, c2, c3, c4, c5, c6, c7, c8, d0, d1⟩ := HX3.out.cells
 generalize zbk s b = r at *
 cases r with
 | inl t =>
  unfold zaP
  go_wp2_with fail
  have HP := HX3.out.put t 0 0
  exact zag rfl rfl rfl rfl HP ⟨by rw [HE.out]; rfl, HP.b⟩
 | inr q =>
  unfold zaP
  go_wp2_with fail
  have HP := HX3.out.put tk0 q.1 q.2
  exact zag rfl rfl rfl rfl HP ⟨by rw [HE.out]; rfl, HP.b⟩
theorem zfP (s : ByteArray) (b : Nat) (hs : s.size <= 65536) (hb : b < s.size) (w : World) (hg : SG w) : Calls Tryz.prog 88 #[.string s, .int .i64 b] w fun e w' => e = .returned (zaP (zaz s b)) /\ Below w.heap.size w w' := by
 cases h : hdB (chr s b) with
 | true => exact zpR s b hs hb h w hg
 | false =>
  cases h2 : dgB (chr s b) with
  | true => exact rt_num s b hs hb h h2 w hg
  | false =>
   by_cases h3 : chr s b = 39
   ·exact zpS s b hs hb h h2 h3 w hg
   by_cases h4 : chr s b = 34
   ·exact zpT s b hs hb h h2 h4 w hg
   by_cases h5 : chr s b = 91
   ·exact rt_cls s b hs hb h h2 h5 w hg
   by_cases h6 : chr s b = 37
   ·exact rt_pct s b hs hb h h2 h6 w hg
   ·exact rt_sgn s b hs hb h h2 h3 h4 h5 h6 w hg
theorem zgw (s : ByteArray) : ∀ (f g i : Nat), s.size - i < f -> s.size - i < g -> zjy s f i = zjy s g i := by
 intro f
 induction f with
 | zero => intro g i h; omega
 | succ f ih =>
  intro g i h1 h2
  obtain ⟨g, rfl⟩ : ∃ k, g = k + 1 := ⟨g - 1, by omega⟩
  rw [zjy, zjy]
  by_cases hi : i < s.size
  ·rw [if_pos hi, if_pos hi]
   by_cases hc : chr s i = 45 /\ chr s (i + 1) = 45
   ·rw [if_pos hc, if_pos hc]
    have h3 := (zbn (P := lnB) (s := s) (i := i) (by decide) (by rw [hc.1]; rfl)).2
    have h4 := zbo lnB s (by decide) (i + 1)
    exact ih g _ (by omega) (by omega)
   ·rw [if_neg hc, if_neg hc]
    by_cases hb : chr s i = 9 ∨ chr s i = 10 ∨ chr s i = 13 ∨ chr s i = 32
    ·rw [if_pos hb, if_pos hb]
     exact ih g _ (by omega) (by omega)
    ·rw [if_neg hb, if_neg hb]
  ·rw [if_neg hi, if_neg hi]
theorem zb7 (s : ByteArray) (i : Nat) : zbT s i = if i < s.size then (if chr s i = 45 /\ chr s (i + 1) = 45 then zbT s (spN lnB s i) else if chr s i = 9 ∨ chr s i = 10 ∨ chr s i = 13 ∨ chr s i = 32 then zbT s (i + 1) else i) else i := by
 show zjy s (s.size + 1) i = _
 rw [zjy]
 by_cases hi : i < s.size
 ·rw [if_pos hi, if_pos hi]
  by_cases hc : chr s i = 45 /\ chr s (i + 1) = 45
  ·rw [if_pos hc, if_pos hc]
   have h3 := (zbn (P := lnB) (s := s) (i := i) (by decide) (by rw [hc.1]; rfl)).2
   have h4 := zbo lnB s (by decide) (i + 1)
   exact zgw s _ _ _ (by omega) (by omega)
  ·rw [if_neg hc, if_neg hc]
   by_cases hb : chr s i = 9 ∨ chr s i = 10 ∨ chr s i = 13 ∨ chr s i = 32
   ·rw [if_pos hb, if_pos hb]
    exact zgw s _ _ _ (by omega) (by omega)
   ·rw [if_neg hb, if_neg hb]
 ·rw [if_neg hi, if_neg hi]
theorem blB_iff {c : Int} : blB c = true ↔ (c = 9 ∨ c = 10 ∨ c = 13 ∨ c = 32) := by
 unfold blB
 simp [Bool.or_eq_true, or_assoc]
theorem zdb (s : ByteArray) : ∀ (d i : Nat), s.size - i = d -> zbT s (spN blB s i) = zbT s i := by
 intro d
 induction d with
 | zero =>
  intro i hi
  rw [zb3 (by rw [zau (by omega)]; rfl)]
 | succ d ih =>
  intro i hi
  cases h : blB (chr s i) with
  | false => rw [zb3 h]
  | true =>
   obtain ⟨h1, h2⟩ := zbn (by decide) h
   have h3 := blB_iff.1 h
   rw [h2, ih (i + 1) (by omega), zb7 s i, if_pos h1, if_neg (by omega), if_pos h3]
theorem zna {s : ByteArray} {i : Nat} (h : spN blB s i = s.size) : zbT s i = s.size := by
 rw [<- zdb s _ i rfl, h, zb7, if_neg (by omega)]
theorem zkE {s : ByteArray} {i : Nat} (h : chr s (spN blB s i) = 45) (h2 : chr s (spN blB s i + 1) = 45) : zbT s i = zbT s (spN lnB s (spN blB s i)) /\ spN blB s i < spN lnB s (spN blB s i) := by
 have h3 := zbn (P := lnB) (s := s) (i := spN blB s i) (by decide) (by rw [h]; rfl)
 have h4 := zbo lnB s (by decide) (spN blB s i + 1)
 refine ⟨?_, by omega⟩
 rw [<- zdb s _ i rfl, zb7, if_pos h3.1, if_pos ⟨h, h2⟩]
theorem zkF {s : ByteArray} {i : Nat} (h : spN blB s i < s.size) (h2 : ¬ (chr s (spN blB s i) = 45 /\ chr s (spN blB s i + 1) = 45)) : zbT s i = spN blB s i := by
 have hb : blB (chr s (spN blB s i)) = false := (zbe blB s (by decide) _ i rfl).2.2.1
 have h3 : ¬ (chr s (spN blB s i) = 9 ∨ chr s (spN blB s i) = 10 ∨ chr s (spN blB s i) = 13 ∨ chr s (spN blB s i) = 32) := fun q => by rw [blB_iff.2 q] at hb; cases hb
 rw [<- zdb s _ i rfl, zb7, if_pos h, if_neg h2, if_neg h3]
end Go.Proofs.YtnpifgcgjgddoaaGreatDoor
namespace Go.Proofs.YtnpifgcgjgddoaaGreatDoor.N
open Go.RowKit
theorem PF_end (E : PE) : ∀ (f m i d a : Nat) (ns : List Nd), PF E f m i d = .inl (a, ns) -> (m = 0 ∨ m = 2 ∨ m = 3 -> bgn E a = false) /\ (m = 1 -> bgn E i = false -> bgn E a = false) := by
 intro f
 induction f with
 | zero => intro m i d a ns h; rw [PF] at h; cases h
 | succ f ih =>
  intro m i d a ns h
  rw [PF] at h
  by_cases m0 : m = 0
  ·rw [if_pos m0] at h
   obtain ⟨a1, n1, r1, h⟩ := zaB h
   obtain ⟨n2, r2, _⟩ := zaN h
   have h1 := (ih _ _ _ _ _ r1).1 (by omega)
   have h2 := (ih _ _ _ _ _ r2).2 rfl h1
   exact ⟨fun _ => h2, fun q => by omega⟩
  rw [if_neg m0] at h
  by_cases m1 : m = 1
  ·rw [if_pos m1] at h
   by_cases k7 : kdA E i = 7
   ·rw [if_pos k7] at h
    obtain ⟨a1, n1, r1, h⟩ := zaB h
    obtain ⟨n2, r2, _⟩ := zaN h
    have h1 := (ih _ _ _ _ _ r1).1 (by omega)
    have h2 := (ih _ _ _ _ _ r2).2 rfl h1
    exact ⟨fun q => by omega, fun _ _ => h2⟩
   ·rw [if_neg k7] at h
    cases h
    exact ⟨fun q => by omega, fun _ q => q⟩
  rw [if_neg m1] at h
  by_cases m2 : m = 2
  ·rw [if_pos m2] at h
   obtain ⟨a1, n1, r1, h⟩ := zaB h
   obtain ⟨n2, r2, _⟩ := zaN h
   have h2 := (ih _ _ _ _ _ r2).1 (by omega)
   exact ⟨fun _ => h2, fun q => by omega⟩
  rw [if_neg m2] at h
  by_cases m3 : m = 3
  ·rw [if_pos m3] at h
   by_cases kb : bgn E i = true
   ·rw [if_pos kb] at h
    obtain ⟨a1, n1, r1, h⟩ := zaB h
    obtain ⟨n2, r2, _⟩ := zaN h
    have h2 := (ih _ _ _ _ _ r2).1 (by omega)
    exact ⟨fun _ => h2, fun q => by omega⟩
   ·rw [if_neg kb] at h
    cases h
    exact ⟨fun _ => Bool.eq_false_iff.2 kb, fun q => by omega⟩
  exact ⟨fun q => by omega, fun q => by omega⟩
theorem ex_end {E : PE} {i a : Nat} {ns : List Nd} (h : exN E i = .inl (a, ns)) : bgn E a = false := (PF_end E _ _ _ _ _ _ h).1 (.inl rfl)
theorem zpU {E : PE} {i a : Nat} {ns : List Nd} (h : exN E i = .inl (a, ns)) (hk : kdA E a = 1) : ruB E a = true := by
 have h1 := ex_end h
 unfold bgn at h1
 unfold ruB
 rw [hk] at h1 ⊢
 simp only [Bool.or_eq_false_iff] at h1
 have h2 := h1.2
 revert h2
 cases (kdA E (a + 1) == 6) <;> simp
def zhj (E : PE) (z : Nat) : Nat -> List Rl -> Option (Int × Int)
 | _, [] => none
 | all, r :: rs => if (T.ck r.2.2).2 ≠ 0 then some (plA E z r.1, (T.ck r.2.2).2) else if 2048 < all + r.2.2.length then some (plA E z r.1, 2) else zhj E z (all + r.2.2.length) rs
def szR (E : PE) (z : Nat) (rs : List Rl) : Option (Int × Int) := match rs[200]? with
 | some r => some (plA E z r.1, 2)
 | none => zhj E z 0 rs
def mkE (l : List Tk) : PE := ⟨l, rnP, T.tmB⟩
def fin (E : PE) (z : Nat) (r : Sum (List Rl) (Nat × Int)) : Sum (List (ByteArray × List Nd)) (Int × Int) := match r with
 | .inr q => .inr (plA E z q.1, q.2)
 | .inl rs => match szR E z rs with
  | some p => .inr p
  | none => .inl (rs.map fun r => r.2)
def psR (s : ByteArray) : Sum (List (ByteArray × List Nd)) (Int × Int) := match zcl (zaz s) s with
 | .inr q => .inr (q.1, q.2)
 | .inl l => fin (mkE l) s.size (rdN (mkE l))
def alN (E : PE) : Sum (List Rl) (Nat × Int) := match exN E 0 with
 | .inr q => .inr q
 | .inl p => if p.1 < E.l.length then .inr (p.1, 60) else .inl [(0, ⟨#[]⟩, p.2)]
def paR (s : ByteArray) : Sum (List (ByteArray × List Nd)) (Int × Int) := match zcl (zaz s) s with
 | .inr q => .inr (q.1, q.2)
 | .inl l => fin (mkE l) s.size (alN (mkE l))
theorem zof {E : PE} (h : ¬ ruB E 0 = true) : rdN E = alN E := by
 unfold rdN alN
 rw [if_neg h]
 cases exN E 0 <;> rfl
end Go.Proofs.YtnpifgcgjgddoaaGreatDoor.N
namespace Go.Proofs.YtnpifgcgjgddoaaGreatDoor
open Go.RowKit
def LxP (w w' : World) (r : Sum (List Tk) (Nat × Int)) (e : Ending) : Prop := match r with
 | .inr q => e = .returned (.tuple #[.slice none 0 0, .agg #[.int .i64 q.1, .int .i64 q.2]])
 | .inl l => ∃ v, e = .returned (.tuple #[v, .agg #[.int .i64 0, .int .i64 0]]) /\ w'.ownsRow w.heap.size 115 9 v l.length (tkc l)
structure AtY (w W : World) (s : ByteArray) (v : Value) (out : List Tk) (i f : Nat) : Prop where
 b : Below w.heap.size w W
 x : FX W w.heap.size 0 0
 g : SG W
 o : W.ownsRow w.heap.size 115 9 v out.length (tkc out)
 hi : i <= s.size
 hf : s.size < f + zbT s i
 he : zcW (zaz s) s f out (zbT s i) = zcl (zaz s) s
 hl : out.length <= i
theorem zpV {W : World} {B n b : Nat} {v : Value} {xs : List Value} {p q : Int} (h : W.ownsRow B 115 9 v n xs) (hx : FX W b p q) (p' q' : Int) : (stF W b p' q').ownsRow B 115 9 v n xs := by
 refine ⟨h.1, ?_⟩
 rcases h.2 with hn | ⟨g, cap, cur, rfl, hB, hgg, rest⟩
 ·exact .inl hn
 ·refine .inr ⟨g, cap, cur, rfl, hB, ?_, rest⟩
  have hne : g ≠ b := by
   rintro rfl
   rw [hx.heap] at hgg
   injection hgg with h1
   injection h1 with h2 h3
   cases h3
  rw [zcA p' q' hne]
  exact hgg
theorem own_ne {W : World} {B n b : Nat} {v : Value} {xs : List Value} {p q : Int} (h : W.ownsRow B 115 9 v n xs) (hx : FX W b p q) : v.ownBlock ≠ some b := by
 rcases h.2 with ⟨rfl, _⟩ | ⟨g, cap, cur, rfl, hB, hgg, rest⟩
 ·intro q; cases q
 ·intro q
  cases q
  rw [hx.heap] at hgg
  injection hgg with h1
  injection h1 with h2 h3
  cases h3
theorem FX.grown {W W' : World} {b : Nat} {p e : Int} {row : Option Nat} (h : FX W b p e) (hg : W.grownBy W' row) (hne : row ≠ some b) : FX W' b p e := ⟨(hg.block b h.lt (fun e => hne e.symm)).trans h.heap⟩
theorem zci {B : Nat} {w W : World} {b : Nat} (h : Below B w W) (hb : B <= b) (p q : Int) : Below B w (stF W b p q) := (h.setCell (p := ⟨b, 0, none⟩) hb _).setCell (p := ⟨b, 1, none⟩) hb _
theorem zkG {fn : Func} {R : Ending -> World -> Prop} {a : Act} {W : World} {b : Nat} {p e : Int} {v : Value} (hF : fn.results = #[.tmp 2, .cell 3 39]) (hd : a.defers = []) (h2 : a.tmps.getD 2 undef = v) (h3 : a.tmps.getD 3 undef = .pointer (some ⟨b, 0, none⟩)) (hT : FX W b p e) (hR : R (.returned (.tuple #[v, .agg #[.int .i64 p, .int .i64 e]])) W) : bodyPost Tryz.prog fn R .ret a W := by
 have c0 := hT.c0
 have c1 := hT.c1
 refine bodyPost_ret (v := .tuple #[v, .agg #[.int .i64 p, .int .i64 e]]) ?_ hd hR
 simp only [Array.getD_eq_getD_getElem?] at h2 h3
 simp [results, hF, go_sem, h2, h3, c0, c1]
theorem zpW (s : ByteArray) (hs : s.size <= 65536)
  (H2 : ∀ b t, b < s.size -> zaz s b = .inl t -> ∃ e : Nat, t.en = e /\ b < e /\ e <= s.size) (H3 : ∀ b q, zaz s b = .inr q -> q.2 ≠ 0) (w : World) (hg : SG w) :
  Calls Tryz.prog 61 #[.string s] w fun e w' => LxP w w' (zcl (zaz s) s) e /\ Below w.heap.size w w' := by
 have t1 : ¬ (65536 : Int) < (s.size : Int) := by omega
 obtain ⟨i0, hinf, hz0, hz1, hz2⟩ := info_parts Tryz.info36
 have HB : Hid (∀ k w, k <= s.size -> Calls Tryz.prog 85 #[.string s, .int .i64 ((k : Nat) : Int)] w fun e w' => e = .returned (.int .i64 (spN blB s k)) /\ w' = w) := fun k w hk => ziX s k (by omega) hk w
 have HLn : Hid (∀ k w, k <= s.size -> Calls Tryz.prog 87 #[.string s, .int .i64 ((k : Nat) : Int)] w fun e w' => e = .returned (.int .i64 (spN lnB s k)) /\ w' = w) := fun k w hk => zg2 s k (by omega) hk w
 have HS : Hid (∀ k w, k <= s.size -> Calls Tryz.prog 86 #[.string s, .int .i64 ((k : Nat) : Int), .string ⟨#[45, 45]⟩] w fun e w' => e = .returned (.bool (pfx s k [45, 45])) /\ w' = w) := fun k w hk => zar s k ⟨#[45, 45]⟩ hk w
 have HO : Hid (∀ b w, b < s.size -> SG w -> Calls Tryz.prog 88 #[.string s, .int .i64 ((b : Nat) : Int)] w fun e w' => e = .returned (zaP (zaz s b)) /\ Below w.heap.size w w') := fun b w hb g => zfP s b hs hb w g
 have HE : Hid ((∀ b t, b < s.size -> zaz s b = .inl t -> ∃ e : Nat, t.en = e /\ b < e /\ e <= s.size) /\ ∀ b q, zaz s b = .inr q -> q.2 ≠ 0) := ⟨H2, H3⟩
 have HG0 : Hid (SG w) := hg
 have H0 := (show Hid (AtY w (w.alloc (fxO 0 0)) s (.slice none 0 0) [] 0 (s.size + 1)) from
  ⟨zaa _ _, ⟨heap_alloc_new w _⟩, hg.later (zaa _ _), World.ownsRow_nil _ _ _ _, by omega, by have := (zc8 (s := s) (i := 0) (by omega)).1; omega, by unfold zcl; rw [if_neg (by omega)], Nat.le_refl _⟩)
 clear H2 H3 hg
 go_enter Tryz.func61, Tryz.ntmps61
 go_wp2_with fail
 refine zeR 2 0 (fun a' W => ∃ (out : List Tk) (i f : Nat) (v u6 u7 u8 u9 u10 u11 u12 u13 u14 u15 u16 u17 u18 u19 u20 u21 u22 u23 u24 u25 u26 u27 u28 u29 u30 u31 u32 u33 u34 u35 u36 u37 u38 u39 u40 u41 u42 u43 u44 : Value), a' = { tmps := #[.string s, undef, .slice none 0 0, .pointer (some ⟨w.heap.size, 0, none⟩), v, .int .i64 i, u6, u7, u8, u9, u10, u11, u12, u13, u14, u15, u16, u17, u18, u19, u20, u21, u22, u23, u24, u25, u26, u27, u28, u29, u30, u31, u32, u33, u34, u35, u36, u37, u38, u39, u40, u41, u42, u43, u44], defers := [] } /\ Hid (AtY w W s v out i f)) (fun a' _ => s.size - (intOf (a'.tmps.getD 5 undef)).toNat) rfl ?_ ?_
 case refine_2 =>
  rintro a' W ⟨out, i, f, v, u6, u7, u8, u9, u10, u11, u12, u13, u14, u15, u16, u17, u18, u19, u20, u21, u22, u23, u24, u25, u26, u27, u28, u29, u30, u31, u32, u33, u34, u35, u36, u37, u38, u39, u40, u41, u42, u43, u44, rfl, HW⟩
  clear H0
  have hi := HW.out.hi
  have hf := HW.out.hf
  have hol := HW.out.hl
  have hge := zbo blB s (by decide) i
  have hle := zbQ blB s (by decide) i hi
  have HBi := (show Hid _ from fun w => HB.out i w hi)
  have HSi := (show Hid _ from fun w => HS.out (spN blB s i) w hle)
  have HLi := (show Hid _ from fun w => HLn.out (spN blB s i) w hle)
  have HGe : Hid (spN blB s i = s.size -> zbT s i = s.size) := fun h => zna h
  have HGn : Hid (chr s (spN blB s i) = 45 -> chr s (spN blB s i + 1) = 45 -> zbT s i = zbT s (spN lnB s (spN blB s i)) /\ spN blB s i < spN lnB s (spN blB s i)) := fun a b => zkE a b
  have HGh : Hid (spN blB s i < s.size -> ¬ (chr s (spN blB s i) = 45 /\ chr s (spN blB s i + 1) = 45) -> zbT s i = spN blB s i) := fun a b => zkF a b
  have hle2 := zbQ lnB s (by decide) (spN blB s i) hle
  generalize hp : spN blB s i = p at *
  clear HB HS HLn hp
  by_cases hend : p = s.size
  ·have HV : Hid (zcl (zaz s) s = .inl out) := by
    show zcl (zaz s) s = _
    rw [<- HW.out.he, HGe.out hend]
    obtain ⟨f, rfl⟩ : ∃ g, f = g + 1 := ⟨f - 1, by have := HGe.out hend; omega⟩
    rw [zcW, if_neg (by omega)]
   have v1 : ((p : Int) == (s.size : Int)) = true := by rw [hend]; exact beq_self_eq_true _
   have f0 := HW.out.x.f0
   have f1' := HW.out.x.f1
   have c0 := HW.out.x.c0
   have c1 := HW.out.x.c1
   clear HSi HLi HGe HGn HGh HO HE hend
   go_wp2_with fail
   refine (HBi.out _).mono ?_
   rintro e W ⟨rfl, rfl⟩
   clear HBi
   go_wp2_with fail
   refine zkG rfl rfl rfl rfl (zen HW.out.x 0 0) ⟨?_, zci HW.out.b (Nat.le_refl _) 0 0⟩
   rw [HV.out]
   exact ⟨v, rfl, zpV HW.out.o HW.out.x 0 0⟩
  have v1 : ((p : Int) == (s.size : Int)) = false := by rw [beq_eq_false_iff_ne]; omega
  have hplt : p < s.size := by omega
  by_cases hn : chr s p = 45 /\ chr s (p + 1) = 45
  ·obtain ⟨hg1, hg2⟩ := HGn.out hn.1 hn.2
   have hpf : pfx s p [45, 45] = true := by
    show (chr s p == 45 && (chr s (p + 1) == 45 && true)) = true
    rw [hn.1, hn.2]; rfl
   rw [hpf] at HSi
   generalize spN lnB s p = q at *
   have HW2 : Hid (AtY w W s v out q f) := ⟨HW.out.b, HW.out.x, HW.out.g, HW.out.o, hle2, by have := HW.out.hf; rw [hg1] at this; exact this, by rw [<- hg1]; exact HW.out.he, by have := HW.out.hl; omega⟩
   clear HGe HGn HGh HO HE hend hn hg1 hpf HW
   go_wp2_with fail
   refine (HBi.out _).mono ?_
   rintro e W ⟨rfl, rfl⟩
   clear HBi
   go_wp2_with fail
   refine (HSi.out _).mono ?_
   rintro e W ⟨rfl, rfl⟩
   clear HSi
   go_wp2_with fail
   go_step3
   simp (config := { zetaDelta := true }) only [zbp, zcG]
   refine zgp rfl ?_
   go_wp2_with fail
   refine (HLi.out _).mono ?_
   rintro e W ⟨rfl, rfl⟩
   clear HLi
   go_wp2_with fail
   go_step3
   simp (config := { zetaDelta := true }) only [zbp]
   refine zku ⟨⟨out, q, f, v, _, _, _, _, _, _, _, _, _, _, _, _, _, _, _, _, _, _, _, _, _, _, _, _, _, _, _, _, _, _, _, _, _, _, _, _, _, _, _, rfl, HW2⟩, ?_⟩
   simp [intOf]
   omega
  ·have hg1 := HGh.out hplt hn
   have hpf : pfx s p [45, 45] = false := by
    show (chr s p == 45 && (chr s (p + 1) == 45 && true)) = false
    by_cases h1 : chr s p = 45
    ·have h2 : ¬ chr s (p + 1) = 45 := fun q => hn ⟨h1, q⟩
     rw [bF h2]; simp
    ·rw [bF h1]; rfl
   rw [hpf] at HSi
   have HOp : Hid (∀ w, SG w -> Calls Tryz.prog 88 #[.string s, .int .i64 ((p : Nat) : Int)] w fun e w' => e = .returned (zaP (zaz s p)) /\ Below w.heap.size w w') := fun w g => HO.out p w hplt g
   obtain ⟨f, rfl⟩ : ∃ g, f = g + 1 := ⟨f - 1, by omega⟩
   have HU : Hid (zcl (zaz s) s = match zaz s p with
    | .inr q => .inr q
    | .inl t => zcW (zaz s) s f (out ++ [t]) (zbT s t.en.toNat)) := by show zcl (zaz s) s = _; rw [<- HW.out.he, zcW, hg1, if_pos hplt]; cases zaz s p <;> rfl
   cases ho : zaz s p with
   | inr q =>
    have hne := HE.out.2 p q ho
    have HV : Hid (zcl (zaz s) s = .inr q) := by show zcl (zaz s) s = _; rw [HU.out, ho]
    rw [ho] at HOp
    have t3 : (q.2 != 0) = true := by rw [bne, bF hne]; rfl
    clear HGe HGn HGh HO HE hend hn hg1 hpf HLi HU ho hne
    go_wp2_with fail
    refine (HBi.out _).mono ?_
    rintro e W ⟨rfl, rfl⟩
    clear HBi
    go_wp2_with fail
    refine (HSi.out _).mono ?_
    rintro e W ⟨rfl, rfl⟩
    clear HSi
    go_wp2_with fail
    go_step3
    simp (config := { zetaDelta := true }) only [zbp, zcG]
    refine zgp rfl ?_
    go_wp2_with fail
    refine (HOp.out _ HW.out.g).mono ?_
    rintro e w3 ⟨rfl, b3⟩
    have HB5 := (show Hid (Below w.heap.size w ((w3.alloc (tkO tk0)).alloc (fxO q.1 q.2)) /\ FX ((w3.alloc (tkO tk0)).alloc (fxO q.1 q.2)) w.heap.size 0 0 /\ FX ((w3.alloc (tkO tk0)).alloc (fxO q.1 q.2)) (w3.heap.size + 1) q.1 q.2) from
     ⟨(((HW.out.b.trans (b3.mono HW.out.b.size)).alloc (Nat.le_trans HW.out.b.size b3.size) _).alloc (by rw [World.size_alloc]; have := HW.out.b.size; have := b3.size; omega) _), ((HW.out.x.below b3).below (zaa _ _)).below (zaa _ _), ⟨by
      have h := heap_alloc_new (w3.alloc (tkO tk0)) (fxO q.1 q.2)
      rw [World.size_alloc] at h
      exact h⟩⟩)
    have hlt3 := (HW.out.x.below b3).lt
    have ne1 : ¬ w3.heap.size + 1 = w.heap.size := by omega
    have ne2 : ¬ w.heap.size = w3.heap.size + 1 := by omega
    clear b3 HW HOp
    unfold zaP zaE
    go_wp2_with fail
    generalize (w3.alloc (tkO tk0)).alloc (fxO q.1 q.2) = w5 at *
    have f0 := HB5.out.2.1.f0
    have f1' := HB5.out.2.1.f1
    have c0 := HB5.out.2.1.c0
    have c1 := HB5.out.2.1.c1
    have k0 := HB5.out.2.2.c0
    have k1 := HB5.out.2.2.c1
    go_region
    all_goals
     go_wp2_with fail
     simp only [zdo]
     refine zkG rfl rfl rfl rfl ((zen HB5.out.2.1 q.1 q.2).below (Below.refl _ _).drew) ⟨?_, (zci HB5.out.1 (Nat.le_refl _) q.1 q.2).drew⟩
     rw [HV.out]
     exact rfl
   | inl t =>
    obtain ⟨en, he1, he2, he3⟩ := HE.out.1 p t hplt ho
    have HV : Hid (zcW (zaz s) s f (out ++ [t]) (zbT s en) = zcl (zaz s) s) := by show _ = zcl (zaz s) s; rw [HU.out, ho]; show _ = zcW (zaz s) s f (out ++ [t]) (zbT s t.en.toNat); rw [he1]; rfl
    have hgb := zc8 he3
    have HEn : Hid (t.en = (en : Int)) := he1
    clear he1
    rw [ho] at HOp
    clear HGe HGn HGh HO HE hend hn hpf HLi HU ho
    go_wp2_with fail
    refine (HBi.out _).mono ?_
    rintro e W ⟨rfl, rfl⟩
    clear HBi
    go_wp2_with fail
    refine (HSi.out _).mono ?_
    rintro e W ⟨rfl, rfl⟩
    clear HSi
    go_wp2_with fail
    go_step3
    simp (config := { zetaDelta := true }) only [zbp, zcG]
    refine zgp rfl ?_
    go_wp2_with fail
    refine (HOp.out _ HW.out.g).mono ?_
    rintro e w3 ⟨rfl, b3⟩
    have hO : w3.ownsRow w.heap.size 115 9 v out.length (tkc out) := zoY HW.out.o b3
    have HB3 : Hid (Below w.heap.size w w3 /\ FX w3 w.heap.size 0 0 /\ SG w3) := ⟨HW.out.b.trans (b3.mono HW.out.b.size), HW.out.x.below b3, HW.out.g.later b3⟩
    have hs3 := HB3.out.1.size
    have HX : Hid (TX ((w3.alloc (tkO t)).alloc (fxO 0 0)) w3.heap.size t) := (TX.new w3 t).below (zaa _ _)
    clear b3 HOp HW
    unfold zaP zaE
    obtain ⟨c0, c1, c2, c3, c4, c5, c6, c7, c8⟩ := HX.out.cells
    go_wp2_with (at_builtin; refine wpList_append_lies _ rfl _ _ 111 rfl w.heap.size 115 i0 (tkG tk0) 9 80 Tryz.underlying111 hinf hz0 hz1 hz2 rfl (by decide) _ _ _ rfl (((hO.alloc _).alloc _).alloc _) ⟨w3.heap.size + 1 + 1, 0, none⟩ 1 1 (tkV t) rfl rfl ?c1 (zn6 _) (by decide) ?c3 ?c4 ?c5 (w3.heap.size + 1 + 1 + 1) (by simp) ?_)
    case c1 =>
     have hh := heap_alloc_new ((w3.alloc (tkO t)).alloc (fxO 0 0)) (.cells (tkC t) 115)
     rw [World.size_alloc, World.size_alloc] at hh
     exact World.news_of_block (cs := tkC t) (t := 115) (fr := (0, 0)) hh
    case c3 => unfold maxLen; omega
    case c4 => omega
    case c5 => first | omega | (simp; omega)
    intro g3 cap w4 hown hgrow hat _
    have hgo : ∀ k, v.ownBlock = some k -> w.heap.size <= k /\ k < w3.heap.size := fun k e => hO.lt k e
    have hne4 := own_ne hO HB3.out.2.1
    have HX4 : Hid (TX w4 w3.heap.size t) := (HX.out.below (zaa _ _)).grown hgrow (fun e => by have := (hgo _ e).2; omega)
    have hb4 : Below w.heap.size w w4 := (((HB3.out.1.alloc hs3 _).alloc (by rw [World.size_alloc]; omega) _).alloc (by rw [World.size_alloc, World.size_alloc]; omega) _).grown hgrow (by rw [World.size_alloc, World.size_alloc, World.size_alloc]; omega) (fun k e => (hgo k e).1)
    have HW4 := (show Hid (AtY w w4 s (.slice (some ⟨g3, 0, none⟩) (out.length + 1) cap) (out ++ [t]) en f) from by
     refine ⟨hb4, (((HB3.out.2.1.below (zaa _ _)).below (zaa _ _)).below (zaa _ _)).grown hgrow hne4, HG0.out.below hb4 HG0.out.lt, ?_, he3, by rw [hg1] at hf; omega, HV.out, by rw [List.length_append, List.length_singleton]; omega⟩
     rw [List.length_append, List.length_singleton, ze7, zjP]
     exact hown)
    have e3 := HX4.out.cells.c3
    rw [HEn.out] at e3
    clear hown hgrow hat hgo hO HB3 HX HV c0 c1 c2 c3 c4 c5 c6 c7 c8 hne4 hb4 HX4
    go_wp2_with fail
    go_step3
    simp (config := { zetaDelta := true }) only []
    refine zku ⟨⟨out ++ [t], en, f, _, _, _, _, _, _, _, _, _, _, _, _, _, _, _, _, _, _, _, _, _, _, _, _, _, _, _, _, _, _, _, _, _, _, _, _, _, _, _, _, rfl, HW4⟩, ?_⟩
    simp [intOf]
    omega
 case refine_1 =>
  intro hpass
  have HPs := hO hpass
  clear hpass
  go_wp2_with fail
  go_step3
  rename_i hK
  refine hK _ _ ?_
  refine HPs.out _ _ ?_
  exact ⟨[], 0, s.size + 1, .slice none 0 0, _, _, _, _, _, _, _, _, _, _, _, _, _, _, _, _, _, _, _, _, _, _, _, _, _, _, _, _, _, _, _, _, _, _, _, _, _, _, _, rfl, H0⟩
theorem zkH (s : ByteArray) (hs : 65536 < s.size) (w : World) : Calls Tryz.prog 61 #[.string s] w fun e w' => LxP w w' (zcl (zaz s) s) e /\ Below w.heap.size w w' := by
 have t1 : (65536 : Int) < (s.size : Int) := by omega
 have HE : Hid (zcl (zaz s) s = .inr (0, 2)) := by show zcl (zaz s) s = _; unfold zcl; rw [if_pos hs]
 go_enter Tryz.func61, Tryz.ntmps61
 go_wp2_with fail
 refine zaG 1 0 rfl ?_
 go_wp2_with fail
 simp only [zdo]
 refine zkG (b := w.heap.size) (p := 0) (e := 2) rfl rfl rfl rfl ⟨heap_alloc_new w _⟩ ⟨?_, zaa _ _⟩
 rw [HE.out]
 exact rfl
theorem zdr (s : ByteArray) (q : Int) (b : Nat) (hq : 0 <= q) : ∀ (f : Nat) (out : List Int) (i : Nat) (t : Tk), zbR s q b f out i = .inl t -> ∃ e : Nat, t.en = e /\ i < e /\ e <= s.size := by
 intro f
 induction f with
 | zero => intro out i t h; rw [zbR] at h; cases h
 | succ f ih =>
  intro out i t h
  rw [zbR] at h
  split at h
  ·cases h
  next h0 =>
  split at h
  next h1 =>
   split at h
   ·cases h
   ·cases h
    have := zaC (s := s) (i := i) (by omega)
    exact ⟨i + 1, rfl, by omega, by omega⟩
  split at h
  ·cases h
  split at h
  ·obtain ⟨e, h1, h2, h3⟩ := ih _ _ _ h
   exact ⟨e, h1, by omega, h3⟩
  ·split at h
   ·cases h
   ·next c n he =>
    have h4 := zfO he
    obtain ⟨e, h1, h2, h3⟩ := ih _ _ _ h
    exact ⟨e, h1, by omega, h3⟩
theorem znb (s : ByteArray) (q : Int) (b : Nat) : ∀ (f : Nat) (out : List Int) (i : Nat) (p : Nat × Int), zbR s q b f out i = .inr p -> p.2 ≠ 0 := by
 intro f
 induction f with
 | zero => intro out i p h; rw [zbR] at h; cases h; simp
 | succ f ih =>
  intro out i p h
  rw [zbR] at h
  split at h
  ·cases h; simp
  split at h
  ·split at h
   ·cases h; simp
   ·cases h
  split at h
  ·cases h; simp
  split at h
  ·exact ih _ _ _ h
  ·split at h
   ·cases h; simp
   ·exact ih _ _ _ h
theorem zkI {s : ByteArray} {d : Nat} {m n : Int} (h : zde s d m = .inl n) : d < spN dgB s d := by
 unfold zde at h
 split at h
 ·cases h
 ·omega
theorem zid {s : ByteArray} {b d : Nat} {k : Int} {t : Tk} (hd : d <= s.size) (h : nmR s b d k = .inl t) : ∃ e : Nat, t.en = e /\ d < e /\ e <= s.size := by
 unfold nmR at h
 cases hn : zde s d (gtK k) with
 | inr e => rw [hn] at h; cases h
 | inl n =>
  rw [hn] at h
  cases h
  exact ⟨_, rfl, zkI hn, zbQ dgB s (by decide) d hd⟩
theorem zpX {s : ByteArray} {d : Nat} {m e : Int} (h : zde s d m = .inr e) : e ≠ 0 := by
 unfold zde at h
 split at h
 ·cases h; simp
 ·split at h
  ·cases h; simp
  ·cases h
theorem zog {s : ByteArray} {b d : Nat} {k : Int} {q : Nat × Int} (h : nmR s b d k = .inr q) : q.2 ≠ 0 := by
 unfold nmR at h
 cases hn : zde s d (gtK k) with
 | inr e => rw [hn] at h; cases h; exact zpX hn
 | inl n => rw [hn] at h; cases h
theorem znc {s : ByteArray} {b : Nat} {q : Nat × Int} (h : zb0 s b = .inr q) : q.2 ≠ 0 := by
 unfold zb0 at h
 split at h
 ·cases h; simp
 ·cases h
theorem zpY {s : ByteArray} {b d : Nat} {q : Nat × Int} (h : zcq s b d = .inr q) : q.2 ≠ 0 := by
 unfold zcq at h
 split at h
 ·split at h
  ·cases h; simp
  ·split at h <;> cases h
 ·cases h
theorem zhk {s : ByteArray} {b d : Nat} {t : Tk} (hd : d <= s.size) (h : zcq s b d = .inl t) : ∃ e : Nat, t.en = e /\ d <= e /\ e <= s.size := by
 unfold zcq at h
 split at h
 ·split at h
  ·cases h
  ·split at h
   ·next hc =>
    cases h
    have h1 := zbo nmB s (by decide) d
    have h2 := zaC (s := s) (i := spN nmB s d) (by omega)
    exact ⟨_, rfl, by omega, by omega⟩
   ·cases h; exact ⟨d, rfl, Nat.le_refl _, hd⟩
 ·cases h; exact ⟨d, rfl, Nat.le_refl _, hd⟩
theorem znd (s : ByteArray) (i : Nat) : ∀ l : List (Int × List UInt8), (∀ p ∈ l, p.1 ≠ 0 /\ 1 <= p.2.length) -> (zib s i l).1 = 0 ∨ 1 <= (zib s i l).2.length := by
 intro l
 induction l with
 | nil => intro _; exact .inl rfl
 | cons p l ih =>
  intro h
  rw [zib]
  split
  ·exact .inr (h p (List.mem_cons_self ..)).2
  ·exact ih (fun q hq => h q (List.mem_cons_of_mem _ hq))
theorem zie (s : ByteArray) (i : Nat) : (zai s i).1 = 0 ∨ 1 <= (zai s i).2.length := znd s i sgTab (by decide)
theorem zhl {s : ByteArray} {b : Nat} {t : Tk} (hb : b <= s.size) (h : zbk s b = .inl t) : ∃ e : Nat, t.en = e /\ b < e /\ e <= s.size := by
 have h1 := zbA s b hb
 have h2 := zie s b
 unfold zbk at h
 split at h
 ·cases h
 next h0 =>
 have h3 : 1 <= (zai s b).2.length := by rcases h2 with q | q; exact absurd q h0; exact q
 split at h
 ·obtain ⟨e, a1, a2, a3⟩ := zid h1 h
  exact ⟨e, a1, by omega, a3⟩
 split at h
 ·obtain ⟨e, a1, a2, a3⟩ := zhk h1 h
  exact ⟨e, a1, by omega, a3⟩
 ·cases h
  exact ⟨_, rfl, by omega, h1⟩
theorem zkJ {s : ByteArray} {b : Nat} {q : Nat × Int} (h : zbk s b = .inr q) : q.2 ≠ 0 := by
 unfold zbk at h
 split at h
 ·cases h; simp
 split at h
 ·exact zog h
 split at h
 ·exact zpY h
 ·cases h
theorem zkK {s : ByteArray} {b : Nat} {t : Tk} (hb : b + 3 <= s.size) (h : zbY s b = .inl t) : ∃ e : Nat, t.en = e /\ b < e /\ e <= s.size := by
 have h1 := zbE hb
 unfold zbY at h
 split at h
 ·cases h
 split at h
 ·next h45 =>
  have h2 := zaC (s := s) (i := (ptP s (b + 3)).2.1) (by omega)
  have h3 := zbE (s := s) (a := (ptP s (b + 3)).2.1 + 1) (by omega)
  split at h
  ·cases h
  split at h
  ·next hc =>
   cases h
   have h4 := zaC (s := s) (i := (ptP s ((ptP s (b + 3)).2.1 + 1)).2.1) (by omega)
   exact ⟨_, rfl, by omega, by omega⟩
  ·cases h
 ·split at h
  ·next hc =>
   cases h
   have h4 := zaC (s := s) (i := (ptP s (b + 3)).2.1) (by omega)
   exact ⟨_, rfl, by omega, by omega⟩
  ·cases h
theorem zpZ {s : ByteArray} {b : Nat} {q : Nat × Int} (h : zbY s b = .inr q) : q.2 ≠ 0 := by
 unfold zbY at h
 split at h
 ·cases h; simp
 split at h
 ·split at h
  ·cases h; simp
  split at h
  ·cases h
  ·cases h; simp
 ·split at h
  ·cases h
  ·cases h; simp
theorem zkL {s : ByteArray} {b : Nat} {t : Tk} (hb : b <= s.size) (h : zcr s b = .inl t) : ∃ e : Nat, t.en = e /\ b < e /\ e <= s.size := by
 unfold zcr at h
 split at h
 ·next hp => exact zkK (zfI hb hp) h
 split at h
 ·exact zhl hb h
 split at h
 ·next hc => cases h; exact ⟨_, rfl, by omega, by omega⟩
 ·cases h
theorem zp0 {s : ByteArray} {b : Nat} {q : Nat × Int} (h : zcr s b = .inr q) : q.2 ≠ 0 := by
 unfold zcr at h
 split at h
 ·exact zpZ h
 split at h
 ·exact zkJ h
 split at h
 ·cases h
 ·cases h; simp
theorem zkM (s : ByteArray) (b : Nat) (q : Nat × Int) (h : zaz s b = .inr q) : q.2 ≠ 0 := by
 unfold zaz at h
 split at h
 ·exact znc h
 split at h
 ·exact zog h
 split at h
 ·exact znb _ _ _ _ _ _ _ h
 split at h
 ·unfold clT at h
  cases hr : zal s b with
  | inl p => rw [hr] at h; cases h
  | inr p =>
   obtain ⟨a, c⟩ := p
   rw [hr] at h
   have hne := zgu hr
   dsimp only at h
   split at h
   ·cases h; simp
   ·cases h; exact hne
 split at h
 ·exact zp0 h
 ·exact zkJ h
theorem zgx {s : ByteArray} {i : Nat} {x : BitVec 256} {n : Nat} (h : zal s i = .inl (x, n)) : i < n := by
 unfold zal at h
 split at h
 ·simp at h
 ·split at h
  ·split at h
   ·cases hm : zab s (s.size + 1) 0#256 ((i : Int).toNat + 2) with
    | inr pq =>
     obtain ⟨a', c'⟩ := pq
     rw [hm] at h; simp [zdQ] at h
    | inl p => obtain ⟨y, m⟩ := p; have b := zaI hm; rw [hm] at h; simp only [zdQ, Sum.inl.injEq, Prod.mk.injEq] at h; omega
   ·cases hm : zab s (s.size + 1) 0#256 ((i : Int).toNat + 1) with
    | inr pq =>
     obtain ⟨a', c'⟩ := pq
     rw [hm] at h; simp [zfL] at h
    | inl p => obtain ⟨y, m⟩ := p; have b := zaI hm; rw [hm] at h; simp only [zfL, Sum.inl.injEq, Prod.mk.injEq] at h; omega
  ·simp at h
theorem zfQ (s : ByteArray) (b : Nat) (t : Tk) (hb : b < s.size) (h : zaz s b = .inl t) : ∃ e : Nat, t.en = e /\ b < e /\ e <= s.size := by
 unfold zaz at h
 split at h
 ·next hh =>
  unfold zb0 at h
  split at h
  ·cases h
  ·cases h
   have h1 := (zbn (P := nmB) (s := s) (i := b) (by decide) (by unfold nmB; rw [hh]; rfl)).2
   have h2 := zbo nmB s (by decide) (b + 1)
   exact ⟨_, rfl, by omega, zbQ nmB s (by decide) b (by omega)⟩
 split at h
 ·exact zid (by omega) h
 split at h
 ·next hq =>
  obtain ⟨e, a1, a2, a3⟩ := zdr s _ b (by omega) _ _ _ _ h
  exact ⟨e, a1, by omega, a3⟩
 split at h
 ·cases hr : zal s b with
  | inr p =>
   rw [hr, clT] at h
   split at h <;> cases h
  | inl p =>
   obtain ⟨x, n⟩ := p
   rw [hr] at h
   cases h
   exact ⟨n, rfl, zgx hr, zgt hr⟩
 split at h
 ·exact zkL (by omega) h
 ·exact zhl (by omega) h
theorem zif (s : ByteArray) (w : World) (hg : SG w) : Calls Tryz.prog 61 #[.string s] w fun e w' => LxP w w' (zcl (zaz s) s) e /\ Below w.heap.size w w' := by
 by_cases hs : s.size <= 65536
 ·exact zpW s hs (fun b t hb h => zfQ s b t hb h) (fun b q h => zkM s b q h) w hg
 ·exact zkH s (by omega) w
def spT (lo hi : Nat) : List UInt8 := if hi - lo = 0 then itm lo else if hi - lo = 1 then itm lo ++ itm hi else itm lo ++ [45] ++ itm hi
theorem catL (a b : List UInt8) : (⟨a.toArray⟩ : ByteArray) ++ ⟨b.toArray⟩ = ⟨(a ++ b).toArray⟩ := by apply ByteArray.ext; simp
def itB (b : Nat) : ByteArray := ⟨(itm b).toArray⟩
theorem zig (b : Nat) : (itB b).size <= 4 := by
 show (itm b).toArray.size <= 4
 unfold itm
 repeat' split
 all_goals simp
theorem box2 (w : World) (a b : Value) (t : TypeId) : (w.alloc (.cells #[a, b] t)).cell? ⟨w.heap.size, 0, none⟩ = some a /\ (w.alloc (.cells #[a, b] t)).cell? ⟨w.heap.size, 1, none⟩ = some b := by
 constructor <;> simp [go_sem]
theorem zgy (lo hi : Nat) (hle : lo <= hi) (hh : hi < 256) (w : World) :
  Calls Tryz.prog 127 #[.agg #[.int .i64 lo, .int .i64 hi]] w fun e w' => e = .returned (.string ⟨(spT lo hi).toArray⟩) /\ Below w.heap.size w w' := by
 obtain ⟨c0, c1⟩ := box2 w (.int .i64 lo) (.int .i64 hi) 152
 have C0 := hO c0
 have C1 := hO c1
 have HI : Hid (∀ b : Nat, b < 256 -> ∀ w, Calls Tryz.prog 151 #[.int .i64 (b : Int)] w fun e w' => e = .returned (.string (itB b)) /\ Below w.heap.size w w') := fun b hb w => zms b hb w
 have z1 := zig lo
 have z2 := zig hi
 have HB := hO (zaS w (.cells #[.int .i64 lo, .int .i64 hi] 152))
 by_cases h0 : hi - lo = 0
 ·have e0 : ((hi : Int) - (lo : Int) == 0) = true := beq_iff_eq.2 (by omega)
  have HE : Hid (spT lo hi = itm lo) := (by show spT lo hi = _; unfold spT; rw [if_pos h0])
  go_enter Tryz.func127, Tryz.ntmps127
  go_wp2_with fail
  refine (HI.out lo (by omega) _).mono ?_
  rintro e w1 ⟨rfl, hb⟩
  have HR := hO (HB.out.trans (hb.mono (by simp)))
  clear hb
  go_wp2
  go_ret
  exact ⟨by rw [HE.out]; rfl, HR.out⟩
 ·have e0 : ((hi : Int) - (lo : Int) == 0) = false := bF (by omega)
  have HR : Hid (Below (w.heap.size + 1) (w.alloc (.cells #[.int .i64 lo, .int .i64 hi] 152)) (w.alloc (.cells #[.int .i64 lo, .int .i64 hi] 152))) := Below.refl _ _
  by_cases h1 : hi - lo = 1
  ·have e1 : ((hi : Int) - (lo : Int) == 1) = true := beq_iff_eq.2 (by omega)
   have HE : Hid (spT lo hi = itm lo ++ itm hi) := (by show spT lo hi = _; unfold spT; rw [if_neg h0, if_pos h1])
   go_enter Tryz.func127, Tryz.ntmps127
   go_wp2
   go_region_with ((go_at_call 151; refine (HI.out _ (by omega) _).mono ?_; rintro e w1 ⟨rfl, hb⟩; have hz1 := hb.size; (try simp at hz1); have hr2 := (show Below (w.heap.size + 1) (w.alloc (.cells #[.int .i64 lo, .int .i64 hi] 152)) w1 from (by first | exact HR.out.trans (hb.mono (by omega)) | exact HR.out.drew.trans (hb.mono (by simp)))); replace HR := (show Hid _ from hr2); have d0 := (HR.out.cell (p := ⟨w.heap.size, 0, none⟩) (by simp)).trans C0.out; have d1 := (HR.out.cell (p := ⟨w.heap.size, 1, none⟩) (by simp)).trans C1.out))
   all_goals
    go_wp2
    go_ret
    exact ⟨by rw [HE.out]; exact zfn (catL (itm lo) (itm hi)), HB.out.trans (HR.out.mono (by omega))⟩
  ·have e1 : ((hi : Int) - (lo : Int) == 1) = false := bF (by omega)
   have HE : Hid (spT lo hi = itm lo ++ [45] ++ itm hi) := (by show spT lo hi = _; unfold spT; rw [if_neg h0, if_neg h1])
   go_enter Tryz.func127, Tryz.ntmps127
   go_wp2
   go_region_with ((go_at_call 151; refine (HI.out _ (by omega) _).mono ?_; rintro e w1 ⟨rfl, hb⟩; have hz1 := hb.size; (try simp at hz1); have hr2 := (show Below (w.heap.size + 1) (w.alloc (.cells #[.int .i64 lo, .int .i64 hi] 152)) w1 from (by first | exact HR.out.trans (hb.mono (by omega)) | exact HR.out.drew.trans (hb.mono (by simp)))); replace HR := (show Hid _ from hr2); have d0 := (HR.out.cell (p := ⟨w.heap.size, 0, none⟩) (by simp)).trans C0.out; have d1 := (HR.out.cell (p := ⟨w.heap.size, 1, none⟩) (by simp)).trans C1.out))
   all_goals
    go_wp2
    go_ret
    exact ⟨by rw [HE.out]; exact zfn (by exact (congrArg (· ++ itB hi) (catL (itm lo) [45])).trans (catL (itm lo ++ [45]) (itm hi))), HB.out.trans (HR.out.mono (by omega))⟩
theorem eqW (x y : BitVec 256) : (x == y) = (wd x 0 == wd y 0 && (wd x 1 == wd y 1 && (wd x 2 == wd y 2 && wd x 3 == wd y 3))) := by
 rw [Bool.eq_iff_iff]
 simp only [Bool.and_eq_true, beq_iff_eq]
 exact ⟨fun h => by rw [h]; simp, fun ⟨a, b, c, d⟩ => zoG x y a b c d⟩
theorem eq24w (a b c d a' b' c' d' : Int) (w : World) : (Op.equalIn 10000 49 (.agg #[.int .u64 a, .int .u64 b, .int .u64 c, .int .u64 d]) (.agg #[.int .u64 a', .int .u64 b', .int .u64 c', .int .u64 d'])).run Tryz.prog w = .ok (a == a' && (b == b' && (c == c' && d == d'))) w := by
 have u3 := Tryz.underlying47
 have a3 := Tryz.isAgg47
 have z3 := Tryz.sizeOf47
 rw [show (10000 : Nat) = 9999 + 1 from rfl, Op.equalIn]
 simp only [Sem.run_bind, run_underlying Tryz.underlying49, Result.andThen_ok]
 simp only [Std.Legacy.Range.forIn_eq_forIn_range', Std.Legacy.Range.size, Nat.sub_zero, Nat.add_sub_cancel, Nat.div_one, List.range'_succ, List.range'_zero, List.forIn_cons, List.forIn_nil]
 go_simp
 by_cases h1 : a = a' <;> by_cases h2 : b = b' <;> by_cases h3 : c = c' <;> by_cases h4 : d = d' <;> simp [h1, h2, h3, h4]
theorem eq24 (x y : BitVec 256) (w : World) : (Op.equalIn 10000 49 (.agg #[.int .u64 (wd x 0), .int .u64 (wd x 1), .int .u64 (wd x 2), .int .u64 (wd x 3)]) (.agg #[.int .u64 (wd y 0), .int .u64 (wd y 1), .int .u64 (wd y 2), .int .u64 (wd y 3)])).run Tryz.prog w = .ok (x == y) w := by
 rw [eq24w, eqW]
theorem zne (w : World) :
  Calls Tryz.prog 149 #[.agg #[.int .u64 0, .int .u64 0, .int .u64 0, .int .u64 0]] w fun e w' => e = .returned (sv (~~~ 0#256)) /\ Below w.heap.size w w' := by
 have h := zfl 0#256 w
 rw [sv, zah, zah, zah, zah] at h
 exact h
theorem znf (x : BitVec 256) (w : World) :
  Calls Tryz.prog 125 #[sv x] w fun e w' => e = .returned (.bool (x == ~~~ 0#256)) /\ Below w.heap.size w w' := by
 have heq := eq24
 have HR := hO (zaS w (c4 x))
 have HX := hO (Holds.new w x)
 generalize hq : ~~~ 0#256 = q
 have n0 : ∀ w, Calls Tryz.prog 149 #[.agg #[.int .u64 0, .int .u64 0, .int .u64 0, .int .u64 0]] w fun e w' => e = .returned (sv q) /\ Below w.heap.size w w' := by rw [<- hq]; exact zne
 have N0 := hO n0
 clear n0 hq
 go_enter Tryz.func125, Tryz.ntmps125
 go_wp2
 go_region_with ((go_at_call 149; refine (N0.out _).mono ?_; rintro e w1 ⟨rfl, hb⟩; obtain ⟨l0, c0, c1, c2, c3, f0, f1, f2, f3⟩ := (by first | exact HX.out.drew.below hb (by simp) | exact HX.out.below hb (by simp)); replace HR := (show Hid _ from (by first | exact HR.out.drew.trans (hb.mono (by simp)) | exact HR.out.trans (hb.mono (by simp))))))
 all_goals
  go_wp2
  go_ret
  exact ⟨rfl, HR.out⟩
theorem zoh (bs : List Int) (p : Int × Int) (h : p ∈ spL bs) : p.1 <= p.2 := by
 have key : ∀ n (bs : List Int), bs.length = n -> ∀ p ∈ spL bs, p.1 <= p.2 := fun n => by
  induction n with
  | zero => intro bs h p hp; rw [List.eq_nil_of_length_eq_zero h] at hp; simp [spL] at hp
  | succ n ih =>
   intro bs h p hp
   rcases zaQ bs with rfl | ⟨m, b, rfl⟩
   ·simp at h
   ·have ihm := ih m (by simp at h; exact h)
    rw [zcN] at hp
    rcases zaQ (spL m) with hs | ⟨l, ⟨lo, hi⟩, hs⟩
    ·rw [hs] at hp; simp [zca] at hp; subst hp; exact Int.le_refl _
    ·rw [hs] at hp ihm
     by_cases e : hi + 1 = b
     ·rw [zbK _ _ _ _ e] at hp
      rcases List.mem_append.1 hp with h1 | h1
      ·exact ihm p (List.mem_append_left _ h1)
      ·simp at h1; subst h1
       have := ihm (lo, hi) (by simp)
       simp at this ⊢; omega
     ·rw [zbw _ _ _ _ e] at hp
      rcases List.mem_append.1 hp with h1 | h1
      ·exact ihm p h1
      ·simp at h1; subst h1; exact Int.le_refl _
 exact key _ bs rfl p h
theorem zih (x : BitVec 256) (b : Int) (h : b ∈ bys x) : 0 <= b /\ b < 256 := zmi x 256 b h
theorem zii (bs : List Int) (p : Int × Int) (h : p ∈ spL bs) : p.1 ∈ bs /\ p.2 ∈ bs := by
 have key : ∀ n (bs : List Int), bs.length = n -> ∀ p ∈ spL bs, p.1 ∈ bs /\ p.2 ∈ bs := fun n => by
  induction n with
  | zero => intro bs h p hp; rw [List.eq_nil_of_length_eq_zero h] at hp; simp [spL] at hp
  | succ n ih =>
   intro bs h p hp
   rcases zaQ bs with rfl | ⟨m, b, rfl⟩
   ·simp at h
   ·have ihm := ih m (by simp at h; exact h)
    rw [zcN] at hp
    rcases zaQ (spL m) with hs | ⟨l, ⟨lo, hi⟩, hs⟩
    ·rw [hs] at hp; simp [zca] at hp; subst hp; simp
    ·rw [hs] at hp ihm
     have inl : ∀ q ∈ l ++ [(lo, hi)], q.1 ∈ m ++ [b] /\ q.2 ∈ m ++ [b] := fun q hq => ⟨List.mem_append_left _ (ihm q hq).1, List.mem_append_left _ (ihm q hq).2⟩
     by_cases e : hi + 1 = b
     ·rw [zbK _ _ _ _ e] at hp
      rcases List.mem_append.1 hp with h1 | h1
      ·exact inl p (List.mem_append_left _ h1)
      ·simp at h1; subst h1
       exact ⟨(inl (lo, hi) (by simp)).1, by simp⟩
     ·rw [zbw _ _ _ _ e] at hp
      rcases List.mem_append.1 hp with h1 | h1
      ·exact inl p h1
      ·simp at h1; subst h1; simp
 exact key _ bs rfl p h
theorem zdG (x : BitVec 256) : (spL (bys x)).length <= 256 := Nat.le_trans (zjI _) (by rw [zoL]; exact cnt_le x)
theorem zfR (x : BitVec 256) (p : Int × Int) (h : p ∈ spL (bys x)) : 0 <= p.1 /\ p.1 <= p.2 /\ p.2 < 256 :=
 ⟨(zih x _ (zii _ p h).1).1, zoh _ p h, (zih x _ (zii _ p h).2).2⟩
def zcJ (l : List (Int × Int)) : List UInt8 := l.flatMap fun p => spT p.1.toNat p.2.toNat
theorem zkN (l : List (Int × Int)) (p : Int × Int) : zcJ (l ++ [p]) = zcJ l ++ spT p.1.toNat p.2.toNat := by unfold zcJ; rw [List.flatMap_append]; simp
def fulB (x : BitVec 256) : Bool := x == ~~~ 0#256
def shT (x : BitVec 256) : List UInt8 := if fulB x then [91, 94, 93] else 91 :: zcJ (spL (bys x)) ++ [93]
theorem zij (x : BitVec 256) (w : World) : Calls Tryz.prog 125 #[sv x] w fun e w' => e = .returned (.bool (fulB x)) /\ Below w.heap.size w w' := znf x w
theorem zkO (b : Nat) : (itm b).length <= 4 := by
 unfold itm
 repeat' split
 all_goals simp
theorem zkP (lo hi : Nat) : (spT lo hi).length <= 9 := by
 have h1 := zkO lo
 have h2 := zkO hi
 unfold spT
 repeat' split
 ·omega
 ·rw [List.length_append]; omega
 ·rw [List.length_append, List.length_append]; simp only [List.length_singleton]; omega
theorem zkQ (p : Int × Int) (l : List (Int × Int)) : zcJ (p :: l) = spT p.1.toNat p.2.toNat ++ zcJ l := by unfold zcJ; rw [List.flatMap_cons]
theorem zd7 (l : List (Int × Int)) : (zcJ l).length <= 9 * l.length := by
 induction l with
 | nil => simp [zcJ]
 | cons p l ih => have := zkP p.1.toNat p.2.toNat; rw [zkQ, List.length_append, List.length_cons]; omega
theorem zds {w w' : World} {b : Nat} {bs : List Value} (h : Lib.IsBuilder 57 5 b b bs w) (hb : Below w.heap.size w w') : Lib.IsBuilder 57 5 b b bs w' := by
 have key : ∀ p, Lib.BuilderAt 57 5 b b p bs w -> Lib.BuilderAt 57 5 b b p bs w' := fun p hp => by
  have hlt := hp.lt
  obtain ⟨hB, v, hbk, hown, hne⟩ := hp
  exact ⟨hB, v, (hb.block b hlt).trans hbk, zaX hown hb (by omega), hne⟩
 exact h.imp (key _) (key _)
theorem zkR {w w' : World} {b base : Nat} {v : Value} {n : Nat} {xs : List Value} (h : w.ownsRow base 152 2 v n xs) (hk : KeepT b w w') (hb : b < base) : w'.ownsRow base 152 2 v n xs := by
 refine ⟨h.1, h.2.imp id ?_⟩
 rintro ⟨g, cap, cur, h1, h2, h3, h4⟩
 have hlt : g < w.heap.size := (h.lt g (by rw [h1]; rfl)).2
 exact ⟨g, cap, cur, h1, h2, (hk.block g hlt (by omega) (fun c fr e => by rw [h3] at e; cases e)).trans h3, h4⟩
theorem zjg (w : World) (o : Obj) : (w.alloc o).heap.size = w.heap.size + 1 := by simp
theorem zjh {w w' : World} {base e size : Nat} {v : Value} {n : Nat} {xs : List Value} (h : w.ownsRow base e size v n xs) (hb : Below w.heap.size w w') : w'.ownsRow base e size v n xs := by
 refine h.kept (row := none) ⟨hb.os, hb.tape, hb.output, hb.size, fun k hk _ => hb.block k hk⟩ ?_
 cases h2 : v.ownBlock
 ·exact .inl rfl
 ·exact .inr (by simp)
theorem zng {w : World} {b : Nat} {c : UInt8} {m l : List UInt8} (h : Lib.IsBuilder 57 5 b b (Lib.byteCells (c :: m) ++ Lib.strCells ⟨l.toArray⟩) w) : Lib.IsBuilder 57 5 b b (Lib.byteCells (c :: (m ++ l))) w := by
 rw [Lib.strCells_eq, <- Lib.byteCells_append] at h; exact h
theorem zkS {w : World} {b : Nat} {m : List UInt8} (h : Lib.IsBuilder 57 5 b b (Lib.byteCells m ++ [.int .u8 93]) w) : Lib.IsBuilder 57 5 b b (Lib.byteCells (m ++ [93])) w := by
 rw [Lib.byteCells_append]; exact h
theorem zp1 {SL : List (Int × Int)} {k lo hi : Nat} (h : SL.length <= 256) : (Lib.byteCells (91 :: zcJ (SL.take k))).length + (⟨(spT lo hi).toArray⟩ : ByteArray).size <= 140737488355328 := by
 rw [Lib.byteCells_length, List.length_cons]
 have h1 := zd7 (SL.take k)
 have h2 := zkP lo hi
 have h3 : (SL.take k).length <= 256 := by rw [List.length_take]; omega
 show _ + (spT lo hi).toArray.size <= _
 rw [List.size_toArray]
 omega
theorem zp2 {SL : List (Int × Int)} (h : SL.length <= 256) : (Lib.byteCells (91 :: zcJ SL)).length + 1 <= 140737488355328 := by
 rw [Lib.byteCells_length, List.length_cons]
 have h1 := zd7 SL
 omega
theorem zp3 (SL : List (Int × Int)) (k : Nat) (h : k < SL.length) (hok : ∀ p ∈ SL, 0 <= p.1 /\ p.1 <= p.2 /\ p.2 < 256) :
  ∃ lo hi : Nat, lo <= hi /\ hi < 256 /\ (SL[k]).1 = (lo : Int) /\ (SL[k]).2 = (hi : Int) /\ zcJ (SL.take (k + 1)) = zcJ (SL.take k) ++ spT lo hi := by
 obtain ⟨h1, h2, h3⟩ := hok _ (List.getElem_mem h)
 refine ⟨(SL[k]).1.toNat, (SL[k]).2.toNat, by omega, by omega, by omega, by omega, ?_⟩
 rw [<- zkN, List.take_append_getElem h]
theorem zp4 {w : World} {base : Nat} {g : Option Addr} {cap k : Nat} {SL : List (Int × Int)} (h : w.ownsRow base 152 2 (.slice g SL.length cap) SL.length (spc SL)) (hk : k < SL.length) :
  ∃ g', g = some ⟨g', 0, none⟩ /\ w.cell? ⟨g', k * 2, none⟩ = some (.int .i64 (SL[k]).1) /\ w.cell? ⟨g', k * 2 + 1, none⟩ = some (.int .i64 (SL[k]).2) := by
 rcases h.2 with ⟨hv, h0⟩ | ⟨g', cap', cur, hv, hr⟩
 ·omega
 ·cases hv
  exact ⟨g', rfl, (h.cellAt (k * 2) (by omega)).trans (spc_lo SL k hk), (h.cellAt (k * 2 + 1) (by omega)).trans (spc_hi SL k hk)⟩
theorem zb8 (x : BitVec 256) (w : World) :
  Calls Tryz.prog 101 #[sv x] w fun e w' => e = .returned (.string ⟨(shT x).toArray⟩) /\ Below w.heap.size w w' := by
 have HX := hO (Holds.new w x)
 have HB := hO (zaS w (c4 x))
 cases hf : fulB x
 ·have HE : Hid (shT x = 91 :: zcJ (spL (bys x)) ++ [93]) := (by show shT x = _; unfold shT; rw [hf]; rfl)
  go_enter Tryz.func101, Tryz.ntmps101
  go_wp2_with fail
  refine (zij x _).mono ?_
  rintro e w1 ⟨rfl, hb⟩
  have HX1 := hO (HX.out.below hb (by simp))
  have HB1 := hO (HB.out.trans (hb.mono (by simp)))
  have hs1 : w.heap.size < w1.heap.size := HX1.out.lt
  have hbl := hO (Lib.fresh_isBuilder 57 5 w1)
  clear hb HX HB
  go_wp2_with fail
  refine (zbl w1.heap.size [] 91 _ hbl.out (by simp)).mono ?_
  rintro e w2 ⟨rfl, hb, hb2, hk2⟩
  have HL2 := hO hb
  have hs2 : w1.heap.size < w2.heap.size := by have := hb2.size; simp at this; omega
  have HB2 := hO ((HB1.out.alloc (by omega) _).trans (hb2.mono (by omega)))
  have HX2 := hO ((HX1.out.alloc _).below hb2 (by omega))
  clear hb hb2 hk2 hbl HB1 HX1
  obtain ⟨x0, x1, x2, x3⟩ := (⟨HX2.out.c0, HX2.out.c1, HX2.out.c2, HX2.out.c3⟩ : _ /\ _ /\ _ /\ _)
  go_wp2_with fail
  refine (zjJ x _).mono ?_
  rintro e w3 ⟨v, rfl, hro, hnil, hb3⟩
  have HL3 := hO (zds HL2.out hb3)
  have HB3 := hO (HB2.out.trans (hb3.mono (by omega)))
  have hs3 := hb3.size
  have HR := hO hro
  have hsl : ∃ g cap, v = .slice g (spL (bys x)).length cap := by
   rcases hro.2 with ⟨hv, h0⟩ | ⟨g, cap, cur, hv, _⟩
   ·exact ⟨_, _, by rw [h0]; exact hv⟩
   ·exact ⟨_, _, hv⟩
  obtain ⟨g, cap, rfl⟩ := hsl
  have HZ : Hid ((spL (bys x)).length <= 256) := (show (spL (bys x)).length <= 256 from zdG x)
  have HOK : Hid (∀ p ∈ spL (bys x), 0 <= p.1 /\ p.1 <= p.2 /\ p.2 < 256) := (fun p hp => zfR x p hp)
  clear hro hnil hb3 HX2 x0 x1 x2 x3
  have HME : Hid (shT x = 91 :: zcJ (spL (bys x)) ++ [93]) := HE
  clear HE
  generalize spL (bys x) = SL at *
  go_wp2
  go_loopw [12] (fun t wr => ∃ k : Nat, k <= SL.length /\ t = .int .i64 k /\ Hid (Lib.IsBuilder 57 5 w1.heap.size w1.heap.size (Lib.byteCells (91 :: zcJ (SL.take k))) wr /\ wr.ownsRow (w2.heap.size + 1) 152 2 (.slice g SL.length cap) SL.length (spc SL) /\ Below w.heap.size w wr /\ w3.heap.size <= wr.heap.size)) (fun t _ => SL.length - (intOf t).toNat)
  case atStart => exact ⟨0, by omega, rfl, HL3.out, HR.out, HB3.out, Nat.le_refl _⟩
  case round =>
   obtain ⟨k, hk, rfl, HI⟩ := hrel
   have hz := HZ.out
   by_cases hlt : k < SL.length
   ·have hk0 : (0 : Int) <= (k : Int) := by omega
    have hk1 : (k : Int) < (SL.length : Int) := by omega
    obtain ⟨lo, hi, hle, hh, e1, e2, hmem⟩ := zp3 SL k hlt HOK.out
    obtain ⟨g', rfl, c0, c1⟩ := zp4 HI.out.2.1 hlt
    rw [e1] at c0
    rw [e2] at c1
    have hkl : k * 2 + 1 < 2 * SL.length := by omega
    go_wp2_with fail
    refine (zgy lo hi hle hh _).mono ?_
    rintro e w4 ⟨rfl, hb4⟩
    have hs4 := hb4.size
    simp only [zjg] at hs4
    have ha4 : Below wr.heap.size wr w4 := ((Below.refl wr.heap.size wr).alloc (Nat.le_refl _) _).trans (hb4.mono (by simp))
    have hL4 := zds HI.out.1 ha4
    have hO4 := zjh HI.out.2.1 ha4
    have hB4 := HI.out.2.2.1.trans (ha4.mono HI.out.2.2.1.size)
    have hz4 := HI.out.2.2.2
    have HL4 := hO hL4
    have HJ := hO ((⟨hO4, hB4, (by omega : w3.heap.size <= w4.heap.size)⟩ : _ /\ _ /\ _))
    clear hb4 ha4 hL4 hO4 hB4 hz4 HI c0 c1
    go_wp2_with fail
    refine (zbO w1.heap.size _ _ _ HL4.out ?_).mono ?_
    ·exact zp1 HZ.out
    rintro e w5 ⟨rfl, hb, hb5, hk5⟩
    have HL5 := hO hb
    have HK := hO ((⟨zkR HJ.out.1 hk5 (by omega), HJ.out.2.1.trans (hb5.mono (by omega)), Nat.le_trans HJ.out.2.2 hk5.size⟩ : _ /\ _ /\ _))
    clear hb hb5 hk5 HL4 HJ
    go_wp2
    go_roundw
    case rel => exact ⟨k + 1, by omega, by go_num, by rw [hmem]; exact zng HL5.out, HK.out.1, HK.out.2.1, HK.out.2.2⟩
    case measure => simp [intOf]; omega
   ·obtain rfl : k = SL.length := by omega
    rw [List.take_length] at HI
    go_wp2_with fail
    refine (zbl w1.heap.size _ 93 _ HI.out.1 ?_).mono ?_
    ·exact zp2 HZ.out
    rintro e w5 ⟨rfl, hb, hb5, hk5⟩
    have HL5 : Hid (Lib.IsBuilder 57 5 w1.heap.size w1.heap.size (Lib.byteCells (shT x)) w5) := (by rw [HME.out]; exact zkS hb)
    have HB5 := hO (HI.out.2.2.1.trans (hb5.mono (by omega)))
    have hs5 := hk5.size
    have hs6 := HI.out.2.2.2
    clear hb hb5 hk5
    go_wp2_with fail
    refine (Tryz.Builder_String_any w1.heap.size w1.heap.size (shT x) _ HL5.out (by omega)).mono ?_
    rintro e w6 ⟨rfl, hb6⟩
    have HB6 := hO (HB5.out.trans (hb6.mono (by omega)))
    clear hb6
    go_wp2
    go_ret
    exact ⟨rfl, HB6.out⟩
 ·have HE : Hid (shT x = [91, 94, 93]) := (by show shT x = _; unfold shT; rw [hf]; rfl)
  go_enter Tryz.func101, Tryz.ntmps101
  go_wp2_with fail
  refine (zij x _).mono ?_
  rintro e w1 ⟨rfl, hb⟩
  have HB1 := hO (HB.out.trans (hb.mono (by simp)))
  clear hb
  go_wp2
  go_ret
  exact ⟨by rw [HE.out]; rfl, HB1.out⟩
end Go.Proofs.YtnpifgcgjgddoaaGreatDoor
