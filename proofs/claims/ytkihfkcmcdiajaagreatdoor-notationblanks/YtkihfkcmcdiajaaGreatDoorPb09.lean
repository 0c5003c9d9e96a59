/- DERIVED. Plain mathematics and walks, laid together (9). -/
import Derived.Deep.RegionLaw
import Derived.Laws.Bits64
import Derived.Test.YtkihfkcmcdiajaaGreatDoorPb08
set_option maxRecDepth 100000
set_option maxHeartbeats 8000000
namespace Go.Proofs.YtkihfkcmcdiajaaGreatDoor
open Go.RowKit
theorem below_drewN {B : Nat} {a w : World} (h : Below B a w) (n : Nat) : Below B a (w.drewN n) := by
 induction n with
 | zero => exact h
 | succ n ih => exact ih.drew
theorem znM {f : FuncId} {args : Array Value} {v : Value} {w : World} (h : Calls Tryz.prog f args w fun e w' => e = .returned v /\ w' = w) : Calls Tryz.prog f args w fun e w' => e = .returned v /\ ∃ n, w' = w.drewN n := h.mono fun _ _ ⟨h1, h2⟩ => ⟨h1, 0, h2⟩
theorem zkt (s : ByteArray) : ∀ m i, i <= hx7 s i m /\ hx7 s i m <= i + m /\ (i <= s.size -> hx7 s i m <= s.size) := by
 intro m
 induction m with
 | zero => intro i; exact ⟨Nat.le_refl _, Nat.le_refl _, fun q => q⟩
 | succ m ih =>
  intro i
  rw [hx7]
  split
  ·next h =>
   have h1 := zel h
   obtain ⟨a, b, c⟩ := ih (i + 1)
   exact ⟨by omega, by omega, fun _ => c (by omega)⟩
  ·exact ⟨Nat.le_refl _, by omega, fun q => q⟩
theorem zku (s : ByteArray) : ∀ m i k, i <= k -> k < hx7 s i m -> 0 <= zaH (chr s k) := by
 intro m
 induction m with
 | zero => intro i k h1 h2; rw [hx7] at h2; omega
 | succ m ih =>
  intro i k h1 h2
  rw [hx7] at h2
  split at h2
  ·next h =>
   by_cases e : k = i
   ·subst e; exact h
   ·exact ih (i + 1) k (by omega) h2
  ·omega
theorem zkv (s : ByteArray) (i : Nat) (base : Int) (hb : 0 <= base) : ∀ k, (∀ j, j < k -> 0 <= zaH (chr s (i + j))) -> 0 <= zaB s i base k := by
 intro k
 induction k with
 | zero => intro _; exact Int.le_refl _
 | succ k ih =>
  intro h
  rw [zaB]
  have h1 := Int.mul_nonneg (ih (fun j hj => h j (by omega))) hb
  have h2 := h k (by omega)
  omega
def zgP (s : ByteArray) (b f1 e1 f2 e2 : Nat) : Sum Tk (Nat × Int) :=
 if e1 = f1 ∨ f1 + 6 < e1 ∨ e2 = f2 ∨ f2 + 6 < e2 ∨ chr s e2 ≠ 125 then .inr (b, 30)
 else if zaB s f2 16 (e2 - f2) < zaB s f1 16 (e1 - f1) ∨ 1114111 < zaB s f2 16 (e2 - f2) then .inr (b, 30)
 else .inl ⟨5, zaB s f1 16 (e1 - f1), b, e2 + 1, ⟨#[]⟩, zaB s f2 16 (e2 - f2), 0, 0, 0⟩
theorem ptsR_y {s : ByteArray} {b : Nat} (h : chr s (zbT s (b + 3)) = 45) : zb5 s b = zgP s b (b + 3) (zbT s (b + 3)) (zbT s (b + 3) + 1) (zbT s (zbT s (b + 3) + 1)) := by unfold zb5 zgP; simp only [h, if_true]
theorem ptsR_n {s : ByteArray} {b : Nat} (h : ¬ chr s (zbT s (b + 3)) = 45) : zb5 s b = zgP s b (b + 3) (zbT s (b + 3)) (b + 3) (zbT s (b + 3)) := by unfold zb5 zgP; simp only [if_neg h]
theorem zhe (s : ByteArray) (b e1 : Nat) (hs : s.size <= 140737488355000) (hb : b + 3 <= s.size) (he1 : e1 = zbT s (b + 3)) (hd : chr s e1 = 45) (w : World) : Calls Tryz.prog 92 #[.string s, .int .i64 b] w fun e w' => e = .returned (zcG (zb5 s b)) /\ Below w.heap.size w w' := by
 have HWr : Hid (∀ i e w, Calls Tryz.prog 58 #[.int .i64 i, .int .i64 e] w fun e' w' => e' = .returned (.tuple #[tkG tk0, .int .i64 i, .int .i64 e]) /\ Below w.heap.size w w') := fun i e w => zbO i e w
 have HA : Hid (∀ k w, Calls Tryz.prog 55 #[.string s, .int .i64 ((k : Nat) : Int)] w fun e w' => e = .returned (.int .i64 (chr s k)) /\ w' = w) := fun k w => za0 s k w
 have HH1 : Hid (∀ w, Calls Tryz.prog 120 #[.string s, .int .i64 ((b : Int) + 3)] w fun e w' => e = .returned (.int .i64 e1) /\ w' = w) := fun w => by
  have h := zgY s (b + 3) (by omega) (by omega) w
  rw [<- he1] at h
  exact h
 have hbd1 := zkt s 7 (b + 3)
 rw [show hx7 s (b + 3) 7 = e1 from he1.symm] at hbd1
 have t0 : (chr s e1 == 45) = true := by rw [hd]; rfl
 have h1s : e1 < s.size := zau (by omega)
 obtain ⟨e2, he2⟩ : ∃ e2, e2 = zbT s (e1 + 1) := ⟨_, rfl⟩
 have HH2 : Hid (∀ w, Calls Tryz.prog 120 #[.string s, .int .i64 ((e1 : Int) + 1)] w fun e w' => e = .returned (.int .i64 e2) /\ w' = w) := fun w => by
  have h := zgY s (e1 + 1) (by omega) (by omega) w
  rw [<- he2] at h
  exact h
 have hbd2 := zkt s 7 (e1 + 1)
 rw [show hx7 s (e1 + 1) 7 = e2 from he2.symm] at hbd2
 have HU : Hid (zb5 s b = zgP s b (b + 3) e1 (e1 + 1) e2) := by
  show zb5 s b = _
  rw [ptsR_y (by rw [<- he1]; exact hd), <- he1, <- he2]
 have hnn : 0 <= zaB s (e1 + 1) 16 (e2 - (e1 + 1)) := zkv s _ 16 (by omega) _ (fun k hk => zku s 7 (e1 + 1) _ (by omega) (by rw [show hx7 s (e1 + 1) 7 = e2 from he2.symm]; omega))
 have hl1 := hbd1.2.2 hb
 have hl2 := hbd2.2.2 (by omega)
 have hg1 := hbd1.1
 have hg2 := hbd2.1
 clear hbd1 hbd2 he1 he2 hd
 have HW : Hid (∀ f e w, f <= e -> e <= f + 6 -> e <= s.size -> Calls Tryz.prog 85 #[.string (s.extract f e), .int .i64 16] w fun e' w' => e' = .returned (.int .i64 (zaB s f 16 (e - f))) /\ w' = w) := fun f e w h1 h2 h3 => by
  have hsz : (s.extract f e).size = e - f := by rw [ByteArray.size_extract]; omega
  have h := zdt (s.extract f e) 16 (by omega) (by omega) w
  rw [hsz, zcF (by omega) (e - f) (by omega)] at h
  exact h
 have HX : Hid (TX (w.alloc (tkO tk0)) w.heap.size tk0) := TX.new w tk0
 have HB : Hid (Below w.heap.size w (w.alloc (tkO tk0))) := zaa w _
 by_cases h1 : e1 = b + 3
 ·have HE : Hid (zb5 s b = .inr (b, 30)) := by show zb5 s b = _; rw [HU.out]; unfold zgP; rw [if_pos (.inl h1)]
  have t1 : ((e1 : Int) == (b : Int) + 3) = true := by rw [beq_iff_eq]; omega
  clear HU HW h1
  go_enter Tryz.func92, Tryz.ntmps92
  go_wp2_with fail
  refine (HH1.out _).mono ?_
  rintro e w2 ⟨rfl, rfl⟩
  go_wp2_with fail
  refine (HA.out _ _).mono ?_
  rintro e w2 ⟨rfl, rfl⟩
  go_wp2_with fail
  refine (HH2.out _).mono ?_
  rintro e w2 ⟨rfl, rfl⟩
  go_wp2_with fail
  refine (HWr.out _ _ _).mono ?_
  rintro e w3 ⟨rfl, b3⟩
  have HX3 : Hid (TX w3 w.heap.size tk0) := HX.out.below b3
  have HB3 : Hid (Below w.heap.size w w3) := HB.out.trans (b3.mono HB.out.size)
  clear b3 HWr HX HB
  obtain ⟨c0, c1, c2, c3, c4, c5, c6, c7, c8⟩ := HX3.out.cells
  obtain ⟨f0, f1', f2', f3, f4, f5, f6, f7, f8⟩ := HX3.out.fz
  go_wp2_with fail
  exact zah rfl rfl rfl rfl rfl (zar HX3.out tk0) ⟨by rw [HE.out]; rfl, zad HB3.out (Nat.le_refl _) tk0⟩
 have t1 : ((e1 : Int) == (b : Int) + 3) = false := by rw [beq_eq_false_iff_ne]; omega
 by_cases h2 : b + 3 + 6 < e1
 ·have HE : Hid (zb5 s b = .inr (b, 30)) := by show zb5 s b = _; rw [HU.out]; unfold zgP; rw [if_pos (.inr (.inl h2))]
  have t2 : (b : Int) + 3 + 6 < (e1 : Int) := by omega
  clear HU HW
  go_enter Tryz.func92, Tryz.ntmps92
  go_wp2_with fail
  refine (HH1.out _).mono ?_
  rintro e w2 ⟨rfl, rfl⟩
  go_wp2_with fail
  refine (HA.out _ _).mono ?_
  rintro e w2 ⟨rfl, rfl⟩
  go_wp2_with fail
  refine (HH2.out _).mono ?_
  rintro e w2 ⟨rfl, rfl⟩
  go_wp2_with fail
  refine (HWr.out _ _ _).mono ?_
  rintro e w3 ⟨rfl, b3⟩
  have HX3 : Hid (TX w3 w.heap.size tk0) := HX.out.below b3
  have HB3 : Hid (Below w.heap.size w w3) := HB.out.trans (b3.mono HB.out.size)
  clear b3 HWr HX HB
  obtain ⟨c0, c1, c2, c3, c4, c5, c6, c7, c8⟩ := HX3.out.cells
  obtain ⟨f0, f1', f2', f3, f4, f5, f6, f7, f8⟩ := HX3.out.fz
  go_wp2_with fail
  exact zah rfl rfl rfl rfl rfl (zar HX3.out tk0) ⟨by rw [HE.out]; rfl, zad HB3.out (Nat.le_refl _) tk0⟩
 have t2 : ¬ (b : Int) + 3 + 6 < (e1 : Int) := by omega
 by_cases h3 : e2 = e1 + 1
 ·have HE : Hid (zb5 s b = .inr (b, 30)) := by show zb5 s b = _; rw [HU.out]; unfold zgP; rw [if_pos (.inr (.inr (.inl h3)))]
  have t3 : ((e2 : Int) == (e1 : Int) + 1) = true := by rw [beq_iff_eq]; omega
  clear HU HW h3
  go_enter Tryz.func92, Tryz.ntmps92
  go_wp2_with fail
  refine (HH1.out _).mono ?_
  rintro e w2 ⟨rfl, rfl⟩
  go_wp2_with fail
  refine (HA.out _ _).mono ?_
  rintro e w2 ⟨rfl, rfl⟩
  go_wp2_with fail
  refine (HH2.out _).mono ?_
  rintro e w2 ⟨rfl, rfl⟩
  go_wp2_with fail
  refine (HWr.out _ _ _).mono ?_
  rintro e w3 ⟨rfl, b3⟩
  have HX3 : Hid (TX w3 w.heap.size tk0) := HX.out.below b3
  have HB3 : Hid (Below w.heap.size w w3) := HB.out.trans (b3.mono HB.out.size)
  clear b3 HWr HX HB
  obtain ⟨c0, c1, c2, c3, c4, c5, c6, c7, c8⟩ := HX3.out.cells
  obtain ⟨f0, f1', f2', f3, f4, f5, f6, f7, f8⟩ := HX3.out.fz
  go_wp2_with fail
  exact zah rfl rfl rfl rfl rfl (zar HX3.out tk0) ⟨by rw [HE.out]; rfl, zad HB3.out (Nat.le_refl _) tk0⟩
 have t3 : ((e2 : Int) == (e1 : Int) + 1) = false := by rw [beq_eq_false_iff_ne]; omega
 by_cases h4 : e1 + 1 + 6 < e2
 ·have HE : Hid (zb5 s b = .inr (b, 30)) := by show zb5 s b = _; rw [HU.out]; unfold zgP; rw [if_pos (.inr (.inr (.inr (.inl h4))))]
  have t4 : (e1 : Int) + 1 + 6 < (e2 : Int) := by omega
  clear HU HW
  go_enter Tryz.func92, Tryz.ntmps92
  go_wp2_with fail
  refine (HH1.out _).mono ?_
  rintro e w2 ⟨rfl, rfl⟩
  go_wp2_with fail
  refine (HA.out _ _).mono ?_
  rintro e w2 ⟨rfl, rfl⟩
  go_wp2_with fail
  refine (HH2.out _).mono ?_
  rintro e w2 ⟨rfl, rfl⟩
  go_wp2_with fail
  refine (HWr.out _ _ _).mono ?_
  rintro e w3 ⟨rfl, b3⟩
  have HX3 : Hid (TX w3 w.heap.size tk0) := HX.out.below b3
  have HB3 : Hid (Below w.heap.size w w3) := HB.out.trans (b3.mono HB.out.size)
  clear b3 HWr HX HB
  obtain ⟨c0, c1, c2, c3, c4, c5, c6, c7, c8⟩ := HX3.out.cells
  obtain ⟨f0, f1', f2', f3, f4, f5, f6, f7, f8⟩ := HX3.out.fz
  go_wp2_with fail
  exact zah rfl rfl rfl rfl rfl (zar HX3.out tk0) ⟨by rw [HE.out]; rfl, zad HB3.out (Nat.le_refl _) tk0⟩
 have t4 : ¬ (e1 : Int) + 1 + 6 < (e2 : Int) := by omega
 by_cases h5 : chr s e2 = 125
 ·have t5 : (chr s e2 != 125) = false := by rw [h5]; rfl
  have HV : Hid (zb5 s b = if zaB s (e1 + 1) 16 (e2 - (e1 + 1)) < zaB s (b + 3) 16 (e1 - (b + 3)) ∨ 1114111 < zaB s (e1 + 1) 16 (e2 - (e1 + 1)) then .inr (b, 30) else .inl ⟨5, zaB s (b + 3) 16 (e1 - (b + 3)), b, e2 + 1, ⟨#[]⟩, zaB s (e1 + 1) 16 (e2 - (e1 + 1)), 0, 0, 0⟩) := by show zb5 s b = _; rw [HU.out]; unfold zgP; rw [if_neg (by omega)]
  have HW1 : Hid (∀ w, Calls Tryz.prog 85 #[.string (s.extract (b + 3) e1), .int .i64 16] w fun e' w' => e' = .returned (.int .i64 (zaB s (b + 3) 16 (e1 - (b + 3)))) /\ w' = w) := fun w => HW.out (b + 3) e1 w (by omega) (by omega) (by omega)
  have HW2 : Hid (∀ w, Calls Tryz.prog 85 #[.string (s.extract (e1 + 1) e2), .int .i64 16] w fun e' w' => e' = .returned (.int .i64 (zaB s (e1 + 1) 16 (e2 - (e1 + 1)))) /\ w' = w) := fun w => HW.out (e1 + 1) e2 w (by omega) (by omega) (by omega)
  clear HU HW h5
  generalize zaB s (b + 3) 16 (e1 - (b + 3)) = x1 at *
  generalize zaB s (e1 + 1) 16 (e2 - (e1 + 1)) = x2 at *
  have y1 : (0 : Int) <= (b : Int) + 3 := by omega
  have y2 : (b : Int) + 3 <= (e1 : Int) := by omega
  have y3 : (e1 : Int) <= (s.size : Int) := by omega
  have y4 : (0 : Int) <= (e1 : Int) + 1 := by omega
  have y5 : (e1 : Int) + 1 <= (e2 : Int) := by omega
  have y6 : (e2 : Int) <= (s.size : Int) := by omega
  by_cases g1 : x2 < x1
  ·have HE : Hid (zb5 s b = .inr (b, 30)) := by show zb5 s b = _; rw [HV.out, if_pos (.inl g1)]
   have v1 : decide (x2 < x1) = true := decide_eq_true g1
   clear HV
   go_enter Tryz.func92, Tryz.ntmps92
   go_wp2_with fail
   refine (HH1.out _).mono ?_
   rintro e w2 ⟨rfl, rfl⟩
   go_wp2_with fail
   refine (HA.out _ _).mono ?_
   rintro e w2 ⟨rfl, rfl⟩
   go_wp2_with fail
   refine (HH2.out _).mono ?_
   rintro e w2 ⟨rfl, rfl⟩
   go_wp2_with fail
   refine (HA.out _ _).mono ?_
   rintro e w2 ⟨rfl, rfl⟩
   clear HH1 HH2 HA
   go_wp2_with fail
   go_quiet ((go_at_call 85; first | with_reducible exact Calls.quiet_of (znM (HW1.out _)) | with_reducible exact Calls.quiet_of (znM (HW2.out _))))
   have HXd : Hid (TX ((w.alloc (.cells #[.int .i64 0, .int .i64 0, .int .i64 0, .int .i64 0, .string ⟨#[]⟩, .int .u64 0, .int .u64 0, .int .u64 0, .int .u64 0] 79)).drewN nq) w.heap.size tk0) := HX.out.below (below_drewN (Below.refl _ _) nq)
   have HBd : Hid (Below w.heap.size w ((w.alloc (.cells #[.int .i64 0, .int .i64 0, .int .i64 0, .int .i64 0, .string ⟨#[]⟩, .int .u64 0, .int .u64 0, .int .u64 0, .int .u64 0] 79)).drewN nq)) := below_drewN HB.out nq
   clear HW1 HW2
   generalize (w.alloc (.cells #[.int .i64 0, .int .i64 0, .int .i64 0, .int .i64 0, .string ⟨#[]⟩, .int .u64 0, .int .u64 0, .int .u64 0, .int .u64 0] 79)).drewN nq = w5 at *
   go_wp2_with fail
   refine (HWr.out _ _ _).mono ?_
   rintro e w3 ⟨rfl, b3⟩
   have HX3 : Hid (TX w3 w.heap.size tk0) := HXd.out.below b3
   have HB3 : Hid (Below w.heap.size w w3) := HBd.out.trans (b3.mono HBd.out.size)
   clear b3 HWr HX HB HXd HBd
   obtain ⟨c0, c1, c2, c3, c4, c5, c6, c7, c8⟩ := HX3.out.cells
   obtain ⟨f0, f1', f2', f3, f4, f5, f6, f7, f8⟩ := HX3.out.fz
   go_wp2_with fail
   exact zah rfl rfl rfl rfl rfl (zar HX3.out tk0) ⟨by rw [HE.out]; rfl, zad HB3.out (Nat.le_refl _) tk0⟩
  have v1 : decide (x2 < x1) = false := decide_eq_false g1
  by_cases g2 : 1114111 < x2
  ·have HE : Hid (zb5 s b = .inr (b, 30)) := by show zb5 s b = _; rw [HV.out, if_pos (.inr g2)]
   have v2 : decide (1114111 < x2) = true := decide_eq_true g2
   clear HV
   go_enter Tryz.func92, Tryz.ntmps92
   go_wp2_with fail
   refine (HH1.out _).mono ?_
   rintro e w2 ⟨rfl, rfl⟩
   go_wp2_with fail
   refine (HA.out _ _).mono ?_
   rintro e w2 ⟨rfl, rfl⟩
   go_wp2_with fail
   refine (HH2.out _).mono ?_
   rintro e w2 ⟨rfl, rfl⟩
   go_wp2_with fail
   refine (HA.out _ _).mono ?_
   rintro e w2 ⟨rfl, rfl⟩
   clear HH1 HH2 HA
   go_wp2_with fail
   go_quiet ((go_at_call 85; first | with_reducible exact Calls.quiet_of (znM (HW1.out _)) | with_reducible exact Calls.quiet_of (znM (HW2.out _))))
   have HXd : Hid (TX ((w.alloc (.cells #[.int .i64 0, .int .i64 0, .int .i64 0, .int .i64 0, .string ⟨#[]⟩, .int .u64 0, .int .u64 0, .int .u64 0, .int .u64 0] 79)).drewN nq) w.heap.size tk0) := HX.out.below (below_drewN (Below.refl _ _) nq)
   have HBd : Hid (Below w.heap.size w ((w.alloc (.cells #[.int .i64 0, .int .i64 0, .int .i64 0, .int .i64 0, .string ⟨#[]⟩, .int .u64 0, .int .u64 0, .int .u64 0, .int .u64 0] 79)).drewN nq)) := below_drewN HB.out nq
   clear HW1 HW2
   generalize (w.alloc (.cells #[.int .i64 0, .int .i64 0, .int .i64 0, .int .i64 0, .string ⟨#[]⟩, .int .u64 0, .int .u64 0, .int .u64 0, .int .u64 0] 79)).drewN nq = w5 at *
   go_wp2_with fail
   refine (HWr.out _ _ _).mono ?_
   rintro e w3 ⟨rfl, b3⟩
   have HX3 : Hid (TX w3 w.heap.size tk0) := HXd.out.below b3
   have HB3 : Hid (Below w.heap.size w w3) := HBd.out.trans (b3.mono HBd.out.size)
   clear b3 HWr HX HB HXd HBd
   obtain ⟨c0, c1, c2, c3, c4, c5, c6, c7, c8⟩ := HX3.out.cells
   obtain ⟨f0, f1', f2', f3, f4, f5, f6, f7, f8⟩ := HX3.out.fz
   go_wp2_with fail
   exact zah rfl rfl rfl rfl rfl (zar HX3.out tk0) ⟨by rw [HE.out]; rfl, zad HB3.out (Nat.le_refl _) tk0⟩
  ·have HE : Hid (zb5 s b = .inl ⟨5, x1, b, e2 + 1, ⟨#[]⟩, x2, 0, 0, 0⟩) := by show zb5 s b = _; rw [HV.out, if_neg (by omega)]
   have v2 : decide (1114111 < x2) = false := decide_eq_false g2
   have u9 : IntKind.u64.wrap x2 = x2 := by rw [IntKind.wrap_u64]; omega
   clear HV HWr
   go_enter Tryz.func92, Tryz.ntmps92
   go_wp2_with fail
   refine (HH1.out _).mono ?_
   rintro e w2 ⟨rfl, rfl⟩
   go_wp2_with fail
   refine (HA.out _ _).mono ?_
   rintro e w2 ⟨rfl, rfl⟩
   go_wp2_with fail
   refine (HH2.out _).mono ?_
   rintro e w2 ⟨rfl, rfl⟩
   go_wp2_with fail
   refine (HA.out _ _).mono ?_
   rintro e w2 ⟨rfl, rfl⟩
   clear HH1 HH2 HA
   go_wp2_with fail
   go_quiet ((go_at_call 85; first | with_reducible exact Calls.quiet_of (znM (HW1.out _)) | with_reducible exact Calls.quiet_of (znM (HW2.out _))))
   have HXd : Hid (TX ((w.alloc (.cells #[.int .i64 0, .int .i64 0, .int .i64 0, .int .i64 0, .string ⟨#[]⟩, .int .u64 0, .int .u64 0, .int .u64 0, .int .u64 0] 79)).drewN nq) w.heap.size tk0) := HX.out.below (below_drewN (Below.refl _ _) nq)
   have HBd : Hid (Below w.heap.size w ((w.alloc (.cells #[.int .i64 0, .int .i64 0, .int .i64 0, .int .i64 0, .string ⟨#[]⟩, .int .u64 0, .int .u64 0, .int .u64 0, .int .u64 0] 79)).drewN nq)) := below_drewN HB.out nq
   clear HW1 HW2
   generalize (w.alloc (.cells #[.int .i64 0, .int .i64 0, .int .i64 0, .int .i64 0, .string ⟨#[]⟩, .int .u64 0, .int .u64 0, .int .u64 0, .int .u64 0] 79)).drewN nq = w5 at *
   obtain ⟨c0, c1, c2, c3, c4, c5, c6, c7, c8⟩ := HXd.out.cells
   obtain ⟨q0, q1, q2, q3, q4, q5, q6, q7, q8⟩ := HXd.out.fz
   go_wp2_with fail
   exact zah (t := ⟨5, x1, b, e2 + 1, ⟨#[]⟩, x2, 0, 0, 0⟩) (p := 0) (e := 0) rfl rfl rfl rfl rfl (zar HXd.out ⟨5, x1, b, e2 + 1, ⟨#[]⟩, x2, 0, 0, 0⟩) ⟨by rw [HE.out]; rfl, zad HBd.out (Nat.le_refl _) ⟨5, x1, b, e2 + 1, ⟨#[]⟩, x2, 0, 0, 0⟩⟩
 ·have t5 : (chr s e2 != 125) = true := by rw [bne, bF h5]; rfl
  have HE : Hid (zb5 s b = .inr (b, 30)) := by show zb5 s b = _; rw [HU.out]; unfold zgP; rw [if_pos (.inr (.inr (.inr (.inr h5))))]
  clear HU HW h5
  go_enter Tryz.func92, Tryz.ntmps92
  go_wp2_with fail
  refine (HH1.out _).mono ?_
  rintro e w2 ⟨rfl, rfl⟩
  go_wp2_with fail
  refine (HA.out _ _).mono ?_
  rintro e w2 ⟨rfl, rfl⟩
  go_wp2_with fail
  refine (HH2.out _).mono ?_
  rintro e w2 ⟨rfl, rfl⟩
  go_wp2_with fail
  refine (HA.out _ _).mono ?_
  rintro e w2 ⟨rfl, rfl⟩
  go_wp2_with fail
  refine (HWr.out _ _ _).mono ?_
  rintro e w3 ⟨rfl, b3⟩
  have HX3 : Hid (TX w3 w.heap.size tk0) := HX.out.below b3
  have HB3 : Hid (Below w.heap.size w w3) := HB.out.trans (b3.mono HB.out.size)
  clear b3 HWr HX HB
  obtain ⟨c0, c1, c2, c3, c4, c5, c6, c7, c8⟩ := HX3.out.cells
  obtain ⟨f0, f1', f2', f3, f4, f5, f6, f7, f8⟩ := HX3.out.fz
  go_wp2_with fail
  exact zah rfl rfl rfl rfl rfl (zar HX3.out tk0) ⟨by rw [HE.out]; rfl, zad HB3.out (Nat.le_refl _) tk0⟩
theorem zgx (s : ByteArray) (b e1 : Nat) (hs : s.size <= 140737488355000) (hb : b + 3 <= s.size) (he1 : e1 = zbT s (b + 3)) (hd : ¬ chr s e1 = 45) (w : World) : Calls Tryz.prog 92 #[.string s, .int .i64 b] w fun e w' => e = .returned (zcG (zb5 s b)) /\ Below w.heap.size w w' := by
 have HWr : Hid (∀ i e w, Calls Tryz.prog 58 #[.int .i64 i, .int .i64 e] w fun e' w' => e' = .returned (.tuple #[tkG tk0, .int .i64 i, .int .i64 e]) /\ Below w.heap.size w w') := fun i e w => zbO i e w
 have HA : Hid (∀ k w, Calls Tryz.prog 55 #[.string s, .int .i64 ((k : Nat) : Int)] w fun e w' => e = .returned (.int .i64 (chr s k)) /\ w' = w) := fun k w => za0 s k w
 have HH1 : Hid (∀ w, Calls Tryz.prog 120 #[.string s, .int .i64 ((b : Int) + 3)] w fun e w' => e = .returned (.int .i64 e1) /\ w' = w) := fun w => by
  have h := zgY s (b + 3) (by omega) (by omega) w
  rw [<- he1] at h
  exact h
 have hbd1 := zkt s 7 (b + 3)
 rw [show hx7 s (b + 3) 7 = e1 from he1.symm] at hbd1
 have t0 : (chr s e1 == 45) = false := bF hd
 have HU : Hid (zb5 s b = zgP s b (b + 3) e1 (b + 3) e1) := by
  show zb5 s b = _
  rw [ptsR_n (by rw [<- he1]; exact hd), <- he1]
 have hnn : 0 <= zaB s (b + 3) 16 (e1 - (b + 3)) := zkv s _ 16 (by omega) _ (fun k hk => zku s 7 (b + 3) _ (by omega) (by rw [show hx7 s (b + 3) 7 = e1 from he1.symm]; omega))
 have hl1 := hbd1.2.2 hb
 have hg1 := hbd1.1
 clear hbd1 he1 hd
 have HW : Hid (b + 3 <= e1 -> e1 <= b + 3 + 6 -> ∀ w, Calls Tryz.prog 85 #[.string (s.extract (b + 3) e1), .int .i64 16] w fun e' w' => e' = .returned (.int .i64 (zaB s (b + 3) 16 (e1 - (b + 3)))) /\ w' = w) := fun h1 h2 w => by
  have hsz : (s.extract (b + 3) e1).size = e1 - (b + 3) := by rw [ByteArray.size_extract]; omega
  have h := zdt (s.extract (b + 3) e1) 16 (by omega) (by omega) w
  rw [hsz, zcF (by omega) (e1 - (b + 3)) (by omega)] at h
  exact h
 have HX : Hid (TX (w.alloc (tkO tk0)) w.heap.size tk0) := TX.new w tk0
 have HB : Hid (Below w.heap.size w (w.alloc (tkO tk0))) := zaa w _
 by_cases h1 : e1 = b + 3
 ·have HE : Hid (zb5 s b = .inr (b, 30)) := by show zb5 s b = _; rw [HU.out]; unfold zgP; rw [if_pos (.inl h1)]
  have t1 : ((e1 : Int) == (b : Int) + 3) = true := by rw [beq_iff_eq]; omega
  clear HU HW h1
  go_enter Tryz.func92, Tryz.ntmps92
  go_wp2_with fail
  refine (HH1.out _).mono ?_
  rintro e w2 ⟨rfl, rfl⟩
  go_wp2_with fail
  refine (HA.out _ _).mono ?_
  rintro e w2 ⟨rfl, rfl⟩
  go_wp2_with fail
  refine (HWr.out _ _ _).mono ?_
  rintro e w3 ⟨rfl, b3⟩
  have HX3 : Hid (TX w3 w.heap.size tk0) := HX.out.below b3
  have HB3 : Hid (Below w.heap.size w w3) := HB.out.trans (b3.mono HB.out.size)
  clear b3 HWr
  obtain ⟨c0, c1, c2, c3, c4, c5, c6, c7, c8⟩ := HX3.out.cells
  obtain ⟨f0, f1', f2', f3, f4, f5, f6, f7, f8⟩ := HX3.out.fz
  go_wp2_with fail
  exact zah rfl rfl rfl rfl rfl (zar HX3.out tk0) ⟨by rw [HE.out]; rfl, zad HB3.out (Nat.le_refl _) tk0⟩
 have t1 : ((e1 : Int) == (b : Int) + 3) = false := by rw [beq_eq_false_iff_ne]; omega
 by_cases h2 : b + 3 + 6 < e1
 ·have HE : Hid (zb5 s b = .inr (b, 30)) := by show zb5 s b = _; rw [HU.out]; unfold zgP; rw [if_pos (.inr (.inl h2))]
  have t2 : (b : Int) + 3 + 6 < (e1 : Int) := by omega
  clear HU HW
  go_enter Tryz.func92, Tryz.ntmps92
  go_wp2_with fail
  refine (HH1.out _).mono ?_
  rintro e w2 ⟨rfl, rfl⟩
  go_wp2_with fail
  refine (HA.out _ _).mono ?_
  rintro e w2 ⟨rfl, rfl⟩
  go_wp2_with fail
  refine (HWr.out _ _ _).mono ?_
  rintro e w3 ⟨rfl, b3⟩
  have HX3 : Hid (TX w3 w.heap.size tk0) := HX.out.below b3
  have HB3 : Hid (Below w.heap.size w w3) := HB.out.trans (b3.mono HB.out.size)
  clear b3 HWr
  obtain ⟨c0, c1, c2, c3, c4, c5, c6, c7, c8⟩ := HX3.out.cells
  obtain ⟨f0, f1', f2', f3, f4, f5, f6, f7, f8⟩ := HX3.out.fz
  go_wp2_with fail
  exact zah rfl rfl rfl rfl rfl (zar HX3.out tk0) ⟨by rw [HE.out]; rfl, zad HB3.out (Nat.le_refl _) tk0⟩
 have t2 : ¬ (b : Int) + 3 + 6 < (e1 : Int) := by omega
 by_cases h5 : chr s e1 = 125
 ·have t5 : (chr s e1 != 125) = false := by rw [h5]; rfl
  have HV : Hid (zb5 s b = if zaB s (b + 3) 16 (e1 - (b + 3)) < zaB s (b + 3) 16 (e1 - (b + 3)) ∨ 1114111 < zaB s (b + 3) 16 (e1 - (b + 3)) then .inr (b, 30) else .inl ⟨5, zaB s (b + 3) 16 (e1 - (b + 3)), b, e1 + 1, ⟨#[]⟩, zaB s (b + 3) 16 (e1 - (b + 3)), 0, 0, 0⟩) := by show zb5 s b = _; rw [HU.out]; unfold zgP; rw [if_neg (by omega)]
  have HW1 : Hid (∀ w, Calls Tryz.prog 85 #[.string (s.extract (b + 3) e1), .int .i64 16] w fun e' w' => e' = .returned (.int .i64 (zaB s (b + 3) 16 (e1 - (b + 3)))) /\ w' = w) := HW.out (by omega) (by omega)
  clear HU HW h5
  generalize zaB s (b + 3) 16 (e1 - (b + 3)) = x1 at *
  have y1 : (0 : Int) <= (b : Int) + 3 := by omega
  have y2 : (b : Int) + 3 <= (e1 : Int) := by omega
  have y3 : (e1 : Int) <= (s.size : Int) := by omega
  by_cases g2 : 1114111 < x1
  ·have HE : Hid (zb5 s b = .inr (b, 30)) := by show zb5 s b = _; rw [HV.out, if_pos (.inr g2)]
   have v2 : decide (1114111 < x1) = true := decide_eq_true g2
   clear HV
   go_enter Tryz.func92, Tryz.ntmps92
   go_wp2_with fail
   refine (HH1.out _).mono ?_
   rintro e w2 ⟨rfl, rfl⟩
   go_wp2_with fail
   refine (HA.out _ _).mono ?_
   rintro e w2 ⟨rfl, rfl⟩
   go_wp2_with fail
   refine (HA.out _ _).mono ?_
   rintro e w2 ⟨rfl, rfl⟩
   clear HH1 HA
   go_wp2_with fail
   go_quiet ((go_at_call 85; with_reducible exact Calls.quiet_of (znM (HW1.out _))))
   have HXd : Hid (TX ((w.alloc (.cells #[.int .i64 0, .int .i64 0, .int .i64 0, .int .i64 0, .string ⟨#[]⟩, .int .u64 0, .int .u64 0, .int .u64 0, .int .u64 0] 79)).drewN nq) w.heap.size tk0) := HX.out.below (below_drewN (Below.refl _ _) nq)
   have HBd : Hid (Below w.heap.size w ((w.alloc (.cells #[.int .i64 0, .int .i64 0, .int .i64 0, .int .i64 0, .string ⟨#[]⟩, .int .u64 0, .int .u64 0, .int .u64 0, .int .u64 0] 79)).drewN nq)) := below_drewN HB.out nq
   clear HW1
   generalize (w.alloc (.cells #[.int .i64 0, .int .i64 0, .int .i64 0, .int .i64 0, .string ⟨#[]⟩, .int .u64 0, .int .u64 0, .int .u64 0, .int .u64 0] 79)).drewN nq = w5 at *
   go_wp2_with fail
   refine (HWr.out _ _ _).mono ?_
   rintro e w3 ⟨rfl, b3⟩
   have HX3 : Hid (TX w3 w.heap.size tk0) := HXd.out.below b3
   have HB3 : Hid (Below w.heap.size w w3) := HBd.out.trans (b3.mono HBd.out.size)
   clear b3 HWr
   obtain ⟨c0, c1, c2, c3, c4, c5, c6, c7, c8⟩ := HX3.out.cells
   obtain ⟨f0, f1', f2', f3, f4, f5, f6, f7, f8⟩ := HX3.out.fz
   go_wp2_with fail
   exact zah rfl rfl rfl rfl rfl (zar HX3.out tk0) ⟨by rw [HE.out]; rfl, zad HB3.out (Nat.le_refl _) tk0⟩
  ·have HE : Hid (zb5 s b = .inl ⟨5, x1, b, e1 + 1, ⟨#[]⟩, x1, 0, 0, 0⟩) := by show zb5 s b = _; rw [HV.out, if_neg (by omega)]
   have v2 : decide (1114111 < x1) = false := decide_eq_false g2
   have u9 : IntKind.u64.wrap x1 = x1 := by rw [IntKind.wrap_u64]; omega
   clear HV HWr
   go_enter Tryz.func92, Tryz.ntmps92
   go_wp2_with fail
   refine (HH1.out _).mono ?_
   rintro e w2 ⟨rfl, rfl⟩
   go_wp2_with fail
   refine (HA.out _ _).mono ?_
   rintro e w2 ⟨rfl, rfl⟩
   go_wp2_with fail
   refine (HA.out _ _).mono ?_
   rintro e w2 ⟨rfl, rfl⟩
   clear HH1 HA
   go_wp2_with fail
   go_quiet ((go_at_call 85; with_reducible exact Calls.quiet_of (znM (HW1.out _))))
   have HXd : Hid (TX ((w.alloc (.cells #[.int .i64 0, .int .i64 0, .int .i64 0, .int .i64 0, .string ⟨#[]⟩, .int .u64 0, .int .u64 0, .int .u64 0, .int .u64 0] 79)).drewN nq) w.heap.size tk0) := HX.out.below (below_drewN (Below.refl _ _) nq)
   have HBd : Hid (Below w.heap.size w ((w.alloc (.cells #[.int .i64 0, .int .i64 0, .int .i64 0, .int .i64 0, .string ⟨#[]⟩, .int .u64 0, .int .u64 0, .int .u64 0, .int .u64 0] 79)).drewN nq)) := below_drewN HB.out nq
   clear HW1
   generalize (w.alloc (.cells #[.int .i64 0, .int .i64 0, .int .i64 0, .int .i64 0, .string ⟨#[]⟩, .int .u64 0, .int .u64 0, .int .u64 0, .int .u64 0] 79)).drewN nq = w5 at *
   obtain ⟨c0, c1, c2, c3, c4, c5, c6, c7, c8⟩ := HXd.out.cells
   obtain ⟨q0, q1, q2, q3, q4, q5, q6, q7, q8⟩ := HXd.out.fz
   go_wp2_with fail
   exact zah (t := ⟨5, x1, b, e1 + 1, ⟨#[]⟩, x1, 0, 0, 0⟩) (p := 0) (e := 0) rfl rfl rfl rfl rfl (zar HXd.out ⟨5, x1, b, e1 + 1, ⟨#[]⟩, x1, 0, 0, 0⟩) ⟨by rw [HE.out]; rfl, zad HBd.out (Nat.le_refl _) ⟨5, x1, b, e1 + 1, ⟨#[]⟩, x1, 0, 0, 0⟩⟩
 ·have t5 : (chr s e1 != 125) = true := by rw [bne, bF h5]; rfl
  have HE : Hid (zb5 s b = .inr (b, 30)) := by show zb5 s b = _; rw [HU.out]; unfold zgP; rw [if_pos (.inr (.inr (.inr (.inr h5))))]
  clear HU HW h5
  go_enter Tryz.func92, Tryz.ntmps92
  go_wp2_with fail
  refine (HH1.out _).mono ?_
  rintro e w2 ⟨rfl, rfl⟩
  go_wp2_with fail
  refine (HA.out _ _).mono ?_
  rintro e w2 ⟨rfl, rfl⟩
  go_wp2_with fail
  refine (HA.out _ _).mono ?_
  rintro e w2 ⟨rfl, rfl⟩
  clear HH1 HA
  go_wp2_with fail
  refine (HWr.out _ _ _).mono ?_
  rintro e w3 ⟨rfl, b3⟩
  have HX3 : Hid (TX w3 w.heap.size tk0) := HX.out.below b3
  have HB3 : Hid (Below w.heap.size w w3) := HB.out.trans (b3.mono HB.out.size)
  clear b3 HWr
  obtain ⟨c0, c1, c2, c3, c4, c5, c6, c7, c8⟩ := HX3.out.cells
  obtain ⟨f0, f1', f2', f3, f4, f5, f6, f7, f8⟩ := HX3.out.fz
  go_wp2_with fail
  exact zah rfl rfl rfl rfl rfl (zar HX3.out tk0) ⟨by rw [HE.out]; rfl, zad HB3.out (Nat.le_refl _) tk0⟩
theorem ziT (s : ByteArray) (b : Nat) (hs : s.size <= 140737488355000) (hb : b + 3 <= s.size) (w : World) : Calls Tryz.prog 92 #[.string s, .int .i64 b] w fun e w' => e = .returned (zcG (zb5 s b)) /\ Below w.heap.size w w' := by
 by_cases hd : chr s (zbT s (b + 3)) = 45
 ·exact zhe s b _ hs hb rfl hd w
 ·exact zgx s b _ hs hb rfl hd w
theorem zba (w w1 w2 w3 w4 : World) (a b c : BitVec 256) (hb1 : Below (w.alloc z4).heap.size (w.alloc z4) w1) (hb2 : Below w1.heap.size w1 w2) (hb3 : Below w2.heap.size w2 w3)
  (hb4 : Below (((w3.alloc (c4 a)).alloc (c4 b)).alloc (c4 c)).heap.size (((w3.alloc (c4 a)).alloc (c4 b)).alloc (c4 c)) w4) :
  w.heap.size < w3.heap.size /\ w3.heap.size + 1 + 1 < w4.heap.size /\ Hid (Below w.heap.size w w4) /\ Hid (Holds w4 w.heap.size 0#256) /\ Hid (Holds w4 w3.heap.size a) /\ Hid (Holds w4 (w3.heap.size + 1) b) /\ Hid (Holds w4 (w3.heap.size + 1 + 1) c) := by
 have s1 := hb1.size
 have s2 := hb2.size
 have s3 := hb3.size
 have s4 := hb4.size
 rw [zn9] at s1
 rw [zl2] at s4 hb4
 rw [zn9] at hb1
 have h13 : Below (w.heap.size + 1) (w.alloc z4) w3 := (hb1.trans (hb2.mono (by omega))).trans (hb3.mono (by omega))
 have h3 : Below w.heap.size w w3 := (zaD w z4).trans (h13.mono (by omega))
 have h34 : Below w3.heap.size w3 w4 := (zcm w3 (c4 a) (c4 b) (c4 c)).trans (hb4.mono (by omega))
 have e0 : Holds w3 w.heap.size 0#256 := (Holds.zero w).below h13 (by omega)
 refine ⟨by omega, by omega, h3.trans (h34.mono (by omega)), e0.below h34 (by omega), ?_, ?_, ?_⟩
 ·exact (((Holds.new w3 a).alloc (c4 b)).alloc (c4 c)).below hb4 (by omega)
 ·have h := (Holds.new (w3.alloc (c4 a)) b).alloc (c4 c)
  rw [zn9] at h
  exact h.below hb4 (by omega)
 ·have h := Holds.new ((w3.alloc (c4 a)).alloc (c4 b)) c
  rw [zoa] at h
  exact h.below hb4 (by omega)
theorem zmJ (w : World) :
  Calls Tryz.prog 87 #[.int .i64 97] w fun e w' => e = .returned (.tuple #[sv (spn 65 90 ||| spn 97 122), .int .i64 0]) /\ Below w.heap.size w w' := by
 have HH := hO (Holds.zero w)
 have HR := hO (zaD w z4)
 go_enter Tryz.func87, Tryz.ntmps87
 go_wp2_with fail
 refine (zae 97 122 _ (by omega) (by omega) (by omega)).mono ?_
 rintro e w1 ⟨rfl, hb1⟩
 go_wp2_with fail
 refine (zae 65 90 _ (by omega) (by omega) (by omega)).mono ?_
 rintro e w2 ⟨rfl, hb2⟩
 go_wp2_with fail
 refine (zae 48 57 _ (by omega) (by omega) (by omega)).mono ?_
 rintro e w3 ⟨rfl, hb3⟩
 go_wp2_with fail
 refine (zas _ _ _).mono ?_
 rintro e w4 ⟨rfl, hb4⟩
 have hq := zba w w1 w2 w3 w4 (spn 97 122) (spn 65 90) (spn 48 57) hb1 hb2 hb3 hb4
 clear hb1 hb2 hb3 hb4
 obtain ⟨hl3, hl4, HR4, H0, H6, H7, H8⟩ := hq
 obtain ⟨l0, c00, c01, c02, c03, f00, f01, f02, f03⟩ := H0.out
 go_wp2
 have HRf := HR4
 refine bodyPost_ret (v := .tuple #[sv ((spn 97 122 ||| spn 65 90)), .int .i64 0]) (by simp [results, Tryz.results87, go_sem, *]) rfl ⟨?_, ?_⟩
 ·exact congrArg (fun q => Ending.returned (.tuple #[sv q, .int .i64 0])) (BitVec.or_comm _ _)
 ·repeat (first | exact HRf.out | (refine Below.setCell ?_ (by first | omega | (simp <;> omega)) _) | (refine Below.alloc ?_ (by first | omega | (simp <;> omega)) _))
theorem zmK (w : World) :
  Calls Tryz.prog 87 #[.int .i64 99] w fun e w' => e = .returned (.tuple #[sv (spn 0 31 ||| bt 127), .int .i64 0]) /\ Below w.heap.size w w' := by
 have HH := hO (Holds.zero w)
 have HR := hO (zaD w z4)
 go_enter Tryz.func87, Tryz.ntmps87
 go_wp2_with fail
 refine (zae 97 122 _ (by omega) (by omega) (by omega)).mono ?_
 rintro e w1 ⟨rfl, hb1⟩
 go_wp2_with fail
 refine (zae 65 90 _ (by omega) (by omega) (by omega)).mono ?_
 rintro e w2 ⟨rfl, hb2⟩
 go_wp2_with fail
 refine (zae 48 57 _ (by omega) (by omega) (by omega)).mono ?_
 rintro e w3 ⟨rfl, hb3⟩
 go_wp2_with fail
 refine (zas _ _ _).mono ?_
 rintro e w4 ⟨rfl, hb4⟩
 have hq := zba w w1 w2 w3 w4 (spn 97 122) (spn 65 90) (spn 48 57) hb1 hb2 hb3 hb4
 clear hb1 hb2 hb3 hb4
 obtain ⟨hl3, hl4, HR4, H0, H6, H7, H8⟩ := hq
 have HQ : Hid (Below (w4.heap.size + 1) (w4.alloc (c4 (spn 97 122 ||| spn 65 90))) (w4.alloc (c4 (spn 97 122 ||| spn 65 90)))) := Below.refl _ _
 go_wp2_with fail
 refine (zae 0 31 _ (by omega) (by omega) (by omega)).mono ?_
 rintro e w5 ⟨rfl, hb⟩
 replace HQ := (show Hid _ from HQ.out.trans (hb.mono (by first | exact HQ.out.size | (have h := HQ.out.size; simp at h; omega) | simp)))
 go_wp2_with fail
 refine (zbw _ 127 _ (by omega) (by omega)).mono ?_
 rintro e w5 ⟨rfl, hb⟩
 replace HQ := (show Hid _ from HQ.out.trans (hb.mono (by first | exact HQ.out.size | (have h := HQ.out.size; simp at h; omega) | simp)))
 rw [show (127 : Int).toNat = 127 from rfl]
 have HR5 := hO ((HR4.out.alloc (by omega) (c4 (spn 97 122 ||| spn 65 90))).trans (HQ.out.mono (by omega)))
 obtain ⟨l0, c00, c01, c02, c03, f00, f01, f02, f03⟩ := (H0.out.alloc (c4 (spn 97 122 ||| spn 65 90))).below HQ.out (by have h := H0.out.lt; omega)
 clear hb
 go_wp2
 have HRf := HR5
 refine bodyPost_ret (v := .tuple #[sv (spn 0 31 ||| bt 127), .int .i64 0]) (by simp [results, Tryz.results87, go_sem, *]) rfl ⟨?_, ?_⟩
 ·rfl
 ·repeat (first | exact HRf.out | (refine Below.setCell ?_ (by first | omega | (simp <;> omega)) _) | (refine Below.alloc ?_ (by first | omega | (simp <;> omega)) _))
theorem zkw (w : World) :
  Calls Tryz.prog 87 #[.int .i64 100] w fun e w' => e = .returned (.tuple #[sv (spn 48 57), .int .i64 0]) /\ Below w.heap.size w w' := by
 have HH := hO (Holds.zero w)
 have HR := hO (zaD w z4)
 go_enter Tryz.func87, Tryz.ntmps87
 go_wp2_with fail
 refine (zae 97 122 _ (by omega) (by omega) (by omega)).mono ?_
 rintro e w1 ⟨rfl, hb1⟩
 go_wp2_with fail
 refine (zae 65 90 _ (by omega) (by omega) (by omega)).mono ?_
 rintro e w2 ⟨rfl, hb2⟩
 go_wp2_with fail
 refine (zae 48 57 _ (by omega) (by omega) (by omega)).mono ?_
 rintro e w3 ⟨rfl, hb3⟩
 go_wp2_with fail
 refine (zas _ _ _).mono ?_
 rintro e w4 ⟨rfl, hb4⟩
 have hq := zba w w1 w2 w3 w4 (spn 97 122) (spn 65 90) (spn 48 57) hb1 hb2 hb3 hb4
 clear hb1 hb2 hb3 hb4
 obtain ⟨hl3, hl4, HR4, H0, H6, H7, H8⟩ := hq
 obtain ⟨l0, c00, c01, c02, c03, f00, f01, f02, f03⟩ := H0.out
 obtain ⟨l8, c80, c81, c82, c83, f80, f81, f82, f83⟩ := H8.out
 go_wp2
 have HRf := HR4
 refine bodyPost_ret (v := .tuple #[sv (spn 48 57), .int .i64 0]) (by simp [results, Tryz.results87, go_sem, *]) rfl ⟨?_, ?_⟩
 ·rfl
 ·repeat (first | exact HRf.out | (refine Below.setCell ?_ (by first | omega | (simp <;> omega)) _) | (refine Below.alloc ?_ (by first | omega | (simp <;> omega)) _))
theorem zkx (w : World) :
  Calls Tryz.prog 87 #[.int .i64 103] w fun e w' => e = .returned (.tuple #[sv (spn 33 126), .int .i64 0]) /\ Below w.heap.size w w' := by
 have HH := hO (Holds.zero w)
 have HR := hO (zaD w z4)
 go_enter Tryz.func87, Tryz.ntmps87
 go_wp2_with fail
 refine (zae 97 122 _ (by omega) (by omega) (by omega)).mono ?_
 rintro e w1 ⟨rfl, hb1⟩
 go_wp2_with fail
 refine (zae 65 90 _ (by omega) (by omega) (by omega)).mono ?_
 rintro e w2 ⟨rfl, hb2⟩
 go_wp2_with fail
 refine (zae 48 57 _ (by omega) (by omega) (by omega)).mono ?_
 rintro e w3 ⟨rfl, hb3⟩
 go_wp2_with fail
 refine (zas _ _ _).mono ?_
 rintro e w4 ⟨rfl, hb4⟩
 have hq := zba w w1 w2 w3 w4 (spn 97 122) (spn 65 90) (spn 48 57) hb1 hb2 hb3 hb4
 clear hb1 hb2 hb3 hb4
 obtain ⟨hl3, hl4, HR4, H0, H6, H7, H8⟩ := hq
 have HQ : Hid (Below (w4.heap.size + 1) (w4.alloc (c4 (spn 97 122 ||| spn 65 90))) (w4.alloc (c4 (spn 97 122 ||| spn 65 90)))) := Below.refl _ _
 go_wp2_with fail
 refine (zae 33 126 _ (by omega) (by omega) (by omega)).mono ?_
 rintro e w5 ⟨rfl, hb⟩
 replace HQ := (show Hid _ from HQ.out.trans (hb.mono (by first | exact HQ.out.size | (have h := HQ.out.size; simp at h; omega) | simp)))
 have HR5 := hO ((HR4.out.alloc (by omega) (c4 (spn 97 122 ||| spn 65 90))).trans (HQ.out.mono (by omega)))
 obtain ⟨l0, c00, c01, c02, c03, f00, f01, f02, f03⟩ := (H0.out.alloc (c4 (spn 97 122 ||| spn 65 90))).below HQ.out (by have h := H0.out.lt; omega)
 clear hb
 go_wp2
 have HRf := HR5
 refine bodyPost_ret (v := .tuple #[sv (spn 33 126), .int .i64 0]) (by simp [results, Tryz.results87, go_sem, *]) rfl ⟨?_, ?_⟩
 ·rfl
 ·repeat (first | exact HRf.out | (refine Below.setCell ?_ (by first | omega | (simp <;> omega)) _) | (refine Below.alloc ?_ (by first | omega | (simp <;> omega)) _))
theorem zky (w : World) :
  Calls Tryz.prog 87 #[.int .i64 108] w fun e w' => e = .returned (.tuple #[sv (spn 97 122), .int .i64 0]) /\ Below w.heap.size w w' := by
 have HH := hO (Holds.zero w)
 have HR := hO (zaD w z4)
 go_enter Tryz.func87, Tryz.ntmps87
 go_wp2_with fail
 refine (zae 97 122 _ (by omega) (by omega) (by omega)).mono ?_
 rintro e w1 ⟨rfl, hb1⟩
 go_wp2_with fail
 refine (zae 65 90 _ (by omega) (by omega) (by omega)).mono ?_
 rintro e w2 ⟨rfl, hb2⟩
 go_wp2_with fail
 refine (zae 48 57 _ (by omega) (by omega) (by omega)).mono ?_
 rintro e w3 ⟨rfl, hb3⟩
 go_wp2_with fail
 refine (zas _ _ _).mono ?_
 rintro e w4 ⟨rfl, hb4⟩
 have hq := zba w w1 w2 w3 w4 (spn 97 122) (spn 65 90) (spn 48 57) hb1 hb2 hb3 hb4
 clear hb1 hb2 hb3 hb4
 obtain ⟨hl3, hl4, HR4, H0, H6, H7, H8⟩ := hq
 obtain ⟨l0, c00, c01, c02, c03, f00, f01, f02, f03⟩ := H0.out
 obtain ⟨l6, c60, c61, c62, c63, f60, f61, f62, f63⟩ := H6.out
 go_wp2
 have HRf := HR4
 refine bodyPost_ret (v := .tuple #[sv (spn 97 122), .int .i64 0]) (by simp [results, Tryz.results87, go_sem, *]) rfl ⟨?_, ?_⟩
 ·rfl
 ·repeat (first | exact HRf.out | (refine Below.setCell ?_ (by first | omega | (simp <;> omega)) _) | (refine Below.alloc ?_ (by first | omega | (simp <;> omega)) _))
theorem zkz (w : World) :
  Calls Tryz.prog 87 #[.int .i64 115] w fun e w' => e = .returned (.tuple #[sv (spn 9 13 ||| bt 32), .int .i64 0]) /\ Below w.heap.size w w' := by
 have HH := hO (Holds.zero w)
 have HR := hO (zaD w z4)
 go_enter Tryz.func87, Tryz.ntmps87
 go_wp2_with fail
 refine (zae 97 122 _ (by omega) (by omega) (by omega)).mono ?_
 rintro e w1 ⟨rfl, hb1⟩
 go_wp2_with fail
 refine (zae 65 90 _ (by omega) (by omega) (by omega)).mono ?_
 rintro e w2 ⟨rfl, hb2⟩
 go_wp2_with fail
 refine (zae 48 57 _ (by omega) (by omega) (by omega)).mono ?_
 rintro e w3 ⟨rfl, hb3⟩
 go_wp2_with fail
 refine (zas _ _ _).mono ?_
 rintro e w4 ⟨rfl, hb4⟩
 have hq := zba w w1 w2 w3 w4 (spn 97 122) (spn 65 90) (spn 48 57) hb1 hb2 hb3 hb4
 clear hb1 hb2 hb3 hb4
 obtain ⟨hl3, hl4, HR4, H0, H6, H7, H8⟩ := hq
 have HQ : Hid (Below (w4.heap.size + 1) (w4.alloc (c4 (spn 97 122 ||| spn 65 90))) (w4.alloc (c4 (spn 97 122 ||| spn 65 90)))) := Below.refl _ _
 go_wp2_with fail
 refine (zae 9 13 _ (by omega) (by omega) (by omega)).mono ?_
 rintro e w5 ⟨rfl, hb⟩
 replace HQ := (show Hid _ from HQ.out.trans (hb.mono (by first | exact HQ.out.size | (have h := HQ.out.size; simp at h; omega) | simp)))
 go_wp2_with fail
 refine (zbw _ 32 _ (by omega) (by omega)).mono ?_
 rintro e w5 ⟨rfl, hb⟩
 replace HQ := (show Hid _ from HQ.out.trans (hb.mono (by first | exact HQ.out.size | (have h := HQ.out.size; simp at h; omega) | simp)))
 rw [show (32 : Int).toNat = 32 from rfl]
 have HR5 := hO ((HR4.out.alloc (by omega) (c4 (spn 97 122 ||| spn 65 90))).trans (HQ.out.mono (by omega)))
 obtain ⟨l0, c00, c01, c02, c03, f00, f01, f02, f03⟩ := (H0.out.alloc (c4 (spn 97 122 ||| spn 65 90))).below HQ.out (by have h := H0.out.lt; omega)
 clear hb
 go_wp2
 have HRf := HR5
 refine bodyPost_ret (v := .tuple #[sv (spn 9 13 ||| bt 32), .int .i64 0]) (by simp [results, Tryz.results87, go_sem, *]) rfl ⟨?_, ?_⟩
 ·rfl
 ·repeat (first | exact HRf.out | (refine Below.setCell ?_ (by first | omega | (simp <;> omega)) _) | (refine Below.alloc ?_ (by first | omega | (simp <;> omega)) _))
theorem zkA (w : World) :
  Calls Tryz.prog 87 #[.int .i64 117] w fun e w' => e = .returned (.tuple #[sv (spn 65 90), .int .i64 0]) /\ Below w.heap.size w w' := by
 have HH := hO (Holds.zero w)
 have HR := hO (zaD w z4)
 go_enter Tryz.func87, Tryz.ntmps87
 go_wp2_with fail
 refine (zae 97 122 _ (by omega) (by omega) (by omega)).mono ?_
 rintro e w1 ⟨rfl, hb1⟩
 go_wp2_with fail
 refine (zae 65 90 _ (by omega) (by omega) (by omega)).mono ?_
 rintro e w2 ⟨rfl, hb2⟩
 go_wp2_with fail
 refine (zae 48 57 _ (by omega) (by omega) (by omega)).mono ?_
 rintro e w3 ⟨rfl, hb3⟩
 go_wp2_with fail
 refine (zas _ _ _).mono ?_
 rintro e w4 ⟨rfl, hb4⟩
 have hq := zba w w1 w2 w3 w4 (spn 97 122) (spn 65 90) (spn 48 57) hb1 hb2 hb3 hb4
 clear hb1 hb2 hb3 hb4
 obtain ⟨hl3, hl4, HR4, H0, H6, H7, H8⟩ := hq
 obtain ⟨l0, c00, c01, c02, c03, f00, f01, f02, f03⟩ := H0.out
 obtain ⟨l7, c70, c71, c72, c73, f70, f71, f72, f73⟩ := H7.out
 go_wp2
 have HRf := HR4
 refine bodyPost_ret (v := .tuple #[sv (spn 65 90), .int .i64 0]) (by simp [results, Tryz.results87, go_sem, *]) rfl ⟨?_, ?_⟩
 ·rfl
 ·repeat (first | exact HRf.out | (refine Below.setCell ?_ (by first | omega | (simp <;> omega)) _) | (refine Below.alloc ?_ (by first | omega | (simp <;> omega)) _))
theorem zkB (w : World) :
  Calls Tryz.prog 87 #[.int .i64 119] w fun e w' => e = .returned (.tuple #[sv (spn 65 90 ||| spn 97 122 ||| spn 48 57), .int .i64 0]) /\ Below w.heap.size w w' := by
 have HH := hO (Holds.zero w)
 have HR := hO (zaD w z4)
 go_enter Tryz.func87, Tryz.ntmps87
 go_wp2_with fail
 refine (zae 97 122 _ (by omega) (by omega) (by omega)).mono ?_
 rintro e w1 ⟨rfl, hb1⟩
 go_wp2_with fail
 refine (zae 65 90 _ (by omega) (by omega) (by omega)).mono ?_
 rintro e w2 ⟨rfl, hb2⟩
 go_wp2_with fail
 refine (zae 48 57 _ (by omega) (by omega) (by omega)).mono ?_
 rintro e w3 ⟨rfl, hb3⟩
 go_wp2_with fail
 refine (zas _ _ _).mono ?_
 rintro e w4 ⟨rfl, hb4⟩
 have hq := zba w w1 w2 w3 w4 (spn 97 122) (spn 65 90) (spn 48 57) hb1 hb2 hb3 hb4
 clear hb1 hb2 hb3 hb4
 obtain ⟨hl3, hl4, HR4, H0, H6, H7, H8⟩ := hq
 have HQ : Hid (Below (w4.heap.size + 1) (w4.alloc (c4 (spn 97 122 ||| spn 65 90))) (w4.alloc (c4 (spn 97 122 ||| spn 65 90)))) := Below.refl _ _
 obtain ⟨l8, c80, c81, c82, c83, f80, f81, f82, f83⟩ := H8.out
 go_wp2_with fail
 refine (zas _ _ _).mono ?_
 rintro e w5 ⟨rfl, hb⟩
 replace HQ := (show Hid _ from HQ.out.trans (hb.mono (by first | exact HQ.out.size | (have h := HQ.out.size; simp at h; omega) | simp)))
 have HR5 := hO ((HR4.out.alloc (by omega) (c4 (spn 97 122 ||| spn 65 90))).trans (HQ.out.mono (by omega)))
 obtain ⟨l0, c00, c01, c02, c03, f00, f01, f02, f03⟩ := (H0.out.alloc (c4 (spn 97 122 ||| spn 65 90))).below HQ.out (by have h := H0.out.lt; omega)
 clear hb
 go_wp2
 have HRf := HR5
 refine bodyPost_ret (v := .tuple #[sv ((spn 97 122 ||| spn 65 90) ||| spn 48 57), .int .i64 0]) (by simp [results, Tryz.results87, go_sem, *]) rfl ⟨?_, ?_⟩
 ·exact congrArg (fun q => Ending.returned (.tuple #[sv q, .int .i64 0])) (by rw [BitVec.or_comm (spn 97 122)])
 ·repeat (first | exact HRf.out | (refine Below.setCell ?_ (by first | omega | (simp <;> omega)) _) | (refine Below.alloc ?_ (by first | omega | (simp <;> omega)) _))
theorem zkC (w : World) :
  Calls Tryz.prog 87 #[.int .i64 112] w fun e w' => e = .returned (.tuple #[sv (spn 33 126 &&& ~~~ (spn 65 90 ||| spn 97 122 ||| spn 48 57)), .int .i64 0]) /\ Below w.heap.size w w' := by
 have HH := hO (Holds.zero w)
 have HR := hO (zaD w z4)
 go_enter Tryz.func87, Tryz.ntmps87
 go_wp2_with fail
 refine (zae 97 122 _ (by omega) (by omega) (by omega)).mono ?_
 rintro e w1 ⟨rfl, hb1⟩
 go_wp2_with fail
 refine (zae 65 90 _ (by omega) (by omega) (by omega)).mono ?_
 rintro e w2 ⟨rfl, hb2⟩
 go_wp2_with fail
 refine (zae 48 57 _ (by omega) (by omega) (by omega)).mono ?_
 rintro e w3 ⟨rfl, hb3⟩
 go_wp2_with fail
 refine (zas _ _ _).mono ?_
 rintro e w4 ⟨rfl, hb4⟩
 have hq := zba w w1 w2 w3 w4 (spn 97 122) (spn 65 90) (spn 48 57) hb1 hb2 hb3 hb4
 clear hb1 hb2 hb3 hb4
 obtain ⟨hl3, hl4, HR4, H0, H6, H7, H8⟩ := hq
 have HQ : Hid (Below (w4.heap.size + 1) (w4.alloc (c4 (spn 97 122 ||| spn 65 90))) (w4.alloc (c4 (spn 97 122 ||| spn 65 90)))) := Below.refl _ _
 obtain ⟨l8, c80, c81, c82, c83, f80, f81, f82, f83⟩ := H8.out
 go_wp2
 go_region_with (first | (go_at_call 90; refine (zae 33 126 _ (by omega) (by omega) (by omega)).mono ?_; rintro e w5 ⟨rfl, hb⟩; have hq2 : Below (w4.heap.size + 1) (w4.alloc (c4 (spn 97 122 ||| spn 65 90))) w5 := (by first | exact HQ.out.trans (hb.mono (by first | exact HQ.out.size | (have h := HQ.out.size; simp at h; omega))) | exact HQ.out.drew.trans (hb.mono (by simp))); replace HQ := (show Hid _ from hq2); obtain ⟨l0, c00, c01, c02, c03, f00, f01, f02, f03⟩ := (H0.out.alloc (c4 (spn 97 122 ||| spn 65 90))).below HQ.out (by have h := H0.out.lt; omega); obtain ⟨l8, c80, c81, c82, c83, f80, f81, f82, f83⟩ := (H8.out.alloc (c4 (spn 97 122 ||| spn 65 90))).below HQ.out (by omega); obtain ⟨l9, c90, c91, c92, c93, f90, f91, f92, f93⟩ := (Holds.new w4 (spn 97 122 ||| spn 65 90)).below HQ.out (by omega)) | (go_at_call 88; refine (zas _ _ _).mono ?_; rintro e w5 ⟨rfl, hb⟩; have hq2 : Below (w4.heap.size + 1) (w4.alloc (c4 (spn 97 122 ||| spn 65 90))) w5 := (by first | exact HQ.out.trans (hb.mono (by first | exact HQ.out.size | (have h := HQ.out.size; simp at h; omega))) | exact HQ.out.drew.trans (hb.mono (by simp))); replace HQ := (show Hid _ from hq2); obtain ⟨l0, c00, c01, c02, c03, f00, f01, f02, f03⟩ := (H0.out.alloc (c4 (spn 97 122 ||| spn 65 90))).below HQ.out (by have h := H0.out.lt; omega); obtain ⟨l8, c80, c81, c82, c83, f80, f81, f82, f83⟩ := (H8.out.alloc (c4 (spn 97 122 ||| spn 65 90))).below HQ.out (by omega); obtain ⟨l9, c90, c91, c92, c93, f90, f91, f92, f93⟩ := (Holds.new w4 (spn 97 122 ||| spn 65 90)).below HQ.out (by omega)) | (go_at_call 117; refine (zjw _ _ _).mono ?_; rintro e w5 ⟨rfl, hb⟩; have hq2 : Below (w4.heap.size + 1) (w4.alloc (c4 (spn 97 122 ||| spn 65 90))) w5 := (by first | exact HQ.out.trans (hb.mono (by first | exact HQ.out.size | (have h := HQ.out.size; simp at h; omega))) | exact HQ.out.drew.trans (hb.mono (by simp))); replace HQ := (show Hid _ from hq2); obtain ⟨l0, c00, c01, c02, c03, f00, f01, f02, f03⟩ := (H0.out.alloc (c4 (spn 97 122 ||| spn 65 90))).below HQ.out (by have h := H0.out.lt; omega); obtain ⟨l8, c80, c81, c82, c83, f80, f81, f82, f83⟩ := (H8.out.alloc (c4 (spn 97 122 ||| spn 65 90))).below HQ.out (by omega); obtain ⟨l9, c90, c91, c92, c93, f90, f91, f92, f93⟩ := (Holds.new w4 (spn 97 122 ||| spn 65 90)).below HQ.out (by omega)))
 all_goals
  have HR5 := hO ((HR4.out.alloc (by omega) (c4 (spn 97 122 ||| spn 65 90))).trans (HQ.out.mono (by omega)))
  clear hb
  go_wp2
  have HRf := HR5
  refine bodyPost_ret (v := .tuple #[sv (spn 33 126 &&& ~~~ ((spn 97 122 ||| spn 65 90) ||| spn 48 57)), .int .i64 0]) (by simp [results, Tryz.results87, go_sem, *]) rfl ⟨?_, ?_⟩
  ·exact congrArg (fun q => Ending.returned (.tuple #[sv q, .int .i64 0])) (by rw [BitVec.or_comm (spn 97 122)])
  ·repeat (first | exact HRf.out | (refine Below.setCell ?_ (by first | omega | (simp <;> omega)) _) | (refine Below.alloc ?_ (by first | omega | (simp <;> omega)) _))
theorem zkD (w : World) :
  Calls Tryz.prog 87 #[.int .i64 120] w fun e w' => e = .returned (.tuple #[sv (spn 48 57 ||| spn 65 70 ||| spn 97 102), .int .i64 0]) /\ Below w.heap.size w w' := by
 have HH := hO (Holds.zero w)
 have HR := hO (zaD w z4)
 go_enter Tryz.func87, Tryz.ntmps87
 go_wp2_with fail
 refine (zae 97 122 _ (by omega) (by omega) (by omega)).mono ?_
 rintro e w1 ⟨rfl, hb1⟩
 go_wp2_with fail
 refine (zae 65 90 _ (by omega) (by omega) (by omega)).mono ?_
 rintro e w2 ⟨rfl, hb2⟩
 go_wp2_with fail
 refine (zae 48 57 _ (by omega) (by omega) (by omega)).mono ?_
 rintro e w3 ⟨rfl, hb3⟩
 go_wp2_with fail
 refine (zas _ _ _).mono ?_
 rintro e w4 ⟨rfl, hb4⟩
 have hq := zba w w1 w2 w3 w4 (spn 97 122) (spn 65 90) (spn 48 57) hb1 hb2 hb3 hb4
 clear hb1 hb2 hb3 hb4
 obtain ⟨hl3, hl4, HR4, H0, H6, H7, H8⟩ := hq
 have HQ : Hid (Below (w4.heap.size + 1) (w4.alloc (c4 (spn 97 122 ||| spn 65 90))) (w4.alloc (c4 (spn 97 122 ||| spn 65 90)))) := Below.refl _ _
 obtain ⟨l8, c80, c81, c82, c83, f80, f81, f82, f83⟩ := H8.out
 go_wp2
 go_region_with (first | (go_at_call 90; refine (zae _ _ _ (by omega) (by omega) (by omega)).mono ?_; rintro e w5 ⟨rfl, hb⟩; have hq2 : Below (w4.heap.size + 1) (w4.alloc (c4 (spn 97 122 ||| spn 65 90))) w5 := (by first | exact HQ.out.trans (hb.mono (by first | exact HQ.out.size | (have h := HQ.out.size; simp at h; omega))) | exact HQ.out.drew.trans (hb.mono (by simp))); replace HQ := (show Hid _ from hq2); obtain ⟨l0, c00, c01, c02, c03, f00, f01, f02, f03⟩ := (H0.out.alloc (c4 (spn 97 122 ||| spn 65 90))).below HQ.out (by have h := H0.out.lt; omega); obtain ⟨l8, c80, c81, c82, c83, f80, f81, f82, f83⟩ := (H8.out.alloc (c4 (spn 97 122 ||| spn 65 90))).below HQ.out (by omega)) | (go_at_call 88; refine (zas _ _ _).mono ?_; rintro e w5 ⟨rfl, hb⟩; have hq2 : Below (w4.heap.size + 1) (w4.alloc (c4 (spn 97 122 ||| spn 65 90))) w5 := (by first | exact HQ.out.trans (hb.mono (by first | exact HQ.out.size | (have h := HQ.out.size; simp at h; omega))) | exact HQ.out.drew.trans (hb.mono (by simp))); replace HQ := (show Hid _ from hq2); obtain ⟨l0, c00, c01, c02, c03, f00, f01, f02, f03⟩ := (H0.out.alloc (c4 (spn 97 122 ||| spn 65 90))).below HQ.out (by have h := H0.out.lt; omega); obtain ⟨l8, c80, c81, c82, c83, f80, f81, f82, f83⟩ := (H8.out.alloc (c4 (spn 97 122 ||| spn 65 90))).below HQ.out (by omega)))
 all_goals
  have HR5 := hO ((HR4.out.alloc (by omega) (c4 (spn 97 122 ||| spn 65 90))).trans (HQ.out.mono (by omega)))
  clear hb
  go_wp2
  have HRf := HR5
  refine bodyPost_ret (v := .tuple #[sv (spn 48 57 ||| (spn 65 70 ||| spn 97 102)), .int .i64 0]) (by simp [results, Tryz.results87, go_sem, *]) rfl ⟨?_, ?_⟩
  ·exact congrArg (fun q => Ending.returned (.tuple #[sv q, .int .i64 0])) ((BitVec.or_assoc _ _ _).symm)
  ·repeat (first | exact HRf.out | (refine Below.setCell ?_ (by first | omega | (simp <;> omega)) _) | (refine Below.alloc ?_ (by first | omega | (simp <;> omega)) _))
theorem zft (n : Int) (w : World) (hcap : ¬ (65 <= n /\ n <= 90)) (h97 : (n == 97) = false) (h99 : (n == 99) = false) (h100 : (n == 100) = false) (h103 : (n == 103) = false) (h108 : (n == 108) = false) (h112 : (n == 112) = false) (h115 : (n == 115) = false) (h117 : (n == 117) = false) (h119 : (n == 119) = false) (h120 : (n == 120) = false) :
  Calls Tryz.prog 87 #[.int .i64 n] w fun e w' => e = .returned (.tuple #[sv 0#256, .int .i64 10]) /\ Below w.heap.size w w' := by
 by_cases g0 : 65 <= n
 ·have g1 : ¬ n <= 90 := fun h => hcap ⟨g0, h⟩
  have d0 : decide (65 <= n) = true := by simpa using g0
  have d1 : decide (n <= 90) = false := by simpa using g1
  clear hcap
  have HH := hO (Holds.zero w)
  have HR := hO (zaD w z4)
  go_enter Tryz.func87, Tryz.ntmps87
  go_wp2_with fail
  refine (zae 97 122 _ (by omega) (by omega) (by omega)).mono ?_
  rintro e w1 ⟨rfl, hb1⟩
  go_wp2_with fail
  refine (zae 65 90 _ (by omega) (by omega) (by omega)).mono ?_
  rintro e w2 ⟨rfl, hb2⟩
  go_wp2_with fail
  refine (zae 48 57 _ (by omega) (by omega) (by omega)).mono ?_
  rintro e w3 ⟨rfl, hb3⟩
  go_wp2_with fail
  refine (zas _ _ _).mono ?_
  rintro e w4 ⟨rfl, hb4⟩
  have hq := zba w w1 w2 w3 w4 (spn 97 122) (spn 65 90) (spn 48 57) hb1 hb2 hb3 hb4
  clear hb1 hb2 hb3 hb4
  obtain ⟨hl3, hl4, HR4, H0, H6, H7, H8⟩ := hq
  obtain ⟨l0, c0, c1, c2, c3, f0, f1, f2, f3⟩ := H0.out
  go_wp2
  have HRf := HR4
  refine bodyPost_ret (v := .tuple #[sv 0#256, .int .i64 10]) (by simp [results, Tryz.results87, go_sem, zak, *]) rfl ⟨rfl, ?_⟩
  repeat (first | exact HRf.out | (refine Below.setCell ?_ (by first | omega | (simp <;> omega)) _) | (refine Below.alloc ?_ (by first | omega | (simp <;> omega)) _))
 ·have d0 : decide (65 <= n) = false := by simpa using g0
  clear hcap
  have HH := hO (Holds.zero w)
  have HR := hO (zaD w z4)
  go_enter Tryz.func87, Tryz.ntmps87
  go_wp2_with fail
  refine (zae 97 122 _ (by omega) (by omega) (by omega)).mono ?_
  rintro e w1 ⟨rfl, hb1⟩
  go_wp2_with fail
  refine (zae 65 90 _ (by omega) (by omega) (by omega)).mono ?_
  rintro e w2 ⟨rfl, hb2⟩
  go_wp2_with fail
  refine (zae 48 57 _ (by omega) (by omega) (by omega)).mono ?_
  rintro e w3 ⟨rfl, hb3⟩
  go_wp2_with fail
  refine (zas _ _ _).mono ?_
  rintro e w4 ⟨rfl, hb4⟩
  have hq := zba w w1 w2 w3 w4 (spn 97 122) (spn 65 90) (spn 48 57) hb1 hb2 hb3 hb4
  clear hb1 hb2 hb3 hb4
  obtain ⟨hl3, hl4, HR4, H0, H6, H7, H8⟩ := hq
  obtain ⟨l0, c0, c1, c2, c3, f0, f1, f2, f3⟩ := H0.out
  go_wp2
  have HRf := HR4
  refine bodyPost_ret (v := .tuple #[sv 0#256, .int .i64 10]) (by simp [results, Tryz.results87, go_sem, zak, *]) rfl ⟨rfl, ?_⟩
  repeat (first | exact HRf.out | (refine Below.setCell ?_ (by first | omega | (simp <;> omega)) _) | (refine Below.alloc ?_ (by first | omega | (simp <;> omega)) _))
theorem zd0 (n : Nat) (w : World) (hcap : ¬ (65 <= n /\ n <= 90)) :
  Calls Tryz.prog 87 #[.int .i64 n] w fun e w' => e = .returned (.tuple #[sv (sml n).1, .int .i64 (sml n).2]) /\ Below w.heap.size w w' := by
 by_cases h97 : n = 97
 ·subst h97; rw [zoe]; exact zmJ w
 by_cases h99 : n = 99
 ·subst h99; rw [zof]; exact zmK w
 by_cases h100 : n = 100
 ·subst h100; rw [zjy]; exact zkw w
 by_cases h103 : n = 103
 ·subst h103; rw [zjz]; exact zkx w
 by_cases h108 : n = 108
 ·subst h108; rw [zjA]; exact zky w
 by_cases h112 : n = 112
 ·subst h112; rw [zjB]; exact zkC w
 by_cases h115 : n = 115
 ·subst h115; rw [zjC]; exact zkz w
 by_cases h117 : n = 117
 ·subst h117; rw [zjD]; exact zkA w
 by_cases h119 : n = 119
 ·subst h119; rw [zjE]; exact zkB w
 by_cases h120 : n = 120
 ·subst h120; rw [zjF]; exact zkD w
 rw [zfF n h97 h99 h100 h103 h108 h112 h115 h117 h119 h120]
 exact zft n w (by omega) (bF (by omega)) (bF (by omega)) (bF (by omega)) (bF (by omega)) (bF (by omega)) (bF (by omega)) (bF (by omega)) (bF (by omega)) (bF (by omega)) (bF (by omega))
theorem zcx (n : Int) (w : World) (hn : n < 0) :
  Calls Tryz.prog 87 #[.int .i64 n] w fun e w' => e = .returned (.tuple #[sv 0#256, .int .i64 10]) /\ Below w.heap.size w w' :=
 zft n w (by omega) (bF (by omega)) (bF (by omega)) (bF (by omega)) (bF (by omega)) (bF (by omega)) (bF (by omega)) (bF (by omega)) (bF (by omega)) (bF (by omega)) (bF (by omega))
theorem zbk (n : Nat) (hn : n < 256) (w : World) :
  Calls Tryz.prog 87 #[.int .i64 n] w fun e w' => e = .returned (.tuple #[sv (cls n).1, .int .i64 (cls n).2]) /\ Below w.heap.size w w' := by
 by_cases hc : 65 <= n /\ n <= 90
 ·have HH := hO (Holds.zero w)
  have HR := hO (zaD w z4)
  have Hc := hO hc
  have g0 : 65 <= (n : Int) := by omega
  have g1 : (n : Int) <= 90 := by omega
  have d0 : decide (65 <= (n : Int)) = true := by simpa using g0
  have d1 : decide ((n : Int) <= 90) = true := by simpa using g1
  clear hc
  rcases zdW (n + 32) with he | he
  ·have HE := hO (zhd n Hc.out he)
   go_enter Tryz.func87, Tryz.ntmps87
   go_wp2_with fail
   rw [show (n : Int) + 32 = ((n + 32 : Nat) : Int) from by omega]
   refine (zd0 (n + 32) _ (by have := Hc.out; omega)).mono ?_
   rintro e w1 ⟨rfl, hb⟩
   have hl : w.heap.size < w1.heap.size := by have h := hb.size; simp at h; omega
   have HR1 := hO (HR.out.trans (hb.mono (by simp)))
   have HH1 := hO (HH.out.below hb (by simp))
   rw [he]
   clear he hb HH HR
   generalize (sml (n + 32)).1 = r at *
   go_wp2_with fail
   refine (zhM r _).mono ?_
   rintro e w2 ⟨rfl, hb⟩
   have HR2 := hO ((HR1.out.alloc (by omega) (c4 r)).trans (hb.mono (by simp; omega)))
   have hl2 : w.heap.size < w2.heap.size := by have h := hb.size; simp at h; omega
   obtain ⟨l0, c0, c1, c2, c3, f0, f1, f2, f3⟩ := (HH1.out.alloc (c4 r)).below hb (by simp; omega)
   generalize hr : ~~~ r = q at *
   clear hr hb
   go_wp2
   rw [HE.out]
   refine bodyPost_ret (v := .tuple #[sv q, .int .i64 0]) (by simp [results, Tryz.results87, go_sem, *]) rfl ⟨rfl, zcw HR2.out (Nat.le_refl _) _⟩
  ·have HE := hO (zks n Hc.out he)
   go_enter Tryz.func87, Tryz.ntmps87
   go_wp2_with fail
   rw [show (n : Int) + 32 = ((n + 32 : Nat) : Int) from by omega]
   refine (zd0 (n + 32) _ (by have := Hc.out; omega)).mono ?_
   rintro e w1 ⟨rfl, hb⟩
   have hl : w.heap.size < w1.heap.size := by have h := hb.size; simp at h; omega
   have HR1 := hO (HR.out.trans (hb.mono (by simp)))
   obtain ⟨l0, c0, c1, c2, c3, f0, f1, f2, f3⟩ := HH.out.below hb (by simp)
   rw [he]
   clear he hb HH HR
   generalize (sml (n + 32)).1 = r at *
   go_wp2
   rw [HE.out]
   refine bodyPost_ret (v := .tuple #[sv 0#256, .int .i64 10]) (by simp [results, Tryz.results87, go_sem, zak, *]) rfl ⟨rfl, ?_⟩
   repeat (first | exact HR1.out | (refine Below.setCell ?_ (by first | omega | (simp <;> omega)) _) | (refine Below.alloc ?_ (by first | omega | (simp <;> omega)) _))
 ·rw [zeL n hc]
  exact zd0 n w hc
abbrev p6 (W : World) (g : Nat) (x : BitVec 256) (tx : ByteArray) : World := (((((W.setCell ⟨g, 0, none⟩ (.int .i64 28)).setCell ⟨g, 5, none⟩ (.int .u64 (wd x 0))).setCell ⟨g, 6, none⟩ (.int .u64 (wd x 1))).setCell ⟨g, 7, none⟩ (.int .u64 (wd x 2))).setCell ⟨g, 8, none⟩ (.int .u64 (wd x 3))).setCell ⟨g, 4, none⟩ (.string tx)
theorem p6_tx {W : World} {g : Nat} {fr en : Int} (h : TX W g ⟨0, 0, fr, en, ⟨#[]⟩, 0, 0, 0, 0⟩) (x : BitVec 256) (tx : ByteArray) : TX (p6 W g x tx) g ⟨28, 0, fr, en, tx, wd x 0, wd x 1, wd x 2, wd x 3⟩ := by
 have h := h.heap
 have h0 := heap_setCell_same _ g 0 _ 79 (.int .i64 28) h
 have h1 := heap_setCell_same _ g 5 _ 79 (.int .u64 (wd x 0)) h0
 have h2 := heap_setCell_same _ g 6 _ 79 (.int .u64 (wd x 1)) h1
 have h3 := heap_setCell_same _ g 7 _ 79 (.int .u64 (wd x 2)) h2
 have h4 := heap_setCell_same _ g 8 _ 79 (.int .u64 (wd x 3)) h3
 have h5 := heap_setCell_same _ g 4 _ 79 (.string tx) h4
 refine ⟨?_⟩
 rw [h5]
 simp
theorem zh0 {W : World} {g b : Nat} (h : b ≠ g) (x : BitVec 256) (tx : ByteArray) : (p6 W g x tx).heap[b]? = W.heap[b]? := by
 rw [heap_setCell_other _ _ _ _ h, heap_setCell_other _ _ _ _ h, heap_setCell_other _ _ _ _ h, heap_setCell_other _ _ _ _ h, heap_setCell_other _ _ _ _ h, heap_setCell_other _ _ _ _ h]
theorem zh1 {B : Nat} {w W : World} {g : Nat} (h : Below B w W) (hb : B <= g) (x : BitVec 256) (tx : ByteArray) : Below B w (p6 W g x tx) := (((((h.setCell (p := ⟨g, 0, none⟩) hb _).setCell (p := ⟨g, 5, none⟩) hb _).setCell (p := ⟨g, 6, none⟩) hb _).setCell (p := ⟨g, 7, none⟩) hb _).setCell (p := ⟨g, 8, none⟩) hb _).setCell (p := ⟨g, 4, none⟩) hb _
theorem zkE (n : Nat) : (cls n).2 = 0 ∨ (cls n).2 = 10 := by
 unfold cls
 split
 ·split
  ·exact .inl rfl
  ·exact zdW (n + 32)
 ·exact zdW n
theorem zhf (s : ByteArray) (b : Nat) (hs : s.size <= 140737488355000) (hb : b < s.size) (w : World) : Calls Tryz.prog 64 #[.string s, .int .i64 b] w fun e w' => e = .returned (zcG (zdP s b)) /\ Below w.heap.size w w' := by
 have HWr : Hid (∀ i e w, Calls Tryz.prog 58 #[.int .i64 i, .int .i64 e] w fun e' w' => e' = .returned (.tuple #[tkG tk0, .int .i64 i, .int .i64 e]) /\ Below w.heap.size w w') := fun i e w => zbO i e w
 have HA1 : Hid (∀ w, Calls Tryz.prog 55 #[.string s, .int .i64 ((b : Int) + 1)] w fun e w' => e = .returned (.int .i64 (chr s (b + 1))) /\ w' = w) := fun w => za0 s (b + 1) w
 have HA2 : Hid (∀ w, Calls Tryz.prog 55 #[.string s, .int .i64 ((b : Int) + 2)] w fun e w' => e = .returned (.int .i64 (chr s (b + 2))) /\ w' = w) := fun w => za0 s (b + 2) w
 have HX : Hid (TX ((w.alloc (tkO tk0)).alloc (tkO ⟨0, 0, b, b + 2, ⟨#[]⟩, 0, 0, 0, 0⟩)) w.heap.size tk0 /\ TX ((w.alloc (tkO tk0)).alloc (tkO ⟨0, 0, b, b + 2, ⟨#[]⟩, 0, 0, 0, 0⟩)) (w.heap.size + 1) ⟨0, 0, b, b + 2, ⟨#[]⟩, 0, 0, 0, 0⟩) := ⟨(TX.new w _).below (zaa _ _), by have h := TX.new (w.alloc (tkO tk0)) ⟨0, 0, b, b + 2, ⟨#[]⟩, 0, 0, 0, 0⟩; rw [World.size_alloc] at h; exact h⟩
 have HB : Hid (Below w.heap.size w ((w.alloc (tkO tk0)).alloc (tkO ⟨0, 0, b, b + 2, ⟨#[]⟩, 0, 0, 0, 0⟩))) := (zaa w _).alloc (zaa w _).size _
 by_cases hu : chr s (b + 1) = 117 /\ chr s (b + 2) = 123
 ·have t1 : (chr s (b + 1) == 117) = true := by rw [hu.1]; rfl
  have t2 : (chr s (b + 2) == 123) = true := by rw [hu.2]; rfl
  have h2 : b + 2 < s.size := zau (by omega)
  have HU : Hid (zdP s b = zb5 s b) := by show zdP s b = _; unfold zdP; rw [if_pos hu]
  have HP : Hid (∀ w, Calls Tryz.prog 92 #[.string s, .int .i64 b] w fun e w' => e = .returned (zcG (zb5 s b)) /\ Below w.heap.size w w') := fun w => ziT s b hs (by omega) w
  clear hu
  cases hp : zb5 s b with
  | inl t =>
   rw [hp] at HU HP
   go_enter Tryz.func64, Tryz.ntmps64
   go_wp2_with fail
   refine (HA1.out _).mono ?_
   rintro e w2 ⟨rfl, rfl⟩
   go_wp2_with fail
   refine (HA2.out _).mono ?_
   rintro e w2 ⟨rfl, rfl⟩
   clear HA1 HA2
   go_wp2_with fail
   refine (HP.out _).mono ?_
   rintro e w3 ⟨rfl, b3⟩
   have HX3 : Hid (TX w3 w.heap.size tk0) := HX.out.1.below b3
   have HB3 : Hid (Below w.heap.size w w3) := HB.out.trans (b3.mono HB.out.size)
   clear b3 HWr HP
   obtain ⟨c0, c1, c2, c3, c4, c5, c6, c7, c8⟩ := HX3.out.cells
   obtain ⟨f0, f1', f2', f3, f4, f5, f6, f7, f8⟩ := HX3.out.fz
   unfold zcG
   go_wp2_with fail
   exact zah rfl rfl rfl rfl rfl (zar HX3.out t) ⟨by rw [HU.out]; rfl, zad HB3.out (Nat.le_refl _) t⟩
  | inr q =>
   rw [hp] at HU HP
   go_enter Tryz.func64, Tryz.ntmps64
   go_wp2_with fail
   refine (HA1.out _).mono ?_
   rintro e w2 ⟨rfl, rfl⟩
   go_wp2_with fail
   refine (HA2.out _).mono ?_
   rintro e w2 ⟨rfl, rfl⟩
   clear HA1 HA2
   go_wp2_with fail
   refine (HP.out _).mono ?_
   rintro e w3 ⟨rfl, b3⟩
   have HX3 : Hid (TX w3 w.heap.size tk0) := HX.out.1.below b3
   have HB3 : Hid (Below w.heap.size w w3) := HB.out.trans (b3.mono HB.out.size)
   clear b3 HWr HP
   obtain ⟨c0, c1, c2, c3, c4, c5, c6, c7, c8⟩ := HX3.out.cells
   obtain ⟨f0, f1', f2', f3, f4, f5, f6, f7, f8⟩ := HX3.out.fz
   unfold zcG
   go_wp2_with fail
   exact zah rfl rfl rfl rfl rfl (zar HX3.out tk0) ⟨by rw [HU.out]; rfl, zad HB3.out (Nat.le_refl _) tk0⟩
 ·by_cases h117 : chr s (b + 1) = 117
  ·have t1 : (chr s (b + 1) == 117) = true := by rw [h117]; rfl
   have t2 : (chr s (b + 2) == 123) = false := bF (fun q => hu ⟨h117, q⟩)
   have t3 : (chr s (b + 1) == 101) = false := by rw [h117]; rfl
   have t4 : (chr s (b + 1) == 102) = false := by rw [h117]; rfl
   have n1 : ¬ chr s (b + 1) = 101 := by omega
   have n2 : ¬ chr s (b + 1) = 102 := by omega
   clear h117
   by_cases hc : 0 <= chr s (b + 1) /\ (cls (chr s (b + 1)).toNat).2 = 0
   ·have hcl := zbg s (b + 1)
    have hb1 : b + 1 < s.size := zau hc.1
    have HE : Hid (zdP s b = .inl ⟨28, 0, b, b + 2, s.extract (b + 1) (b + 2), wd (cls (chr s (b + 1)).toNat).1 0, wd (cls (chr s (b + 1)).toNat).1 1, wd (cls (chr s (b + 1)).toNat).1 2, wd (cls (chr s (b + 1)).toNat).1 3⟩) := by show zdP s b = _; unfold zdP; rw [if_neg hu, if_neg n1, if_neg n2, if_pos hc]
    have HC : Hid (∀ w, Calls Tryz.prog 87 #[.int .i64 (chr s (b + 1))] w fun e w' => e = .returned (.tuple #[sv (cls (chr s (b + 1)).toNat).1, .int .i64 0]) /\ Below w.heap.size w w') := fun w => by
     have h := zbk (chr s (b + 1)).toNat (by omega) w
     rw [hc.2, show (((chr s (b + 1)).toNat : Nat) : Int) = chr s (b + 1) from by omega] at h
     exact h
    clear hc hu
    generalize (cls (chr s (b + 1)).toNat).1 = x at *
    go_enter Tryz.func64, Tryz.ntmps64
    go_wp2_with fail
    refine (HA1.out _).mono ?_
    rintro e w2 ⟨rfl, rfl⟩
    go_wp2_with fail
    refine (HA2.out _).mono ?_
    rintro e w2 ⟨rfl, rfl⟩
    go_wp2_with fail
    refine (HC.out _).mono ?_
    rintro e w3 ⟨rfl, b3⟩
    have HX3 : Hid (TX w3 w.heap.size tk0 /\ TX w3 (w.heap.size + 1) ⟨0, 0, b, b + 2, ⟨#[]⟩, 0, 0, 0, 0⟩) := ⟨HX.out.1.below b3, HX.out.2.below b3⟩
    have HB3 : Hid (Below w.heap.size w w3) := HB.out.trans (b3.mono HB.out.size)
    clear b3 HC HX HB
    go_wp2_with fail
    have HW4 : Hid (TX (w3.alloc (.cells #[.int .u64 (wd x 0), .int .u64 (wd x 1), .int .u64 (wd x 2), .int .u64 (wd x 3)] 49)) w.heap.size tk0 /\ TX (w3.alloc (.cells #[.int .u64 (wd x 0), .int .u64 (wd x 1), .int .u64 (wd x 2), .int .u64 (wd x 3)] 49)) (w.heap.size + 1) ⟨0, 0, b, b + 2, ⟨#[]⟩, 0, 0, 0, 0⟩ /\ Holds (w3.alloc (.cells #[.int .u64 (wd x 0), .int .u64 (wd x 1), .int .u64 (wd x 2), .int .u64 (wd x 3)] 49)) w3.heap.size x /\ Below w.heap.size w (w3.alloc (.cells #[.int .u64 (wd x 0), .int .u64 (wd x 1), .int .u64 (wd x 2), .int .u64 (wd x 3)] 49))) := ⟨HX3.out.1.below (zaa _ _), HX3.out.2.below (zaa _ _), Holds.new w3 x, HB3.out.alloc HB3.out.size _⟩
    generalize w3.alloc (.cells #[.int .u64 (wd x 0), .int .u64 (wd x 1), .int .u64 (wd x 2), .int .u64 (wd x 3)] 49) = w4 at *
    have HP : Hid (TX (p6 w4 (w.heap.size + 1) x (s.extract (b + 1) (b + 2))).drew w.heap.size tk0 /\ TX (p6 w4 (w.heap.size + 1) x (s.extract (b + 1) (b + 2))).drew (w.heap.size + 1) ⟨28, 0, b, b + 2, s.extract (b + 1) (b + 2), wd x 0, wd x 1, wd x 2, wd x 3⟩ /\ Below w.heap.size w (p6 w4 (w.heap.size + 1) x (s.extract (b + 1) (b + 2))).drew) := ⟨(HW4.out.1.same (zh0 (by omega) x (s.extract (b + 1) (b + 2)))).below (below_drewN (Below.refl _ _) 1), (p6_tx HW4.out.2.1 x (s.extract (b + 1) (b + 2))).below (below_drewN (Below.refl _ _) 1), below_drewN (zh1 HW4.out.2.2.2 (by omega) x (s.extract (b + 1) (b + 2))) 1⟩
    obtain ⟨l0, e0, e1, e2, e3, g0, g1, g2, g3⟩ := HW4.out.2.2.1
    obtain ⟨c0, c1, c2, c3, c4, c5, c6, c7, c8⟩ := HW4.out.2.1.cells
    obtain ⟨f0, f1', f2', f3, f4, f5, f6, f7, f8⟩ := HW4.out.2.1.fz
    have ne1 : ¬ w3.heap.size = w.heap.size + 1 := by have := HX3.out.2.lt; omega
    have ne2 : ¬ w.heap.size + 1 = w3.heap.size := by omega
    obtain ⟨j1, hj1⟩ : ∃ j, j = b + 1 := ⟨_, rfl⟩
    obtain ⟨j2, hj2⟩ : ∃ j, j = b + 2 := ⟨_, rfl⟩
    have u1 : IntKind.i64.wrap ((b : Int) + 1) = (j1 : Int) := by rw [hj1, IntKind.wrap_i64]; omega
    have u2 : IntKind.i64.wrap ((b : Int) + 2) = (j2 : Int) := by rw [hj2, IntKind.wrap_i64]; omega
    have y0 : (0 : Int) <= (j1 : Int) := by omega
    have y1 : (j1 : Int) <= (j2 : Int) := by omega
    have y2 : (j2 : Int) <= (s.size : Int) := by omega
    rw [<- hj1, <- hj2] at HP HE
    clear hj1 hj2
    clear HW4 HX3 HB3 HWr
    go_region
    all_goals
     generalize (((((((w4.setCell ⟨w.heap.size + 1, 0, none⟩ (.int .i64 28)).setCell ⟨w.heap.size + 1, 5, none⟩ (.int .u64 (wd x 0))).setCell ⟨w.heap.size + 1, 6, none⟩ (.int .u64 (wd x 1))).setCell ⟨w.heap.size + 1, 7, none⟩ (.int .u64 (wd x 2))).setCell ⟨w.heap.size + 1, 8, none⟩ (.int .u64 (wd x 3))).setCell ⟨w.heap.size + 1, 4, none⟩ (.string (s.extract j1 j2)))).drew = w6 at *
     clear e0 e1 e2 e3 g0 g1 g2 g3 c0 c1 c2 c3 c4 c5 c6 c7 c8 f0 f1' f2' f3 f4 f5 f6 f7 f8
     obtain ⟨c0, c1, c2, c3, c4, c5, c6, c7, c8⟩ := HP.out.2.1.cells
     obtain ⟨d0, d1, d2, d3, d4, d5, d6, d7, d8⟩ := HP.out.1.cells
     obtain ⟨f0, f1', f2', f3, f4, f5, f6, f7, f8⟩ := HP.out.1.fz
     go_wp2_with fail
     exact zah (t := ⟨28, 0, b, b + 2, s.extract j1 j2, wd x 0, wd x 1, wd x 2, wd x 3⟩) (p := 0) (e := 0) rfl rfl rfl rfl rfl (zar HP.out.1 ⟨28, 0, b, b + 2, s.extract j1 j2, wd x 0, wd x 1, wd x 2, wd x 3⟩) ⟨by rw [HE.out]; rfl, zad HP.out.2.2 (Nat.le_refl _) ⟨28, 0, b, b + 2, s.extract j1 j2, wd x 0, wd x 1, wd x 2, wd x 3⟩⟩
   ·have HE : Hid (zdP s b = .inr (b, 10)) := by show zdP s b = _; unfold zdP; rw [if_neg hu, if_neg n1, if_neg n2, if_neg hc]
    have hcl := zbg s (b + 1)
    have HC : Hid (∀ w, Calls Tryz.prog 87 #[.int .i64 (chr s (b + 1))] w fun e w' => (∃ x, e = .returned (.tuple #[sv x, .int .i64 10])) /\ Below w.heap.size w w') := fun w => by
     by_cases h0 : chr s (b + 1) < 0
     ·exact (zcx _ w h0).mono fun e w' ⟨h1, h2⟩ => ⟨⟨_, h1⟩, h2⟩
     ·have h := zbk (chr s (b + 1)).toNat (by omega) w
      rw [show (((chr s (b + 1)).toNat : Nat) : Int) = chr s (b + 1) from by omega] at h
      have h10 : (cls (chr s (b + 1)).toNat).2 = 10 := (zkE _).resolve_left (fun q => hc ⟨by omega, q⟩)
      rw [h10] at h
      exact h.mono fun e w' ⟨h1, h2⟩ => ⟨⟨_, h1⟩, h2⟩
    clear hc hu
    go_enter Tryz.func64, Tryz.ntmps64
    go_wp2_with fail
    refine (HA1.out _).mono ?_
    rintro e w2 ⟨rfl, rfl⟩
    go_wp2_with fail
    refine (HA2.out _).mono ?_
    rintro e w2 ⟨rfl, rfl⟩
    go_wp2_with fail
    refine (HC.out _).mono ?_
    rintro e w3 ⟨⟨x, rfl⟩, b3⟩
    have HX3 : Hid (TX w3 w.heap.size tk0 /\ TX w3 (w.heap.size + 1) ⟨0, 0, b, b + 2, ⟨#[]⟩, 0, 0, 0, 0⟩) := ⟨HX.out.1.below b3, HX.out.2.below b3⟩
    have HB3 : Hid (Below w.heap.size w w3) := HB.out.trans (b3.mono HB.out.size)
    clear b3 HC HX HB
    go_wp2_with fail
    refine (HWr.out _ _ _).mono ?_
    rintro e w4 ⟨rfl, b4⟩
    have HX4 : Hid (TX w4 w.heap.size tk0) := HX3.out.1.below ((zaa _ _).trans (b4.mono (zaa _ _).size))
    have HB4 : Hid (Below w.heap.size w w4) := HB3.out.trans (((zaa _ _).trans (b4.mono (zaa _ _).size)).mono HB3.out.size)
    clear b4 HWr
    obtain ⟨c0, c1, c2, c3, c4, c5, c6, c7, c8⟩ := HX4.out.cells
    obtain ⟨f0, f1', f2', f3, f4, f5, f6, f7, f8⟩ := HX4.out.fz
    go_wp2_with fail
    exact zah rfl rfl rfl rfl rfl (zar HX4.out tk0) ⟨by rw [HE.out]; rfl, zad HB4.out (Nat.le_refl _) tk0⟩
  ·have t1 : (chr s (b + 1) == 117) = false := bF h117
   by_cases n1 : chr s (b + 1) = 101
   ·have HE : Hid (zdP s b = .inl ⟨29, 0, b, b + 2, ⟨#[]⟩, 0, 0, 0, 0⟩) := by show zdP s b = _; unfold zdP; rw [if_neg hu, if_pos n1]
    have t3 : (chr s (b + 1) == 101) = true := by rw [n1]; rfl
    clear hu n1 HX HB
    go_enter Tryz.func64, Tryz.ntmps64
    go_wp2_with fail
    refine (HA1.out _).mono ?_
    rintro e w2 ⟨rfl, rfl⟩
    go_wp2_with fail
    exact zah (t := ⟨29, 0, b, b + 2, ⟨#[]⟩, 0, 0, 0, 0⟩) rfl rfl rfl rfl rfl ((TX.new w ⟨29, 0, b, b + 2, ⟨#[]⟩, 0, 0, 0, 0⟩).below (zaa _ _)) ⟨by rw [HE.out]; rfl, (zaa w _).alloc (zaa w _).size _⟩
   have t3 : (chr s (b + 1) == 101) = false := bF n1
   by_cases n2 : chr s (b + 1) = 102
   ·have HE : Hid (zdP s b = .inl ⟨30, 0, b, b + 2, ⟨#[]⟩, 0, 0, 0, 0⟩) := by show zdP s b = _; unfold zdP; rw [if_neg hu, if_neg n1, if_pos n2]
    have t4 : (chr s (b + 1) == 102) = true := by rw [n2]; rfl
    clear hu n1 n2 HX HB
    go_enter Tryz.func64, Tryz.ntmps64
    go_wp2_with fail
    refine (HA1.out _).mono ?_
    rintro e w2 ⟨rfl, rfl⟩
    go_wp2_with fail
    exact zah (t := ⟨30, 0, b, b + 2, ⟨#[]⟩, 0, 0, 0, 0⟩) rfl rfl rfl rfl rfl ((TX.new w ⟨30, 0, b, b + 2, ⟨#[]⟩, 0, 0, 0, 0⟩).below (zaa _ _)) ⟨by rw [HE.out]; rfl, (zaa w _).alloc (zaa w _).size _⟩
   have t4 : (chr s (b + 1) == 102) = false := bF n2
   by_cases hc : 0 <= chr s (b + 1) /\ (cls (chr s (b + 1)).toNat).2 = 0
   ·have hcl := zbg s (b + 1)
    have hb1 : b + 1 < s.size := zau hc.1
    have HE : Hid (zdP s b = .inl ⟨28, 0, b, b + 2, s.extract (b + 1) (b + 2), wd (cls (chr s (b + 1)).toNat).1 0, wd (cls (chr s (b + 1)).toNat).1 1, wd (cls (chr s (b + 1)).toNat).1 2, wd (cls (chr s (b + 1)).toNat).1 3⟩) := by show zdP s b = _; unfold zdP; rw [if_neg hu, if_neg n1, if_neg n2, if_pos hc]
    have HC : Hid (∀ w, Calls Tryz.prog 87 #[.int .i64 (chr s (b + 1))] w fun e w' => e = .returned (.tuple #[sv (cls (chr s (b + 1)).toNat).1, .int .i64 0]) /\ Below w.heap.size w w') := fun w => by
     have h := zbk (chr s (b + 1)).toNat (by omega) w
     rw [hc.2, show (((chr s (b + 1)).toNat : Nat) : Int) = chr s (b + 1) from by omega] at h
     exact h
    clear hc hu
    generalize (cls (chr s (b + 1)).toNat).1 = x at *
    go_enter Tryz.func64, Tryz.ntmps64
    go_wp2_with fail
    refine (HA1.out _).mono ?_
    rintro e w2 ⟨rfl, rfl⟩
    go_wp2_with fail
    refine (HC.out _).mono ?_
    rintro e w3 ⟨rfl, b3⟩
    have HX3 : Hid (TX w3 w.heap.size tk0 /\ TX w3 (w.heap.size + 1) ⟨0, 0, b, b + 2, ⟨#[]⟩, 0, 0, 0, 0⟩) := ⟨HX.out.1.below b3, HX.out.2.below b3⟩
    have HB3 : Hid (Below w.heap.size w w3) := HB.out.trans (b3.mono HB.out.size)
    clear b3 HC HX HB
    go_wp2_with fail
    have HW4 : Hid (TX (w3.alloc (.cells #[.int .u64 (wd x 0), .int .u64 (wd x 1), .int .u64 (wd x 2), .int .u64 (wd x 3)] 49)) w.heap.size tk0 /\ TX (w3.alloc (.cells #[.int .u64 (wd x 0), .int .u64 (wd x 1), .int .u64 (wd x 2), .int .u64 (wd x 3)] 49)) (w.heap.size + 1) ⟨0, 0, b, b + 2, ⟨#[]⟩, 0, 0, 0, 0⟩ /\ Holds (w3.alloc (.cells #[.int .u64 (wd x 0), .int .u64 (wd x 1), .int .u64 (wd x 2), .int .u64 (wd x 3)] 49)) w3.heap.size x /\ Below w.heap.size w (w3.alloc (.cells #[.int .u64 (wd x 0), .int .u64 (wd x 1), .int .u64 (wd x 2), .int .u64 (wd x 3)] 49))) := ⟨HX3.out.1.below (zaa _ _), HX3.out.2.below (zaa _ _), Holds.new w3 x, HB3.out.alloc HB3.out.size _⟩
    generalize w3.alloc (.cells #[.int .u64 (wd x 0), .int .u64 (wd x 1), .int .u64 (wd x 2), .int .u64 (wd x 3)] 49) = w4 at *
    have HP : Hid (TX (p6 w4 (w.heap.size + 1) x (s.extract (b + 1) (b + 2))).drew w.heap.size tk0 /\ TX (p6 w4 (w.heap.size + 1) x (s.extract (b + 1) (b + 2))).drew (w.heap.size + 1) ⟨28, 0, b, b + 2, s.extract (b + 1) (b + 2), wd x 0, wd x 1, wd x 2, wd x 3⟩ /\ Below w.heap.size w (p6 w4 (w.heap.size + 1) x (s.extract (b + 1) (b + 2))).drew) := ⟨(HW4.out.1.same (zh0 (by omega) x (s.extract (b + 1) (b + 2)))).below (below_drewN (Below.refl _ _) 1), (p6_tx HW4.out.2.1 x (s.extract (b + 1) (b + 2))).below (below_drewN (Below.refl _ _) 1), below_drewN (zh1 HW4.out.2.2.2 (by omega) x (s.extract (b + 1) (b + 2))) 1⟩
    obtain ⟨l0, e0, e1, e2, e3, g0, g1, g2, g3⟩ := HW4.out.2.2.1
    obtain ⟨c0, c1, c2, c3, c4, c5, c6, c7, c8⟩ := HW4.out.2.1.cells
    obtain ⟨f0, f1', f2', f3, f4, f5, f6, f7, f8⟩ := HW4.out.2.1.fz
    have ne1 : ¬ w3.heap.size = w.heap.size + 1 := by have := HX3.out.2.lt; omega
    have ne2 : ¬ w.heap.size + 1 = w3.heap.size := by omega
    obtain ⟨j1, hj1⟩ : ∃ j, j = b + 1 := ⟨_, rfl⟩
    obtain ⟨j2, hj2⟩ : ∃ j, j = b + 2 := ⟨_, rfl⟩
    have u1 : IntKind.i64.wrap ((b : Int) + 1) = (j1 : Int) := by rw [hj1, IntKind.wrap_i64]; omega
    have u2 : IntKind.i64.wrap ((b : Int) + 2) = (j2 : Int) := by rw [hj2, IntKind.wrap_i64]; omega
    have y0 : (0 : Int) <= (j1 : Int) := by omega
    have y1 : (j1 : Int) <= (j2 : Int) := by omega
    have y2 : (j2 : Int) <= (s.size : Int) := by omega
    rw [<- hj1, <- hj2] at HP HE
    clear hj1 hj2
    clear HW4 HX3 HB3 HWr
    go_region
    all_goals
     generalize (((((((w4.setCell ⟨w.heap.size + 1, 0, none⟩ (.int .i64 28)).setCell ⟨w.heap.size + 1, 5, none⟩ (.int .u64 (wd x 0))).setCell ⟨w.heap.size + 1, 6, none⟩ (.int .u64 (wd x 1))).setCell ⟨w.heap.size + 1, 7, none⟩ (.int .u64 (wd x 2))).setCell ⟨w.heap.size + 1, 8, none⟩ (.int .u64 (wd x 3))).setCell ⟨w.heap.size + 1, 4, none⟩ (.string (s.extract j1 j2)))).drew = w6 at *
     clear e0 e1 e2 e3 g0 g1 g2 g3 c0 c1 c2 c3 c4 c5 c6 c7 c8 f0 f1' f2' f3 f4 f5 f6 f7 f8
     obtain ⟨c0, c1, c2, c3, c4, c5, c6, c7, c8⟩ := HP.out.2.1.cells
     obtain ⟨d0, d1, d2, d3, d4, d5, d6, d7, d8⟩ := HP.out.1.cells
     obtain ⟨f0, f1', f2', f3, f4, f5, f6, f7, f8⟩ := HP.out.1.fz
     go_wp2_with fail
     exact zah (t := ⟨28, 0, b, b + 2, s.extract j1 j2, wd x 0, wd x 1, wd x 2, wd x 3⟩) (p := 0) (e := 0) rfl rfl rfl rfl rfl (zar HP.out.1 ⟨28, 0, b, b + 2, s.extract j1 j2, wd x 0, wd x 1, wd x 2, wd x 3⟩) ⟨by rw [HE.out]; rfl, zad HP.out.2.2 (Nat.le_refl _) ⟨28, 0, b, b + 2, s.extract j1 j2, wd x 0, wd x 1, wd x 2, wd x 3⟩⟩
   ·have HE : Hid (zdP s b = .inr (b, 10)) := by show zdP s b = _; unfold zdP; rw [if_neg hu, if_neg n1, if_neg n2, if_neg hc]
    have hcl := zbg s (b + 1)
    have HC : Hid (∀ w, Calls Tryz.prog 87 #[.int .i64 (chr s (b + 1))] w fun e w' => (∃ x, e = .returned (.tuple #[sv x, .int .i64 10])) /\ Below w.heap.size w w') := fun w => by
     by_cases h0 : chr s (b + 1) < 0
     ·exact (zcx _ w h0).mono fun e w' ⟨h1, h2⟩ => ⟨⟨_, h1⟩, h2⟩
     ·have h := zbk (chr s (b + 1)).toNat (by omega) w
      rw [show (((chr s (b + 1)).toNat : Nat) : Int) = chr s (b + 1) from by omega] at h
      have h10 : (cls (chr s (b + 1)).toNat).2 = 10 := (zkE _).resolve_left (fun q => hc ⟨by omega, q⟩)
      rw [h10] at h
      exact h.mono fun e w' ⟨h1, h2⟩ => ⟨⟨_, h1⟩, h2⟩
    clear hc hu
    go_enter Tryz.func64, Tryz.ntmps64
    go_wp2_with fail
    refine (HA1.out _).mono ?_
    rintro e w2 ⟨rfl, rfl⟩
    go_wp2_with fail
    refine (HC.out _).mono ?_
    rintro e w3 ⟨⟨x, rfl⟩, b3⟩
    have HX3 : Hid (TX w3 w.heap.size tk0 /\ TX w3 (w.heap.size + 1) ⟨0, 0, b, b + 2, ⟨#[]⟩, 0, 0, 0, 0⟩) := ⟨HX.out.1.below b3, HX.out.2.below b3⟩
    have HB3 : Hid (Below w.heap.size w w3) := HB.out.trans (b3.mono HB.out.size)
    clear b3 HC HX HB
    go_wp2_with fail
    refine (HWr.out _ _ _).mono ?_
    rintro e w4 ⟨rfl, b4⟩
    have HX4 : Hid (TX w4 w.heap.size tk0) := HX3.out.1.below ((zaa _ _).trans (b4.mono (zaa _ _).size))
    have HB4 : Hid (Below w.heap.size w w4) := HB3.out.trans (((zaa _ _).trans (b4.mono (zaa _ _).size)).mono HB3.out.size)
    clear b4 HWr
    obtain ⟨c0, c1, c2, c3, c4, c5, c6, c7, c8⟩ := HX4.out.cells
    obtain ⟨f0, f1', f2', f3, f4, f5, f6, f7, f8⟩ := HX4.out.fz
    go_wp2_with fail
    exact zah rfl rfl rfl rfl rfl (zar HX4.out tk0) ⟨by rw [HE.out]; rfl, zad HB4.out (Nat.le_refl _) tk0⟩
theorem zkF (s : ByteArray) (b : Nat) (hs : s.size <= 140737488355328) (hb : b < s.size) (w : World) : Calls Tryz.prog 65 #[.string s, .int .i64 b] w fun e w' => e = .returned (zcG (zeg s b)) /\ Below w.heap.size w w' := by
 have HX : Hid (TX (w.alloc (tkO tk0)) w.heap.size tk0) := TX.new w tk0
 have HB : Hid (Below w.heap.size w (w.alloc (tkO tk0))) := zaa w _
 have HWr : Hid (∀ i e w, Calls Tryz.prog 58 #[.int .i64 i, .int .i64 e] w fun e' w' => e' = .returned (.tuple #[tkG tk0, .int .i64 i, .int .i64 e]) /\ Below w.heap.size w w') := fun i e w => zbO i e w
 have HA : Hid (∀ w, Calls Tryz.prog 55 #[.string s, .int .i64 ((b : Int) + 1)] w fun e w' => e = .returned (.int .i64 (chr s (b + 1))) /\ w' = w) := fun w => za0 s (b + 1) w
 by_cases h43 : chr s (b + 1) = 43
 ·have h1 : b + 1 < s.size := zau (by omega)
  have t1 : (chr s (b + 1) == 43) = true := by rw [h43]; rfl
  cases hq : zbx s (b + 2) 50 with
  | inr e0 =>
   have HE : Hid (zeg s b = .inr (b, e0)) := by show zeg s b = _; unfold zeg; simp only [h43, if_true, hq, true_or]
   have hne : e0 ≠ 0 := zfJ hq
   have t9 : (e0 != 0) = true := by rw [bne, bF hne]; rfl
   have HNu := (show Hid (∀ w, Calls Tryz.prog 60 #[.string s, .int .i64 b, .int .i64 ((b : Int) + 2), .int .i64 50] w fun e w' => e = .returned (.tuple #[.int .i64 0, .int .i64 e0]) /\ w' = w) from fun w => by
    have h := zbu s b (b + 2) 50 hs (by omega) w
    rw [hq] at h
    exact h)
   clear hq hne
   go_enter Tryz.func65, Tryz.ntmps65
   go_wp2_with fail
   refine (HA.out _).mono ?_
   rintro e w ⟨rfl, rfl⟩
   go_wp2_with fail
   refine (HNu.out _).mono ?_
   rintro e w2 ⟨rfl, rfl⟩
   clear HNu
   go_wp2_with fail
   refine (HWr.out _ _ _).mono ?_
   rintro e w3 ⟨rfl, b3⟩
   have HX3 : Hid (TX w3 w.heap.size tk0) := HX.out.below b3
   have HB3 : Hid (Below w.heap.size w w3) := HB.out.trans (b3.mono HB.out.size)
   clear b3 HWr
   obtain ⟨c0, c1, c2, c3, c4, c5, c6, c7, c8⟩ := HX3.out.cells
   obtain ⟨f0, f1, f2, f3, f4, f5, f6, f7, f8⟩ := HX3.out.fz
   go_wp2_with fail
   exact zah rfl rfl rfl rfl rfl (zar HX3.out tk0) ⟨by rw [HE.out]; rfl, zad HB3.out (Nat.le_refl _) tk0⟩
  | inl n0 =>
   have HE : Hid (zeg s b = .inl ⟨14, n0, b, spN dgB s (b + 2), ⟨#[]⟩, 0, 0, 0, 0⟩) := by show zeg s b = _; unfold zeg; simp only [h43, if_true, hq, true_or]
   have HNu := (show Hid (∀ w, Calls Tryz.prog 60 #[.string s, .int .i64 b, .int .i64 ((b : Int) + 2), .int .i64 50] w fun e w' => e = .returned (.tuple #[.int .i64 n0, .int .i64 0]) /\ w' = w) from fun w => by
    have h := zbu s b (b + 2) 50 hs (by omega) w
    rw [hq] at h
    exact h)
   have HDg : Hid (∀ w, Calls Tryz.prog 61 #[.string s, .int .i64 ((b : Int) + 2)] w fun e w' => e = .returned (.int .i64 (spN dgB s (b + 2))) /\ w' = w) := fun w => zcr s (b + 2) hs (by omega) w
   clear hq
   go_enter Tryz.func65, Tryz.ntmps65
   go_wp2_with fail
   refine (HA.out _).mono ?_
   rintro e w ⟨rfl, rfl⟩
   go_wp2_with fail
   refine (HNu.out _).mono ?_
   rintro e w2 ⟨rfl, rfl⟩
   clear HNu
   go_wp2_with fail
   refine (HDg.out _).mono ?_
   rintro e w3 ⟨rfl, rfl⟩
   clear HDg
   obtain ⟨c0, c1, c2, c3, c4, c5, c6, c7, c8⟩ := HX.out.cells
   obtain ⟨f0, f1, f2, f3, f4, f5, f6, f7, f8⟩ := HX.out.fz
   go_wp2_with fail
   exact zah rfl rfl rfl rfl rfl (TX.new w ⟨14, n0, b, spN dgB s (b + 2), ⟨#[]⟩, 0, 0, 0, 0⟩) ⟨by rw [HE.out]; rfl, zaa w _⟩
 ·have t1 : (chr s (b + 1) == 43) = false := bF h43
  by_cases h45 : chr s (b + 1) = 45
  ·have h1 : b + 1 < s.size := zau (by omega)
   have t2 : (chr s (b + 1) == 45) = true := by rw [h45]; rfl
   cases hq : zbx s (b + 2) 50 with
   | inr e0 =>
    have HE : Hid (zeg s b = .inr (b, e0)) := by show zeg s b = _; unfold zeg; simp only [h45, if_true, hq, or_true]
    have hne : e0 ≠ 0 := zfJ hq
    have t9 : (e0 != 0) = true := by rw [bne, bF hne]; rfl
    have HNu := (show Hid (∀ w, Calls Tryz.prog 60 #[.string s, .int .i64 b, .int .i64 ((b : Int) + 2), .int .i64 50] w fun e w' => e = .returned (.tuple #[.int .i64 0, .int .i64 e0]) /\ w' = w) from fun w => by
     have h := zbu s b (b + 2) 50 hs (by omega) w
     rw [hq] at h
     exact h)
    clear hq hne
    go_enter Tryz.func65, Tryz.ntmps65
    go_wp2_with fail
    refine (HA.out _).mono ?_
    rintro e w ⟨rfl, rfl⟩
    go_wp2_with fail
    refine (HA.out _).mono ?_
    rintro e w ⟨rfl, rfl⟩
    clear HA
    go_wp2_with fail
    refine (HNu.out _).mono ?_
    rintro e w2 ⟨rfl, rfl⟩
    clear HNu
    go_wp2_with fail
    refine (HWr.out _ _ _).mono ?_
    rintro e w3 ⟨rfl, b3⟩
    have HX3 : Hid (TX w3 w.heap.size tk0) := HX.out.below b3
    have HB3 : Hid (Below w.heap.size w w3) := HB.out.trans (b3.mono HB.out.size)
    clear b3 HWr
    obtain ⟨c0, c1, c2, c3, c4, c5, c6, c7, c8⟩ := HX3.out.cells
    obtain ⟨f0, f1, f2, f3, f4, f5, f6, f7, f8⟩ := HX3.out.fz
    go_wp2_with fail
    exact zah rfl rfl rfl rfl rfl (zar HX3.out tk0) ⟨by rw [HE.out]; rfl, zad HB3.out (Nat.le_refl _) tk0⟩
   | inl n0 =>
    have HE : Hid (zeg s b = .inl ⟨15, n0, b, spN dgB s (b + 2), ⟨#[]⟩, 0, 0, 0, 0⟩) := by show zeg s b = _; unfold zeg; simp only [h45, if_true, hq, or_true, if_neg (show ¬ (45 : Int) = 43 by decide)]
    have HNu := (show Hid (∀ w, Calls Tryz.prog 60 #[.string s, .int .i64 b, .int .i64 ((b : Int) + 2), .int .i64 50] w fun e w' => e = .returned (.tuple #[.int .i64 n0, .int .i64 0]) /\ w' = w) from fun w => by
     have h := zbu s b (b + 2) 50 hs (by omega) w
     rw [hq] at h
     exact h)
    have HDg : Hid (∀ w, Calls Tryz.prog 61 #[.string s, .int .i64 ((b : Int) + 2)] w fun e w' => e = .returned (.int .i64 (spN dgB s (b + 2))) /\ w' = w) := fun w => zcr s (b + 2) hs (by omega) w
    clear hq
    go_enter Tryz.func65, Tryz.ntmps65
    go_wp2_with fail
    refine (HA.out _).mono ?_
    rintro e w ⟨rfl, rfl⟩
    go_wp2_with fail
    refine (HA.out _).mono ?_
    rintro e w ⟨rfl, rfl⟩
    clear HA
    go_wp2_with fail
    refine (HNu.out _).mono ?_
    rintro e w2 ⟨rfl, rfl⟩
    clear HNu
    go_wp2_with fail
    refine (HDg.out _).mono ?_
    rintro e w3 ⟨rfl, rfl⟩
    clear HDg
    obtain ⟨c0, c1, c2, c3, c4, c5, c6, c7, c8⟩ := HX.out.cells
    obtain ⟨f0, f1, f2, f3, f4, f5, f6, f7, f8⟩ := HX.out.fz
    go_wp2_with fail
    exact zah rfl rfl rfl rfl rfl (TX.new w ⟨15, n0, b, spN dgB s (b + 2), ⟨#[]⟩, 0, 0, 0, 0⟩) ⟨by rw [HE.out]; rfl, zaa w _⟩
  ·have t2 : (chr s (b + 1) == 45) = false := bF h45
   cases hq : zbx s (b + 1) 50 with
   | inr e0 =>
    have HE : Hid (zeg s b = .inr (b, e0)) := by show zeg s b = _; unfold zeg; simp only [hq, if_neg (show ¬ (chr s (b + 1) = 43 ∨ chr s (b + 1) = 45) by omega)]
    have hne : e0 ≠ 0 := zfJ hq
    have t9 : (e0 != 0) = true := by rw [bne, bF hne]; rfl
    have HNu := (show Hid (∀ w, Calls Tryz.prog 60 #[.string s, .int .i64 b, .int .i64 ((b : Int) + 1), .int .i64 50] w fun e w' => e = .returned (.tuple #[.int .i64 0, .int .i64 e0]) /\ w' = w) from fun w => by
     have h := zbu s b (b + 1) 50 hs (by omega) w
     rw [hq] at h
     exact h)
    clear hq hne
    go_enter Tryz.func65, Tryz.ntmps65
    go_wp2_with fail
    refine (HA.out _).mono ?_
    rintro e w ⟨rfl, rfl⟩
    go_wp2_with fail
    refine (HA.out _).mono ?_
    rintro e w ⟨rfl, rfl⟩
    clear HA
    go_wp2_with fail
    refine (HNu.out _).mono ?_
    rintro e w2 ⟨rfl, rfl⟩
    clear HNu
    go_wp2_with fail
    refine (HWr.out _ _ _).mono ?_
    rintro e w3 ⟨rfl, b3⟩
    have HX3 : Hid (TX w3 w.heap.size tk0) := HX.out.below b3
    have HB3 : Hid (Below w.heap.size w w3) := HB.out.trans (b3.mono HB.out.size)
    clear b3 HWr
    obtain ⟨c0, c1, c2, c3, c4, c5, c6, c7, c8⟩ := HX3.out.cells
    obtain ⟨f0, f1, f2, f3, f4, f5, f6, f7, f8⟩ := HX3.out.fz
    go_wp2_with fail
    exact zah rfl rfl rfl rfl rfl (zar HX3.out tk0) ⟨by rw [HE.out]; rfl, zad HB3.out (Nat.le_refl _) tk0⟩
   | inl n0 =>
    have HE : Hid (zeg s b = .inl ⟨13, n0, b, spN dgB s (b + 1), ⟨#[]⟩, 0, 0, 0, 0⟩) := by show zeg s b = _; unfold zeg; simp only [if_neg h43, if_neg h45, hq, if_neg (show ¬ (chr s (b + 1) = 43 ∨ chr s (b + 1) = 45) by omega)]
    have HNu := (show Hid (∀ w, Calls Tryz.prog 60 #[.string s, .int .i64 b, .int .i64 ((b : Int) + 1), .int .i64 50] w fun e w' => e = .returned (.tuple #[.int .i64 n0, .int .i64 0]) /\ w' = w) from fun w => by
     have h := zbu s b (b + 1) 50 hs (by omega) w
     rw [hq] at h
     exact h)
    have HDg : Hid (∀ w, Calls Tryz.prog 61 #[.string s, .int .i64 ((b : Int) + 1)] w fun e w' => e = .returned (.int .i64 (spN dgB s (b + 1))) /\ w' = w) := fun w => zcr s (b + 1) hs (by omega) w
    clear hq
    go_enter Tryz.func65, Tryz.ntmps65
    go_wp2_with fail
    refine (HA.out _).mono ?_
    rintro e w ⟨rfl, rfl⟩
    go_wp2_with fail
    refine (HA.out _).mono ?_
    rintro e w ⟨rfl, rfl⟩
    clear HA
    go_wp2_with fail
    refine (HNu.out _).mono ?_
    rintro e w2 ⟨rfl, rfl⟩
    clear HNu
    go_wp2_with fail
    refine (HDg.out _).mono ?_
    rintro e w3 ⟨rfl, rfl⟩
    clear HDg
    obtain ⟨c0, c1, c2, c3, c4, c5, c6, c7, c8⟩ := HX.out.cells
    obtain ⟨f0, f1, f2, f3, f4, f5, f6, f7, f8⟩ := HX.out.fz
    go_wp2_with fail
    exact zah rfl rfl rfl rfl rfl (TX.new w ⟨13, n0, b, spN dgB s (b + 1), ⟨#[]⟩, 0, 0, 0, 0⟩) ⟨by rw [HE.out]; rfl, zaa w _⟩
end Go.Proofs.YtkihfkcmcdiajaaGreatDoor
