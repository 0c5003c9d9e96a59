/- DERIVED. Plain mathematics and walks, laid together (11). -/
import Derived.Test.YtkihfkcmcdiajaaGreatDoorRows
import Derived.WalkKit
import Derived.Test.YtkihfkcmcdiajaaGreatDoorPb10
set_option maxRecDepth 100000
set_option maxHeartbeats 8000000
namespace Go.Proofs.YtkihfkcmcdiajaaGreatDoor
open Go.RowKit
theorem zkL (s : ByteArray) (i : Nat) (hi : i < s.size) (hs : s.size <= 140737488355328) (h92 : chr s i = 92) (w : World) :
  Calls Tryz.prog 89 #[.string s, .int .i64 i] w fun e w' => e = .returned (irV i (zag s i)) /\ Below w.heap.size w w' := by
 have HX : Hid (∀ w, Calls Tryz.prog 55 #[.string s, .int .i64 i] w fun e w' => e = .returned (.int .i64 92) /\ w' = w) := fun w => by have h := za0 s i w; rw [h92] at h; exact h
 have HY : Hid (∀ w, Calls Tryz.prog 55 #[.string s, .int .i64 ((i : Int) + 1)] w fun e w' => e = .returned (.int .i64 (chr s (i + 1))) /\ w' = w) := fun w => za0 s (i + 1) w
 have hb := zbg s (i + 1)
 have HE : Hid (zag s i = if chr s (i + 1) = 110 then some (10, i + 2) else if chr s (i + 1) = 114 then some (13, i + 2) else if chr s (i + 1) = 116 then some (9, i + 2) else if chr s (i + 1) = 120 then zaZ s i else if zaC (chr s (i + 1)) then some ((chr s (i + 1)).toNat, i + 2) else none) := (by show zag s i = _; unfold zag; rw [if_pos h92]; rfl)
 clear h92
 generalize chr s (i + 1) = d at *
 obtain ⟨b0, b1⟩ := hb
 by_cases h110 : d = 110
 ·have HF : Hid (zag s i = some (10, i + 2)) := (by show zag s i = _; rw [HE.out, if_pos h110])
  have e110 : (d == 110) = true := beq_iff_eq.2 h110
  clear HE h110
  go_enter Tryz.func89, Tryz.ntmps89
  go_wp2_with fail
  refine (HX.out _).mono ?_
  rintro e w' ⟨rfl, rfl⟩
  go_wp2_with fail
  refine (HY.out _).mono ?_
  rintro e w' ⟨rfl, rfl⟩
  go_wp2
  go_ret2
  exact ⟨by rw [HF.out]; exact zfu rfl (by omega), Below.refl _ _⟩
 by_cases h114 : d = 114
 ·have HF : Hid (zag s i = some (13, i + 2)) := (by show zag s i = _; rw [HE.out, if_neg h110, if_pos h114])
  have e110 : (d == 110) = false := bF h110
  have e114 : (d == 114) = true := beq_iff_eq.2 h114
  clear HE h110 h114
  go_enter Tryz.func89, Tryz.ntmps89
  go_wp2_with fail
  refine (HX.out _).mono ?_
  rintro e w' ⟨rfl, rfl⟩
  go_wp2_with fail
  refine (HY.out _).mono ?_
  rintro e w' ⟨rfl, rfl⟩
  go_wp2
  go_ret2
  exact ⟨by rw [HF.out]; exact zfu rfl (by omega), Below.refl _ _⟩
 by_cases h116 : d = 116
 ·have HF : Hid (zag s i = some (9, i + 2)) := (by show zag s i = _; rw [HE.out, if_neg h110, if_neg h114, if_pos h116])
  have e110 : (d == 110) = false := bF h110
  have e114 : (d == 114) = false := bF h114
  have e116 : (d == 116) = true := beq_iff_eq.2 h116
  clear HE h110 h114 h116
  go_enter Tryz.func89, Tryz.ntmps89
  go_wp2_with fail
  refine (HX.out _).mono ?_
  rintro e w' ⟨rfl, rfl⟩
  go_wp2_with fail
  refine (HY.out _).mono ?_
  rintro e w' ⟨rfl, rfl⟩
  go_wp2
  go_ret2
  exact ⟨by rw [HF.out]; exact zfu rfl (by omega), Below.refl _ _⟩
 have e110 : (d == 110) = false := bF h110
 have e114 : (d == 114) = false := bF h114
 have e116 : (d == 116) = false := bF h116
 by_cases hd0 : d < 0
 ·have e120 : (d == 120) = false := bF (by omega)
  have HF : Hid (zag s i = none) := (by show zag s i = _; rw [HE.out, if_neg h110, if_neg h114, if_neg h116, if_neg (by omega), if_neg (by simp [zaC]; omega)])
  have hd1 : ¬ 0 <= d := by omega
  clear HE h110 h114 h116
  go_enter Tryz.func89, Tryz.ntmps89
  go_wp2_with fail
  refine (HX.out _).mono ?_
  rintro e w' ⟨rfl, rfl⟩
  go_wp2_with fail
  refine (HY.out _).mono ?_
  rintro e w' ⟨rfl, rfl⟩
  go_wp2
  go_ret2
  exact ⟨by rw [HF.out]; rfl, Below.refl _ _⟩
 have hd1 : 0 <= d := by omega
 cases hsg : zaC d
 ·by_cases h120 : d = 120
  ·have HF : Hid (zag s i = zaZ s i) := (by show zag s i = _; rw [HE.out, if_neg h110, if_neg h114, if_neg h116, if_pos h120])
   have e120 : (d == 120) = true := beq_iff_eq.2 h120
   clear HE h110 h114 h116 h120
   by_cases h : i + 3 < s.size
   ·have h2 : i + 2 < s.size := by omega
    have hb1 := zbh (s[i + 2].toNat : Int)
    have hb2 := zbh (s[i + 3].toNat : Int)
    have HE : Hid (zaZ s i = if 0 <= zaH (s[i + 2].toNat : Int) /\ 0 <= zaH (s[i + 3].toNat : Int) then some ((16 * zaH (s[i + 2].toNat : Int) + zaH (s[i + 3].toNat : Int)).toNat, i + 4) else none) := (by show zaZ s i = _; unfold zaZ; rw [zal h2, zal h])
    have HI : Hid (∀ w, Calls Tryz.prog 115 #[.int .u8 (s[i + 2].toNat : Int)] w fun e w' => e = .returned (.int .i64 (zaH (s[i + 2].toNat : Int))) /\ w' = w) := fun w => zbN _ w
    have HJ : Hid (∀ w, Calls Tryz.prog 115 #[.int .u8 (s[i + 3].toNat : Int)] w fun e w' => e = .returned (.int .i64 (zaH (s[i + 3].toNat : Int))) /\ w' = w) := fun w => zbN _ w
    have hi0 : (0 : Int) <= (i : Int) := by omega
    have hi3 : (i : Int) + 3 < (s.size : Int) := by omega
    have hi2 : (i : Int) + 2 < (s.size : Int) := by omega
    generalize zaH (s[i + 2].toNat : Int) = x at *
    generalize zaH (s[i + 3].toNat : Int) = y at *
    by_cases hx : 0 <= x
    ·by_cases hy : 0 <= y
     ·have HG : Hid (zag s i = some ((16 * x + y).toNat, i + 4)) := (by show zag s i = _; rw [HF.out, HE.out, if_pos ⟨hx, hy⟩])
      clear HE HF
      go_enter Tryz.func89, Tryz.ntmps89
      go_wp2_with fail
      refine (HX.out _).mono ?_
      rintro e w' ⟨rfl, rfl⟩
      go_wp2_with fail
      refine (HY.out _).mono ?_
      rintro e w' ⟨rfl, rfl⟩
      go_wp2_with fail
      refine (za1 _ _).mono ?_
      rintro e w' ⟨rfl, rfl⟩
      go_wp2_with fail
      refine (HI.out _).mono ?_
      rintro e w' ⟨rfl, rfl⟩
      go_wp2_with fail
      refine (HJ.out _).mono ?_
      rintro e w' ⟨rfl, rfl⟩
      go_wp2_with fail
      have q1 : IntKind.i64.wrap (x * 16) = x * 16 := by rw [IntKind.wrap_i64]; omega
      have q2 : IntKind.i64.wrap (x * 16 + y) = x * 16 + y := by rw [IntKind.wrap_i64]; omega
      have x2 := zkI s (i + 2) h2
      have x3 := zkI s (i + 3) h
      rw [show ((i + 2 : Nat) : Int) = (i : Int) + 2 from by omega] at x2
      rw [show ((i + 3 : Nat) : Int) = (i : Int) + 3 from by omega] at x3
      have z2 : (0 : Int) <= (i : Int) + 2 := by omega
      have z3 : (0 : Int) <= (i : Int) + 3 := by omega
      have v2 : IntKind.i64.wrap ((i : Int) + 2) = (i : Int) + 2 := by rw [IntKind.wrap_i64]; omega
      have v3 : IntKind.i64.wrap ((i : Int) + 3) = (i : Int) + 3 := by rw [IntKind.wrap_i64]; omega
      have v4 : IntKind.i64.wrap ((i : Int) + 4) = (i : Int) + 4 := by rw [IntKind.wrap_i64]; omega
      go_region_held3 (fun _ => True) (trivial) (first | (go_at_call 115; with_reducible refine (HI.out _).mono ?_; rintro e w' ⟨rfl, rfl⟩) | (go_at_call 115; with_reducible refine (HJ.out _).mono ?_; rintro e w' ⟨rfl, rfl⟩))
      all_goals
       go_wp2
       go_ret2
       exact ⟨by rw [HG.out]; exact zfu (by omega) (by omega), (Below.refl _ _).drew⟩
     ·have HG : Hid (zag s i = none) := (by show zag s i = _; rw [HF.out, HE.out, if_neg (fun q => hy q.2)])
      clear HE HF
      go_enter Tryz.func89, Tryz.ntmps89
      go_wp2_with fail
      refine (HX.out _).mono ?_
      rintro e w' ⟨rfl, rfl⟩
      go_wp2_with fail
      refine (HY.out _).mono ?_
      rintro e w' ⟨rfl, rfl⟩
      go_wp2_with fail
      refine (za1 _ _).mono ?_
      rintro e w' ⟨rfl, rfl⟩
      go_wp2_with fail
      refine (HI.out _).mono ?_
      rintro e w' ⟨rfl, rfl⟩
      go_wp2_with fail
      refine (HJ.out _).mono ?_
      rintro e w' ⟨rfl, rfl⟩
      go_wp2
      go_ret2
      exact ⟨by rw [HG.out]; rfl, Below.refl _ _⟩
    ·have HG : Hid (zag s i = none) := (by show zag s i = _; rw [HF.out, HE.out, if_neg (fun q => hx q.1)])
     clear HE HF
     go_enter Tryz.func89, Tryz.ntmps89
     go_wp2_with fail
     refine (HX.out _).mono ?_
     rintro e w' ⟨rfl, rfl⟩
     go_wp2_with fail
     refine (HY.out _).mono ?_
     rintro e w' ⟨rfl, rfl⟩
     go_wp2_with fail
     refine (za1 _ _).mono ?_
     rintro e w' ⟨rfl, rfl⟩
     go_wp2_with fail
     refine (HI.out _).mono ?_
     rintro e w' ⟨rfl, rfl⟩
     go_wp2
     go_ret2
     exact ⟨by rw [HG.out]; rfl, Below.refl _ _⟩
   ·have HG := (show Hid (zag s i = none) from (by
     show zag s i = _
     rw [HF.out]
     unfold zaZ
     rw [zat h, if_neg (by rintro ⟨_, q⟩; simp [zaH] at q)]))
    have hi3 : ¬ (i : Int) + 3 < (s.size : Int) := by omega
    clear HF
    go_enter Tryz.func89, Tryz.ntmps89
    go_wp2_with fail
    refine (HX.out _).mono ?_
    rintro e w' ⟨rfl, rfl⟩
    go_wp2_with fail
    refine (HY.out _).mono ?_
    rintro e w' ⟨rfl, rfl⟩
    go_wp2_with fail
    refine (za1 _ _).mono ?_
    rintro e w' ⟨rfl, rfl⟩
    go_wp2
    go_ret2
    exact ⟨by rw [HG.out]; rfl, Below.refl _ _⟩
  ·have e120 : (d == 120) = false := bF h120
   have HF : Hid (zag s i = none) := (by show zag s i = _; rw [HE.out, if_neg h110, if_neg h114, if_neg h116, if_neg h120, if_neg (by rw [hsg]; simp)])
   clear HE h110 h114 h116 h120
   go_enter Tryz.func89, Tryz.ntmps89
   go_wp2_with fail
   refine (HX.out _).mono ?_
   rintro e w' ⟨rfl, rfl⟩
   go_wp2_with fail
   refine (HY.out _).mono ?_
   rintro e w' ⟨rfl, rfl⟩
   go_wp2_with fail
   refine (za1 _ _).mono ?_
   rintro e w' ⟨rfl, rfl⟩
   go_wp2
   go_ret2
   exact ⟨by rw [HF.out]; rfl, Below.refl _ _⟩
 ·have h120 : ¬ d = 120 := fun h => by subst h; simp [zaC] at hsg
  have HF : Hid (zag s i = some (d.toNat, i + 2)) := (by show zag s i = _; rw [HE.out, if_neg h110, if_neg h114, if_neg h116, if_neg h120, if_pos hsg])
  clear HE h110 h114 h116 h120
  go_enter Tryz.func89, Tryz.ntmps89
  go_wp2_with fail
  refine (HX.out _).mono ?_
  rintro e w' ⟨rfl, rfl⟩
  go_wp2_with fail
  refine (HY.out _).mono ?_
  rintro e w' ⟨rfl, rfl⟩
  go_wp2_with fail
  refine (za1 _ _).mono ?_
  rintro e w' ⟨rfl, rfl⟩
  go_wp2
  go_ret2
  exact ⟨by rw [HF.out]; exact zfu (by omega) (by omega), Below.refl _ _⟩
theorem zkM (s : ByteArray) (i : Nat) (hi : i <= s.size) (hs : s.size <= 140737488355328) (w : World) :
  Calls Tryz.prog 89 #[.string s, .int .i64 i] w fun e w' => e = .returned (irV i (zag s i)) /\ Below w.heap.size w w' := by
 by_cases h : chr s i = 92
 ·exact zkL s i (zau (by rw [h]; omega)) hs h w
 ·exact zhk s i hi hs (bne_iff_ne.2 h) w
theorem zkN (s : ByteArray) (i : Int) (hs : s.size <= 140737488355328) (w : World) :
  Calls Tryz.prog 63 #[.string s, .int .i64 i] w fun e w' => e = .returned (rrV (zam s i)) /\ Below w.heap.size w w' := by
 have HI : zpe := fun s i hi hs w => zkM s i hi hs w
 by_cases h : i < 0 ∨ (s.size : Int) < i
 ·exact zkK s i h w
 ·obtain ⟨n, rfl⟩ : ∃ n : Nat, i = n := ⟨i.toNat, by omega⟩
  have hn : n <= s.size := by omega
  by_cases h1 : chr s n = 91
  ·have hlt : n < s.size := zau (by rw [h1]; omega)
   cases h2 : (chr s (n + 1) == 94)
   ·have e : zam s n = zeN (zac s (s.size + 1) 0#256 (n + 1)) := by
     unfold zam
     rw [if_neg h, Int.toNat_natCast, if_pos h1, if_neg (beq_eq_false_iff_ne.1 h2)]
    rw [e]
    exact zhj HI s n hlt hs h1 h2 w
   ·have hlt2 : n + 1 < s.size := zau (by rw [beq_iff_eq.1 h2]; omega)
    have e : zam s n = zcN (zac s (s.size + 1) 0#256 (n + 2)) := by
     unfold zam
     rw [if_neg h, Int.toNat_natCast, if_pos h1, if_pos (beq_iff_eq.1 h2)]
    rw [e]
    exact ziW HI s n hlt2 hs h1 h2 w
  ·exact ziV s n hn (bne_iff_ne.2 h1) w
theorem zhl {s : ByteArray} {i a : Nat} {c : Int} (h : zab s i = .inr (a, c)) : c ≠ 0 := by
 unfold zab at h
 split at h
 ·unfold zaR at h
  split at h
  ·cases h
  ·cases h; decide
 ·split at h
  ·cases h; decide
  ·split at h
   ·split at h
    ·cases h; decide
    ·split at h
     ·cases h; decide
     ·cases h
   ·cases h
theorem zd8 {s : ByteArray} : ∀ (f : Nat) (x : BitVec 256) (i a : Nat) (c : Int), zac s f x i = .inr (a, c) -> c ≠ 0 := by
 intro f
 induction f with
 | zero => intro x i a c h; rw [zac] at h; cases h; decide
 | succ f ih =>
  intro x i a c h
  rw [zac] at h
  split at h
  ·cases h
  ·split at h
   ·next a2 c2 hm => cases h; exact zhl hm
   ·exact ih _ _ _ _ h
theorem zeO {s : ByteArray} {i : Int} {a : Nat} {c : Int} (h : zam s i = .inr (a, c)) : c ≠ 0 := by
 unfold zam at h
 split at h
 ·cases h; decide
 ·split at h
  ·split at h
   ·cases hm : zac s (s.size + 1) 0#256 (i.toNat + 2) with
    | inl p => rw [hm] at h; cases h
    | inr q => obtain ⟨a2, c2⟩ := q; rw [hm] at h; cases h; exact zd8 _ _ _ _ _ hm
   ·cases hm : zac s (s.size + 1) 0#256 (i.toNat + 1) with
    | inl p => rw [hm] at h; cases h
    | inr q => obtain ⟨a2, c2⟩ := q; rw [hm] at h; cases h; exact zd8 _ _ _ _ _ hm
  ·cases h; decide
def clT (s : ByteArray) (b : Nat) : Rd (BitVec 256 × Nat) -> Sum Tk (Nat × Int)
 | .inl p => .inl ⟨3, 0, b, p.2, ⟨#[]⟩, wd p.1 0, wd p.1 1, wd p.1 2, wd p.1 3⟩
 | .inr q => if q.2 = 6 /\ q.1 = s.size then .inr (b, 52) else .inr q
def zbD (sg : Nat -> Sum Tk (Nat × Int)) (s : ByteArray) (b : Nat) : Sum Tk (Nat × Int) :=
 if hdB (chr s b) = true then (if 32 < spN nmB s b - b then .inr (b, 2) else .inl ⟨1, 0, b, spN nmB s b, s.extract b (spN nmB s b), 0, 0, 0, 0⟩)
 else if dgB (chr s b) = true then (match zbx s b 999999 with
  | .inr e => .inr (b, e)
  | .inl n => .inl ⟨4, n, b, spN dgB s b, ⟨#[]⟩, 0, 0, 0, 0⟩)
 else if chr s b = 39 ∨ chr s b = 34 then zbZ s b
 else if chr s b = 91 then clT s b (zam s b)
 else if chr s b = 37 then zdP s b
 else if chr s b = 94 then zeg s b
 else if chr s b = 123 /\ chr s (b + 1) = 58 then zfi s b
 else sg b
theorem one_of (sg : Nat -> Sum Tk (Nat × Int)) (s : ByteArray) (b : Nat) (hs : s.size <= 140737488355000) (hb : b < s.size)
  (HSg : ∀ w, Calls Tryz.prog 67 #[.string s, .int .i64 b] w fun e w' => e = .returned (zcG (sg b)) /\ Below w.heap.size w w') (w : World) :
  Calls Tryz.prog 36 #[.string s, .int .i64 b] w fun e w' => e = .returned (zcG (zbD sg s b)) /\ Below w.heap.size w w' := by
 have HWr : Hid (∀ i e w, Calls Tryz.prog 58 #[.int .i64 i, .int .i64 e] w fun e' w' => e' = .returned (.tuple #[tkG tk0, .int .i64 i, .int .i64 e]) /\ Below w.heap.size w w') := fun i e w => zbO i e w
 have HA : Hid (∀ w, Calls Tryz.prog 55 #[.string s, .int .i64 (b : Int)] w fun e w' => e = .returned (.int .i64 (chr s b)) /\ w' = w) := fun w => za0 s b w
 have HA1 : Hid (∀ w, Calls Tryz.prog 55 #[.string s, .int .i64 ((b : Int) + 1)] w fun e w' => e = .returned (.int .i64 (chr s (b + 1))) /\ w' = w) := fun w => za0 s (b + 1) w
 have HH : Hid (∀ w, Calls Tryz.prog 56 #[.int .i64 (chr s b)] w fun e w' => e = .returned (.bool (hdB (chr s b))) /\ w' = w) := fun w => zem _ w
 have HD : Hid (∀ w, Calls Tryz.prog 59 #[.int .i64 (chr s b)] w fun e w' => e = .returned (.bool (dgB (chr s b))) /\ w' = w) := fun w => zez _ w
 have HX : Hid (TX (w.alloc (tkO tk0)) w.heap.size tk0) := TX.new w tk0
 have HB : Hid (Below w.heap.size w (w.alloc (tkO tk0))) := zaa w _
 have HS : Hid (∀ w, Calls Tryz.prog 67 #[.string s, .int .i64 b] w fun e w' => e = .returned (zcG (sg b)) /\ Below w.heap.size w w') := HSg
 clear HSg
 cases hh : hdB (chr s b) with
 | true =>
  have HR : Hid (∀ w, Calls Tryz.prog 57 #[.string s, .int .i64 (b : Int)] w fun e w' => e = .returned (.int .i64 (spN nmB s b)) /\ w' = w) := fun w => zgX s b (by omega) (by omega) w
  have hge := za4 nmB s (by decide) b
  have hle := zbC nmB s (by decide) b (by omega)
  have HU : Hid (zbD sg s b = if 32 < spN nmB s b - b then .inr (b, 2) else .inl ⟨1, 0, b, spN nmB s b, s.extract b (spN nmB s b), 0, 0, 0, 0⟩) := by show zbD sg s b = _; unfold zbD; rw [if_pos hh]
  generalize spN nmB s b = n at *
  obtain ⟨m, hm⟩ : ∃ m, m = n - b := ⟨_, rfl⟩
  have u1 : IntKind.i64.wrap ((n : Int) - (b : Int)) = (m : Int) := by rw [IntKind.wrap_i64]; omega
  have z0 : (0 : Int) <= (b : Int) := by omega
  have z1 : (b : Int) <= (n : Int) := by omega
  have z2 : (n : Int) <= (s.size : Int) := by omega
  rw [<- hm] at HU
  clear hm
  by_cases h32 : 32 < m
  ·have HE : Hid (zbD sg s b = .inr (b, 2)) := by show zbD sg s b = _; rw [HU.out, if_pos h32]
   have t2 : decide (32 < m) = true := decide_eq_true h32
   clear HU HS HD HA1
   go_enter Tryz.func36, Tryz.ntmps36
   go_wp2_with fail
   refine (HA.out _).mono ?_
   rintro e w2 ⟨rfl, rfl⟩
   go_wp2_with fail
   refine (HH.out _).mono ?_
   rintro e w2 ⟨rfl, rfl⟩
   rw [hh]
   clear hh
   go_wp2_with fail
   refine (HR.out _).mono ?_
   rintro e w2 ⟨rfl, rfl⟩
   clear HR HH HA
   go_wp2_with fail
   refine (HWr.out _ _ _).mono ?_
   rintro e w3 ⟨rfl, b3⟩
   have HX3 : Hid (TX w3 w.heap.size tk0) := HX.out.below b3
   have HB3 : Hid (Below w.heap.size w w3) := HB.out.trans (b3.mono HB.out.size)
   clear b3
   obtain ⟨c0, c1, c2, c3, c4, c5, c6, c7, c8⟩ := HX3.out.cells
   obtain ⟨f0, f1', f2', f3, f4, f5, f6, f7, f8⟩ := HX3.out.fz
   go_wp2_with fail
   exact zah rfl rfl rfl rfl rfl (zar HX3.out tk0) ⟨by rw [HE.out]; rfl, zad HB3.out (Nat.le_refl _) tk0⟩
  ·have HE : Hid (zbD sg s b = .inl ⟨1, 0, b, n, s.extract b n, 0, 0, 0, 0⟩) := by show zbD sg s b = _; rw [HU.out, if_neg h32]
   have t2 : decide (32 < m) = false := decide_eq_false h32
   clear HU HS HD HA1 HWr
   go_enter Tryz.func36, Tryz.ntmps36
   go_wp2_with fail
   refine (HA.out _).mono ?_
   rintro e w2 ⟨rfl, rfl⟩
   go_wp2_with fail
   refine (HH.out _).mono ?_
   rintro e w2 ⟨rfl, rfl⟩
   rw [hh]
   clear hh
   go_wp2_with fail
   refine (HR.out _).mono ?_
   rintro e w2 ⟨rfl, rfl⟩
   clear HR HH HA
   go_wp2_with fail
   exact zah (t := ⟨1, 0, b, n, s.extract b n, 0, 0, 0, 0⟩) rfl rfl rfl rfl rfl (TX.new w ⟨1, 0, b, n, s.extract b n, 0, 0, 0, 0⟩) ⟨by rw [HE.out]; rfl, zaa w _⟩
 | false =>
  have nh : ¬ hdB (chr s b) = true := by rw [hh]; simp
  cases hd : dgB (chr s b) with
  | true =>
   have HU : Hid (zbD sg s b = match zbx s b 999999 with
    | .inr e => .inr (b, e)
    | .inl n => .inl ⟨4, n, b, spN dgB s b, ⟨#[]⟩, 0, 0, 0, 0⟩) := by show zbD sg s b = _; unfold zbD; rw [if_neg nh, if_pos hd]
   cases hq : zbx s b 999999 with
   | inr e0 =>
    have HE : Hid (zbD sg s b = .inr (b, e0)) := by show zbD sg s b = _; rw [HU.out, hq]
    have hne : e0 ≠ 0 := zfJ hq
    have t9 : (e0 != 0) = true := by rw [bne, bF hne]; rfl
    have HNu := (show Hid (∀ w, Calls Tryz.prog 60 #[.string s, .int .i64 b, .int .i64 b, .int .i64 999999] w fun e w' => e = .returned (.tuple #[.int .i64 0, .int .i64 e0]) /\ w' = w) from fun w => by
     have h := zbu s b b 999999 (by omega) (by omega) w
     rw [hq] at h
     exact h)
    clear hq hne HU HS HA1 nh
    go_enter Tryz.func36, Tryz.ntmps36
    go_wp2_with fail
    refine (HA.out _).mono ?_
    rintro e w2 ⟨rfl, rfl⟩
    go_wp2_with fail
    refine (HH.out _).mono ?_
    rintro e w2 ⟨rfl, rfl⟩
    rw [hh]
    go_wp2_with fail
    refine (HD.out _).mono ?_
    rintro e w2 ⟨rfl, rfl⟩
    rw [hd]
    clear hh hd
    go_wp2_with fail
    refine (HNu.out _).mono ?_
    rintro e w2 ⟨rfl, rfl⟩
    clear HNu HH HA HD
    go_wp2_with fail
    refine (HWr.out _ _ _).mono ?_
    rintro e w3 ⟨rfl, b3⟩
    have HX3 : Hid (TX w3 w.heap.size tk0) := HX.out.below b3
    have HB3 : Hid (Below w.heap.size w w3) := HB.out.trans (b3.mono HB.out.size)
    clear b3
    obtain ⟨c0, c1, c2, c3, c4, c5, c6, c7, c8⟩ := HX3.out.cells
    obtain ⟨f0, f1', f2', f3, f4, f5, f6, f7, f8⟩ := HX3.out.fz
    go_wp2_with fail
    exact zah rfl rfl rfl rfl rfl (zar HX3.out tk0) ⟨by rw [HE.out]; rfl, zad HB3.out (Nat.le_refl _) tk0⟩
   | inl n0 =>
    have HE : Hid (zbD sg s b = .inl ⟨4, n0, b, spN dgB s b, ⟨#[]⟩, 0, 0, 0, 0⟩) := by show zbD sg s b = _; rw [HU.out, hq]
    have HNu := (show Hid (∀ w, Calls Tryz.prog 60 #[.string s, .int .i64 b, .int .i64 b, .int .i64 999999] w fun e w' => e = .returned (.tuple #[.int .i64 n0, .int .i64 0]) /\ w' = w) from fun w => by
     have h := zbu s b b 999999 (by omega) (by omega) w
     rw [hq] at h
     exact h)
    have HDg : Hid (∀ w, Calls Tryz.prog 61 #[.string s, .int .i64 (b : Int)] w fun e w' => e = .returned (.int .i64 (spN dgB s b)) /\ w' = w) := fun w => zcr s b (by omega) (by omega) w
    clear hq HU HS HA1 nh HWr
    go_enter Tryz.func36, Tryz.ntmps36
    go_wp2_with fail
    refine (HA.out _).mono ?_
    rintro e w2 ⟨rfl, rfl⟩
    go_wp2_with fail
    refine (HH.out _).mono ?_
    rintro e w2 ⟨rfl, rfl⟩
    rw [hh]
    go_wp2_with fail
    refine (HD.out _).mono ?_
    rintro e w2 ⟨rfl, rfl⟩
    rw [hd]
    clear hh hd
    go_wp2_with fail
    refine (HNu.out _).mono ?_
    rintro e w2 ⟨rfl, rfl⟩
    clear HNu HH HA HD
    go_wp2_with fail
    refine (HDg.out _).mono ?_
    rintro e w2 ⟨rfl, rfl⟩
    clear HDg
    go_wp2_with fail
    exact zah (t := ⟨4, n0, b, spN dgB s b, ⟨#[]⟩, 0, 0, 0, 0⟩) rfl rfl rfl rfl rfl (TX.new w ⟨4, n0, b, spN dgB s b, ⟨#[]⟩, 0, 0, 0, 0⟩) ⟨by rw [HE.out]; rfl, zaa w _⟩
  | false =>
   have nd : ¬ dgB (chr s b) = true := by rw [hd]; simp
   by_cases hq : chr s b = 39 ∨ chr s b = 34
   ·by_cases h39 : chr s b = 39
    ·have t1 : (chr s b == 39) = true := by rw [h39]; rfl
     have HU : Hid (zbD sg s b = zbZ s b) := by show zbD sg s b = _; unfold zbD; rw [if_neg nh, if_neg nd, if_pos hq]
     have HP : Hid (∀ w, Calls Tryz.prog 62 #[.string s, .int .i64 b] w fun e w' => e = .returned (zcG (zbZ s b)) /\ Below w.heap.size w w') := fun w => zeA s b hs hb w
     clear hq h39 nh nd
     cases hp : zbZ s b with
     | inl t =>
      rw [hp] at HU HP
      go_enter Tryz.func36, Tryz.ntmps36
      go_wp2_with fail
      refine (HA.out _).mono ?_
      rintro e w2 ⟨rfl, rfl⟩
      go_wp2_with fail
      refine (HH.out _).mono ?_
      rintro e w2 ⟨rfl, rfl⟩
      rw [hh]
      go_wp2_with fail
      refine (HD.out _).mono ?_
      rintro e w2 ⟨rfl, rfl⟩
      rw [hd]
      clear hh hd
      go_wp2_with fail
      refine (HP.out _).mono ?_
      rintro e w3 ⟨rfl, b3⟩
      have HX3 : Hid (TX w3 w.heap.size tk0) := HX.out.below b3
      have HB3 : Hid (Below w.heap.size w w3) := HB.out.trans (b3.mono HB.out.size)
      clear b3
      obtain ⟨c0, c1, c2, c3, c4, c5, c6, c7, c8⟩ := HX3.out.cells
      obtain ⟨f0, f1', f2', f3, f4, f5, f6, f7, f8⟩ := HX3.out.fz
      unfold zcG
      go_wp2_with fail
      exact zah rfl rfl rfl rfl rfl (zar HX3.out t) ⟨by rw [HU.out]; rfl, zad HB3.out (Nat.le_refl _) t⟩
     | inr q =>
      rw [hp] at HU HP
      go_enter Tryz.func36, Tryz.ntmps36
      go_wp2_with fail
      refine (HA.out _).mono ?_
      rintro e w2 ⟨rfl, rfl⟩
      go_wp2_with fail
      refine (HH.out _).mono ?_
      rintro e w2 ⟨rfl, rfl⟩
      rw [hh]
      go_wp2_with fail
      refine (HD.out _).mono ?_
      rintro e w2 ⟨rfl, rfl⟩
      rw [hd]
      clear hh hd
      go_wp2_with fail
      refine (HP.out _).mono ?_
      rintro e w3 ⟨rfl, b3⟩
      have HX3 : Hid (TX w3 w.heap.size tk0) := HX.out.below b3
      have HB3 : Hid (Below w.heap.size w w3) := HB.out.trans (b3.mono HB.out.size)
      clear b3
      obtain ⟨c0, c1, c2, c3, c4, c5, c6, c7, c8⟩ := HX3.out.cells
      obtain ⟨f0, f1', f2', f3, f4, f5, f6, f7, f8⟩ := HX3.out.fz
      unfold zcG
      go_wp2_with fail
      exact zah rfl rfl rfl rfl rfl (zar HX3.out tk0) ⟨by rw [HU.out]; rfl, zad HB3.out (Nat.le_refl _) tk0⟩
    ·have t1 : (chr s b == 39) = false := bF h39
     have t2 : (chr s b == 34) = true := beq_iff_eq.2 (hq.resolve_left h39)
     have HU : Hid (zbD sg s b = zbZ s b) := by show zbD sg s b = _; unfold zbD; rw [if_neg nh, if_neg nd, if_pos hq]
     have HP : Hid (∀ w, Calls Tryz.prog 62 #[.string s, .int .i64 b] w fun e w' => e = .returned (zcG (zbZ s b)) /\ Below w.heap.size w w') := fun w => zeA s b hs hb w
     clear hq h39 nh nd
     cases hp : zbZ s b with
     | inl t =>
      rw [hp] at HU HP
      go_enter Tryz.func36, Tryz.ntmps36
      go_wp2_with fail
      refine (HA.out _).mono ?_
      rintro e w2 ⟨rfl, rfl⟩
      go_wp2_with fail
      refine (HH.out _).mono ?_
      rintro e w2 ⟨rfl, rfl⟩
      rw [hh]
      go_wp2_with fail
      refine (HD.out _).mono ?_
      rintro e w2 ⟨rfl, rfl⟩
      rw [hd]
      clear hh hd
      go_wp2_with fail
      refine (HP.out _).mono ?_
      rintro e w3 ⟨rfl, b3⟩
      have HX3 : Hid (TX w3 w.heap.size tk0) := HX.out.below b3
      have HB3 : Hid (Below w.heap.size w w3) := HB.out.trans (b3.mono HB.out.size)
      clear b3
      obtain ⟨c0, c1, c2, c3, c4, c5, c6, c7, c8⟩ := HX3.out.cells
      obtain ⟨f0, f1', f2', f3, f4, f5, f6, f7, f8⟩ := HX3.out.fz
      unfold zcG
      go_wp2_with fail
      exact zah rfl rfl rfl rfl rfl (zar HX3.out t) ⟨by rw [HU.out]; rfl, zad HB3.out (Nat.le_refl _) t⟩
     | inr q =>
      rw [hp] at HU HP
      go_enter Tryz.func36, Tryz.ntmps36
      go_wp2_with fail
      refine (HA.out _).mono ?_
      rintro e w2 ⟨rfl, rfl⟩
      go_wp2_with fail
      refine (HH.out _).mono ?_
      rintro e w2 ⟨rfl, rfl⟩
      rw [hh]
      go_wp2_with fail
      refine (HD.out _).mono ?_
      rintro e w2 ⟨rfl, rfl⟩
      rw [hd]
      clear hh hd
      go_wp2_with fail
      refine (HP.out _).mono ?_
      rintro e w3 ⟨rfl, b3⟩
      have HX3 : Hid (TX w3 w.heap.size tk0) := HX.out.below b3
      have HB3 : Hid (Below w.heap.size w w3) := HB.out.trans (b3.mono HB.out.size)
      clear b3
      obtain ⟨c0, c1, c2, c3, c4, c5, c6, c7, c8⟩ := HX3.out.cells
      obtain ⟨f0, f1', f2', f3, f4, f5, f6, f7, f8⟩ := HX3.out.fz
      unfold zcG
      go_wp2_with fail
      exact zah rfl rfl rfl rfl rfl (zar HX3.out tk0) ⟨by rw [HU.out]; rfl, zad HB3.out (Nat.le_refl _) tk0⟩
   have t1 : (chr s b == 39) = false := bF (by omega)
   have t2 : (chr s b == 34) = false := bF (by omega)
   by_cases h91 : chr s b = 91
   ·have t3 : (chr s b == 91) = true := by rw [h91]; rfl
    have HU : Hid (zbD sg s b = clT s b (zam s b)) := by show zbD sg s b = _; unfold zbD; rw [if_neg nh, if_neg nd, if_neg hq, if_pos h91]
    have HP : Hid (∀ w, Calls Tryz.prog 63 #[.string s, .int .i64 b] w fun e w' => e = .returned (rrV (zam s b)) /\ Below w.heap.size w w') := fun w => zkN s b (by omega) w
    clear hq h91 nh nd HS
    cases hp : zam s b with
    | inl p =>
     obtain ⟨x, en⟩ := p
     rw [hp] at HU HP
     have HE : Hid (zbD sg s b = .inl ⟨3, 0, b, en, ⟨#[]⟩, wd x 0, wd x 1, wd x 2, wd x 3⟩) := HU.out
     clear hp HU HWr
     go_enter Tryz.func36, Tryz.ntmps36
     go_wp2_with fail
     refine (HA.out _).mono ?_
     rintro e w2 ⟨rfl, rfl⟩
     go_wp2_with fail
     refine (HH.out _).mono ?_
     rintro e w2 ⟨rfl, rfl⟩
     rw [hh]
     go_wp2_with fail
     refine (HD.out _).mono ?_
     rintro e w2 ⟨rfl, rfl⟩
     rw [hd]
     clear hh hd HH HD HA HA1
     go_wp2_with fail
     refine (HP.out _).mono ?_
     rintro e w3 ⟨rfl, b3⟩
     have HX3 : Hid (TX w3 w.heap.size tk0) := HX.out.below b3
     have HB3 : Hid (Below w.heap.size w w3) := HB.out.trans (b3.mono HB.out.size)
     clear b3
     unfold rrV
     have hlt3 := HX3.out.lt
     have hle3 : w.heap.size ≠ w3.heap.size := by omega
     obtain ⟨c0, c1, c2, c3, c4, c5, c6, c7, c8⟩ := HX3.out.cells
     obtain ⟨f0, f1', f2', f3, f4, f5, f6, f7, f8⟩ := HX3.out.fz
     go_wp2_with fail
     exact zah (t := ⟨3, 0, b, en, ⟨#[]⟩, wd x 0, wd x 1, wd x 2, wd x 3⟩) (p := 0) (e := 0) rfl rfl rfl rfl rfl ((zar HX3.out ⟨3, 0, b, en, ⟨#[]⟩, wd x 0, wd x 1, wd x 2, wd x 3⟩).below (zaa _ _)) ⟨by rw [HE.out]; rfl, (zad HB3.out (Nat.le_refl _) ⟨3, 0, b, en, ⟨#[]⟩, wd x 0, wd x 1, wd x 2, wd x 3⟩).alloc (zad HB3.out (Nat.le_refl _) ⟨3, 0, b, en, ⟨#[]⟩, wd x 0, wd x 1, wd x 2, wd x 3⟩).size _⟩
    | inr q =>
     obtain ⟨pl, ec⟩ := q
     rw [hp] at HU HP
     have hec : ec ≠ 0 := zeO hp
     by_cases hq6 : ec = 6 /\ pl = s.size
     ·have HE : Hid (zbD sg s b = .inr (b, 52)) := by show zbD sg s b = _; rw [HU.out]; show (if ec = 6 /\ pl = s.size then _ else _) = _; rw [if_pos hq6]
      have v1 : (ec == 6) = true := by rw [hq6.1]; rfl
      have v2 : ((pl : Int) == (s.size : Int)) = true := by rw [hq6.2]; simp
      clear hp HU hq6
      go_enter Tryz.func36, Tryz.ntmps36
      go_wp2_with fail
      refine (HA.out _).mono ?_
      rintro e w2 ⟨rfl, rfl⟩
      go_wp2_with fail
      refine (HH.out _).mono ?_
      rintro e w2 ⟨rfl, rfl⟩
      rw [hh]
      go_wp2_with fail
      refine (HD.out _).mono ?_
      rintro e w2 ⟨rfl, rfl⟩
      rw [hd]
      clear hh hd HH HD HA HA1
      go_wp2_with fail
      refine (HP.out _).mono ?_
      rintro e w3 ⟨rfl, b3⟩
      have HX3 : Hid (TX w3 w.heap.size tk0) := HX.out.below b3
      have HB3 : Hid (Below w.heap.size w w3) := HB.out.trans (b3.mono HB.out.size)
      clear b3
      unfold rrV
      go_wp2_with fail
      refine (HWr.out _ _ _).mono ?_
      rintro e w4 ⟨rfl, b4⟩
      have HX4 : Hid (TX w4 w.heap.size tk0) := HX3.out.below ((zaa _ _).trans (b4.mono (zaa _ _).size))
      have HB4 : Hid (Below w.heap.size w w4) := HB3.out.trans (((zaa _ _).trans (b4.mono (zaa _ _).size)).mono HB3.out.size)
      clear b4
      obtain ⟨c0, c1, c2, c3, c4, c5, c6, c7, c8⟩ := HX4.out.cells
      obtain ⟨f0, f1', f2', f3, f4, f5, f6, f7, f8⟩ := HX4.out.fz
      go_wp2_with fail
      exact zah rfl rfl rfl rfl rfl (zar HX4.out tk0) ⟨by rw [HE.out]; rfl, zad HB4.out (Nat.le_refl _) tk0⟩
     ·have HE : Hid (zbD sg s b = .inr (pl, ec)) := by show zbD sg s b = _; rw [HU.out]; show (if ec = 6 /\ pl = s.size then _ else _) = _; rw [if_neg hq6]
      have v3 : (ec != 0) = true := by rw [bne, bF hec]; rfl
      by_cases h6 : ec = 6
      ·have v1 : (ec == 6) = true := by rw [h6]; rfl
       have v2 : ((pl : Int) == (s.size : Int)) = false := by rw [beq_eq_false_iff_ne]; intro q; exact hq6 ⟨h6, by omega⟩
       clear hp HU hq6 h6 hec
       go_enter Tryz.func36, Tryz.ntmps36
       go_wp2_with fail
       refine (HA.out _).mono ?_
       rintro e w2 ⟨rfl, rfl⟩
       go_wp2_with fail
       refine (HH.out _).mono ?_
       rintro e w2 ⟨rfl, rfl⟩
       rw [hh]
       go_wp2_with fail
       refine (HD.out _).mono ?_
       rintro e w2 ⟨rfl, rfl⟩
       rw [hd]
       clear hh hd HH HD HA HA1
       go_wp2_with fail
       refine (HP.out _).mono ?_
       rintro e w3 ⟨rfl, b3⟩
       have HX3 : Hid (TX w3 w.heap.size tk0) := HX.out.below b3
       have HB3 : Hid (Below w.heap.size w w3) := HB.out.trans (b3.mono HB.out.size)
       clear b3
       unfold rrV
       go_wp2_with fail
       refine (HWr.out _ _ _).mono ?_
       rintro e w4 ⟨rfl, b4⟩
       have HX4 : Hid (TX w4 w.heap.size tk0) := HX3.out.below ((zaa _ _).trans (b4.mono (zaa _ _).size))
       have HB4 : Hid (Below w.heap.size w w4) := HB3.out.trans (((zaa _ _).trans (b4.mono (zaa _ _).size)).mono HB3.out.size)
       clear b4
       obtain ⟨c0, c1, c2, c3, c4, c5, c6, c7, c8⟩ := HX4.out.cells
       obtain ⟨f0, f1', f2', f3, f4, f5, f6, f7, f8⟩ := HX4.out.fz
       go_wp2_with fail
       exact zah rfl rfl rfl rfl rfl (zar HX4.out tk0) ⟨by rw [HE.out]; rfl, zad HB4.out (Nat.le_refl _) tk0⟩
      ·have v1 : (ec == 6) = false := bF h6
       clear hp HU hq6 h6 hec
       go_enter Tryz.func36, Tryz.ntmps36
       go_wp2_with fail
       refine (HA.out _).mono ?_
       rintro e w2 ⟨rfl, rfl⟩
       go_wp2_with fail
       refine (HH.out _).mono ?_
       rintro e w2 ⟨rfl, rfl⟩
       rw [hh]
       go_wp2_with fail
       refine (HD.out _).mono ?_
       rintro e w2 ⟨rfl, rfl⟩
       rw [hd]
       clear hh hd HH HD HA HA1
       go_wp2_with fail
       refine (HP.out _).mono ?_
       rintro e w3 ⟨rfl, b3⟩
       have HX3 : Hid (TX w3 w.heap.size tk0) := HX.out.below b3
       have HB3 : Hid (Below w.heap.size w w3) := HB.out.trans (b3.mono HB.out.size)
       clear b3
       unfold rrV
       go_wp2_with fail
       refine (HWr.out _ _ _).mono ?_
       rintro e w4 ⟨rfl, b4⟩
       have HX4 : Hid (TX w4 w.heap.size tk0) := HX3.out.below ((zaa _ _).trans (b4.mono (zaa _ _).size))
       have HB4 : Hid (Below w.heap.size w w4) := HB3.out.trans (((zaa _ _).trans (b4.mono (zaa _ _).size)).mono HB3.out.size)
       clear b4
       obtain ⟨c0, c1, c2, c3, c4, c5, c6, c7, c8⟩ := HX4.out.cells
       obtain ⟨f0, f1', f2', f3, f4, f5, f6, f7, f8⟩ := HX4.out.fz
       go_wp2_with fail
       exact zah rfl rfl rfl rfl rfl (zar HX4.out tk0) ⟨by rw [HE.out]; rfl, zad HB4.out (Nat.le_refl _) tk0⟩
   have t3 : (chr s b == 91) = false := bF h91
   by_cases h37 : chr s b = 37
   ·have t4 : (chr s b == 37) = true := by rw [h37]; rfl
    have HU : Hid (zbD sg s b = zdP s b) := by show zbD sg s b = _; unfold zbD; rw [if_neg nh, if_neg nd, if_neg hq, if_neg h91, if_pos h37]
    have HP : Hid (∀ w, Calls Tryz.prog 64 #[.string s, .int .i64 b] w fun e w' => e = .returned (zcG (zdP s b)) /\ Below w.heap.size w w') := fun w => zhf s b hs hb w
    clear hq h91 h37 nh nd
    cases hp : zdP s b with
    | inl t =>
     rw [hp] at HU HP
     go_enter Tryz.func36, Tryz.ntmps36
     go_wp2_with fail
     refine (HA.out _).mono ?_
     rintro e w2 ⟨rfl, rfl⟩
     go_wp2_with fail
     refine (HH.out _).mono ?_
     rintro e w2 ⟨rfl, rfl⟩
     rw [hh]
     go_wp2_with fail
     refine (HD.out _).mono ?_
     rintro e w2 ⟨rfl, rfl⟩
     rw [hd]
     clear hh hd
     go_wp2_with fail
     refine (HP.out _).mono ?_
     rintro e w3 ⟨rfl, b3⟩
     have HX3 : Hid (TX w3 w.heap.size tk0) := HX.out.below b3
     have HB3 : Hid (Below w.heap.size w w3) := HB.out.trans (b3.mono HB.out.size)
     clear b3
     obtain ⟨c0, c1, c2, c3, c4, c5, c6, c7, c8⟩ := HX3.out.cells
     obtain ⟨f0, f1', f2', f3, f4, f5, f6, f7, f8⟩ := HX3.out.fz
     unfold zcG
     go_wp2_with fail
     exact zah rfl rfl rfl rfl rfl (zar HX3.out t) ⟨by rw [HU.out]; rfl, zad HB3.out (Nat.le_refl _) t⟩
    | inr q =>
     rw [hp] at HU HP
     go_enter Tryz.func36, Tryz.ntmps36
     go_wp2_with fail
     refine (HA.out _).mono ?_
     rintro e w2 ⟨rfl, rfl⟩
     go_wp2_with fail
     refine (HH.out _).mono ?_
     rintro e w2 ⟨rfl, rfl⟩
     rw [hh]
     go_wp2_with fail
     refine (HD.out _).mono ?_
     rintro e w2 ⟨rfl, rfl⟩
     rw [hd]
     clear hh hd
     go_wp2_with fail
     refine (HP.out _).mono ?_
     rintro e w3 ⟨rfl, b3⟩
     have HX3 : Hid (TX w3 w.heap.size tk0) := HX.out.below b3
     have HB3 : Hid (Below w.heap.size w w3) := HB.out.trans (b3.mono HB.out.size)
     clear b3
     obtain ⟨c0, c1, c2, c3, c4, c5, c6, c7, c8⟩ := HX3.out.cells
     obtain ⟨f0, f1', f2', f3, f4, f5, f6, f7, f8⟩ := HX3.out.fz
     unfold zcG
     go_wp2_with fail
     exact zah rfl rfl rfl rfl rfl (zar HX3.out tk0) ⟨by rw [HU.out]; rfl, zad HB3.out (Nat.le_refl _) tk0⟩
   have t4 : (chr s b == 37) = false := bF h37
   by_cases h94 : chr s b = 94
   ·have t5 : (chr s b == 94) = true := by rw [h94]; rfl
    have HU : Hid (zbD sg s b = zeg s b) := by show zbD sg s b = _; unfold zbD; rw [if_neg nh, if_neg nd, if_neg hq, if_neg h91, if_neg h37, if_pos h94]
    have HP : Hid (∀ w, Calls Tryz.prog 65 #[.string s, .int .i64 b] w fun e w' => e = .returned (zcG (zeg s b)) /\ Below w.heap.size w w') := fun w => zkF s b (by omega) hb w
    clear hq h91 h37 h94 nh nd
    cases hp : zeg s b with
    | inl t =>
     rw [hp] at HU HP
     go_enter Tryz.func36, Tryz.ntmps36
     go_wp2_with fail
     refine (HA.out _).mono ?_
     rintro e w2 ⟨rfl, rfl⟩
     go_wp2_with fail
     refine (HH.out _).mono ?_
     rintro e w2 ⟨rfl, rfl⟩
     rw [hh]
     go_wp2_with fail
     refine (HD.out _).mono ?_
     rintro e w2 ⟨rfl, rfl⟩
     rw [hd]
     clear hh hd
     go_wp2_with fail
     refine (HP.out _).mono ?_
     rintro e w3 ⟨rfl, b3⟩
     have HX3 : Hid (TX w3 w.heap.size tk0) := HX.out.below b3
     have HB3 : Hid (Below w.heap.size w w3) := HB.out.trans (b3.mono HB.out.size)
     clear b3
     obtain ⟨c0, c1, c2, c3, c4, c5, c6, c7, c8⟩ := HX3.out.cells
     obtain ⟨f0, f1', f2', f3, f4, f5, f6, f7, f8⟩ := HX3.out.fz
     unfold zcG
     go_wp2_with fail
     exact zah rfl rfl rfl rfl rfl (zar HX3.out t) ⟨by rw [HU.out]; rfl, zad HB3.out (Nat.le_refl _) t⟩
    | inr q =>
     rw [hp] at HU HP
     go_enter Tryz.func36, Tryz.ntmps36
     go_wp2_with fail
     refine (HA.out _).mono ?_
     rintro e w2 ⟨rfl, rfl⟩
     go_wp2_with fail
     refine (HH.out _).mono ?_
     rintro e w2 ⟨rfl, rfl⟩
     rw [hh]
     go_wp2_with fail
     refine (HD.out _).mono ?_
     rintro e w2 ⟨rfl, rfl⟩
     rw [hd]
     clear hh hd
     go_wp2_with fail
     refine (HP.out _).mono ?_
     rintro e w3 ⟨rfl, b3⟩
     have HX3 : Hid (TX w3 w.heap.size tk0) := HX.out.below b3
     have HB3 : Hid (Below w.heap.size w w3) := HB.out.trans (b3.mono HB.out.size)
     clear b3
     obtain ⟨c0, c1, c2, c3, c4, c5, c6, c7, c8⟩ := HX3.out.cells
     obtain ⟨f0, f1', f2', f3, f4, f5, f6, f7, f8⟩ := HX3.out.fz
     unfold zcG
     go_wp2_with fail
     exact zah rfl rfl rfl rfl rfl (zar HX3.out tk0) ⟨by rw [HU.out]; rfl, zad HB3.out (Nat.le_refl _) tk0⟩
   have t5 : (chr s b == 94) = false := bF h94
   by_cases hg : chr s b = 123 /\ chr s (b + 1) = 58
   ·have t6 : (chr s b == 123) = true := by rw [hg.1]; rfl
    have t7 : (chr s (b + 1) == 58) = true := by rw [hg.2]; rfl
    have hb1 : b + 1 < s.size := zau (by omega)
    have HU : Hid (zbD sg s b = zfi s b) := by show zbD sg s b = _; unfold zbD; rw [if_neg nh, if_neg nd, if_neg hq, if_neg h91, if_neg h37, if_neg h94, if_pos hg]
    have HP : Hid (∀ w, Calls Tryz.prog 66 #[.string s, .int .i64 b] w fun e w' => e = .returned (zcG (zfi s b)) /\ Below w.heap.size w w') := fun w => zkG s b hs hb1 w
    clear hq h91 h37 h94 hg nh nd
    cases hp : zfi s b with
    | inl t =>
     rw [hp] at HU HP
     go_enter Tryz.func36, Tryz.ntmps36
     go_wp2_with fail
     refine (HA.out _).mono ?_
     rintro e w2 ⟨rfl, rfl⟩
     go_wp2_with fail
     refine (HH.out _).mono ?_
     rintro e w2 ⟨rfl, rfl⟩
     rw [hh]
     go_wp2_with fail
     refine (HD.out _).mono ?_
     rintro e w2 ⟨rfl, rfl⟩
     rw [hd]
     clear hh hd
     go_wp2_with fail
     refine (HA1.out _).mono ?_
     rintro e w2 ⟨rfl, rfl⟩
     go_wp2_with fail
     refine (HP.out _).mono ?_
     rintro e w3 ⟨rfl, b3⟩
     have HX3 : Hid (TX w3 w.heap.size tk0) := HX.out.below b3
     have HB3 : Hid (Below w.heap.size w w3) := HB.out.trans (b3.mono HB.out.size)
     clear b3
     obtain ⟨c0, c1, c2, c3, c4, c5, c6, c7, c8⟩ := HX3.out.cells
     obtain ⟨f0, f1', f2', f3, f4, f5, f6, f7, f8⟩ := HX3.out.fz
     unfold zcG
     go_wp2_with fail
     exact zah rfl rfl rfl rfl rfl (zar HX3.out t) ⟨by rw [HU.out]; rfl, zad HB3.out (Nat.le_refl _) t⟩
    | inr q =>
     rw [hp] at HU HP
     go_enter Tryz.func36, Tryz.ntmps36
     go_wp2_with fail
     refine (HA.out _).mono ?_
     rintro e w2 ⟨rfl, rfl⟩
     go_wp2_with fail
     refine (HH.out _).mono ?_
     rintro e w2 ⟨rfl, rfl⟩
     rw [hh]
     go_wp2_with fail
     refine (HD.out _).mono ?_
     rintro e w2 ⟨rfl, rfl⟩
     rw [hd]
     clear hh hd
     go_wp2_with fail
     refine (HA1.out _).mono ?_
     rintro e w2 ⟨rfl, rfl⟩
     go_wp2_with fail
     refine (HP.out _).mono ?_
     rintro e w3 ⟨rfl, b3⟩
     have HX3 : Hid (TX w3 w.heap.size tk0) := HX.out.below b3
     have HB3 : Hid (Below w.heap.size w w3) := HB.out.trans (b3.mono HB.out.size)
     clear b3
     obtain ⟨c0, c1, c2, c3, c4, c5, c6, c7, c8⟩ := HX3.out.cells
     obtain ⟨f0, f1', f2', f3, f4, f5, f6, f7, f8⟩ := HX3.out.fz
     unfold zcG
     go_wp2_with fail
     exact zah rfl rfl rfl rfl rfl (zar HX3.out tk0) ⟨by rw [HU.out]; rfl, zad HB3.out (Nat.le_refl _) tk0⟩
   by_cases h123 : chr s b = 123
   ·have t6 : (chr s b == 123) = true := by rw [h123]; rfl
    have t7 : (chr s (b + 1) == 58) = false := bF (fun q => hg ⟨h123, q⟩)
    have HU : Hid (zbD sg s b = sg b) := by show zbD sg s b = _; unfold zbD; rw [if_neg nh, if_neg nd, if_neg hq, if_neg h91, if_neg h37, if_neg h94, if_neg hg]
    have HP : Hid (∀ w, Calls Tryz.prog 67 #[.string s, .int .i64 b] w fun e w' => e = .returned (zcG (sg b)) /\ Below w.heap.size w w') := fun w => HS.out w
    clear hq h91 h37 h94 hg h123 nh nd
    cases hp : sg b with
    | inl t =>
     rw [hp] at HU HP
     go_enter Tryz.func36, Tryz.ntmps36
     go_wp2_with fail
     refine (HA.out _).mono ?_
     rintro e w2 ⟨rfl, rfl⟩
     go_wp2_with fail
     refine (HH.out _).mono ?_
     rintro e w2 ⟨rfl, rfl⟩
     rw [hh]
     go_wp2_with fail
     refine (HD.out _).mono ?_
     rintro e w2 ⟨rfl, rfl⟩
     rw [hd]
     clear hh hd
     go_wp2_with fail
     refine (HA1.out _).mono ?_
     rintro e w2 ⟨rfl, rfl⟩
     go_wp2_with fail
     refine (HP.out _).mono ?_
     rintro e w3 ⟨rfl, b3⟩
     have HX3 : Hid (TX w3 w.heap.size tk0) := HX.out.below b3
     have HB3 : Hid (Below w.heap.size w w3) := HB.out.trans (b3.mono HB.out.size)
     clear b3
     obtain ⟨c0, c1, c2, c3, c4, c5, c6, c7, c8⟩ := HX3.out.cells
     obtain ⟨f0, f1', f2', f3, f4, f5, f6, f7, f8⟩ := HX3.out.fz
     unfold zcG
     go_wp2_with fail
     exact zah rfl rfl rfl rfl rfl (zar HX3.out t) ⟨by rw [HU.out]; rfl, zad HB3.out (Nat.le_refl _) t⟩
    | inr q =>
     rw [hp] at HU HP
     go_enter Tryz.func36, Tryz.ntmps36
     go_wp2_with fail
     refine (HA.out _).mono ?_
     rintro e w2 ⟨rfl, rfl⟩
     go_wp2_with fail
     refine (HH.out _).mono ?_
     rintro e w2 ⟨rfl, rfl⟩
     rw [hh]
     go_wp2_with fail
     refine (HD.out _).mono ?_
     rintro e w2 ⟨rfl, rfl⟩
     rw [hd]
     clear hh hd
     go_wp2_with fail
     refine (HA1.out _).mono ?_
     rintro e w2 ⟨rfl, rfl⟩
     go_wp2_with fail
     refine (HP.out _).mono ?_
     rintro e w3 ⟨rfl, b3⟩
     have HX3 : Hid (TX w3 w.heap.size tk0) := HX.out.below b3
     have HB3 : Hid (Below w.heap.size w w3) := HB.out.trans (b3.mono HB.out.size)
     clear b3
     obtain ⟨c0, c1, c2, c3, c4, c5, c6, c7, c8⟩ := HX3.out.cells
     obtain ⟨f0, f1', f2', f3, f4, f5, f6, f7, f8⟩ := HX3.out.fz
     unfold zcG
     go_wp2_with fail
     exact zah rfl rfl rfl rfl rfl (zar HX3.out tk0) ⟨by rw [HU.out]; rfl, zad HB3.out (Nat.le_refl _) tk0⟩
   ·have t6 : (chr s b == 123) = false := bF h123
    have HU : Hid (zbD sg s b = sg b) := by show zbD sg s b = _; unfold zbD; rw [if_neg nh, if_neg nd, if_neg hq, if_neg h91, if_neg h37, if_neg h94, if_neg hg]
    have HP : Hid (∀ w, Calls Tryz.prog 67 #[.string s, .int .i64 b] w fun e w' => e = .returned (zcG (sg b)) /\ Below w.heap.size w w') := fun w => HS.out w
    clear hq h91 h37 h94 hg h123 nh nd
    cases hp : sg b with
    | inl t =>
     rw [hp] at HU HP
     go_enter Tryz.func36, Tryz.ntmps36
     go_wp2_with fail
     refine (HA.out _).mono ?_
     rintro e w2 ⟨rfl, rfl⟩
     go_wp2_with fail
     refine (HH.out _).mono ?_
     rintro e w2 ⟨rfl, rfl⟩
     rw [hh]
     go_wp2_with fail
     refine (HD.out _).mono ?_
     rintro e w2 ⟨rfl, rfl⟩
     rw [hd]
     clear hh hd
     go_wp2_with fail
     refine (HP.out _).mono ?_
     rintro e w3 ⟨rfl, b3⟩
     have HX3 : Hid (TX w3 w.heap.size tk0) := HX.out.below b3
     have HB3 : Hid (Below w.heap.size w w3) := HB.out.trans (b3.mono HB.out.size)
     clear b3
     obtain ⟨c0, c1, c2, c3, c4, c5, c6, c7, c8⟩ := HX3.out.cells
     obtain ⟨f0, f1', f2', f3, f4, f5, f6, f7, f8⟩ := HX3.out.fz
     unfold zcG
     go_wp2_with fail
     exact zah rfl rfl rfl rfl rfl (zar HX3.out t) ⟨by rw [HU.out]; rfl, zad HB3.out (Nat.le_refl _) t⟩
    | inr q =>
     rw [hp] at HU HP
     go_enter Tryz.func36, Tryz.ntmps36
     go_wp2_with fail
     refine (HA.out _).mono ?_
     rintro e w2 ⟨rfl, rfl⟩
     go_wp2_with fail
     refine (HH.out _).mono ?_
     rintro e w2 ⟨rfl, rfl⟩
     rw [hh]
     go_wp2_with fail
     refine (HD.out _).mono ?_
     rintro e w2 ⟨rfl, rfl⟩
     rw [hd]
     clear hh hd
     go_wp2_with fail
     refine (HP.out _).mono ?_
     rintro e w3 ⟨rfl, b3⟩
     have HX3 : Hid (TX w3 w.heap.size tk0) := HX.out.below b3
     have HB3 : Hid (Below w.heap.size w w3) := HB.out.trans (b3.mono HB.out.size)
     clear b3
     obtain ⟨c0, c1, c2, c3, c4, c5, c6, c7, c8⟩ := HX3.out.cells
     obtain ⟨f0, f1', f2', f3, f4, f5, f6, f7, f8⟩ := HX3.out.fz
     unfold zcG
     go_wp2_with fail
     exact zah rfl rfl rfl rfl rfl (zar HX3.out tk0) ⟨by rw [HU.out]; rfl, zad HB3.out (Nat.le_refl _) tk0⟩
abbrev svO (x : BitVec 256) : Obj := .cells #[.int .u64 (wd x 0), .int .u64 (wd x 1), .int .u64 (wd x 2), .int .u64 (wd x 3)] 49
theorem zhm (s : ByteArray) (b : Nat) (hs : s.size <= 140737488355000) (w : World) : Calls Tryz.prog 106 #[.string s, .int .i64 b] w fun e w' => e = .returned (za2 (clT s b (zam s b))) /\ Below w.heap.size w w' := by
 have HF : Hid (∀ i e w, Calls Tryz.prog 128 #[.int .i64 i, .int .i64 e] w fun e' w' => e' = .returned (zaN tk0 i e) /\ Below w.heap.size w w') := fun i e w => zaJ i e w
 have HC : Hid (∀ w, Calls Tryz.prog 133 #[.string s, .int .i64 b] w fun e w' => e = .returned (mbV (zam s b)) /\ Below w.heap.size w w') := fun w => zmN s b (by omega) w
 have HX : Hid (BX w ((w.alloc (tkO tk0)).alloc (fxO 0 0)) tk0 0 0) := BX.new w
 cases hr : zam s b with
 | inr p =>
  obtain ⟨a, c⟩ := p
  have hne := zeO hr
  rw [hr] at HC
  clear hr
  unfold mbV at HC
  by_cases h6 : c = 6 /\ a = s.size
  ·obtain ⟨rfl, rfl⟩ := h6
   have HE : Hid (clT s b (.inr (s.size, 6)) = .inr (b, 52)) := by show clT s b (.inr (s.size, 6)) = _; rw [clT, if_pos ⟨rfl, rfl⟩]
   go_enter Tryz.func106, Tryz.ntmps106
   go_wp2_with fail
   refine (HC.out _).mono ?_
   rintro e w2 ⟨rfl, b2⟩
   have HX2 : Hid (BX w ((w2.alloc (svO 0#256)).alloc (fxO s.size 6)) tk0 0 0) := ((HX.out.below b2).below (zaa _ _)).below (zaa _ _)
   clear b2 HX HC
   go_wp2_with fail
   refine (HF.out _ _ _).mono ?_
   rintro e w3 ⟨rfl, b3⟩
   have HX3 : Hid (BX w w3 tk0 0 0) := HX2.out.below b3
   clear b3 HX2 HF
   obtain ⟨f0, f1', f2', f3, f4, f5, f6, f7, f8, g0, g1⟩ := HX3.out.fz
   obtain ⟨c0, c1, c2, c3, c4, c5, c6, c7, c8, d0, d1⟩ := HX3.out.cells
   unfold zaN
   go_wp2_with fail
   have HP := HX3.out.put tk0 b 52
   exact zao rfl rfl rfl rfl HP ⟨by rw [HE.out]; rfl, HP.b⟩
  ·have HE : Hid (clT s b (.inr (a, c)) = .inr (a, c)) := by show clT s b (.inr (a, c)) = _; rw [clT, if_neg h6]
   have t1 : (c != 0) = true := by rw [bne, bF hne]; rfl
   by_cases hc6 : c = 6
   ·have ha : ¬ a = s.size := fun q => h6 ⟨hc6, q⟩
    have t2 : ((a : Int) == (s.size : Int)) = false := by rw [beq_eq_false_iff_ne]; omega
    subst hc6
    clear h6 hne ha t1
    go_enter Tryz.func106, Tryz.ntmps106
    go_wp2_with fail
    refine (HC.out _).mono ?_
    rintro e w2 ⟨rfl, b2⟩
    have HX2 : Hid (BX w ((w2.alloc (svO 0#256)).alloc (fxO a 6)) tk0 0 0) := ((HX.out.below b2).below (zaa _ _)).below (zaa _ _)
    clear b2 HX HC
    go_wp2_with fail
    refine (HF.out _ _ _).mono ?_
    rintro e w3 ⟨rfl, b3⟩
    have HX3 : Hid (BX w w3 tk0 0 0) := HX2.out.below b3
    clear b3 HX2 HF
    obtain ⟨f0, f1', f2', f3, f4, f5, f6, f7, f8, g0, g1⟩ := HX3.out.fz
    obtain ⟨c0, c1, c2, c3, c4, c5, c6, c7, c8, d0, d1⟩ := HX3.out.cells
    unfold zaN
    go_wp2_with fail
    have HP := HX3.out.put tk0 a 6
    exact zao rfl rfl rfl rfl HP ⟨by rw [HE.out]; rfl, HP.b⟩
   ·have t2 : (c == 6) = false := bF hc6
    clear h6 hne hc6
    go_enter Tryz.func106, Tryz.ntmps106
    go_wp2_with fail
    refine (HC.out _).mono ?_
    rintro e w2 ⟨rfl, b2⟩
    have HX2 : Hid (BX w ((w2.alloc (svO 0#256)).alloc (fxO a c)) tk0 0 0) := ((HX.out.below b2).below (zaa _ _)).below (zaa _ _)
    clear b2 HX HC
    go_wp2_with fail
    refine (HF.out _ _ _).mono ?_
    rintro e w3 ⟨rfl, b3⟩
    have HX3 : Hid (BX w w3 tk0 0 0) := HX2.out.below b3
    clear b3 HX2 HF
    obtain ⟨f0, f1', f2', f3, f4, f5, f6, f7, f8, g0, g1⟩ := HX3.out.fz
    obtain ⟨c0, c1, c2, c3, c4, c5, c6, c7, c8, d0, d1⟩ := HX3.out.cells
    unfold zaN
    go_wp2_with fail
    have HP := HX3.out.put tk0 a c
    exact zao rfl rfl rfl rfl HP ⟨by rw [HE.out]; rfl, HP.b⟩
 | inl p =>
  obtain ⟨x, n⟩ := p
  rw [hr] at HC
  clear hr HF
  unfold mbV at HC
  have HE : Hid (clT s b (.inl (x, n)) = .inl ⟨3, 0, b, n, ⟨#[]⟩, wd x 0, wd x 1, wd x 2, wd x 3⟩) := rfl
  go_enter Tryz.func106, Tryz.ntmps106
  go_wp2_with fail
  refine (HC.out _).mono ?_
  rintro e w2 ⟨rfl, b2⟩
  have HX2 : Hid (BX w w2 tk0 0 0) := HX.out.below b2
  clear b2 HX HC
  obtain ⟨f0, f1', f2', f3, f4, f5, f6, f7, f8, g0, g1⟩ := HX2.out.fz
  obtain ⟨c0, c1, c2, c3, c4, c5, c6, c7, c8, d0, d1⟩ := HX2.out.cells
  have hsz2 := HX2.out.size
  have hl1 : w.heap.size < w2.heap.size := by omega
  have hne1 : w.heap.size ≠ w2.heap.size := by omega
  have hne2 : w.heap.size + 1 ≠ w2.heap.size := by omega
  go_wp2_with fail
  have HP := ((HX2.out.put ⟨3, 0, b, n, ⟨#[]⟩, wd x 0, wd x 1, wd x 2, wd x 3⟩ 0 0).below (zaa _ (svO x))).below (zaa _ (fxO 0 0))
  exact zao rfl rfl rfl rfl HP ⟨by rw [HE.out]; rfl, HP.b⟩
def zcy (s : ByteArray) (b : Nat) : Sum Tk (Nat × Int) :=
 if pfx s b [37, 117, 123] = true then zb2 s b else if ¬ (zap s b).1 = 0 then zbr s b
 else if b + 1 < s.size /\ (cls (chr s (b + 1)).toNat).2 = 0 then .inl ⟨28, 0, b, (b + 2 : Nat), s.extract (b + 1) (b + 2), wd (cls (chr s (b + 1)).toNat).1 0, wd (cls (chr s (b + 1)).toNat).1 1, wd (cls (chr s (b + 1)).toNat).1 2, wd (cls (chr s (b + 1)).toNat).1 3⟩ else .inr (b, 10)
structure AtP (w W : World) (c : Nat) (y : BitVec 256) : Prop where
 x : BX w W tk0 0 0
 h : Holds W c y
theorem AtP.below {w W W' : World} {c : Nat} {x : BitVec 256} (h : AtP w W c x) (hb : Below W.heap.size W W') : AtP w W' c x := ⟨h.x.below hb, h.h.below hb h.h.lt⟩
theorem zmO (k : Int) (tx : ByteArray) (W : World) : (Instr.field 150 (.agg #[.int .i64 k, .string tx]) 0).run Tryz.prog W = .ok (.int .i64 k) W := by simp [Instr.field, run_underlying Tryz.underlying150, asAgg, go_sem]
theorem AtP.drew {w W : World} {c : Nat} {x : BitVec 256} (h : AtP w W c x) : AtP w W.drew c x := h.below (Below.refl _ _).drew
theorem zkO (s : ByteArray) (b : Nat) (hs : s.size <= 140737488355000) (hb : b <= s.size) (h : pfx s b [37, 117, 123] = true) (w : World) (hg : SG w) : Calls Tryz.prog 107 #[.string s, .int .i64 b] w fun e w' => e = .returned (za2 (zcy s b)) /\ Below w.heap.size w w' := by
 have HS : Hid (∀ w, Calls Tryz.prog 77 #[.string s, .int .i64 b, .string ⟨#[37, 117, 123]⟩] w fun e w' => e = .returned (.bool (pfx s b [37, 117, 123])) /\ w' = w) := fun w => zaz s b ⟨#[37, 117, 123]⟩ hb w
 have HX : Hid (BX w ((w.alloc (tkO tk0)).alloc (fxO 0 0)) tk0 0 0) := BX.new w
 have HG : Hid (SG ((w.alloc (tkO tk0)).alloc (fxO 0 0))) := (hg.later (zaa _ _)).later (zaa _ _)
 have HSA : Hid (∀ w, SG w -> Calls Tryz.prog 135 #[.string s, .int .i64 b] w fun e w' => e = .returned (.agg #[.int .i64 (zap s b).1, .string ⟨(zap s b).2.toArray⟩]) /\ Below w.heap.size w w') := fun w h => za5 s b hb w h
 clear hg
 have HN : Hid (∀ w, Calls Tryz.prog 134 #[.string s, .int .i64 b] w fun e w' => e = .returned (za2 (zb2 s b)) /\ Below w.heap.size w w') := fun w => zfZ s b hs (zf1 hb h) w
 have HE : Hid (zcy s b = zb2 s b) := by show zcy s b = _; unfold zcy; rw [if_pos h]
 rw [h] at HS
 clear HSA HG h
 go_enter Tryz.func107, Tryz.ntmps107
 go_wp2_with fail
 refine (HS.out _).mono ?_
 rintro e w1 ⟨rfl, rfl⟩
 clear HS
 go_wp2_with fail
 refine (HN.out _).mono ?_
 rintro e w3 ⟨rfl, b3⟩
 have HX3 : Hid (BX w w3 tk0 0 0) := HX.out.below b3
 clear b3 HX HN
 obtain ⟨f0, f1', f2', f3, f4, f5, f6, f7, f8, g0, g1⟩ := HX3.out.fz
 obtain ⟨c0, c1, c2, c3, c4, c5, c6, c7, c8, d0, d1⟩ := HX3.out.cells
 generalize zb2 s b = r at *
 cases r with
 | inl t =>
  unfold za2
  go_wp2_with fail
  have HP := HX3.out.put t 0 0
  exact zao rfl rfl rfl rfl HP ⟨by rw [HE.out]; rfl, HP.b⟩
 | inr q =>
  unfold za2
  go_wp2_with fail
  have HP := HX3.out.put tk0 q.1 q.2
  exact zao rfl rfl rfl rfl HP ⟨by rw [HE.out]; rfl, HP.b⟩
theorem zpf (s : ByteArray) (b : Nat) (hs : s.size <= 140737488355000) (hb : b <= s.size) (h : pfx s b [37, 117, 123] = false) (h2 : ¬ (zap s b).1 = 0) (w : World) (hg : SG w) : Calls Tryz.prog 107 #[.string s, .int .i64 b] w fun e w' => e = .returned (za2 (zcy s b)) /\ Below w.heap.size w w' := by
 have HS : Hid (∀ w, Calls Tryz.prog 77 #[.string s, .int .i64 b, .string ⟨#[37, 117, 123]⟩] w fun e w' => e = .returned (.bool (pfx s b [37, 117, 123])) /\ w' = w) := fun w => zaz s b ⟨#[37, 117, 123]⟩ hb w
 have HX : Hid (BX w ((w.alloc (tkO tk0)).alloc (fxO 0 0)) tk0 0 0) := BX.new w
 have HG : Hid (SG ((w.alloc (tkO tk0)).alloc (fxO 0 0))) := (hg.later (zaa _ _)).later (zaa _ _)
 have HSA : Hid (∀ w, SG w -> Calls Tryz.prog 135 #[.string s, .int .i64 b] w fun e w' => e = .returned (.agg #[.int .i64 (zap s b).1, .string ⟨(zap s b).2.toArray⟩]) /\ Below w.heap.size w w') := fun w h => za5 s b hb w h
 clear hg
 have HN : Hid (∀ w, SG w -> Calls Tryz.prog 108 #[.string s, .int .i64 b] w fun e w' => e = .returned (za2 (zbr s b)) /\ Below w.heap.size w w') := fun w g => zd7 s b hs hb w g
 have HE : Hid (zcy s b = zbr s b) := by show zcy s b = _; unfold zcy; rw [if_neg (by rw [h]; decide), if_pos h2]
 have v1 : ((zap s b).1 != 0) = true := by rw [bne, bF h2]; rfl
 rw [h] at HS
 clear h h2
 generalize (zap s b).1 = k at *
 generalize ByteArray.mk (zap s b).2.toArray = tx at *
 have hfld := zmO k tx
 go_enter Tryz.func107, Tryz.ntmps107
 go_wp2_with fail
 refine (HS.out _).mono ?_
 rintro e w1 ⟨rfl, rfl⟩
 clear HS
 go_wp2_with fail
 refine (HSA.out _ HG.out).mono ?_
 rintro e w2 ⟨rfl, b2⟩
 have HX2 : Hid (BX w w2 tk0 0 0) := HX.out.below b2
 have HG2 : Hid (SG w2) := HG.out.later b2
 clear b2 HX HG HSA
 go_wp2_with fail
 refine (HN.out _ HG2.out).mono ?_
 rintro e w3 ⟨rfl, b3⟩
 have HX3 : Hid (BX w w3 tk0 0 0) := HX2.out.below b3
 clear b3 HX2 HN HG2
 obtain ⟨f0, f1', f2', f3, f4, f5, f6, f7, f8, g0, g1⟩ := HX3.out.fz
 obtain ⟨c0, c1, c2, c3, c4, c5, c6, c7, c8, d0, d1⟩ := HX3.out.cells
 generalize zbr s b = r at *
 cases r with
 | inl t =>
  unfold za2
  go_wp2_with fail
  have HP := HX3.out.put t 0 0
  exact zao rfl rfl rfl rfl HP ⟨by rw [HE.out]; rfl, HP.b⟩
 | inr q =>
  unfold za2
  go_wp2_with fail
  have HP := HX3.out.put tk0 q.1 q.2
  exact zao rfl rfl rfl rfl HP ⟨by rw [HE.out]; rfl, HP.b⟩
theorem pc_end (s : ByteArray) (b : Nat) (hs : s.size <= 140737488355000) (hb : b <= s.size) (h : pfx s b [37, 117, 123] = false) (h2 : (zap s b).1 = 0) (h3 : ¬ b + 1 < s.size) (w : World) (hg : SG w) : Calls Tryz.prog 107 #[.string s, .int .i64 b] w fun e w' => e = .returned (za2 (zcy s b)) /\ Below w.heap.size w w' := by
 have HS : Hid (∀ w, Calls Tryz.prog 77 #[.string s, .int .i64 b, .string ⟨#[37, 117, 123]⟩] w fun e w' => e = .returned (.bool (pfx s b [37, 117, 123])) /\ w' = w) := fun w => zaz s b ⟨#[37, 117, 123]⟩ hb w
 have HX : Hid (BX w ((w.alloc (tkO tk0)).alloc (fxO 0 0)) tk0 0 0) := BX.new w
 have HG : Hid (SG ((w.alloc (tkO tk0)).alloc (fxO 0 0))) := (hg.later (zaa _ _)).later (zaa _ _)
 have HSA : Hid (∀ w, SG w -> Calls Tryz.prog 135 #[.string s, .int .i64 b] w fun e w' => e = .returned (.agg #[.int .i64 (zap s b).1, .string ⟨(zap s b).2.toArray⟩]) /\ Below w.heap.size w w') := fun w h => za5 s b hb w h
 clear hg
 have HF : Hid (∀ i e w, Calls Tryz.prog 128 #[.int .i64 i, .int .i64 e] w fun e' w' => e' = .returned (zaN tk0 i e) /\ Below w.heap.size w w') := fun i e w => zaJ i e w
 have HE : Hid (zcy s b = .inr (b, 10)) := by show zcy s b = _; unfold zcy; rw [if_neg (by rw [h]; decide), if_neg (fun q => q h2), if_neg (fun q => h3 q.1)]
 have z1 : ¬ (b : Int) + 1 < (s.size : Int) := by omega
 have v1 : ((zap s b).1 != 0) = false := by rw [h2]; rfl
 rw [h] at HS
 clear h h2
 generalize (zap s b).1 = k at *
 generalize ByteArray.mk (zap s b).2.toArray = tx at *
 have hfld := zmO k tx
 go_enter Tryz.func107, Tryz.ntmps107
 go_wp2_with fail
 refine (HS.out _).mono ?_
 rintro e w1 ⟨rfl, rfl⟩
 clear HS
 go_wp2_with fail
 refine (HSA.out _ HG.out).mono ?_
 rintro e w2 ⟨rfl, b2⟩
 have HX2 : Hid (BX w w2 tk0 0 0) := HX.out.below b2
 have HG2 : Hid (SG w2) := HG.out.later b2
 clear b2 HX HG HSA
 go_wp2_with fail
 refine (HF.out _ _ _).mono ?_
 rintro e w3 ⟨rfl, b3⟩
 have HX3 : Hid (BX w w3 tk0 0 0) := HX2.out.below b3
 clear b3 HX2 HF HG2
 obtain ⟨f0, f1', f2', f3, f4, f5, f6, f7, f8, g0, g1⟩ := HX3.out.fz
 obtain ⟨c0, c1, c2, c3, c4, c5, c6, c7, c8, d0, d1⟩ := HX3.out.cells
 unfold zaN
 go_wp2_with fail
 have HP := HX3.out.put tk0 b 10
 exact zao rfl rfl rfl rfl HP ⟨by rw [HE.out]; rfl, HP.b⟩
theorem zpg (s : ByteArray) (b : Nat) (hs : s.size <= 140737488355000) (hb : b <= s.size) (h : pfx s b [37, 117, 123] = false) (h2 : (zap s b).1 = 0) (h3 : b + 1 < s.size) (h4 : ¬ (cls (chr s (b + 1)).toNat).2 = 0) (w : World) (hg : SG w) : Calls Tryz.prog 107 #[.string s, .int .i64 b] w fun e w' => e = .returned (za2 (zcy s b)) /\ Below w.heap.size w w' := by
 have HS : Hid (∀ w, Calls Tryz.prog 77 #[.string s, .int .i64 b, .string ⟨#[37, 117, 123]⟩] w fun e w' => e = .returned (.bool (pfx s b [37, 117, 123])) /\ w' = w) := fun w => zaz s b ⟨#[37, 117, 123]⟩ hb w
 have HX : Hid (BX w ((w.alloc (tkO tk0)).alloc (fxO 0 0)) tk0 0 0) := BX.new w
 have HG : Hid (SG ((w.alloc (tkO tk0)).alloc (fxO 0 0))) := (hg.later (zaa _ _)).later (zaa _ _)
 have HSA : Hid (∀ w, SG w -> Calls Tryz.prog 135 #[.string s, .int .i64 b] w fun e w' => e = .returned (.agg #[.int .i64 (zap s b).1, .string ⟨(zap s b).2.toArray⟩]) /\ Below w.heap.size w w') := fun w h => za5 s b hb w h
 clear hg
 have HF : Hid (∀ i e w, Calls Tryz.prog 128 #[.int .i64 i, .int .i64 e] w fun e' w' => e' = .returned (zaN tk0 i e) /\ Below w.heap.size w w') := fun i e w => zaJ i e w
 have HE : Hid (zcy s b = .inr (b, 10)) := by show zcy s b = _; unfold zcy; rw [if_neg (by rw [h]; decide), if_neg (fun q => q h2), if_neg (fun q => h4 q.2)]
 have hc := zal h3
 obtain ⟨c, hcc⟩ : ∃ c : Nat, c = (chr s (b + 1)).toNat := ⟨_, rfl⟩
 have hcn : (s[b + 1].toNat : Int) = c := by rw [hcc, hc]; omega
 have hclt : c < 256 := by have := zbg s (b + 1); omega
 have HC : Hid (∀ w, Calls Tryz.prog 136 #[.int .u8 (s[b + 1].toNat : Int)] w fun e w' => e = .returned (.tuple #[sv (cls c).1, .int .i64 (cls c).2]) /\ Below w.heap.size w w') := fun w => by rw [hcn]; exact zeM c hclt w
 obtain ⟨j1, hj1⟩ : ∃ j, j = b + 1 := ⟨_, rfl⟩
 obtain ⟨j2, hj2⟩ : ∃ j, j = b + 2 := ⟨_, rfl⟩
 have u1 : IntKind.i64.wrap ((b : Int) + 1) = (j1 : Int) := by rw [hj1, IntKind.wrap_i64]; omega
 have u2 : IntKind.i64.wrap ((b : Int) + 2) = (j2 : Int) := by rw [hj2, IntKind.wrap_i64]; omega
 have y0 : (0 : Int) <= (j1 : Int) := by omega
 have y1 : (j1 : Int) <= (j2 : Int) := by omega
 have y2 : (j2 : Int) <= (s.size : Int) := by omega
 have y3 : (j1 : Int) < (s.size : Int) := by omega
 have h3' : j1 < s.size := by omega
 have HC2 : Hid (∀ w, Calls Tryz.prog 136 #[.int .u8 (s[j1].toNat : Int)] w fun e w' => e = .returned (.tuple #[sv (cls c).1, .int .i64 (cls c).2]) /\ Below w.heap.size w w') := by subst hj1; exact HC
 clear HC hcn hc hclt
 rw [<- hcc] at h4
 have v4 : ((cls c).2 == 0) = false := bF h4
 clear hcc h4 hj1 hj2
 generalize (cls c).2 = q at *
 generalize (cls c).1 = x at *
 have v1 : ((zap s b).1 != 0) = false := by rw [h2]; rfl
 rw [h] at HS
 clear h h2
 generalize (zap s b).1 = k at *
 generalize ByteArray.mk (zap s b).2.toArray = tx at *
 have hfld := zmO k tx
 go_enter Tryz.func107, Tryz.ntmps107
 go_wp2_with fail
 refine (HS.out _).mono ?_
 rintro e w1 ⟨rfl, rfl⟩
 clear HS
 go_wp2_with fail
 refine (HSA.out _ HG.out).mono ?_
 rintro e w2 ⟨rfl, b2⟩
 have HX2 : Hid (BX w w2 tk0 0 0) := HX.out.below b2
 have HG2 : Hid (SG w2) := HG.out.later b2
 clear b2 HX HG HSA
 go_wp2_with fail
 refine (HC2.out _).mono ?_
 rintro e w3 ⟨rfl, b3⟩
 have HX3 : Hid (BX w (w3.alloc (svO x)) tk0 0 0) := (HX2.out.below b3).below (zaa _ _)
 clear b3 HX2 HC2 HG2
 go_wp2_with fail
 refine (HF.out _ _ _).mono ?_
 rintro e w4 ⟨rfl, b4⟩
 have HX4 : Hid (BX w w4 tk0 0 0) := HX3.out.below b4
 clear b4 HX3 HF
 obtain ⟨f0, f1', f2', f3, f4, f5, f6, f7, f8, g0, g1⟩ := HX4.out.fz
 obtain ⟨c0, c1, c2, c3, c4, c5, c6, c7, c8, d0, d1⟩ := HX4.out.cells
 unfold zaN
 go_wp2_with fail
 have HP := HX4.out.put tk0 b 10
 exact zao rfl rfl rfl rfl HP ⟨by rw [HE.out]; rfl, HP.b⟩
theorem zmP (s : ByteArray) (b : Nat) (hs : s.size <= 140737488355000) (hb : b <= s.size) (h : pfx s b [37, 117, 123] = false) (h2 : (zap s b).1 = 0) (h3 : b + 1 < s.size) (h4 : (cls (chr s (b + 1)).toNat).2 = 0) (w : World) (hg : SG w) : Calls Tryz.prog 107 #[.string s, .int .i64 b] w fun e w' => e = .returned (za2 (zcy s b)) /\ Below w.heap.size w w' := by
 have HS : Hid (∀ w, Calls Tryz.prog 77 #[.string s, .int .i64 b, .string ⟨#[37, 117, 123]⟩] w fun e w' => e = .returned (.bool (pfx s b [37, 117, 123])) /\ w' = w) := fun w => zaz s b ⟨#[37, 117, 123]⟩ hb w
 have HX : Hid (BX w ((w.alloc (tkO tk0)).alloc (fxO 0 0)) tk0 0 0) := BX.new w
 have HG : Hid (SG ((w.alloc (tkO tk0)).alloc (fxO 0 0))) := (hg.later (zaa _ _)).later (zaa _ _)
 have HSA : Hid (∀ w, SG w -> Calls Tryz.prog 135 #[.string s, .int .i64 b] w fun e w' => e = .returned (.agg #[.int .i64 (zap s b).1, .string ⟨(zap s b).2.toArray⟩]) /\ Below w.heap.size w w') := fun w h => za5 s b hb w h
 clear hg
 have HE : Hid (zcy s b = .inl ⟨28, 0, b, (b + 2 : Nat), s.extract (b + 1) (b + 2), wd (cls (chr s (b + 1)).toNat).1 0, wd (cls (chr s (b + 1)).toNat).1 1, wd (cls (chr s (b + 1)).toNat).1 2, wd (cls (chr s (b + 1)).toNat).1 3⟩) := by show zcy s b = _; unfold zcy; rw [if_neg (by rw [h]; decide), if_neg (fun q => q h2), if_pos ⟨h3, h4⟩]
 have hc := zal h3
 obtain ⟨c, hcc⟩ : ∃ c : Nat, c = (chr s (b + 1)).toNat := ⟨_, rfl⟩
 have hcn : (s[b + 1].toNat : Int) = c := by rw [hcc, hc]; omega
 have hclt : c < 256 := by have := zbg s (b + 1); omega
 have HC : Hid (∀ w, Calls Tryz.prog 136 #[.int .u8 (s[b + 1].toNat : Int)] w fun e w' => e = .returned (.tuple #[sv (cls c).1, .int .i64 (cls c).2]) /\ Below w.heap.size w w') := fun w => by rw [hcn]; exact zeM c hclt w
 obtain ⟨j1, hj1⟩ : ∃ j, j = b + 1 := ⟨_, rfl⟩
 obtain ⟨j2, hj2⟩ : ∃ j, j = b + 2 := ⟨_, rfl⟩
 have u1 : IntKind.i64.wrap ((b : Int) + 1) = (j1 : Int) := by rw [hj1, IntKind.wrap_i64]; omega
 have u2 : IntKind.i64.wrap ((b : Int) + 2) = (j2 : Int) := by rw [hj2, IntKind.wrap_i64]; omega
 have y0 : (0 : Int) <= (j1 : Int) := by omega
 have y1 : (j1 : Int) <= (j2 : Int) := by omega
 have y2 : (j2 : Int) <= (s.size : Int) := by omega
 have y3 : (j1 : Int) < (s.size : Int) := by omega
 have h3' : j1 < s.size := by omega
 have HC2 : Hid (∀ w, Calls Tryz.prog 136 #[.int .u8 (s[j1].toNat : Int)] w fun e w' => e = .returned (.tuple #[sv (cls c).1, .int .i64 (cls c).2]) /\ Below w.heap.size w w') := by subst hj1; exact HC
 clear HC hcn hc hclt
 rw [<- hcc] at h4 HE
 rw [h4] at HC2
 rw [<- hj1, <- hj2] at HE
 clear hcc h4 hj1 hj2
 generalize (cls c).1 = x at *
 have v1 : ((zap s b).1 != 0) = false := by rw [h2]; rfl
 rw [h] at HS
 clear h h2
 generalize (zap s b).1 = k at *
 generalize ByteArray.mk (zap s b).2.toArray = tx at *
 have HCo : Hid (∀ w, Calls Tryz.prog 129 #[.string (s.extract j1 j2)] w fun e w' => e = .returned (.string (s.extract j1 j2)) /\ Below w.heap.size w w') := fun w => zfs _ w
 have hfld := zmO k tx
 go_enter Tryz.func107, Tryz.ntmps107
 go_wp2_with fail
 refine (HS.out _).mono ?_
 rintro e w1 ⟨rfl, rfl⟩
 clear HS
 go_wp2_with fail
 refine (HSA.out _ HG.out).mono ?_
 rintro e w2 ⟨rfl, b2⟩
 have HX2 : Hid (BX w w2 tk0 0 0) := HX.out.below b2
 have HG2 : Hid (SG w2) := HG.out.later b2
 clear b2 HX HG HSA
 go_wp2_with fail
 refine (HC2.out _).mono ?_
 rintro e w3 ⟨rfl, b3⟩
 have HP3 : Hid (AtP w (w3.alloc (svO x)) w3.heap.size x) := ⟨(HX2.out.below b3).below (zaa _ _), Holds.new w3 x⟩
 have hsz := (HX2.out.below b3).size
 have ne1 : ¬ w3.heap.size = w.heap.size := by omega
 have ne2 : ¬ w.heap.size = w3.heap.size := by omega
 have ne3 : ¬ w3.heap.size = w.heap.size + 1 := by omega
 have ne4 : ¬ w.heap.size + 1 = w3.heap.size := by omega
 clear b3 HX2 HC2 HG2 hsz
 go_wp2_with fail
 generalize w3.alloc (svO x) = w4 at *
 obtain ⟨f0, f1', f2', f3, f4, f5, f6, f7, f8, g0, g1⟩ := HP3.out.x.fz
 obtain ⟨c0, c1, c2, c3, c4, c5, c6, c7, c8, d0, d1⟩ := HP3.out.x.cells
 obtain ⟨_, e0, e1, e2, e3, _, _, _, _⟩ := HP3.out.h
 go_region_with (go_at_call 129; refine (HCo.out _).mono ?_; rintro e w5 ⟨rfl, hb5⟩; have hA2 := (show AtP w w5 w3.heap.size x from (by first | exact HP3.out.below hb5 | exact HP3.out.drew.below hb5)); replace HP3 := (show Hid _ from hA2); clear hA2 hb5 f0 f1' f2' f3 f4 f5 f6 f7 f8 g0 g1 c0 c1 c2 c3 c4 c5 c6 c7 c8 d0 d1 e0 e1 e2 e3; obtain ⟨f0, f1', f2', f3, f4, f5, f6, f7, f8, g0, g1⟩ := HP3.out.x.fz; obtain ⟨c0, c1, c2, c3, c4, c5, c6, c7, c8, d0, d1⟩ := HP3.out.x.cells; obtain ⟨_, e0, e1, e2, e3, _, _, _, _⟩ := HP3.out.h)
 all_goals
  go_wp2_with fail
  have HP := HP3.out.x.put ⟨28, 0, b, j2, s.extract j1 j2, wd x 0, wd x 1, wd x 2, wd x 3⟩ 0 0
  exact zao rfl rfl rfl rfl HP ⟨by rw [HE.out]; rfl, HP.b⟩
theorem zeP (s : ByteArray) (b : Nat) (hs : s.size <= 140737488355000) (hb : b <= s.size) (w : World) (hg : SG w) : Calls Tryz.prog 107 #[.string s, .int .i64 b] w fun e w' => e = .returned (za2 (zcy s b)) /\ Below w.heap.size w w' := by
 cases h : pfx s b [37, 117, 123] with
 | true => exact zkO s b hs hb h w hg
 | false =>
  by_cases h2 : (zap s b).1 = 0
  ·by_cases h3 : b + 1 < s.size
   ·by_cases h4 : (cls (chr s (b + 1)).toNat).2 = 0
    ·exact zmP s b hs hb h h2 h3 h4 w hg
    ·exact zpg s b hs hb h h2 h3 h4 w hg
   ·exact pc_end s b hs hb h h2 h3 w hg
  ·exact zpf s b hs hb h h2 w hg
theorem ziX (s : ByteArray) (i : Nat) : Q.chr s i = chr s i := rfl
theorem znN (l : List Int) : Q.zaj l = zaj l := rfl
def zkP (s : ByteArray) (b : Nat) : Q.Rd (List Int × Nat) -> Sum Tk (Nat × Int)
 | .inr (a, c) => if c = 21 then .inr (a.toNat, 51) else if c = 22 /\ a < (s.size : Int) then .inr (a.toNat, 50) else .inr (b, 52)
 | .inl (l, e) => if 255 < l.length then .inr (b, 2) else .inl ⟨2, 0, b, e, zaj l, 0, 0, 0, 0⟩
theorem zmQ (s : ByteArray) (i : Nat) : Q.zax s i = (zck s i).map fun p => ((p.1 : Int), p.2) := by
 unfold Q.zax zck Q.zaZ
 rw [show Q.chr = chr from rfl, show Q.zaH = zaH from rfl]
 have hb := zbg s (i + 1)
 by_cases a1 : chr s (i + 1) = 110
 ·rw [if_pos a1, if_pos a1]; rfl
 by_cases a2 : chr s (i + 1) = 114
 ·rw [if_neg a1, if_neg a1, if_pos a2, if_pos a2]; rfl
 by_cases a3 : chr s (i + 1) = 116
 ·rw [if_neg a1, if_neg a1, if_neg a2, if_neg a2, if_pos a3, if_pos a3]; rfl
 rw [if_neg a1, if_neg a1, if_neg a2, if_neg a2, if_neg a3, if_neg a3]
 by_cases a4 : chr s (i + 1) = 92 ∨ chr s (i + 1) = 39 ∨ chr s (i + 1) = 34
 ·rw [if_pos a4, if_pos a4, Option.map_some, Int.toNat_of_nonneg (by omega)]
 rw [if_neg a4, if_neg a4]
 by_cases h : chr s (i + 1) = 120
 ·have h1 := zbh (chr s (i + 2))
  rw [if_pos h]
  by_cases q : 0 <= zaH (chr s (i + 2)) /\ 0 <= zaH (chr s (i + 3))
  ·rw [if_pos q, if_pos ⟨h, q⟩, Option.map_some, Int.toNat_of_nonneg (by omega)]
  ·rw [if_neg q, if_neg (fun x => q x.2)]; rfl
 ·rw [if_neg h, if_neg (fun x => h x.1)]; rfl
theorem zf6 {s : ByteArray} {i : Nat} {c n : Nat} (h : zck s i = some (c, n)) : i < n /\ n <= i + 4 := by
 unfold zck at h
 split at h
 ·cases h; omega
 split at h
 ·cases h; omega
 split at h
 ·cases h; omega
 split at h
 ·cases h; omega
 split at h
 ·cases h; omega
 ·cases h
theorem zkQ (s : ByteArray) (q : Int) (b : Nat) (hq : q = 39 ∨ q = 34) : ∀ (f i : Nat) (l : List Int), s.size < f + i -> zkP s b (Q.za9 s q f i l) = zbs s q b f l i := by
 intro f
 induction f with
 | zero =>
  intro i l hf
  rw [Q.za9, zbs]
  rw [zkP, if_neg (by decide), if_neg (by omega)]
 | succ f ih =>
  intro i l hf
  rw [Q.za9, zbs, ziX]
  by_cases h1 : i < s.size
  ·have hb := zal h1
   have hb2 : ¬ chr s i < 0 := by rw [hb]; omega
   rw [if_neg hb2]
   by_cases h2 : chr s i = q
   ·rw [if_pos h2, if_pos h2]; rfl
   rw [if_neg h2, if_neg h2, if_neg (by omega)]
   by_cases h92 : chr s i = 92
   ·have e1 : ¬ (chr s i < 32 ∨ chr s i = 127) := by omega
    rw [if_neg e1, if_neg (fun x => x h92)]
    unfold Q.zaX
    rw [ziX, if_pos h92, zmQ]
    cases he : zck s i with
    | none =>
     show zkP s b (.inr ((i : Int), 21)) = _
     rw [zkP, if_pos rfl]; rfl
    | some p =>
     have h3 := zf6 (c := p.1) (n := p.2) he
     exact ih _ _ (by omega)
   ·unfold Q.zaX
    rw [ziX, if_neg h92]
    by_cases h32 : chr s i < 32 ∨ chr s i = 127
    ·rw [if_pos h32, if_pos h32]
     rw [zkP, if_neg (by decide), if_pos ⟨rfl, by omega⟩]; rfl
    ·rw [if_neg h32, if_neg h32, if_pos h92]
     exact ih _ _ (by omega)
  ·rw [zat h1, if_neg (by omega), if_pos (by omega), if_pos (by omega)]
   rw [zkP, if_neg (by decide), if_neg (by omega)]
theorem ziY {s : ByteArray} {m : Int} {f i : Nat} {l : List Int} {a c : Int} (h : Q.za9 s m f i l = .inr (a, c)) : 0 <= a /\ (c = 21 ∨ c = 22) := by
 induction f generalizing i l with
 | zero => rw [Q.za9] at h; cases h; exact ⟨by omega, .inr rfl⟩
 | succ f ih =>
  rw [Q.za9] at h
  split at h
  ·cases h
  split at h
  ·cases h; exact ⟨by omega, .inr rfl⟩
  cases hb : Q.zaX s i with
  | inl p => rw [hb] at h; exact ih h
  | inr q =>
   obtain ⟨a2, c2⟩ := q
   rw [hb] at h
   cases h
   unfold Q.zaX at hb
   split at hb
   ·cases he : Q.zax s i with
    | none => rw [he] at hb; cases hb; exact ⟨by omega, .inl rfl⟩
    | some p => rw [he] at hb; cases hb
   ·split at hb
    ·cases hb; exact ⟨by omega, .inr rfl⟩
    ·cases hb
theorem zkR {s : ByteArray} {b : Nat} {a c : Int} (hs : s.size <= 65536) (hb : b <= s.size) (hq : chr s b = 39 ∨ chr s b = 34) (h : Q.zb7 s b = .inr (a, c)) : 0 <= a /\ (c = 21 ∨ c = 22) := by
 unfold Q.zb7 at h
 rw [if_neg (by omega), if_neg (by omega), Int.toNat_natCast, ziX, if_pos hq] at h
 exact ziY h
theorem zh2 (s : ByteArray) (b : Nat) (hs : s.size <= 65536) (hb : b <= s.size) (hq : chr s b = 39 ∨ chr s b = 34) : zkP s b (Q.zb7 s b) = zbZ s b := by
 unfold Q.zb7 zbZ
 rw [if_neg (by omega), if_neg (by omega), Int.toNat_natCast, ziX, if_pos hq]
 exact zkQ s _ b hq _ _ _ (by omega)
end Go.Proofs.YtkihfkcmcdiajaaGreatDoor
namespace Go.Proofs.YtkihfkcmcdiajaaGreatDoor.Q
open Go.RowKit
def cpE (s : ByteArray) (i : Int) : Int := if 65536 < s.size then 2 else if i < 0 ∨ (s.size : Int) < i then 1 else 0
theorem ze9 (s : ByteArray) (i : Int) (w : World) :
  Calls Tryz.prog 145 #[.string s, .int .i64 i] w fun e w' => e = .returned (.int .i64 (cpE s i)) /\ w' = w := by
 by_cases h : 65536 < s.size
 ·have HE : Hid (cpE s i = 2) := (by show cpE s i = 2; unfold cpE; rw [if_pos h])
  have h1 : (65536 : Int) < (s.size : Int) := by omega
  go_enter Tryz.func145, Tryz.ntmps145
  go_wp2
  go_ret
  exact ⟨by rw [HE.out]; rfl, rfl⟩
 ·have h1 : ¬ (65536 : Int) < (s.size : Int) := by omega
  by_cases h0 : i < 0
  ·have HE : Hid (cpE s i = 1) := (by show cpE s i = 1; unfold cpE; rw [if_neg h, if_pos (.inl h0)])
   go_enter Tryz.func145, Tryz.ntmps145
   go_wp2
   go_ret
   exact ⟨by rw [HE.out]; rfl, rfl⟩
  ·by_cases h2 : (s.size : Int) < i
   ·have HE : Hid (cpE s i = 1) := (by show cpE s i = 1; unfold cpE; rw [if_neg h, if_pos (.inr h2)])
    go_enter Tryz.func145, Tryz.ntmps145
    go_wp2
    go_ret
    exact ⟨by rw [HE.out]; rfl, rfl⟩
   ·have HE : Hid (cpE s i = 0) := (by show cpE s i = 0; unfold cpE; rw [if_neg h, if_neg (by omega)])
    go_enter Tryz.func145, Tryz.ntmps145
    go_wp2
    go_ret
    exact ⟨by rw [HE.out]; rfl, rfl⟩
def mkB (c : Int) : Bool := c == 39 || c == 34
theorem ziZ (c : Int) (w : World) :
  Calls Tryz.prog 146 #[.int .u8 c] w fun e w' => e = .returned (.bool (mkB c)) /\ w' = w := by
 by_cases h : c = 39
 ·have HE : Hid (mkB c = true) := (by show mkB c = true; unfold mkB; rw [beq_iff_eq.2 h]; rfl)
  have e1 : (c == 39) = true := beq_iff_eq.2 h
  clear h
  go_enter Tryz.func146, Tryz.ntmps146
  go_wp2
  go_ret
  exact ⟨by rw [HE.out]; rfl, rfl⟩
 ·have e1 : (c == 39) = false := bF h
  have HE : Hid (mkB c = (c == 34)) := (by show mkB c = (c == 34); unfold mkB; rw [e1]; rfl)
  clear h
  go_enter Tryz.func146, Tryz.ntmps146
  go_wp2
  go_ret
  exact ⟨by rw [HE.out]; rfl, rfl⟩
abbrev digs : ByteArray := ⟨#[48, 49, 50, 51, 52, 53, 54, 55, 56, 57, 97, 98, 99, 100, 101, 102]⟩
theorem zgW (c : UInt8) : Lib.indexByte digs.data.toList c = zaH (c.toNat : Int) := by
 have key : ∀ n, n < 256 -> Lib.indexByte digs.data.toList (UInt8.ofNat n) = zaH (n : Int) := by decide +kernel
 have := key c.toNat c.toNat_lt
 rw [UInt8.ofNat_toNat] at this
 exact this
theorem zcq (c : UInt8) (w : World) : Calls Tryz.prog 144 #[.string digs, .int .u8 (c.toNat : Int)] w fun e w' => e = .returned (.int .i64 (zaH (c.toNat : Int))) /\ w' = w := by
 refine (Tryz.strings_IndexByte digs (c.toNat : Int) w).mono ?_
 rintro e w' ⟨rfl, rfl⟩
 refine ⟨?_, rfl⟩
 rw [<- zgW]
 simp
theorem zeQ {b b' : Int} {n : Nat} {n' : Int} (hb : b' = b) (hn : n' = n) : Ending.returned (.tuple #[.int .u8 b', .int .i64 n', .int .i64 0]) = .returned (esV (some (b, n))) := by rw [hb, hn]; rfl
theorem ret_by {b b' : Int} {n : Nat} {n' : Int} (hb : b' = b) (hn : n' = n) : Ending.returned (.tuple #[.int .u8 b', .int .i64 n', .int .i64 0]) = .returned (byV (.inl (b, n))) := by rw [hb, hn]; rfl
theorem zdm (s : ByteArray) (i : Nat) (hi : i + 1 < s.size) (hs : s.size <= 140737488355328) (w : World) :
  Calls Tryz.prog 188 #[.string s, .int .i64 i] w fun e w' => e = .returned (esV (zaZ s i)) /\ w' = w := by
 by_cases h : i + 3 < s.size
 ·have h2 : i + 2 < s.size := by omega
  have hb1 := zbh (s[i + 2].toNat : Int)
  have hb2 := zbh (s[i + 3].toNat : Int)
  have HE : Hid (zaZ s i = if 0 <= zaH (s[i + 2].toNat : Int) /\ 0 <= zaH (s[i + 3].toNat : Int) then some (16 * zaH (s[i + 2].toNat : Int) + zaH (s[i + 3].toNat : Int), i + 4) else none) := (by show zaZ s i = _; unfold zaZ; rw [zal h, zal h2])
  have HI : Hid (∀ w, Calls Tryz.prog 144 #[.string digs, .int .u8 (s[i + 2].toNat : Int)] w fun e w' => e = .returned (.int .i64 (zaH (s[i + 2].toNat : Int))) /\ w' = w) := fun w => zcq _ w
  have HJ : Hid (∀ w, Calls Tryz.prog 144 #[.string digs, .int .u8 (s[i + 3].toNat : Int)] w fun e w' => e = .returned (.int .i64 (zaH (s[i + 3].toNat : Int))) /\ w' = w) := fun w => zcq _ w
  go_enter Tryz.func188, Tryz.ntmps188
  go_wp2_with fail
  refine (HI.out _).mono ?_
  rintro e w' ⟨rfl, rfl⟩
  clear HI
  go_wp2_with fail
  refine (HJ.out _).mono ?_
  rintro e w' ⟨rfl, rfl⟩
  clear HJ
  generalize zaH (s[i + 2].toNat : Int) = a at *
  generalize zaH (s[i + 3].toNat : Int) = b at *
  by_cases ha : 0 <= a
  ·by_cases hb : 0 <= b
   ·have hw8 : IntKind.u8.wrap (16 * a + b) = 16 * a + b := by rw [IntKind.wrap_u8']; omega
    go_wp2
    go_ret3
    exact ⟨by rw [HE.out, if_pos ⟨ha, hb⟩]; exact zeQ (by omega) (by omega), rfl⟩
   ·go_wp2
    go_ret3
    exact ⟨by rw [HE.out, if_neg (fun h => by omega)]; rfl, rfl⟩
  ·go_wp2
   go_ret3
   exact ⟨by rw [HE.out, if_neg (fun h => by omega)]; rfl, rfl⟩
 ·have h1 : ¬ (i : Int) + 3 < (s.size : Int) := by omega
  have HE : Hid (zaZ s i = none) := (by show zaZ s i = none; unfold zaZ; rw [zat h]; rw [if_neg]; rintro ⟨_, h2⟩; simp [zaH] at h2)
  go_enter Tryz.func188, Tryz.ntmps188
  go_wp2
  go_ret3
  exact ⟨by rw [HE.out]; rfl, rfl⟩
theorem zdn (s : ByteArray) (i : Nat) (hi : i < s.size) (hs : s.size <= 140737488355328) (w : World) :
  Calls Tryz.prog 177 #[.string s, .int .i64 i] w fun e w' => e = .returned (esV (zax s i)) /\ w' = w := by
 by_cases h : i + 1 < s.size
 ·have HX : Hid (∀ w, Calls Tryz.prog 188 #[.string s, .int .i64 i] w fun e w' => e = .returned (esV (zaZ s i)) /\ w' = w) := fun w => zdm s i h hs w
  have hb : (0 : Int) <= (s[i + 1].toNat : Int) /\ (s[i + 1].toNat : Int) <= 255 := by have := s[i + 1].toNat_lt; omega
  have HE : Hid (zax s i = if (s[i + 1].toNat : Int) = 110 then some (10, i + 2) else if (s[i + 1].toNat : Int) = 114 then some (13, i + 2) else if (s[i + 1].toNat : Int) = 116 then some (9, i + 2) else
 if (s[i + 1].toNat : Int) = 92 ∨ (s[i + 1].toNat : Int) = 39 ∨ (s[i + 1].toNat : Int) = 34 then some ((s[i + 1].toNat : Int), i + 2) else if (s[i + 1].toNat : Int) = 120 then zaZ s i else none) := (by show zax s i = _; unfold zax; rw [zal h])
  by_cases h110 : (s[i + 1].toNat : Int) = 110
  ·have HF : Hid (zax s i = some (10, i + 2)) := (by show zax s i = _; rw [HE.out]; rw [if_pos h110])
   clear HE HX
   have e110 : ((s[i + 1].toNat : Int) == 110) = true := beq_iff_eq.2 h110
   clear h110
   go_enter Tryz.func177, Tryz.ntmps177
   go_wp2
   go_ret3
   exact ⟨by rw [HF.out]; exact zeQ rfl (by omega), rfl⟩
  have e110 : ((s[i + 1].toNat : Int) == 110) = false := bF h110
  by_cases h114 : (s[i + 1].toNat : Int) = 114
  ·have HF : Hid (zax s i = some (13, i + 2)) := (by show zax s i = _; rw [HE.out]; rw [if_neg h110, if_pos h114])
   clear HE HX
   have e114 : ((s[i + 1].toNat : Int) == 114) = true := beq_iff_eq.2 h114
   clear h114
   go_enter Tryz.func177, Tryz.ntmps177
   go_wp2
   go_ret3
   exact ⟨by rw [HF.out]; exact zeQ rfl (by omega), rfl⟩
  have e114 : ((s[i + 1].toNat : Int) == 114) = false := bF h114
  by_cases h116 : (s[i + 1].toNat : Int) = 116
  ·have HF : Hid (zax s i = some (9, i + 2)) := (by show zax s i = _; rw [HE.out]; rw [if_neg h110, if_neg h114, if_pos h116])
   clear HE HX
   have e116 : ((s[i + 1].toNat : Int) == 116) = true := beq_iff_eq.2 h116
   clear h116
   go_enter Tryz.func177, Tryz.ntmps177
   go_wp2
   go_ret3
   exact ⟨by rw [HF.out]; exact zeQ rfl (by omega), rfl⟩
  have e116 : ((s[i + 1].toNat : Int) == 116) = false := bF h116
  by_cases hg : (s[i + 1].toNat : Int) = 92 ∨ (s[i + 1].toNat : Int) = 39 ∨ (s[i + 1].toNat : Int) = 34
  ·have HF : Hid (zax s i = some ((s[i + 1].toNat : Int), i + 2)) := (by show zax s i = _; rw [HE.out]; rw [if_neg h110, if_neg h114, if_neg h116, if_pos hg])
   clear HE HX h110 h114 h116
   rcases hg with hg | hg | hg
   ·have e92 : ((s[i + 1].toNat : Int) == 92) = true := beq_iff_eq.2 hg
    clear hg
    go_enter Tryz.func177, Tryz.ntmps177
    go_wp2
    go_ret3
    exact ⟨by rw [HF.out]; exact zeQ rfl (by omega), rfl⟩
   ·have e92 : ((s[i + 1].toNat : Int) == 92) = false := bF (by omega)
    have e39 : ((s[i + 1].toNat : Int) == 39) = true := beq_iff_eq.2 hg
    clear hg
    go_enter Tryz.func177, Tryz.ntmps177
    go_wp2
    go_ret3
    exact ⟨by rw [HF.out]; exact zeQ rfl (by omega), rfl⟩
   ·have e92 : ((s[i + 1].toNat : Int) == 92) = false := bF (by omega)
    have e39 : ((s[i + 1].toNat : Int) == 39) = false := bF (by omega)
    have e34 : ((s[i + 1].toNat : Int) == 34) = true := beq_iff_eq.2 hg
    clear hg
    go_enter Tryz.func177, Tryz.ntmps177
    go_wp2
    go_ret3
    exact ⟨by rw [HF.out]; exact zeQ rfl (by omega), rfl⟩
  have e92 : ((s[i + 1].toNat : Int) == 92) = false := bF (by omega)
  have e39 : ((s[i + 1].toNat : Int) == 39) = false := bF (by omega)
  have e34 : ((s[i + 1].toNat : Int) == 34) = false := bF (by omega)
  by_cases h120 : (s[i + 1].toNat : Int) = 120
  ·have HF : Hid (zax s i = zaZ s i) := (by show zax s i = _; rw [HE.out]; rw [if_neg h110, if_neg h114, if_neg h116, if_neg hg, if_pos h120])
   have e120 : ((s[i + 1].toNat : Int) == 120) = true := beq_iff_eq.2 h120
   clear HE h110 h114 h116 h120 hg
   go_enter Tryz.func177, Tryz.ntmps177
   go_wp2_with fail
   refine (HX.out _).mono ?_
   rintro e w' ⟨rfl, rfl⟩
   cases hq : zaZ s i with
   | none =>
    rw [hq] at HF
    clear HX hq
    dsimp only [esV]
    go_wp2
    go_ret3
    exact ⟨by rw [HF.out]; rfl, rfl⟩
   | some q =>
    obtain ⟨qb, qn⟩ := q
    rw [hq] at HF
    clear HX hq
    dsimp only [esV]
    go_wp2
    go_ret3
    exact ⟨by rw [HF.out]; rfl, rfl⟩
  have e120 : ((s[i + 1].toNat : Int) == 120) = false := bF h120
  have HF : Hid (zax s i = none) := (by show zax s i = _; rw [HE.out]; rw [if_neg h110, if_neg h114, if_neg h116, if_neg hg, if_neg h120])
  clear HE HX h110 h114 h116 h120 hg
  go_enter Tryz.func177, Tryz.ntmps177
  go_wp2
  go_ret3
  exact ⟨by rw [HF.out]; rfl, rfl⟩
 ·have HE : Hid (zax s i = none) := (by show zax s i = none; unfold zax; rw [zat h]; rfl)
  have h1 : ¬ (i : Int) + 1 < (s.size : Int) := by omega
  go_enter Tryz.func177, Tryz.ntmps177
  go_wp2
  go_ret3
  exact ⟨by rw [HE.out]; rfl, rfl⟩
theorem zgC (s : ByteArray) (i : Nat) (h : i < s.size) (hs : s.size <= 140737488355328) (w : World) :
  Calls Tryz.prog 159 #[.string s, .int .i64 i] w fun e w' => e = .returned (byV (zaX s i)) /\ w' = w := by
 have HX : Hid (∀ w, Calls Tryz.prog 177 #[.string s, .int .i64 i] w fun e w' => e = .returned (esV (zax s i)) /\ w' = w) := fun w => zdn s i h hs w
 have hb : (0 : Int) <= (s[i].toNat : Int) /\ (s[i].toNat : Int) <= 255 := by have := s[i].toNat_lt; omega
 have HE : Hid (zaX s i = if (s[i].toNat : Int) = 92 then (match zax s i with | none => .inr (i, 21) | some p => .inl p) else if (s[i].toNat : Int) < 32 ∨ (s[i].toNat : Int) = 127 then .inr (i, 22) else .inl ((s[i].toNat : Int), i + 1)) := (by show zaX s i = _; unfold zaX; rw [zal h]; rfl)
 by_cases h92 : (s[i].toNat : Int) = 92
 ·have e92 : ((s[i].toNat : Int) == 92) = true := beq_iff_eq.2 h92
  have HF : Hid (zaX s i = (match zax s i with | none => .inr (i, 21) | some p => .inl p)) := (by show zaX s i = _; rw [HE.out, if_pos h92])
  clear HE h92
  go_enter Tryz.func159, Tryz.ntmps159
  go_wp2_with fail
  refine (HX.out _).mono ?_
  rintro e w' ⟨rfl, rfl⟩
  cases hq : zax s i with
  | none =>
   rw [hq] at HF
   clear HX hq
   dsimp only [esV]
   go_wp2
   go_ret3
   exact ⟨by rw [HF.out]; rfl, rfl⟩
  | some q =>
   obtain ⟨qb, qn⟩ := q
   rw [hq] at HF
   clear HX hq
   dsimp only [esV]
   go_wp2
   go_ret3
   exact ⟨by rw [HF.out]; rfl, rfl⟩
 ·have e92 : ((s[i].toNat : Int) == 92) = false := bF h92
  clear HX
  by_cases h32 : (s[i].toNat : Int) < 32
  ·have HF : Hid (zaX s i = .inr (i, 22)) := (by show zaX s i = _; rw [HE.out, if_neg h92, if_pos (.inl h32)])
   clear HE h92
   go_enter Tryz.func159, Tryz.ntmps159
   go_wp2
   go_ret3
   exact ⟨by rw [HF.out]; rfl, rfl⟩
  by_cases h127 : (s[i].toNat : Int) = 127
  ·have HF : Hid (zaX s i = .inr (i, 22)) := (by show zaX s i = _; rw [HE.out, if_neg h92, if_pos (.inr h127)])
   have e127 : ((s[i].toNat : Int) == 127) = true := beq_iff_eq.2 h127
   clear HE h92 h127
   go_enter Tryz.func159, Tryz.ntmps159
   go_wp2
   go_ret3
   exact ⟨by rw [HF.out]; rfl, rfl⟩
  ·have HF : Hid (zaX s i = .inl ((s[i].toNat : Int), i + 1)) := (by show zaX s i = _; rw [HE.out, if_neg h92, if_neg (by omega)])
   have e127 : ((s[i].toNat : Int) == 127) = false := bF h127
   clear HE h92 h127
   go_enter Tryz.func159, Tryz.ntmps159
   go_wp2
   go_ret3
   exact ⟨by rw [HF.out]; exact ret_by rfl (by omega), rfl⟩
end Go.Proofs.YtkihfkcmcdiajaaGreatDoor.Q
