/- DERIVED. Plain mathematics and walks, laid together (3). -/
import Derived.Deep.AppendLies
import Derived.LoopN
import Derived.WalkKit
import Derived.Test.YtkihfkcmcdiajaaGreatDoorRows
import Derived.Test.YtkihfkcmcdiajaaGreatDoorPb02
set_option maxRecDepth 100000
set_option maxHeartbeats 8000000
namespace Go.Proofs.YtkihfkcmcdiajaaGreatDoor
open Go.RowKit
theorem zgY (s : ByteArray) (a : Nat) (hs : s.size <= 140737488355328) (ha : a <= 140737488355400) (w : World) : Calls Tryz.prog 120 #[.string s, .int .i64 a] w fun e w' => e = .returned (.int .i64 (zbT s a)) /\ w' = w := by
 have HX : Hid (∀ k (h : k < s.size) w, Calls Tryz.prog 115 #[.int .u8 (s[k].toNat : Int)] w fun e w' => e = .returned (.int .i64 (zaH (chr s k))) /\ w' = w) := fun k h w => by
  have := zbN s[k] w
  rw [<- zal h] at this
  rw [<- zal h]
  exact this
 have H0 : Hid (hx7 s a 7 = zbT s a) := rfl
 go_enter Tryz.func120, Tryz.ntmps120
 go_wp2_with fail
 go_loopw [5] (fun t wr => ∃ i m : Nat, t = .int .i64 i /\ i + m <= a + 7 /\ a + 7 <= i + m /\ wr = w /\ Hid (hx7 s i m = zbT s a)) (fun t _ => a + 7 - (intOf t).toNat)
 case atStart => exact ⟨a, 7, rfl, by omega, by omega, rfl, H0⟩
 case round =>
  obtain ⟨i, m, rfl, hm1, hm2, rfl, HI⟩ := hrel
  clear H0
  have z0 : (0 : Int) <= (i : Int) := by omega
  by_cases h1 : i < s.size
  ·have t1 : decide (i < s.size) = true := decide_eq_true h1
   have z1 : (i : Int) < (s.size : Int) := by omega
   cases m with
   | zero =>
    have HE : Hid (zbT s a = i) := HI.out.symm
    have t3 : ¬ (i : Int) < (a : Int) + 7 := by omega
    clear HX HI
    go_wp2_with fail
    go_ret
    exact ⟨by rw [HE.out]; rfl, rfl⟩
   | succ m =>
    have t3 : (i : Int) < (a : Int) + 7 := by omega
    have HXi := hO (HX.out i h1)
    clear HX
    by_cases hx : 0 <= zaH (chr s i)
    ·have HE : Hid (hx7 s (i + 1) m = zbT s a) := by show _ = zbT s a; rw [<- HI.out, hx7, if_pos hx]
     clear HI
     go_wp2_with fail
     refine (HXi.out _).mono ?_
     rintro e w ⟨rfl, rfl⟩
     clear HXi
     go_wp2_with fail
     go_roundw
     case rel => exact ⟨i + 1, m, by go_num, by omega, by omega, trivial, HE⟩
     case measure => simp [intOf]; omega
    ·have HE : Hid (zbT s a = i) := by show zbT s a = _; rw [<- HI.out, hx7, if_neg hx]
     clear HI
     go_wp2_with fail
     refine (HXi.out _).mono ?_
     rintro e w ⟨rfl, rfl⟩
     clear HXi
     go_wp2_with fail
     go_ret
     exact ⟨by rw [HE.out]; rfl, rfl⟩
  ·have t1 : ¬ (i : Int) < (s.size : Int) := by omega
   have HE : Hid (zbT s a = i) := by
    show zbT s a = _
    rw [<- HI.out]
    cases m with
    | zero => rfl
    | succ m => rw [hx7, zat h1, if_neg (by decide)]
   clear HX HI
   go_wp2_with fail
   go_ret
   exact ⟨by rw [HE.out]; rfl, rfl⟩
theorem zon (s : ByteArray) (i : Nat) (hs : s.size <= 140737488355328) (hi : i <= s.size) (w : World) : Calls Tryz.prog 35 #[.string s, .int .i64 i] w fun e w' => e = .returned (.int .i64 (zbm s i)) /\ w' = w := by
 have HA : Hid (∀ k w, Calls Tryz.prog 55 #[.string s, .int .i64 (((k : Nat) : Int) + 1)] w fun e w' => e = .returned (.int .i64 (chr s (k + 1))) /\ w' = w) := fun k w => za0 s (k + 1) w
 have H0 : Hid (zfl s (s.size + 1) i = zbm s i) := rfl
 go_enter Tryz.func35, Tryz.ntmps35
 go_wp2_with fail
 go_loopw [1] (fun t wr => ∃ k f : Nat, t = .int .i64 k /\ k <= s.size /\ s.size < f + k /\ wr = w /\ Hid (zfl s f k = zbm s i)) (fun t _ => s.size - (intOf t).toNat)
 case atStart => exact ⟨i, s.size + 1, rfl, hi, by omega, rfl, H0⟩
 case round =>
  obtain ⟨k, f, rfl, hk, hf, rfl, HI⟩ := hrel
  clear H0
  have z0 : (0 : Int) <= (k : Int) := by omega
  obtain ⟨f, rfl⟩ : ∃ g, f = g + 1 := ⟨f - 1, by omega⟩
  by_cases h1 : k < s.size
  ·have z1 : (k : Int) < (s.size : Int) := by omega
   have hck := zal h1
   have HU : Hid (zbm s i = if chr s k = 45 /\ chr s (k + 1) = 45 then zfl s f (spN lnB s k) else if chr s k = 9 ∨ chr s k = 10 ∨ chr s k = 13 ∨ chr s k = 32 then zfl s f (k + 1) else k) := by show zbm s i = _; rw [<- HI.out, zfl, if_pos h1]
   clear HI
   by_cases h45 : chr s k = 45
   ·have t1 : ((s[k].toNat : Int) == 45) = true := by rw [<- hck, h45]; rfl
    have u9 : ((s[k].toNat : Int) == 9) = false := by rw [<- hck, h45]; rfl
    have u10 : ((s[k].toNat : Int) == 10) = false := by rw [<- hck, h45]; rfl
    have u13 : ((s[k].toNat : Int) == 13) = false := by rw [<- hck, h45]; rfl
    have u32 : ((s[k].toNat : Int) == 32) = false := by rw [<- hck, h45]; rfl
    clear hck
    by_cases h46 : chr s (k + 1) = 45
    ·have t2 : (chr s (k + 1) == 45) = true := by rw [h46]; rfl
     have hsp := zbd lnB s (by decide) _ k rfl
     have hnx := (za3 (P := lnB) (s := s) (i := k) (by decide) (by rw [h45]; rfl)).2
     have hg2 := za4 lnB s (by decide) (k + 1)
     obtain ⟨g, hg⟩ : ∃ g, g = spN lnB s k := ⟨_, rfl⟩
     rw [<- hg] at hsp hnx
     have HE : Hid (zfl s f g = zbm s i) := by show _ = zbm s i; rw [HU.out, if_pos ⟨h45, h46⟩, hg]
     have hg1 : k < g := by omega
     have hg3 : g <= s.size := hsp.2.1 hk
     have HN : Hid (∀ j, lnB (chr s j) = true -> spN lnB s j = spN lnB s (j + 1)) := fun j h => (za3 (by decide) h).2
     have HS : Hid (∀ j, lnB (chr s j) = false -> spN lnB s j = j) := fun j h => zbq h
     have H1 : Hid (spN lnB s k = g) := hg.symm
     clear HU hsp hnx hg2 h45 h46 hg
     go_wp2_with fail
     refine (HA.out _ _).mono ?_
     rintro e w ⟨rfl, rfl⟩
     go_wp2_with fail
     go_loopw [1] (fun t wr => ∃ j : Nat, t = .int .i64 j /\ j <= s.size /\ wr = w /\ Hid (spN lnB s j = g)) (fun t _ => s.size - (intOf t).toNat)
     case atStart => exact ⟨k, rfl, hk, rfl, H1⟩
     case round =>
      obtain ⟨j, rfl, hj, rfl, HJ⟩ := hrel
      clear H1
      have y0 : (0 : Int) <= (j : Int) := by omega
      by_cases hj1 : j < s.size
      ·have y1 : (j : Int) < (s.size : Int) := by omega
       have hcj := zal hj1
       have hcl := zbg s j
       by_cases h10 : chr s j = 10
       ·have HG : Hid (j = g) := by show j = g; rw [<- HJ.out]; exact (HS.out j (by rw [h10]; rfl)).symm
        have v1 : ((s[j].toNat : Int) != 10) = false := by rw [<- hcj, h10]; rfl
        clear HJ HN HS hcj h10 HA
        go_wp2_with fail
        go_roundw
        case rel => exact ⟨j, f, rfl, hj, by have := HG.out; omega, trivial, by rw [HG.out]; exact HE⟩
        case measure => have := HG.out; simp [intOf]; omega
       ·have HG : Hid (spN lnB s (j + 1) = g) := by
         show _ = g
         rw [<- HJ.out]
         refine (HN.out j ?_).symm
         unfold lnB
         rw [decide_eq_true (by rw [hcj]; omega), bF h10]
         rfl
        have v1 : ((s[j].toNat : Int) != 10) = true := by rw [<- hcj, bne, bF h10]; rfl
        clear HJ HN HS hcj h10 HA HE
        go_wp2_with fail
        go_roundw
        case rel => exact ⟨j + 1, by go_num, by omega, trivial, HG⟩
        case measure => simp [intOf]; omega
      ·obtain rfl : j = s.size := by omega
       have y1 : ¬ (s.size : Int) < (s.size : Int) := by omega
       have HG : Hid (s.size = g) := by show s.size = g; rw [<- HJ.out]; exact (HS.out s.size (by rw [zat (by omega)]; rfl)).symm
       clear HJ HN HS HA
       go_wp2_with fail
       go_roundw
       case rel => exact ⟨s.size, f, rfl, by omega, by have := HG.out; omega, trivial, by rw [HG.out]; exact HE⟩
       case measure => have := HG.out; simp [intOf]; omega
    ·have t2 : (chr s (k + 1) == 45) = false := bF h46
     have HE : Hid (zbm s i = k) := by show zbm s i = _; rw [HU.out, if_neg (fun q => h46 q.2), if_neg (by omega)]
     clear HU h45 h46
     go_wp2_with fail
     refine (HA.out _ _).mono ?_
     rintro e w ⟨rfl, rfl⟩
     clear HA
     go_wp2_with fail
     go_ret
     exact ⟨by rw [HE.out]; rfl, rfl⟩
   ·have t1 : ((s[k].toNat : Int) == 45) = false := by rw [<- hck]; exact bF h45
    by_cases hbl : chr s k = 9 ∨ chr s k = 10 ∨ chr s k = 13 ∨ chr s k = 32
    ·have HE : Hid (zfl s f (k + 1) = zbm s i) := by show _ = zbm s i; rw [HU.out, if_neg (fun q => h45 q.1), if_pos hbl]
     clear HU HA h45
     rcases hbl with q | q | q | q
     ·have u9 : ((s[k].toNat : Int) == 9) = true := by rw [<- hck, q]; rfl
      clear hck q
      go_wp2_with fail
      go_roundw
      case rel => exact ⟨k + 1, f, by go_num, by omega, by omega, trivial, HE⟩
      case measure => simp [intOf]; omega
     ·have u9 : ((s[k].toNat : Int) == 9) = false := by rw [<- hck, q]; rfl
      have u10 : ((s[k].toNat : Int) == 10) = true := by rw [<- hck, q]; rfl
      clear hck q
      go_wp2_with fail
      go_roundw
      case rel => exact ⟨k + 1, f, by go_num, by omega, by omega, trivial, HE⟩
      case measure => simp [intOf]; omega
     ·have u9 : ((s[k].toNat : Int) == 9) = false := by rw [<- hck, q]; rfl
      have u10 : ((s[k].toNat : Int) == 10) = false := by rw [<- hck, q]; rfl
      have u13 : ((s[k].toNat : Int) == 13) = true := by rw [<- hck, q]; rfl
      clear hck q
      go_wp2_with fail
      go_roundw
      case rel => exact ⟨k + 1, f, by go_num, by omega, by omega, trivial, HE⟩
      case measure => simp [intOf]; omega
     ·have u9 : ((s[k].toNat : Int) == 9) = false := by rw [<- hck, q]; rfl
      have u10 : ((s[k].toNat : Int) == 10) = false := by rw [<- hck, q]; rfl
      have u13 : ((s[k].toNat : Int) == 13) = false := by rw [<- hck, q]; rfl
      have u32 : ((s[k].toNat : Int) == 32) = true := by rw [<- hck, q]; rfl
      clear hck q
      go_wp2_with fail
      go_roundw
      case rel => exact ⟨k + 1, f, by go_num, by omega, by omega, trivial, HE⟩
      case measure => simp [intOf]; omega
    ·have HE : Hid (zbm s i = k) := by show zbm s i = _; rw [HU.out, if_neg (fun q => h45 q.1), if_neg hbl]
     have u9 : ((s[k].toNat : Int) == 9) = false := by rw [<- hck, beq_eq_false_iff_ne]; omega
     have u10 : ((s[k].toNat : Int) == 10) = false := by rw [<- hck, beq_eq_false_iff_ne]; omega
     have u13 : ((s[k].toNat : Int) == 13) = false := by rw [<- hck, beq_eq_false_iff_ne]; omega
     have u32 : ((s[k].toNat : Int) == 32) = false := by rw [<- hck, beq_eq_false_iff_ne]; omega
     clear HU HA h45 hck hbl
     go_wp2_with fail
     go_ret
     exact ⟨by rw [HE.out]; rfl, rfl⟩
  ·obtain rfl : k = s.size := by omega
   have t1 : ¬ (s.size : Int) < (s.size : Int) := by omega
   have HE : Hid (zbm s i = s.size) := by show zbm s i = _; rw [<- HI.out, zfl, if_neg (by omega)]
   clear HI HA
   go_wp2_with fail
   go_ret
   exact ⟨by rw [HE.out]; rfl, rfl⟩
def esV (i : Nat) : Option (Nat × Nat) -> Value
 | some p => .tuple #[.int .i64 p.1, .int .i64 p.2]
 | none => .tuple #[.int .i64 (-1), .int .i64 i]
theorem ziC (s : ByteArray) (i : Nat) (hs : s.size <= 140737488355328) (hi : i <= s.size) (w : World) : Calls Tryz.prog 86 #[.string s, .int .i64 i] w fun e w' => e = .returned (esV i (zck s i)) /\ w' = w := by
 have HA : Hid (∀ w, Calls Tryz.prog 55 #[.string s, .int .i64 ((i : Int) + 1)] w fun e w' => e = .returned (.int .i64 (chr s (i + 1))) /\ w' = w) := fun w => za0 s (i + 1) w
 have HX : Hid (∀ k (h : k < s.size) w, Calls Tryz.prog 115 #[.int .u8 (s[k].toNat : Int)] w fun e w' => e = .returned (.int .i64 (zaH (chr s k))) /\ w' = w) := fun k h w => by
  have := zbN s[k] w
  rw [<- zal h] at this
  rw [<- zal h]
  exact this
 have hd0 := zbg s (i + 1)
 by_cases h110 : chr s (i + 1) = 110
 ·have HE : Hid (zck s i = some (10, i + 2)) := by show zck s i = _; unfold zck; rw [if_pos h110]
  have t1 : (chr s (i + 1) == 110) = true := by rw [h110]; rfl
  clear HX h110
  go_enter Tryz.func86, Tryz.ntmps86
  go_wp2_with fail
  refine (HA.out _).mono ?_
  rintro e w ⟨rfl, rfl⟩
  clear HA
  go_wp2_with fail
  go_ret2
  exact ⟨by rw [HE.out]; rfl, rfl⟩
 have t1 : (chr s (i + 1) == 110) = false := bF h110
 by_cases h114 : chr s (i + 1) = 114
 ·have HE : Hid (zck s i = some (13, i + 2)) := by show zck s i = _; unfold zck; rw [if_neg h110, if_pos h114]
  have t2 : (chr s (i + 1) == 114) = true := by rw [h114]; rfl
  clear HX h110 h114
  go_enter Tryz.func86, Tryz.ntmps86
  go_wp2_with fail
  refine (HA.out _).mono ?_
  rintro e w ⟨rfl, rfl⟩
  clear HA
  go_wp2_with fail
  go_ret2
  exact ⟨by rw [HE.out]; rfl, rfl⟩
 have t2 : (chr s (i + 1) == 114) = false := bF h114
 by_cases h116 : chr s (i + 1) = 116
 ·have HE : Hid (zck s i = some (9, i + 2)) := by show zck s i = _; unfold zck; rw [if_neg h110, if_neg h114, if_pos h116]
  have t3 : (chr s (i + 1) == 116) = true := by rw [h116]; rfl
  clear HX h110 h114 h116
  go_enter Tryz.func86, Tryz.ntmps86
  go_wp2_with fail
  refine (HA.out _).mono ?_
  rintro e w ⟨rfl, rfl⟩
  clear HA
  go_wp2_with fail
  go_ret2
  exact ⟨by rw [HE.out]; rfl, rfl⟩
 have t3 : (chr s (i + 1) == 116) = false := bF h116
 by_cases hq : chr s (i + 1) = 92 ∨ chr s (i + 1) = 39 ∨ chr s (i + 1) = 34
 ·have HE : Hid (zck s i = some ((chr s (i + 1)).toNat, i + 2)) := by show zck s i = _; unfold zck; rw [if_neg h110, if_neg h114, if_neg h116, if_pos hq]
  have HC : Hid (((chr s (i + 1)).toNat : Int) = chr s (i + 1)) := by show ((chr s (i + 1)).toNat : Int) = _; omega
  rcases hq with q | q | q
  ·have t4 : (chr s (i + 1) == 92) = true := by rw [q]; rfl
   clear HX h110 h114 h116 q hd0
   go_enter Tryz.func86, Tryz.ntmps86
   go_wp2_with fail
   refine (HA.out _).mono ?_
   rintro e w ⟨rfl, rfl⟩
   clear HA
   go_wp2_with fail
   go_ret2
   exact ⟨by rw [HE.out]; show _ = Ending.returned (.tuple #[.int .i64 ((chr s (i + 1)).toNat : Int), _]); rw [HC.out]; rfl, rfl⟩
  ·have t4 : (chr s (i + 1) == 92) = false := by rw [q]; rfl
   have t5 : (chr s (i + 1) == 39) = true := by rw [q]; rfl
   clear HX h110 h114 h116 q hd0
   go_enter Tryz.func86, Tryz.ntmps86
   go_wp2_with fail
   refine (HA.out _).mono ?_
   rintro e w ⟨rfl, rfl⟩
   clear HA
   go_wp2_with fail
   go_ret2
   exact ⟨by rw [HE.out]; show _ = Ending.returned (.tuple #[.int .i64 ((chr s (i + 1)).toNat : Int), _]); rw [HC.out]; rfl, rfl⟩
  ·have t4 : (chr s (i + 1) == 92) = false := by rw [q]; rfl
   have t5 : (chr s (i + 1) == 39) = false := by rw [q]; rfl
   have t6 : (chr s (i + 1) == 34) = true := by rw [q]; rfl
   clear HX h110 h114 h116 q hd0
   go_enter Tryz.func86, Tryz.ntmps86
   go_wp2_with fail
   refine (HA.out _).mono ?_
   rintro e w ⟨rfl, rfl⟩
   clear HA
   go_wp2_with fail
   go_ret2
   exact ⟨by rw [HE.out]; show _ = Ending.returned (.tuple #[.int .i64 ((chr s (i + 1)).toNat : Int), _]); rw [HC.out]; rfl, rfl⟩
 have t4 : (chr s (i + 1) == 92) = false := by rw [beq_eq_false_iff_ne]; omega
 have t5 : (chr s (i + 1) == 39) = false := by rw [beq_eq_false_iff_ne]; omega
 have t6 : (chr s (i + 1) == 34) = false := by rw [beq_eq_false_iff_ne]; omega
 have HB : Hid (zck s i = if chr s (i + 1) = 120 /\ 0 <= zaH (chr s (i + 2)) /\ 0 <= zaH (chr s (i + 3)) then some ((16 * zaH (chr s (i + 2)) + zaH (chr s (i + 3))).toNat, i + 4) else none) := by show zck s i = _; unfold zck; rw [if_neg h110, if_neg h114, if_neg h116, if_neg hq]
 clear h110 h114 h116 hq
 by_cases h120 : chr s (i + 1) = 120
 ·have t7 : (chr s (i + 1) == 120) = true := by rw [h120]; rfl
  by_cases h3 : i + 3 < s.size
  ·have z3 : (i : Int) + 3 < (s.size : Int) := by omega
   have y0 : (0 : Int) <= (i : Int) + 2 := by omega
   have y1 : (i : Int) + 2 < (s.size : Int) := by omega
   have y2 : (0 : Int) <= (i : Int) + 3 := by omega
   have HX2 := hO (HX.out (i + 2) (by omega))
   have HX3 := hO (HX.out (i + 3) h3)
   by_cases hx2 : 0 <= zaH (chr s (i + 2))
   ·by_cases hx3 : 0 <= zaH (chr s (i + 3))
    ·have HE : Hid (zck s i = some ((16 * zaH (chr s (i + 2)) + zaH (chr s (i + 3))).toNat, i + 4)) := by show zck s i = _; rw [HB.out, if_pos ⟨h120, hx2, hx3⟩]
     have HC : Hid (((16 * zaH (chr s (i + 2)) + zaH (chr s (i + 3))).toNat : Int) = zaB s (i + 2) 16 2) := by
      show ((16 * zaH (chr s (i + 2)) + zaH (chr s (i + 3))).toNat : Int) = _
      rw [zaB, zaB, zaB, Nat.add_zero, show i + 2 + 1 = i + 3 from rfl]
      omega
     have HW : Hid (∀ w, Calls Tryz.prog 85 #[.string (s.extract (i + 2) (i + 4)), .int .i64 16] w fun e w' => e = .returned (.int .i64 (zaB s (i + 2) 16 2)) /\ w' = w) := fun w => by
      have hsz : (s.extract (i + 2) (i + 4)).size = 2 := by rw [ByteArray.size_extract]; omega
      have h := zdt (s.extract (i + 2) (i + 4)) 16 (by omega) (by omega) w
      rw [hsz, zcF (by omega) 2 (by omega)] at h
      exact h
     have y3 : (i : Int) + 2 <= (i : Int) + 4 := by omega
     have y4 : (i : Int) + 4 <= (s.size : Int) := by omega
     clear HX HB h120
     go_enter Tryz.func86, Tryz.ntmps86
     go_wp2_with fail
     refine (HA.out _).mono ?_
     rintro e w ⟨rfl, rfl⟩
     clear HA
     go_wp2_with fail
     refine (HX2.out _).mono ?_
     rintro e w ⟨rfl, rfl⟩
     go_wp2_with fail
     refine (HX3.out _).mono ?_
     rintro e w ⟨rfl, rfl⟩
     clear HX2 HX3
     go_wp2_with fail
     refine (HW.out _).mono ?_
     rintro e w ⟨rfl, rfl⟩
     clear HW
     go_wp2_with fail
     go_ret2
     exact ⟨by rw [HE.out]; show _ = Ending.returned (.tuple #[.int .i64 ((16 * zaH (chr s (i + 2)) + zaH (chr s (i + 3))).toNat : Int), _]); rw [HC.out]; rfl, rfl⟩
    ·have HE : Hid (zck s i = none) := by show zck s i = _; rw [HB.out, if_neg (fun q => hx3 q.2.2)]
     clear HX HB h120
     go_enter Tryz.func86, Tryz.ntmps86
     go_wp2_with fail
     refine (HA.out _).mono ?_
     rintro e w ⟨rfl, rfl⟩
     clear HA
     go_wp2_with fail
     refine (HX2.out _).mono ?_
     rintro e w ⟨rfl, rfl⟩
     go_wp2_with fail
     refine (HX3.out _).mono ?_
     rintro e w ⟨rfl, rfl⟩
     clear HX2 HX3
     go_wp2_with fail
     go_ret2
     exact ⟨by rw [HE.out]; rfl, rfl⟩
   ·have HE : Hid (zck s i = none) := by show zck s i = _; rw [HB.out, if_neg (fun q => hx2 q.2.1)]
    clear HX HB h120
    go_enter Tryz.func86, Tryz.ntmps86
    go_wp2_with fail
    refine (HA.out _).mono ?_
    rintro e w ⟨rfl, rfl⟩
    clear HA
    go_wp2_with fail
    refine (HX2.out _).mono ?_
    rintro e w ⟨rfl, rfl⟩
    clear HX2 HX3
    go_wp2_with fail
    go_ret2
    exact ⟨by rw [HE.out]; rfl, rfl⟩
  ·have z3 : ¬ (i : Int) + 3 < (s.size : Int) := by omega
   have HE : Hid (zck s i = none) := by
    show zck s i = _
    rw [HB.out, if_neg (fun q => ?_)]
    have := zel q.2.2
    omega
   clear HX HB h120
   go_enter Tryz.func86, Tryz.ntmps86
   go_wp2_with fail
   refine (HA.out _).mono ?_
   rintro e w ⟨rfl, rfl⟩
   clear HA
   go_wp2_with fail
   go_ret2
   exact ⟨by rw [HE.out]; rfl, rfl⟩
 ·have t7 : (chr s (i + 1) == 120) = false := bF h120
  have HE : Hid (zck s i = none) := by show zck s i = _; rw [HB.out, if_neg (fun q => h120 q.1)]
  clear HX HB h120
  go_enter Tryz.func86, Tryz.ntmps86
  go_wp2_with fail
  refine (HA.out _).mono ?_
  rintro e w ⟨rfl, rfl⟩
  clear HA
  go_wp2_with fail
  go_ret2
  exact ⟨by rw [HE.out]; rfl, rfl⟩
theorem zoo {s : ByteArray} {i c n : Nat} (h : zck s i = some (c, n)) : c < 256 /\ i < n /\ n <= s.size := by
 unfold zck at h
 have hc := zbg s (i + 1)
 have hx2 := zbh (chr s (i + 2))
 have hx3 := zbh (chr s (i + 3))
 have hl : 0 <= chr s (i + 1) -> i + 1 < s.size := zau
 split at h; (simp at h; omega)
 split at h; (simp at h; omega)
 split at h; (simp at h; omega)
 split at h; (simp at h; omega)
 split at h
 ·rename_i q
  have := zel q.2.2
  simp at h
  omega
 ·simp at h
theorem zbV {W : World} {B e s n : Nat} {v : Value} {xs : List Value} (h : W.ownsRow B e s v n xs) : ∃ A c, v = .slice A n c := by
 rcases h.2 with ⟨rfl, h0⟩ | ⟨g, cap, cur, rfl, _⟩
 ·exact ⟨none, 0, by rw [h0]⟩
 ·exact ⟨_, cap, rfl⟩
theorem TX.grown {W W' : World} {b : Nat} {t : Tk} {X : Option Nat} (h : TX W b t) (hg : W.grownBy W' X) (hx : X ≠ some b) : TX W' b t := h.same (hg.block b h.lt (fun e => hx e.symm))
structure AtT (w wr : World) (s : ByteArray) (b : Nat) (v : Value) (out : List Int) (i f : Nat) : Prop where
 hb : Below w.heap.size w wr
 hx : TX wr w.heap.size tk0
 ho : wr.ownsRow (w.heap.size + 1) 5 1 v out.length (out.map (Value.int .u8))
 hi : i <= s.size
 hf : s.size < f + i
 he : zbs s (chr s b) b f out i = zbZ s b
 hl : out.length <= i
theorem zeA (s : ByteArray) (b : Nat) (hs : s.size <= 140737488355000) (hb : b < s.size) (w : World) : Calls Tryz.prog 62 #[.string s, .int .i64 b] w fun e w' => e = .returned (zcG (zbZ s b)) /\ Below w.heap.size w w' := by
 obtain ⟨i0, hinf, hz0, hz1, hz2⟩ := info_parts Tryz.info5
 have HWr : Hid (∀ i e w, Calls Tryz.prog 58 #[.int .i64 i, .int .i64 e] w fun e' w' => e' = .returned (.tuple #[tkG tk0, .int .i64 i, .int .i64 e]) /\ Below w.heap.size w w') := fun i e w => zbO i e w
 have HA : Hid (∀ k w, Calls Tryz.prog 55 #[.string s, .int .i64 ((k : Nat) : Int)] w fun e w' => e = .returned (.int .i64 (chr s k)) /\ w' = w) := fun k w => za0 s k w
 have HEs : Hid (∀ k w, k <= s.size -> Calls Tryz.prog 86 #[.string s, .int .i64 ((k : Nat) : Int)] w fun e w' => e = .returned (esV k (zck s k)) /\ w' = w) := fun k w hk => ziC s k (by omega) hk w
 have H0 : Hid (AtT w (w.alloc (tkO tk0)) s b (.slice none 0 0) [] (b + 1) (s.size + 1)) := ⟨zaa _ _, TX.new _ _, World.ownsRow_nil _ _ _ _, by omega, by omega, rfl, Nat.zero_le _⟩
 have zb0 : (0 : Int) <= (b : Int) := by omega
 have zb1 : (b : Int) < (s.size : Int) := by omega
 have hqb := zal hb
 have hwb : wrap64 (s[b].toNat : Int) = chr s b := by rw [hqb]; have := (s[b]).toNat_lt; unfold wrap64; omega
 clear hqb
 go_enter Tryz.func62, Tryz.ntmps62
 go_wp2_with fail
 go_loopw [7, 8] (fun v t wr => ∃ (out : List Int) (i f : Nat), t = .int .i64 i /\ Hid (AtT w wr s b v out i f)) (fun _ t _ => s.size + 1 - (intOf t).toNat)
 case atStart => exact ⟨[], b + 1, s.size + 1, by go_num, H0⟩
 case round =>
  obtain ⟨out, i, f, rfl, HW⟩ := hrel
  clear H0
  have hi := HW.out.hi
  have hf := HW.out.hf
  have hol := HW.out.hl
  obtain ⟨f, rfl⟩ : ∃ g, f = g + 1 := ⟨f - 1, by omega⟩
  have HS : Hid (zbs s (chr s b) b (f + 1) out i = zbZ s b) := HW.out.he
  have HU : Hid (zbs s (chr s b) b (f + 1) out i = if chr s i < 0 then .inr (b, 52) else if chr s i = chr s b then (if 255 < out.length then .inr (b, 2) else .inl ⟨2, 0, b, i + 1, zaj out, 0, 0, 0, 0⟩)
   else if chr s i < 32 ∨ chr s i = 127 then .inr (i, 50) else if chr s i ≠ 92 then zbs s (chr s b) b f (out ++ [chr s i]) (i + 1)
   else match zck s i with
    | none => .inr (i, 51)
    | some (c, n) => zbs s (chr s b) b f (out ++ [(c : Int)]) n) := rfl
  go_wp2_with fail
  refine (HA.out _ _).mono ?_
  rintro e wr ⟨rfl, rfl⟩
  have hcl := zbg s i
  by_cases h1 : chr s i < 0
  ·have HE : Hid (zbZ s b = .inr (b, 52)) := by show zbZ s b = _; rw [<- HS.out, HU.out, if_pos h1]
   have t1 : decide (chr s i < 0) = true := decide_eq_true h1
   clear HS HU HA HEs
   go_wp2_with fail
   refine (HWr.out _ _ _).mono ?_
   rintro e w3 ⟨rfl, b3⟩
   have HX3 : Hid (TX w3 w.heap.size tk0) := HW.out.hx.below b3
   have HB3 : Hid (Below w.heap.size w w3) := HW.out.hb.trans (b3.mono HW.out.hb.size)
   clear b3 HWr HW
   obtain ⟨c0, c1, c2, c3, c4, c5, c6, c7, c8⟩ := HX3.out.cells
   obtain ⟨f0, f1, f2, f3, f4, f5, f6, f7, f8⟩ := HX3.out.fz
   go_wp2_with fail
   exact zah rfl rfl rfl rfl rfl (zar HX3.out tk0) ⟨by rw [HE.out]; rfl, zad HB3.out (Nat.le_refl _) tk0⟩
  have t1 : decide (chr s i < 0) = false := decide_eq_false h1
  by_cases h2 : chr s i = chr s b
  ·have t2 : (chr s i == chr s b) = true := by rw [h2]; simp
   obtain ⟨Av, cv, rfl⟩ := zbV HW.out.ho
   by_cases h3 : 255 < out.length
   ·have t3 : decide (255 < out.length) = true := decide_eq_true h3
    have HE : Hid (zbZ s b = .inr (b, 2)) := by show zbZ s b = _; rw [<- HS.out, HU.out, if_neg h1, if_pos h2, if_pos h3]
    clear HS HU HA HEs
    go_wp2_with fail
    refine (HWr.out _ _ _).mono ?_
    rintro e w3 ⟨rfl, b3⟩
    have HX3 : Hid (TX w3 w.heap.size tk0) := HW.out.hx.below b3
    have HB3 : Hid (Below w.heap.size w w3) := HW.out.hb.trans (b3.mono HW.out.hb.size)
    clear b3 HWr HW
    obtain ⟨c0, c1, c2, c3, c4, c5, c6, c7, c8⟩ := HX3.out.cells
    obtain ⟨f0, f1, f2, f3, f4, f5, f6, f7, f8⟩ := HX3.out.fz
    go_wp2_with fail
    exact zah rfl rfl rfl rfl rfl (zar HX3.out tk0) ⟨by rw [HE.out]; rfl, zad HB3.out (Nat.le_refl _) tk0⟩
   ·have t3 : decide (255 < out.length) = false := decide_eq_false h3
    have HE : Hid (zbZ s b = .inl ⟨2, 0, b, i + 1, zaj out, 0, 0, 0, 0⟩) := by show zbZ s b = _; rw [<- HS.out, HU.out, if_neg h1, if_pos h2, if_neg h3]
    have hcv := zc4 HW.out.ho
    obtain ⟨c0, c1, c2, c3, c4, c5, c6, c7, c8⟩ := HW.out.hx.cells
    obtain ⟨f0, f1, f2, f3, f4, f5, f6, f7, f8⟩ := HW.out.hx.fz
    clear HS HU HA HEs HWr
    go_wp2_with fail
    exact zah rfl rfl rfl rfl rfl (zar HW.out.hx ⟨2, 0, b, i + 1, zaj out, 0, 0, 0, 0⟩) ⟨by rw [HE.out]; rfl, zad HW.out.hb (Nat.le_refl _) ⟨2, 0, b, i + 1, zaj out, 0, 0, 0, 0⟩⟩
  have t2 : (chr s i == chr s b) = false := bF h2
  by_cases h4 : chr s i < 32 ∨ chr s i = 127
  ·have HE : Hid (zbZ s b = .inr (i, 50)) := by show zbZ s b = _; rw [<- HS.out, HU.out, if_neg h1, if_neg h2, if_pos h4]
   by_cases h5 : chr s i < 32
   ·have t3 : decide (chr s i < 32) = true := decide_eq_true h5
    clear HS HU HA HEs
    go_wp2_with fail
    refine (HWr.out _ _ _).mono ?_
    rintro e w3 ⟨rfl, b3⟩
    have HX3 : Hid (TX w3 w.heap.size tk0) := HW.out.hx.below b3
    have HB3 : Hid (Below w.heap.size w w3) := HW.out.hb.trans (b3.mono HW.out.hb.size)
    clear b3 HWr HW
    obtain ⟨c0, c1, c2, c3, c4, c5, c6, c7, c8⟩ := HX3.out.cells
    obtain ⟨f0, f1, f2, f3, f4, f5, f6, f7, f8⟩ := HX3.out.fz
    go_wp2_with fail
    exact zah rfl rfl rfl rfl rfl (zar HX3.out tk0) ⟨by rw [HE.out]; rfl, zad HB3.out (Nat.le_refl _) tk0⟩
   ·have t3 : decide (chr s i < 32) = false := decide_eq_false h5
    have t4 : (chr s i == 127) = true := beq_iff_eq.2 (h4.resolve_left h5)
    clear HS HU HA HEs
    go_wp2_with fail
    refine (HWr.out _ _ _).mono ?_
    rintro e w3 ⟨rfl, b3⟩
    have HX3 : Hid (TX w3 w.heap.size tk0) := HW.out.hx.below b3
    have HB3 : Hid (Below w.heap.size w w3) := HW.out.hb.trans (b3.mono HW.out.hb.size)
    clear b3 HWr HW
    obtain ⟨c0, c1, c2, c3, c4, c5, c6, c7, c8⟩ := HX3.out.cells
    obtain ⟨f0, f1, f2, f3, f4, f5, f6, f7, f8⟩ := HX3.out.fz
    go_wp2_with fail
    exact zah rfl rfl rfl rfl rfl (zar HX3.out tk0) ⟨by rw [HE.out]; rfl, zad HB3.out (Nat.le_refl _) tk0⟩
  have t3 : decide (chr s i < 32) = false := decide_eq_false (by omega)
  have t4 : (chr s i == 127) = false := bF (by omega)
  have hil : i < s.size := zau (by omega)
  by_cases h6 : chr s i = 92
  ·have t5 : (chr s i != 92) = false := by rw [h6]; rfl
   have HV : Hid (zbZ s b = match zck s i with
    | none => .inr (i, 51)
    | some (c, n) => zbs s (chr s b) b f (out ++ [(c : Int)]) n) := by show zbZ s b = _; rw [<- HS.out, HU.out, if_neg h1, if_neg h2, if_neg h4, if_neg (by simp [h6])]
   cases he : zck s i with
   | none =>
    have HE : Hid (zbZ s b = .inr (i, 51)) := by show zbZ s b = _; rw [HV.out, he]
    have HE2 := (show Hid (∀ w, Calls Tryz.prog 86 #[.string s, .int .i64 (i : Int)] w fun e w' => e = .returned (.tuple #[.int .i64 (-1), .int .i64 i]) /\ w' = w) from fun w => by
     have h := HEs.out i w hi
     rw [he] at h
     exact h)
    clear he HV
    go_wp2_with fail
    refine (HE2.out _).mono ?_
    rintro e wr ⟨rfl, rfl⟩
    clear HE2
    clear HS HU HA HEs
    go_wp2_with fail
    refine (HWr.out _ _ _).mono ?_
    rintro e w3 ⟨rfl, b3⟩
    have HX3 : Hid (TX w3 w.heap.size tk0) := HW.out.hx.below b3
    have HB3 : Hid (Below w.heap.size w w3) := HW.out.hb.trans (b3.mono HW.out.hb.size)
    clear b3 HWr HW
    obtain ⟨c0, c1, c2, c3, c4, c5, c6, c7, c8⟩ := HX3.out.cells
    obtain ⟨f0, f1, f2, f3, f4, f5, f6, f7, f8⟩ := HX3.out.fz
    go_wp2_with fail
    exact zah rfl rfl rfl rfl rfl (zar HX3.out tk0) ⟨by rw [HE.out]; rfl, zad HB3.out (Nat.le_refl _) tk0⟩
   | some p =>
    obtain ⟨cc, nn⟩ := p
    have hbd := zoo he
    have HE : Hid (zbs s (chr s b) b f (out ++ [(cc : Int)]) nn = zbZ s b) := by show _ = zbZ s b; rw [HV.out, he]
    have HE2 := (show Hid (∀ w, Calls Tryz.prog 86 #[.string s, .int .i64 (i : Int)] w fun e w' => e = .returned (.tuple #[.int .i64 cc, .int .i64 nn]) /\ w' = w) from fun w => by
     have h := HEs.out i w hi
     rw [he] at h
     exact h)
    have hw8 : IntKind.u8.wrap (cc : Int) = (cc : Int) := by rw [IntKind.wrap_u8']; omega
    have t6 : decide ((cc : Int) < 0) = false := decide_eq_false (by omega)
    clear he HV
    go_wp2_with fail
    refine (HE2.out _).mono ?_
    rintro e wr ⟨rfl, rfl⟩
    clear HE2
    have hO : wr.ownsRow (w.heap.size + 1) 5 1 u7 out.length (out.map (Value.int .u8)) := HW.out.ho
    have HC : Hid (Below w.heap.size w wr /\ TX wr w.heap.size tk0) := ⟨HW.out.hb, HW.out.hx⟩
    have hsr : w.heap.size + 1 <= wr.heap.size := HW.out.hx.lt
    clear HW HS HU HEs HA HWr
    go_wp2_with (at_builtin; refine wpList_append_lies _ rfl _ _ 84 rfl (w.heap.size + 1) 5 i0 (.int .u8 0) 1 1 Tryz.underlying84 hinf hz0 hz1 hz2 rfl (by decide) _ _ _ rfl (hO.alloc _) ⟨wr.heap.size, 0, none⟩ 1 1 [.int .u8 ((cc : Int))] rfl rfl (cell_one_new _ _ _) (by simp [Value.oneCell']) (by decide) ?c3 ?c4 ?c5 (wr.heap.size + 1) (by simp) ?_)
    case c3 => unfold maxLen; omega
    case c4 => omega
    case c5 => first | omega | (simp; omega)
    intro g3 cap w3 hown hgrow hat _
    have HW3 := (show Hid (AtT w w3 s b (.slice (some ⟨g3, 0, none⟩) (out.length + 1) cap) (out ++ [(cc : Int)]) nn f) from by
     refine ⟨(HC.out.1.alloc HC.out.1.size _).grown hgrow (by have := HC.out.1.size; rw [World.size_alloc]; omega) (fun k e => by have := (hO.lt k e).1; omega), ((HC.out.2.below (zaa _ _)).grown hgrow (fun e => by have := (hO.lt _ e).1; omega)), ?_, by omega, by omega, HE.out, by rw [List.length_append, List.length_singleton]; omega⟩
     rw [List.length_append, List.length_singleton, List.map_append]
     exact hown)
    clear hown hgrow hat hO HC HE
    go_wp2_with fail
    go_roundw
    case rel => exact ⟨_, nn, f, by go_num, HW3⟩
    case measure => simp [intOf]; omega
  ·have t5 : (chr s i != 92) = true := by rw [bne, bF h6]; rfl
   have HE : Hid (zbs s (chr s b) b f (out ++ [chr s i]) (i + 1) = zbZ s b) := by show _ = zbZ s b; rw [<- HS.out, HU.out, if_neg h1, if_neg h2, if_neg h4, if_pos h6]
   have hw8 : IntKind.u8.wrap (chr s i) = chr s i := by rw [IntKind.wrap_u8']; omega
   have hO : wr.ownsRow (w.heap.size + 1) 5 1 u7 out.length (out.map (Value.int .u8)) := HW.out.ho
   have HC : Hid (Below w.heap.size w wr /\ TX wr w.heap.size tk0) := ⟨HW.out.hb, HW.out.hx⟩
   have hsr : w.heap.size + 1 <= wr.heap.size := HW.out.hx.lt
   clear HW HS HU HEs HA HWr
   go_wp2_with (at_builtin; refine wpList_append_lies _ rfl _ _ 84 rfl (w.heap.size + 1) 5 i0 (.int .u8 0) 1 1 Tryz.underlying84 hinf hz0 hz1 hz2 rfl (by decide) _ _ _ rfl (hO.alloc _) ⟨wr.heap.size, 0, none⟩ 1 1 [.int .u8 (chr s i)] rfl rfl (cell_one_new _ _ _) (by simp [Value.oneCell']) (by decide) ?c3 ?c4 ?c5 (wr.heap.size + 1) (by simp) ?_)
   case c3 => unfold maxLen; omega
   case c4 => omega
   case c5 => first | omega | (simp; omega)
   intro g3 cap w3 hown hgrow hat _
   have HW3 := (show Hid (AtT w w3 s b (.slice (some ⟨g3, 0, none⟩) (out.length + 1) cap) (out ++ [chr s i]) (i + 1) f) from by
    refine ⟨(HC.out.1.alloc HC.out.1.size _).grown hgrow (by have := HC.out.1.size; rw [World.size_alloc]; omega) (fun k e => by have := (hO.lt k e).1; omega), ((HC.out.2.below (zaa _ _)).grown hgrow (fun e => by have := (hO.lt _ e).1; omega)), ?_, by omega, by omega, HE.out, by rw [List.length_append, List.length_singleton]; omega⟩
    rw [List.length_append, List.length_singleton, List.map_append]
    exact hown)
   clear hown hgrow hat hO HC HE
   go_wp2_with fail
   go_roundw
   case rel => exact ⟨_, (i + 1), f, by go_num, HW3⟩
   case measure => simp [intOf]; omega
theorem znD {W W' : World} {B e s n : Nat} {v : Value} {xs : List Value} (h : W.ownsRow B e s v n xs) (hb : Below W.heap.size W W') : W'.ownsRow B e s v n xs := by
 refine ⟨h.1, ?_⟩
 rcases h.2 with hn | ⟨g, cap, cur, rfl, hB, hgg, rest⟩
 ·exact .inl hn
 ·refine .inr ⟨g, cap, cur, rfl, hB, ?_, rest⟩
  rw [hb.block g (Array.getElem?_eq_some_iff.1 hgg).1]
  exact hgg
theorem zop (s : ByteArray) : ∀ f i, i <= s.size -> i <= zfl s f i /\ zfl s f i <= s.size := by
 intro f
 induction f with
 | zero => intro i hi; exact ⟨Nat.le_refl _, hi⟩
 | succ f ih =>
  intro i hi
  rw [zfl]
  split
  ·split
   ·have h1 := za4 lnB s (by decide) i
    have h2 := zbC lnB s (by decide) i hi
    obtain ⟨a, b⟩ := ih (spN lnB s i) h2
    exact ⟨by omega, b⟩
   ·split
    ·obtain ⟨a, b⟩ := ih (i + 1) (by omega)
     exact ⟨by omega, b⟩
    ·exact ⟨Nat.le_refl _, hi⟩
  ·exact ⟨Nat.le_refl _, hi⟩
theorem zcf {s : ByteArray} {i : Nat} (h : i <= s.size) : i <= zbm s i /\ zbm s i <= s.size := zop s _ i h
def tkV (t : Tk) : List Value := [.int .i64 t.kd, .int .i64 t.nn, .int .i64 t.fr, .int .i64 t.en, .string t.tx, .int .u64 t.s0, .int .u64 t.s1, .int .u64 t.s2, .int .u64 t.s3]
def tkc (l : List Tk) : List Value := l.flatMap tkV
theorem zdY (a b : List Tk) : tkc (a ++ b) = tkc a ++ tkc b := List.flatMap_append
theorem zgZ (t : Tk) : tkc [t] = tkV t := by unfold tkc; rw [List.flatMap_cons, List.flatMap_nil, List.append_nil]
theorem zjN (t : Tk) : ∀ u ∈ tkV t, u.oneCell' = true := fun u hu => by
 simp only [tkV, List.mem_cons, List.not_mem_nil, or_false] at hu
 rcases hu with rfl | rfl | rfl | rfl | rfl | rfl | rfl | rfl | rfl <;> rfl
def zbB (one : Nat -> Sum Tk (Nat × Int)) (s : ByteArray) : Nat -> List Tk -> Nat -> Sum (List Tk) (Nat × Int)
 | 0, out, _ => .inl out
 | f + 1, out, i => if i < s.size then (match one i with
  | .inr q => .inr q
  | .inl t => zbB one s f (out ++ [t]) (zbm s t.en.toNat)) else .inl out
def zbn (one : Nat -> Sum Tk (Nat × Int)) (s : ByteArray) : Sum (List Tk) (Nat × Int) := if 65536 < s.size then .inr (0, 2) else zbB one s (s.size + 1) [] (zbm s 0)
def LxV (w w' : World) (r : Sum (List Tk) (Nat × Int)) (e : Ending) : Prop := match r with
 | .inr q => e = .returned (.tuple #[.slice none 0 0, .int .i64 q.1, .int .i64 q.2])
 | .inl l => ∃ v, e = .returned (.tuple #[v, .int .i64 0, .int .i64 0]) /\ w'.ownsRow w.heap.size 79 9 v l.length (tkc l)
theorem Tryz.info36 : (Tryz.prog.info? 79).map (fun i => (i.zero, i.size, i.bytes)) = some (some (tkG tk0), 9, 80) := by kernel_rfl
structure AtX (one : Nat -> Sum Tk (Nat × Int)) (w wr : World) (s : ByteArray) (v : Value) (out : List Tk) (i f : Nat) : Prop where
 hb : Below w.heap.size w wr
 ho : wr.ownsRow w.heap.size 79 9 v out.length (tkc out)
 hi : i <= s.size
 hf : s.size < f + i
 he : zbB one s f out i = zbn one s
 hl : out.length <= i
theorem lex_of (one : Nat -> Sum Tk (Nat × Int)) (s : ByteArray) (hs : s.size <= 140737488355000)
  (H1 : ∀ b, b < s.size -> s.size <= 65536 -> ∀ w, Calls Tryz.prog 36 #[.string s, .int .i64 (b : Nat)] w fun e w' => e = .returned (zcG (one b)) /\ Below w.heap.size w w')
  (H2 : ∀ b t, b < s.size -> one b = .inl t -> ∃ e : Nat, t.en = e /\ b < e /\ e <= s.size) (H3 : ∀ b q, one b = .inr q -> q.2 ≠ 0) (w : World) :
  Calls Tryz.prog 17 #[.string s] w fun e w' => LxV w w' (zbn one s) e /\ Below w.heap.size w w' := by
 obtain ⟨i0, hinf, hz0, hz1, hz2⟩ := info_parts Tryz.info36
 have HG : Hid (∀ k w, k <= s.size -> Calls Tryz.prog 35 #[.string s, .int .i64 ((k : Nat) : Int)] w fun e w' => e = .returned (.int .i64 (zbm s k)) /\ w' = w) := fun k w hk => zon s k (by omega) hk w
 have HB0 : Hid (Below w.heap.size w w) := Below.refl _ _
 by_cases h65 : 65536 < s.size
 ·have HE : Hid (zbn one s = .inr (0, 2)) := by show zbn one s = _; unfold zbn; rw [if_pos h65]
  have t1 : decide (65536 < s.size) = true := decide_eq_true h65
  clear HG H1 H2 H3
  go_enter Tryz.func17, Tryz.ntmps17
  go_wp2_with fail
  refine bodyPost_ret (v := .tuple #[.slice none 0 0, .int .i64 0, .int .i64 2]) (by simp [results, Tryz.results17, go_sem]) rfl ⟨?_, HB0.out⟩
  rw [HE.out]
  exact rfl
 ·have t1 : decide (65536 < s.size) = false := decide_eq_false h65
  have H0 : Hid (AtX one w w s (.slice none 0 0) [] (zbm s 0) (s.size + 1)) := ⟨Below.refl _ _, World.ownsRow_nil _ _ _ _, (zcf (by omega)).2, by have := (zcf (s := s) (i := 0) (by omega)).2; omega, by unfold zbn; rw [if_neg h65], Nat.zero_le _⟩
  have HO : Hid (∀ b, b < s.size -> ∀ w, Calls Tryz.prog 36 #[.string s, .int .i64 ((b : Nat) : Int)] w fun e w' => e = .returned (zcG (one b)) /\ Below w.heap.size w w') := fun b hb w => H1 b hb (by omega) w
  have HE : Hid ((∀ b t, b < s.size -> one b = .inl t -> ∃ e : Nat, t.en = e /\ b < e /\ e <= s.size) /\ ∀ b q, one b = .inr q -> q.2 ≠ 0) := ⟨H2, H3⟩
  clear H1 H2 H3
  go_enter Tryz.func17, Tryz.ntmps17
  go_wp2_with fail
  refine (HG.out 0 _ (by omega)).mono ?_
  rintro e w ⟨rfl, rfl⟩
  go_wp2_with fail
  go_loopw [5, 6] (fun v t wr => ∃ (out : List Tk) (i f : Nat), t = .int .i64 i /\ Hid (AtX one w wr s v out i f)) (fun _ t _ => s.size - (intOf t).toNat)
  case atStart => exact ⟨[], zbm s 0, s.size + 1, rfl, H0⟩
  case round =>
   obtain ⟨out, i, f, rfl, HW⟩ := hrel
   clear H0
   have hi := HW.out.hi
   have hf := HW.out.hf
   have hol := HW.out.hl
   by_cases hlt : i < s.size
   ·have z1 : (i : Int) < (s.size : Int) := by omega
    obtain ⟨f, rfl⟩ : ∃ g, f = g + 1 := ⟨f - 1, by omega⟩
    have HU : Hid (zbn one s = match one i with
     | .inr q => .inr q
     | .inl t => zbB one s f (out ++ [t]) (zbm s t.en.toNat)) := by show zbn one s = _; rw [<- HW.out.he, zbB, if_pos hlt]
    have HOi := hO (HO.out i hlt)
    cases ho : one i with
    | inr q =>
     have hne := HE.out.2 i q ho
     have HV : Hid (zbn one s = .inr q) := by show zbn one s = _; rw [HU.out, ho]
     rw [ho] at HOi
     have t3 : (q.2 != 0) = true := by rw [bne, bF hne]; rfl
     clear HU HO HE HG ho hne
     go_wp2_with fail
     refine (HOi.out _).mono ?_
     rintro e w3 ⟨rfl, b3⟩
     have HB3 : Hid (Below w.heap.size w (w3.alloc (tkO tk0))) := (HW.out.hb.trans (b3.mono HW.out.hb.size)).alloc (Nat.le_trans HW.out.hb.size b3.size) _
     clear b3 HOi
     unfold zcG
     go_wp2_with fail
     refine bodyPost_ret (v := .tuple #[.slice none 0 0, .int .i64 q.1, .int .i64 q.2]) (by simp [results, Tryz.results17, go_sem]) rfl ⟨?_, HB3.out⟩
     rw [HV.out]
     exact rfl
    | inl t =>
     obtain ⟨en, he1, he2, he3⟩ := HE.out.1 i t hlt ho
     have HV : Hid (zbB one s f (out ++ [t]) (zbm s en) = zbn one s) := by show _ = zbn one s; rw [HU.out, ho]; show _ = zbB one s f (out ++ [t]) (zbm s t.en.toNat); rw [he1]; rfl
     rw [ho] at HOi
     have hgb := zcf he3
     have HGe : Hid (∀ w, Calls Tryz.prog 35 #[.string s, .int .i64 t.en] w fun e w' => e = .returned (.int .i64 (zbm s en)) /\ w' = w) := fun w => by rw [he1]; exact HG.out en w he3
     clear HU HO HE HG ho he1
     go_wp2_with fail
     refine (HOi.out _).mono ?_
     rintro e w3 ⟨rfl, b3⟩
     have hO : w3.ownsRow w.heap.size 79 9 u5 out.length (tkc out) := znD HW.out.ho b3
     have HB3 : Hid (Below w.heap.size w w3) := HW.out.hb.trans (b3.mono HW.out.hb.size)
     have hs3 := HB3.out.size
     have HX : Hid (TX (w3.alloc (tkO t)) w3.heap.size t) := TX.new w3 t
     clear b3 HOi HW
     unfold zcG
     obtain ⟨c0, c1, c2, c3, c4, c5, c6, c7, c8⟩ := HX.out.cells
     go_wp2_with (at_builtin; refine wpList_append_lies _ rfl _ _ 42 rfl w.heap.size 79 i0 (tkG tk0) 9 80 Tryz.underlying42 hinf hz0 hz1 hz2 rfl (by decide) _ _ _ rfl ((hO.alloc _).alloc _) ⟨w3.heap.size + 1, 0, none⟩ 1 1 (tkV t) rfl rfl ?c1 (zjN _) (by decide) ?c3 ?c4 ?c5 (w3.heap.size + 2) (by simp) ?_)
     case c1 =>
      have hh := heap_alloc_new (w3.alloc (tkO t)) (.cells (tkC t) 79)
      rw [World.size_alloc] at hh
      exact World.news_of_block (cs := tkC t) (t := 79) (fr := (0, 0)) hh
     case c3 => unfold maxLen; omega
     case c4 => omega
     case c5 => first | omega | (simp; omega)
     intro g3 cap w4 hown hgrow hat _
     have hgo : ∀ k, u5.ownBlock = some k -> w.heap.size <= k /\ k < w3.heap.size := fun k e => hO.lt k e
     have HX4 : Hid (TX w4 w3.heap.size t) := (HX.out.below (zaa _ _)).grown hgrow (fun e => by have := (hgo _ e).2; omega)
     have HW4 := (show Hid (AtX one w w4 s (.slice (some ⟨g3, 0, none⟩) (out.length + 1) cap) (out ++ [t]) (zbm s en) f) from by
      refine ⟨((HB3.out.alloc hs3 _).alloc (by rw [World.size_alloc]; omega) _).grown hgrow (by rw [World.size_alloc, World.size_alloc]; omega) (fun k e => (hgo k e).1), ?_, hgb.2, by omega, HV.out, by rw [List.length_append, List.length_singleton]; omega⟩
      rw [List.length_append, List.length_singleton, zdY, zgZ]
      exact hown)
     clear hown hgrow hat hgo hO HB3 HX HV c0 c1 c2 c3 c4 c5 c6 c7 c8
     have e3 := HX4.out.cells.c3
     go_wp2_with fail
     refine (HGe.out _).mono ?_
     rintro e w4 ⟨rfl, rfl⟩
     clear HGe e3 HX4
     go_wp2_with fail
     go_roundw
     case rel => exact ⟨_, zbm s en, f, rfl, HW4⟩
     case measure => simp [intOf]; omega
   ·obtain rfl : i = s.size := by omega
    have z1 : ¬ (s.size : Int) < (s.size : Int) := by omega
    have HV : Hid (zbn one s = .inl out) := by
     show zbn one s = _
     rw [<- HW.out.he]
     obtain ⟨f, rfl⟩ : ∃ g, f = g + 1 := ⟨f - 1, by omega⟩
     rw [zbB, if_neg hlt]
    clear HO HE HG
    go_wp2_with fail
    refine bodyPost_ret (v := .tuple #[u5, .int .i64 0, .int .i64 0]) (by simp [results, Tryz.results17, go_sem]) rfl ⟨?_, HW.out.hb⟩
    rw [HV.out]
    exact ⟨u5, rfl, HW.out.ho⟩
theorem eq26 (a b c d : Int) (w : World) : (Op.equalIn 10000 27 (.agg #[.int .i64 a, .int .i64 b]) (.agg #[.int .i64 c, .int .i64 d])).run Tryz.prog w = .ok (a == c && b == d) w := by
 have u3 := Tryz.underlying3
 have a3 := Tryz.isAgg3
 have z3 := Tryz.sizeOf3
 have u4 := Tryz.underlying25
 have a4 := Tryz.isAgg25
 have z4 := Tryz.sizeOf25
 have hS : Tryz.prog.underlying 27 = some (.struct (Tryz.prog.fieldsOf 27)) := by kernel_rfl
 have hp : Tryz.prog.stoodInHeld 27 = false := by kernel_rfl
 rw [show (10000 : Nat) = 9999 + 1 from rfl, run_equalIn_agg w 9999 27 _ _ hS hp]
 simp only [Program.fieldsOf, Tryz.underlying27]
 go_simp
 by_cases h1 : a = c <;> by_cases h2 : b = d <;> simp [h1, h2]
structure TR (W : World) (g o : Nat) (t : Tk) : Prop where
 c0 : W.cell? ⟨g, o, none⟩ = some (.int .i64 t.kd)
 c1 : W.cell? ⟨g, o + 1, none⟩ = some (.int .i64 t.nn)
 c2 : W.cell? ⟨g, o + 2, none⟩ = some (.int .i64 t.fr)
 c3 : W.cell? ⟨g, o + 3, none⟩ = some (.int .i64 t.en)
 c4 : W.cell? ⟨g, o + 4, none⟩ = some (.string t.tx)
 c5 : W.cell? ⟨g, o + 5, none⟩ = some (.int .u64 t.s0)
 c6 : W.cell? ⟨g, o + 6, none⟩ = some (.int .u64 t.s1)
 c7 : W.cell? ⟨g, o + 7, none⟩ = some (.int .u64 t.s2)
 c8 : W.cell? ⟨g, o + 8, none⟩ = some (.int .u64 t.s3)
structure RdT (W : World) (A : Option Addr) (L : List Tk) : Prop where
 rd : L ≠ [] -> ∃ g, A = some ⟨g, 0, none⟩ /\ g < W.heap.size /\ ∀ (k : Nat) t, L[k]? = some t -> TR W g (k * 9) t
theorem zoq (L : List Tk) : ∀ (k j : Nat) (t : Tk) (u : Value), L[k]? = some t -> (tkV t)[j]? = some u -> (tkc L)[k * 9 + j]? = some u := by
 induction L with
 | nil => intro k j t u h; simp at h
 | cons a L ih =>
  intro k j t u h hj
  have e : tkc (a :: L) = tkV a ++ tkc L := by unfold tkc; rw [List.flatMap_cons]
  have hl : (tkV a).length = 9 := rfl
  rw [e]
  cases k with
  | zero =>
   have h : a = t := by simpa using h
   subst h
   rw [Nat.zero_mul, Nat.zero_add, List.getElem?_append_left (by have := (List.getElem?_eq_some_iff.1 hj).1; omega)]
   exact hj
  | succ k =>
   rw [List.getElem?_append_right (by omega), hl, show (k + 1) * 9 + j - 9 = k * 9 + j from by omega]
   exact ih k j t u (by simpa using h) hj
theorem zfK {W : World} {B n : Nat} {v : Value} {L : List Tk} (h : W.ownsRow B 79 9 v n (tkc L)) (hn : n = L.length) : ∃ A c, v = .slice A L.length c /\ RdT W A L := by
 subst hn
 have hc := h
 rcases h.2 with ⟨rfl, h0⟩ | ⟨g, cap, cur, rfl, _⟩
 ·exact ⟨none, 0, by rw [h0], ⟨fun hl => absurd (List.eq_nil_of_length_eq_zero h0) hl⟩⟩
 ·refine ⟨_, cap, rfl, ⟨fun _ => ⟨g, rfl, (hc.lt g rfl).2, fun k t hk => ?_⟩⟩⟩
  have key : ∀ j u, (tkV t)[j]? = some u -> W.cell? ⟨g, k * 9 + j, none⟩ = some u := fun j u hj => by
   have := (hc.cells (g := g) rfl) (k * 9 + j) u (zoq L k j t u hk hj)
   rwa [Addr.add_lit, Nat.zero_add] at this
  exact ⟨key 0 _ rfl, key 1 _ rfl, key 2 _ rfl, key 3 _ rfl, key 4 _ rfl, key 5 _ rfl, key 6 _ rfl, key 7 _ rfl, key 8 _ rfl⟩
def hxB (c : Int) : Bool := dgB c || (decide (97 <= c) && decide (c <= 102))
def blB (c : Int) : Bool := c == 9 || c == 10 || c == 13 || c == 32
theorem zaW (c : Int) (w : World) : Calls Tryz.prog 101 #[.int .u8 c] w fun e w' => e = .returned (.bool (hdB c)) /\ w' = w := by
 by_cases a1 : 97 <= c <;> by_cases a2 : c <= 122 <;> by_cases a3 : 65 <= c <;> by_cases a4 : c <= 90 <;> by_cases a5 : c = 95 <;> first
  | (exfalso; omega)
  | (subst a5; go_enter Tryz.func101, Tryz.ntmps101; go_wp2_with fail; go_ret; exact ⟨rfl, rfl⟩)
  | (have a6 : (c == 95) = false := bF a5; go_enter Tryz.func101, Tryz.ntmps101; go_wp2_with fail; go_ret; exact ⟨by simp [hdB, *], rfl⟩)
theorem zbc (c : Int) (w : World) : Calls Tryz.prog 103 #[.int .u8 c] w fun e w' => e = .returned (.bool (dgB c)) /\ w' = w := by
 by_cases a1 : 48 <= c <;> by_cases a2 : c <= 57 <;> first
  | (exfalso; omega)
  | (go_enter Tryz.func103, Tryz.ntmps103; go_wp2_with fail; go_ret; exact ⟨by simp [dgB, *], rfl⟩)
theorem zg0 (c : Int) (w : World) : Calls Tryz.prog 127 #[.int .u8 c] w fun e w' => e = .returned (.bool (nmB c)) /\ w' = w := by
 have HH : Hid (∀ w, Calls Tryz.prog 101 #[.int .u8 c] w fun e w' => e = .returned (.bool (hdB c)) /\ w' = w) := fun w => zaW c w
 have HD : Hid (∀ w, Calls Tryz.prog 103 #[.int .u8 c] w fun e w' => e = .returned (.bool (dgB c)) /\ w' = w) := fun w => zbc c w
 cases hh : hdB c with
 | true =>
  have HE : Hid (nmB c = true) := by show nmB c = true; unfold nmB; rw [hh]; rfl
  rw [hh] at HH
  clear HD hh
  go_enter Tryz.func127, Tryz.ntmps127
  go_wp2_with fail
  refine (HH.out _).mono ?_
  rintro e w ⟨rfl, rfl⟩
  go_wp2_with fail
  go_ret
  exact ⟨by rw [HE.out]; rfl, rfl⟩
 | false =>
  have HE : Hid (nmB c = dgB c) := by show nmB c = _; unfold nmB; rw [hh]; rfl
  rw [hh] at HH
  clear hh
  go_enter Tryz.func127, Tryz.ntmps127
  go_wp2_with fail
  refine (HH.out _).mono ?_
  rintro e w ⟨rfl, rfl⟩
  go_wp2_with fail
  refine (HD.out _).mono ?_
  rintro e w ⟨rfl, rfl⟩
  go_wp2_with fail
  go_ret
  exact ⟨by rw [HE.out]; rfl, rfl⟩
theorem zjO (c : Int) (w : World) : Calls Tryz.prog 162 #[.int .u8 c] w fun e w' => e = .returned (.bool (hxB c)) /\ w' = w := by
  have HD : Hid (∀ w, Calls Tryz.prog 103 #[.int .u8 c] w fun e w' => e = .returned (.bool (dgB c)) /\ w' = w) := fun w => zbc c w
  cases hh : dgB c with
  | true =>
    have HE : Hid (hxB c = true) := by show hxB c = true; unfold hxB; rw [hh]; rfl
    rw [hh] at HD
    clear hh
    go_enter Tryz.func162, Tryz.ntmps162
    go_wp2_with fail
    refine (HD.out _).mono ?_
    rintro e w ⟨rfl, rfl⟩
    go_wp2_with fail
    go_ret
    exact ⟨by rw [HE.out]; rfl, rfl⟩
  | false =>
    have HE : Hid (hxB c = (decide (97 <= c) && decide (c <= 102))) := by show hxB c = _; unfold hxB; rw [hh]; rfl
    rw [hh] at HD
    clear hh
    by_cases a1 : 97 <= c <;> by_cases a2 : c <= 102 <;> first
      | (exfalso; omega)
      | (go_enter Tryz.func162, Tryz.ntmps162
         go_wp2_with fail
         refine (HD.out _).mono ?_
         rintro e w ⟨rfl, rfl⟩
         go_wp2_with fail
         go_ret
         exact ⟨by rw [HE.out]; simp [*], rfl⟩)
theorem zeB (F : Nat) (P : Int -> Bool) (hn : P (-1) = false) (he : ∀ args w, (callFunc F args).run Tryz.prog w = .ok (.enter F args) w)
  (HC : ∀ c w, Calls Tryz.prog F #[.int .u8 c] w fun e w' => e = .returned (.bool (P c)) /\ w' = w) (s : ByteArray) (i : Nat) (hs : s.size <= 140737488355328) (hi : i <= s.size) (w : World) :
  Calls Tryz.prog 126 #[.string s, .int .i64 i, .func (.func F) #[] #[]] w fun e w' => e = .returned (.int .i64 (spN P s i)) /\ w' = w := by
 have HP : Hid (∀ k (h : k < s.size) w, Calls Tryz.prog F #[.int .u8 (s[k].toNat : Int)] w fun e w' => e = .returned (.bool (P (chr s k))) /\ w' = w) := fun k h w => by rw [zal h]; exact HC _ w
 have HN : Hid (∀ k, P (chr s k) = true -> spN P s k = spN P s (k + 1)) := fun k h => (za3 hn h).2
 have HS : Hid (∀ k, P (chr s k) = false -> spN P s k = k) := fun k h => zbq h
 have HO : Hid (∀ k, ¬ k < s.size -> spN P s k = k) := fun k h => zbq (by rw [zat h]; exact hn)
 clear HC
 go_enter Tryz.func126, Tryz.ntmps126
 go_wp2_with fail
 go_loopw [1] (fun t wr => ∃ k : Nat, k <= s.size /\ t = .int .i64 k /\ wr = w /\ Hid (spN P s k = spN P s i)) (fun t _ => s.size - (intOf t).toNat)
 case atStart => exact ⟨i, hi, rfl, rfl, rfl⟩
 case round =>
  obtain ⟨k, hk, rfl, rfl, HI⟩ := hrel
  have z0 : (0 : Int) <= (k : Int) := by omega
  by_cases h1 : k < s.size
  ·have z1 : (k : Int) < (s.size : Int) := by omega
   have HPk := hO (HP.out k h1)
   cases hp : P (chr s k) with
   | true =>
    have HI2 : Hid (spN P s (k + 1) = spN P s i) := (HN.out k hp).symm.trans HI.out
    rw [hp] at HPk
    clear HP HN HS HO hp HI
    go_wp2_with fail
    refine (HPk.out _).mono ?_
    rintro e w ⟨rfl, rfl⟩
    go_wp2_with fail
    go_roundw
    case rel => exact ⟨k + 1, by omega, by go_num, trivial, HI2⟩
    case measure => simp [intOf]; omega
   | false =>
    have HI2 : Hid (spN P s i = k) := HI.out.symm.trans (HS.out k hp)
    rw [hp] at HPk
    clear HP HN HS HO hp HI
    go_wp2_with fail
    refine (HPk.out _).mono ?_
    rintro e w ⟨rfl, rfl⟩
    go_wp2_with fail
    go_ret
    exact ⟨by rw [HI2.out]; rfl, rfl⟩
  ·have z1 : ¬ (k : Int) < (s.size : Int) := by omega
   have HI2 : Hid (spN P s i = k) := HI.out.symm.trans (HO.out k h1)
   clear HP HN HS HO HI
   go_wp2_with fail
   go_ret
   exact ⟨by rw [HI2.out]; rfl, rfl⟩
theorem zg1 (s : ByteArray) (i : Nat) (hs : s.size <= 140737488355328) (hi : i <= s.size) (w : World) :
  Calls Tryz.prog 126 #[.string s, .int .i64 i, .func (.func 127) #[] #[]] w fun e w' => e = .returned (.int .i64 (spN nmB s i)) /\ w' = w := zeB 127 nmB (by decide) (enters_of Tryz.func127 (by kernel_rfl) rfl) zg0 s i hs hi w
theorem zbP (s : ByteArray) (i : Nat) (hs : s.size <= 140737488355328) (hi : i <= s.size) (w : World) :
  Calls Tryz.prog 126 #[.string s, .int .i64 i, .func (.func 103) #[] #[]] w fun e w' => e = .returned (.int .i64 (spN dgB s i)) /\ w' = w := zeB 103 dgB (by decide) (enters_of Tryz.func103 (by kernel_rfl) rfl) zbc s i hs hi w
theorem ziD (s : ByteArray) (i : Nat) (hs : s.size <= 140737488355328) (hi : i <= s.size) (w : World) :
  Calls Tryz.prog 126 #[.string s, .int .i64 i, .func (.func 162) #[] #[]] w fun e w' => e = .returned (.int .i64 (spN hxB s i)) /\ w' = w := zeB 162 hxB (by decide) (enters_of Tryz.func162 (by kernel_rfl) rfl) zjO s i hs hi w
abbrev fxO (p e : Int) : Obj := .cells #[.int .i64 p, .int .i64 e] 27
structure FX (W : World) (b : Nat) (p e : Int) : Prop where
 heap : W.heap[b]? = some (.cells #[.int .i64 p, .int .i64 e] 27 (0, 0))
theorem FX.lt {W : World} {b : Nat} {p e : Int} (h : FX W b p e) : b < W.heap.size := (Array.getElem?_eq_some_iff.1 h.heap).1
theorem FX.below {W W' : World} {b : Nat} {p e : Int} (h : FX W b p e) (hb : Below W.heap.size W W') : FX W' b p e := ⟨(hb.block b h.lt).trans h.heap⟩
theorem FX.c0 {W : World} {b : Nat} {p e : Int} (h : FX W b p e) : W.cell? ⟨b, 0, none⟩ = some (.int .i64 p) := by rw [cell_of_row W b 0 _ 27 (0, 0) h.heap]; rfl
theorem FX.c1 {W : World} {b : Nat} {p e : Int} (h : FX W b p e) : W.cell? ⟨b, 1, none⟩ = some (.int .i64 e) := by rw [cell_of_row W b 1 _ 27 (0, 0) h.heap]; rfl
theorem FX.f0 {W : World} {b : Nat} {p e : Int} (h : FX W b p e) : W.frozen? ⟨b, 0, none⟩ = false := frozen_of_row W b 0 _ 27 h.heap
theorem FX.f1 {W : World} {b : Nat} {p e : Int} (h : FX W b p e) : W.frozen? ⟨b, 1, none⟩ = false := frozen_of_row W b 1 _ 27 h.heap
structure BX (w W : World) (t : Tk) (p e : Int) : Prop where
 b : Below w.heap.size w W
 x : TX W w.heap.size t
 f : FX W (w.heap.size + 1) p e
theorem BX.made (w : World) (t : Tk) (p e : Int) : BX w ((w.alloc (tkO t)).alloc (fxO p e)) t p e := by
 have h1 : (w.alloc (tkO t)).heap.size = w.heap.size + 1 := World.size_alloc _ _
 refine ⟨(zaa w _).alloc (by omega) _, (TX.new w t).below (zaa _ _), ⟨?_⟩⟩
 have h := heap_alloc_new (w.alloc (tkO t)) (fxO p e)
 rw [h1] at h
 exact h
theorem BX.new (w : World) : BX w ((w.alloc (tkO tk0)).alloc (fxO 0 0)) tk0 0 0 := BX.made w tk0 0 0
theorem BX.below {w W W' : World} {t : Tk} {p e : Int} (h : BX w W t p e) (hb : Below W.heap.size W W') : BX w W' t p e := ⟨h.b.trans (hb.mono h.b.size), h.x.below hb, h.f.below hb⟩
theorem BX.size {w W : World} {t : Tk} {p e : Int} (h : BX w W t p e) : w.heap.size + 1 < W.heap.size := h.f.lt
structure BF (w W : World) : Prop where
 x0 : W.frozen? ⟨w.heap.size, 0, none⟩ = false
 x1 : W.frozen? ⟨w.heap.size, 1, none⟩ = false
 x2 : W.frozen? ⟨w.heap.size, 2, none⟩ = false
 x3 : W.frozen? ⟨w.heap.size, 3, none⟩ = false
 x4 : W.frozen? ⟨w.heap.size, 4, none⟩ = false
 x5 : W.frozen? ⟨w.heap.size, 5, none⟩ = false
 x6 : W.frozen? ⟨w.heap.size, 6, none⟩ = false
 x7 : W.frozen? ⟨w.heap.size, 7, none⟩ = false
 x8 : W.frozen? ⟨w.heap.size, 8, none⟩ = false
 f0 : W.frozen? ⟨w.heap.size + 1, 0, none⟩ = false
 f1 : W.frozen? ⟨w.heap.size + 1, 1, none⟩ = false
structure BC (w W : World) (t : Tk) (p e : Int) : Prop where
 c0 : W.cell? ⟨w.heap.size, 0, none⟩ = some (.int .i64 t.kd)
 c1 : W.cell? ⟨w.heap.size, 1, none⟩ = some (.int .i64 t.nn)
 c2 : W.cell? ⟨w.heap.size, 2, none⟩ = some (.int .i64 t.fr)
 c3 : W.cell? ⟨w.heap.size, 3, none⟩ = some (.int .i64 t.en)
 c4 : W.cell? ⟨w.heap.size, 4, none⟩ = some (.string t.tx)
 c5 : W.cell? ⟨w.heap.size, 5, none⟩ = some (.int .u64 t.s0)
 c6 : W.cell? ⟨w.heap.size, 6, none⟩ = some (.int .u64 t.s1)
 c7 : W.cell? ⟨w.heap.size, 7, none⟩ = some (.int .u64 t.s2)
 c8 : W.cell? ⟨w.heap.size, 8, none⟩ = some (.int .u64 t.s3)
 d0 : W.cell? ⟨w.heap.size + 1, 0, none⟩ = some (.int .i64 p)
 d1 : W.cell? ⟨w.heap.size + 1, 1, none⟩ = some (.int .i64 e)
theorem BX.fz {w W : World} {t : Tk} {p e : Int} (h : BX w W t p e) : BF w W := by
 obtain ⟨a, b, c, d, e, f, g, i, j⟩ := h.x.fz
 exact ⟨a, b, c, d, e, f, g, i, j, h.f.f0, h.f.f1⟩
theorem BX.cells {w W : World} {t : Tk} {p e : Int} (h : BX w W t p e) : BC w W t p e := by
 obtain ⟨a, b, c, d, e, f, g, i, j⟩ := h.x.cells
 exact ⟨a, b, c, d, e, f, g, i, j, h.f.c0, h.f.c1⟩
abbrev stF (W : World) (b : Nat) (p e : Int) : World := (W.setCell ⟨b, 0, none⟩ (.int .i64 p)).setCell ⟨b, 1, none⟩ (.int .i64 e)
theorem zeC {W : World} {b : Nat} {p0 e0 : Int} (h : FX W b p0 e0) (p e : Int) : FX (stF W b p e) b p e := by
 have h := h.heap
 have h0 := heap_setCell_same _ b 0 _ 27 (.int .i64 p) h
 have h1 := heap_setCell_same _ b 1 _ 27 (.int .i64 e) h0
 refine ⟨?_⟩
 rw [h1]
 simp
theorem zcQ {W : World} {b k : Nat} (p e : Int) (hk : k ≠ b) : (stF W b p e).heap[k]? = W.heap[k]? := by
 rw [Below.heap_setCell _ _ _ _ hk, Below.heap_setCell _ _ _ _ hk]
theorem zjP {W : World} {b k : Nat} (t : Tk) (hk : k ≠ b) : (st9 W b t).heap[k]? = W.heap[k]? := by
 rw [Below.heap_setCell _ _ _ _ hk, Below.heap_setCell _ _ _ _ hk, Below.heap_setCell _ _ _ _ hk, Below.heap_setCell _ _ _ _ hk, Below.heap_setCell _ _ _ _ hk, Below.heap_setCell _ _ _ _ hk, Below.heap_setCell _ _ _ _ hk, Below.heap_setCell _ _ _ _ hk, Below.heap_setCell _ _ _ _ hk]
theorem BX.put {w W : World} {t0 : Tk} {p0 e0 : Int} (h : BX w W t0 p0 e0) (t : Tk) (p e : Int) : BX w (stF (st9 W w.heap.size t) (w.heap.size + 1) p e) t p e := by
 refine ⟨?_, ⟨?_⟩, ?_⟩
 ·exact ((zad h.b (Nat.le_refl _) t).setCell (p := ⟨w.heap.size + 1, 0, none⟩) (by show w.heap.size <= w.heap.size + 1; omega) _).setCell (p := ⟨w.heap.size + 1, 1, none⟩) (by show w.heap.size <= w.heap.size + 1; omega) _
 ·rw [zcQ p e (by omega)]; exact (zar h.x t).heap
 ·exact zeC ⟨(zjP t (by omega)).trans h.f.heap⟩ p e
abbrev zaN (t : Tk) (p e : Int) : Value := .tuple #[tkG t, .agg #[.int .i64 p, .int .i64 e]]
def za2 : Sum Tk (Nat × Int) -> Value
 | .inl t => zaN t 0 0
 | .inr q => zaN tk0 q.1 q.2
theorem zao {fn : Func} {R : Ending -> World -> Prop} {a : Act} {w W : World} {t : Tk} {p e : Int} {i j : Nat} (hF : fn.results = #[.cell i 79, .cell j 27]) (hd : a.defers = []) (h4 : a.tmps.getD i undef = .pointer (some ⟨w.heap.size, 0, none⟩)) (h5 : a.tmps.getD j undef = .pointer (some ⟨w.heap.size + 1, 0, none⟩)) (hT : BX w W t p e) (hR : R (.returned (zaN t p e)) W) : bodyPost Tryz.prog fn R .ret a W := by
 obtain ⟨c0, c1, c2, c3, c4, c5, c6, c7, c8, d0, d1⟩ := hT.cells
 refine bodyPost_ret (v := zaN t p e) ?_ hd hR
 simp only [Array.getD_eq_getD_getElem?] at h4 h5
 simp [results, hF, go_sem, h4, h5, c0, c1, c2, c3, c4, c5, c6, c7, c8, d0, d1]
theorem zaJ (i e0 : Int) (w : World) : Calls Tryz.prog 128 #[.int .i64 i, .int .i64 e0] w fun e w' => e = .returned (zaN tk0 i e0) /\ Below w.heap.size w w' := by
 go_enter Tryz.func128, Tryz.ntmps128
 go_wp2_with fail
 exact zao rfl rfl rfl rfl (BX.made w tk0 i e0) ⟨rfl, (BX.made w tk0 i e0).b⟩
def pfx (s : ByteArray) (i : Nat) : List UInt8 -> Bool
 | [] => true
 | c :: l => chr s i == (c.toNat : Int) && pfx s (i + 1) l
theorem zl7 (s : ByteArray) : ∀ (p : List UInt8) (i : Nat), i <= s.size -> p.isPrefixOf (s.extract i s.size).data.toList = pfx s i p := by
 intro p
 induction p with
 | nil => intro i _; simp [pfx]
 | cons c p ih =>
  intro i hi
  rw [pfx]
  by_cases h : i < s.size
  ·have e : (s.extract i s.size).data.toList = s[i] :: (s.extract (i + 1) s.size).data.toList := by
    have h1 : s.data.size = s.size := rfl
    have hd : i < s.data.size := h
    rw [ByteArray.data_extract, ByteArray.data_extract, Array.toList_extract, Array.toList_extract, List.extract_eq_take_drop, List.extract_eq_take_drop,
     List.take_of_length_le (by rw [List.length_drop, Array.length_toList]; omega), List.take_of_length_le (by rw [List.length_drop, Array.length_toList]; omega),
     List.drop_eq_getElem_cons (by rw [Array.length_toList]; omega)]
    rfl
   rw [e, List.isPrefixOf, ih (i + 1) (by omega), zal h]
   congr 1
   by_cases q : c = s[i]
   ·subst q; simp
   ·have h2 : ¬ (s[i].toNat : Int) = (c.toNat : Int) := fun e => q (UInt8.toNat_inj.1 (by omega))
    rw [bF q, bF h2]
  ·have e : (s.extract i s.size).data.toList = [] := by
    have h1 : (s.extract i s.size).size = 0 := by rw [ByteArray.size_extract]; omega
    exact List.eq_nil_of_length_eq_zero h1
   have : ((-1 : Int) == (c.toNat : Int)) = false := by rw [beq_eq_false_iff_ne]; omega
   rw [e, zat h, this]; rfl
theorem zaz (s : ByteArray) (i : Nat) (p : ByteArray) (hi : i <= s.size) (w : World) : Calls Tryz.prog 77 #[.string s, .int .i64 i, .string p] w fun e w' => e = .returned (.bool (pfx s i p.data.toList)) /\ w' = w := by
 have H : Hid (∀ w, Calls Tryz.prog 100 #[.string (s.extract i s.size), .string p] w fun e w' => e = .returned (.bool (pfx s i p.data.toList)) /\ w' = w) := fun w => by
  have h := Tryz.strings_HasPrefix (s.extract i s.size) p w
  rw [Lib.hasPrefix, zl7 s _ i hi] at h
  exact h
 have z0 : (0 : Int) <= (i : Int) := by omega
 have z1 : (i : Int) <= (s.size : Int) := by omega
 go_enter Tryz.func77, Tryz.ntmps77
 go_wp2_with fail
 refine (H.out _).mono ?_
 rintro e w ⟨rfl, rfl⟩
 go_wp2_with fail
 go_ret
 exact ⟨rfl, rfl⟩
theorem zg2 (s : ByteArray) (i : Nat) (hs : s.size <= 140737488355328) (hi : i <= s.size) (w : World) : Calls Tryz.prog 78 #[.string s, .int .i64 i] w fun e w' => e = .returned (.int .i64 (spN lnB s i)) /\ w' = w := by
 have HN : Hid (∀ k, lnB (chr s k) = true -> spN lnB s k = spN lnB s (k + 1)) := fun k h => (za3 (by decide) h).2
 have HS : Hid (∀ k, lnB (chr s k) = false -> spN lnB s k = k) := fun k h => zbq h
 go_enter Tryz.func78, Tryz.ntmps78
 go_wp2_with fail
 go_loopw [1] (fun t wr => ∃ k : Nat, k <= s.size /\ t = .int .i64 k /\ wr = w /\ Hid (spN lnB s k = spN lnB s i)) (fun t _ => s.size - (intOf t).toNat)
 case atStart => exact ⟨i, hi, rfl, rfl, rfl⟩
 case round =>
  obtain ⟨k, hk, rfl, rfl, HI⟩ := hrel
  have z0 : (0 : Int) <= (k : Int) := by omega
  by_cases h1 : k < s.size
  ·have z1 : (k : Int) < (s.size : Int) := by omega
   have hc := zal h1
   have hb := zbg s k
   by_cases h10 : chr s k = 10
   ·have v : ((s[k].toNat : Int) != 10) = false := by rw [<- hc, h10]; rfl
    have HI2 : Hid (spN lnB s i = k) := HI.out.symm.trans (HS.out k (by rw [h10]; rfl))
    clear HN HS HI hc hb h10
    go_wp2_with fail
    go_ret
    exact ⟨by rw [HI2.out]; rfl, rfl⟩
   ·have v : ((s[k].toNat : Int) != 10) = true := by rw [<- hc, bne, bF h10]; rfl
    have HI2 : Hid (spN lnB s (k + 1) = spN lnB s i) := (HN.out k (by unfold lnB; rw [bF h10, decide_eq_true (show 0 <= chr s k by rw [hc]; omega)]; rfl)).symm.trans HI.out
    clear HN HS HI hc hb h10
    go_wp2_with fail
    go_roundw
    case rel => exact ⟨k + 1, by omega, by go_num, trivial, HI2⟩
    case measure => simp [intOf]; omega
  ·have z1 : ¬ (k : Int) < (s.size : Int) := by omega
   have HI2 : Hid (spN lnB s i = k) := HI.out.symm.trans (HS.out k (by rw [zat h1]; rfl))
   clear HN HS HI
   go_wp2_with fail
   go_ret
   exact ⟨by rw [HI2.out]; rfl, rfl⟩
theorem zdZ (s : ByteArray) (i : Nat) (hs : s.size <= 140737488355328) (hi : i <= s.size) (w : World) : Calls Tryz.prog 76 #[.string s, .int .i64 i] w fun e w' => e = .returned (.int .i64 (spN blB s i)) /\ w' = w := by
 have HN : Hid (∀ k, blB (chr s k) = true -> spN blB s k = spN blB s (k + 1)) := fun k h => (za3 (by decide) h).2
 have HS : Hid (∀ k, blB (chr s k) = false -> spN blB s k = k) := fun k h => zbq h
 go_enter Tryz.func76, Tryz.ntmps76
 go_wp2_with fail
 go_step3
 go_wp2_with fail
 go_step3
 go_wp2_with fail
 go_loopw [1] (fun t wr => ∃ k : Nat, k <= s.size /\ t = .int .i64 k /\ wr = w /\ Hid (spN blB s k = spN blB s i)) (fun t _ => s.size - (intOf t).toNat)
 case atStart => exact ⟨i, hi, rfl, rfl, rfl⟩
 case round =>
  obtain ⟨k, hk, rfl, rfl, HI⟩ := hrel
  have z0 : (0 : Int) <= (k : Int) := by omega
  by_cases h1 : k < s.size
  ·have z1 : (k : Int) < (s.size : Int) := by omega
   have hc := zal h1
   cases hb : blB (chr s k) with
   | true =>
    have HI2 : Hid (spN blB s (k + 1) = spN blB s i) := (HN.out k hb).symm.trans HI.out
    have hor : chr s k = 9 ∨ chr s k = 10 ∨ chr s k = 13 ∨ chr s k = 32 := by
     unfold blB at hb
     simpa [Bool.or_eq_true, or_assoc] using hb
    rw [hc] at hor
    clear HN HS HI hc hb
    rcases hor with hv | hv | hv | hv
    ·have v0 : ((s[k].toNat : Int) == 9) = true := by rw [hv]; rfl
     clear hv
     go_wp2_with fail
     go_roundw
     case rel => exact ⟨k + 1, by omega, by go_num, trivial, HI2⟩
     case measure => simp [intOf]; omega
    ·have v0 : ((s[k].toNat : Int) == 9) = false := by rw [hv]; rfl
     have v1 : ((s[k].toNat : Int) == 10) = true := by rw [hv]; rfl
     clear hv
     go_wp2_with fail
     go_roundw
     case rel => exact ⟨k + 1, by omega, by go_num, trivial, HI2⟩
     case measure => simp [intOf]; omega
    ·have v0 : ((s[k].toNat : Int) == 9) = false := by rw [hv]; rfl
     have v1 : ((s[k].toNat : Int) == 10) = false := by rw [hv]; rfl
     have v2 : ((s[k].toNat : Int) == 13) = true := by rw [hv]; rfl
     clear hv
     go_wp2_with fail
     go_roundw
     case rel => exact ⟨k + 1, by omega, by go_num, trivial, HI2⟩
     case measure => simp [intOf]; omega
    ·have v0 : ((s[k].toNat : Int) == 9) = false := by rw [hv]; rfl
     have v1 : ((s[k].toNat : Int) == 10) = false := by rw [hv]; rfl
     have v2 : ((s[k].toNat : Int) == 13) = false := by rw [hv]; rfl
     have v3 : ((s[k].toNat : Int) == 32) = true := by rw [hv]; rfl
     clear hv
     go_wp2_with fail
     go_roundw
     case rel => exact ⟨k + 1, by omega, by go_num, trivial, HI2⟩
     case measure => simp [intOf]; omega
   | false =>
    have HI2 : Hid (spN blB s i = k) := HI.out.symm.trans (HS.out k hb)
    rw [hc] at hb
    unfold blB at hb
    simp only [Bool.or_eq_false_iff] at hb
    obtain ⟨⟨⟨v1, v2⟩, v3⟩, v4⟩ := hb
    clear HN HS HI hc
    go_wp2_with fail
    rw [Exit.noGoto_ret]
    go_ret
    exact ⟨by rw [HI2.out]; rfl, rfl⟩
  ·have z1 : ¬ (k : Int) < (s.size : Int) := by omega
   have HI2 : Hid (spN blB s i = k) := HI.out.symm.trans (HS.out k (by rw [zat h1]; rfl))
   clear HN HS HI
   go_wp2_with fail
   first | go_ret | (rw [Exit.noGoto_ret]; go_ret)
   exact ⟨by rw [HI2.out]; rfl, rfl⟩
end Go.Proofs.YtkihfkcmcdiajaaGreatDoor
namespace Go.Proofs.YtkihfkcmcdiajaaGreatDoor.N
open Go.RowKit
theorem zaM {W W' : World} {B e s n : Nat} {v : Value} {xs : List Value} (h : W.ownsRow B e s v n xs) (hk : ∀ k, v.ownBlock = some k -> W'.heap[k]? = W.heap[k]?) : W'.ownsRow B e s v n xs := by
 refine ⟨h.1, ?_⟩
 rcases h.2 with hn | ⟨g, cap, cur, rfl, hB, hg, rest⟩
 ·exact .inl hn
 ·exact .inr ⟨g, cap, cur, rfl, hB, (hk g rfl).trans hg, rest⟩
theorem zfm {W : World} {B e s n : Nat} {v : Value} {xs : List Value} (h : W.ownsRow B e s v n xs) {k : Nat} (hk : v.ownBlock = some k) : ∃ cur, W.heap[k]? = some (.cells cur e (0, 0)) := by
 rcases h.2 with ⟨rfl, _⟩ | ⟨g, cap, cur, rfl, _, hg, _⟩
 ·cases hk
 ·cases hk; exact ⟨cur, hg⟩
theorem zdu {W : World} {B e s n B2 e2 s2 n2 : Nat} {v v2 : Value} {xs xs2 : List Value} (h : W.ownsRow B e s v n xs) (h2 : W.ownsRow B2 e2 s2 v2 n2 xs2) (hne : e ≠ e2) {k : Nat} (hk : v.ownBlock = some k) : v2.ownBlock ≠ some k := fun q => by
 obtain ⟨c1, h1⟩ := zfm h hk
 obtain ⟨c2, h3⟩ := zfm h2 q
 rw [h1] at h3
 injection h3 with h4
 injection h4 with _ h5
 exact hne h5
structure RX (W : World) (b : Nat) (tv : Value) (i d : Nat) (v : Value) : Prop where
 heap : W.heap[b]? = some (.cells #[tv, .int .i64 i, .int .i64 d, v] 97 (0, 0))
theorem RX.lt {W : World} {b : Nat} {tv v : Value} {i d : Nat} (h : RX W b tv i d v) : b < W.heap.size := (Array.getElem?_eq_some_iff.1 h.heap).1
theorem RX.same {W W' : World} {b : Nat} {tv v : Value} {i d : Nat} (h : RX W b tv i d v) (hb : W'.heap[b]? = W.heap[b]?) : RX W' b tv i d v := ⟨hb.trans h.heap⟩
theorem RX.cl {W : World} {b : Nat} {tv v : Value} {i d : Nat} (h : RX W b tv i d v) : W.cell? ⟨b, 0, none⟩ = some tv /\ W.cell? ⟨b, 1, none⟩ = some (.int .i64 i) /\ W.cell? ⟨b, 2, none⟩ = some (.int .i64 d) /\ W.cell? ⟨b, 3, none⟩ = some v := by
 have key : ∀ (j : Nat) u, (#[tv, .int .i64 i, .int .i64 d, v] : Array Value)[j]? = some u -> W.cell? ⟨b, j, none⟩ = some u := fun j u hu => by
  rw [cell_of_row W b j _ 97 (0, 0) h.heap]; exact hu
 exact ⟨key 0 _ rfl, key 1 _ rfl, key 2 _ rfl, key 3 _ rfl⟩
theorem RX.fz {W : World} {b : Nat} {tv v : Value} {i d : Nat} (h : RX W b tv i d v) (j : Nat) : W.frozen? ⟨b, j, none⟩ = false := frozen_of_row W b j _ 97 h.heap
theorem RX.s1 {W : World} {b : Nat} {tv v : Value} {i d : Nat} (h : RX W b tv i d v) (i2 : Nat) : RX (W.setCell ⟨b, 1, none⟩ (.int .i64 i2)) b tv i2 d v := ⟨by
 rw [heap_setCell_same _ b 1 _ 97 (.int .i64 i2) h.heap]; simp⟩
theorem RX.s2 {W : World} {b : Nat} {tv v : Value} {i d : Nat} (h : RX W b tv i d v) (d2 : Nat) : RX (W.setCell ⟨b, 2, none⟩ (.int .i64 d2)) b tv i d2 v := ⟨by
 rw [heap_setCell_same _ b 2 _ 97 (.int .i64 d2) h.heap]; simp⟩
theorem RX.s3 {W : World} {b : Nat} {tv v : Value} {i d : Nat} (h : RX W b tv i d v) (v2 : Value) : RX (W.setCell ⟨b, 3, none⟩ v2) b tv i d v2 := ⟨by
 rw [heap_setCell_same _ b 3 _ 97 v2 h.heap]; simp⟩
theorem RX.ne {W : World} {b B e s n : Nat} {tv v u : Value} {i d : Nat} {xs : List Value} (h : RX W b tv i d v) (ho : W.ownsRow B e s u n xs) (he : e ≠ 97) {k : Nat} (hk : u.ownBlock = some k) : k ≠ b := fun q => by
 subst q
 obtain ⟨c, hc⟩ := zfm ho hk
 rw [h.heap] at hc
 injection hc with h4
 injection h4 with _ h5
 exact he h5.symm
structure Fr (W W' : World) (b : Nat) (v v' : Value) : Prop where
 size : W.heap.size <= W'.heap.size
 block : ∀ k, k < W.heap.size -> k ≠ b -> v.ownBlock ≠ some k -> W'.heap[k]? = W.heap[k]?
 own : ∀ k, v'.ownBlock = some k -> v.ownBlock = some k ∨ W.heap.size <= k
theorem Fr.refl (W : World) (b : Nat) (v : Value) : Fr W W b v v := ⟨Nat.le_refl _, fun _ _ _ _ => rfl, fun _ h => .inl h⟩
theorem Fr.trans {W W1 W2 : World} {b : Nat} {v v1 v2 : Value} (h : Fr W W1 b v v1) (h2 : Fr W1 W2 b v1 v2) : Fr W W2 b v v2 :=
 ⟨Nat.le_trans h.size h2.size, fun k hk hb hv => (h2.block k (Nat.lt_of_lt_of_le hk h.size) hb (fun q => by
  rcases h.own k q with r | r
  ·exact hv r
  ·omega)).trans (h.block k hk hb hv), fun k hk => by
  rcases h2.own k hk with r | r
  ·exact h.own k r
  ·exact .inr (Nat.le_trans h.size r)⟩
theorem Fr.below {W W' : World} (b : Nat) (v : Value) (h : Below W.heap.size W W') : Fr W W' b v v := ⟨h.size, fun k hk _ _ => h.block k hk, fun _ h => .inl h⟩
theorem Fr.set (W : World) (b j : Nat) (u v : Value) : Fr W (W.setCell ⟨b, j, none⟩ u) b v v := ⟨by simp [World.setCell], fun k _ hb _ => Below.heap_setCell _ _ _ _ hb, fun _ h => .inl h⟩
theorem Fr.grow {W W' : World} (b : Nat) {v : Value} {g n c : Nat} (h : W.grownBy W' v.ownBlock) (hat : v.ownBlock = some g ∨ g = W.heap.size) : Fr W W' b v (.slice (some ⟨g, 0, none⟩) n c) :=
 ⟨h.size, fun k hk _ hv => h.block k hk (fun e => hv e.symm), fun k hk => by
  have e : g = k := Option.some.inj hk
  rcases hat with q | q
  ·exact .inl (by rw [q, e])
  ·exact .inr (by omega)⟩
def enT (z : Nat) : Tk := ⟨0, 0, z, 0, ⟨#[]⟩, 0, 0, 0, 0⟩
def zhO (E : PE) (z : Nat) : List Tk := E.l ++ [enT z]
def plA (E : PE) (z i : Nat) : Int := if i < E.l.length then (tkA E i).fr else z
theorem zl8 (E : PE) (z : Nat) : (zhO E z).length = E.l.length + 1 := by unfold zhO; simp
theorem zav (E : PE) (z : Nat) {i : Nat} (hi : i <= E.l.length) : ∃ t, (zhO E z)[i]? = some t /\ t.kd = kdA E i /\ t.fr = plA E z i /\ (i < E.l.length -> t = tkA E i) := by
 by_cases h : i < E.l.length
 ·refine ⟨E.l[i], ?_, ?_, ?_, fun _ => ?_⟩
  ·unfold zhO; rw [List.getElem?_append_left h, List.getElem?_eq_getElem h]
  ·unfold kdA; rw [List.getElem?_eq_getElem h]
  ·unfold plA tkA; rw [if_pos h, List.getElem?_eq_getElem h]; rfl
  ·unfold tkA; rw [List.getElem?_eq_getElem h]; rfl
 ·obtain rfl : i = E.l.length := by omega
  refine ⟨enT z, ?_, ?_, ?_, fun q => absurd q h⟩
  ·unfold zhO; rw [List.getElem?_append_right (Nat.le_refl _), Nat.sub_self]; rfl
  ·rw [zjL]; rfl
  ·unfold plA; rw [if_neg h]; rfl
structure RS (E : PE) (z : Nat) (w0 W : World) (b : Nat) (tv : Value) (i d : Nat) (v : Value) (L : List Nd) : Prop where
 bl : Below w0.heap.size w0 W
 lo : w0.heap.size <= b
 x : RX W b tv i d v
 t : W.ownsRow w0.heap.size 79 9 tv (zhO E z).length (tkc (zhO E z))
 o : W.ownsRow w0.heap.size 51 7 v L.length (T.ndc L)
 hi : i <= E.l.length
 hd : d <= 240
section
variable {E : PE} {z : Nat} {w0 W : World} {b : Nat} {tv : Value} {i d : Nat} {v : Value} {L : List Nd}
theorem RS.later (h : RS E z w0 W b tv i d v L) {W' : World} (hb : Below W.heap.size W W') : RS E z w0 W' b tv i d v L :=
 ⟨h.bl.trans (hb.mono h.bl.size), h.lo, h.x.same (hb.block b h.x.lt), znD h.t hb, znD h.o hb, h.hi, h.hd⟩
theorem RS.s1 (h : RS E z w0 W b tv i d v L) {i2 : Nat} (hi : i2 <= E.l.length) : RS E z w0 (W.setCell ⟨b, 1, none⟩ (.int .i64 i2)) b tv i2 d v L :=
 ⟨h.bl.setCell (p := ⟨b, 1, none⟩) h.lo _, h.lo, h.x.s1 i2, zaM h.t fun k hk => Below.heap_setCell _ _ _ _ (h.x.ne h.t (by decide) hk), zaM h.o fun k hk => Below.heap_setCell _ _ _ _ (h.x.ne h.o (by decide) hk), hi, h.hd⟩
theorem RS.s2 (h : RS E z w0 W b tv i d v L) {d2 : Nat} (hd : d2 <= 240) : RS E z w0 (W.setCell ⟨b, 2, none⟩ (.int .i64 d2)) b tv i d2 v L :=
 ⟨h.bl.setCell (p := ⟨b, 2, none⟩) h.lo _, h.lo, h.x.s2 d2, zaM h.t fun k hk => Below.heap_setCell _ _ _ _ (h.x.ne h.t (by decide) hk), zaM h.o fun k hk => Below.heap_setCell _ _ _ _ (h.x.ne h.o (by decide) hk), h.hi, hd⟩
theorem RS.s3 (h : RS E z w0 W b tv i d v L) {v2 : Value} {L2 : List Nd} (ho : W.ownsRow w0.heap.size 51 7 v2 L2.length (T.ndc L2)) : RS E z w0 (W.setCell ⟨b, 3, none⟩ v2) b tv i d v2 L2 :=
 ⟨h.bl.setCell (p := ⟨b, 3, none⟩) h.lo _, h.lo, h.x.s3 v2, zaM h.t fun k hk => Below.heap_setCell _ _ _ _ (h.x.ne h.t (by decide) hk), zaM ho fun k hk => Below.heap_setCell _ _ _ _ (h.x.ne ho (by decide) hk), h.hi, h.hd⟩
theorem RS.grow (h : RS E z w0 W b tv i d v L) {W' : World} {v2 : Value} {L2 : List Nd} (hg : W.grownBy W' v.ownBlock) (ho : W'.ownsRow w0.heap.size 51 7 v2 L2.length (T.ndc L2)) : RS E z w0 (W'.setCell ⟨b, 3, none⟩ v2) b tv i d v2 L2 := by
 have hx : RX W' b tv i d v := h.x.same (hg.block b h.x.lt (fun e => h.x.ne h.o (by decide) e.symm rfl))
 have ht : W'.ownsRow w0.heap.size 79 9 tv (zhO E z).length (tkc (zhO E z)) := zaM h.t fun k hk => hg.block k (h.t.lt k hk).2 (fun e => zdu h.t h.o (by decide) hk e.symm)
 have hbl : Below w0.heap.size w0 W' := h.bl.grown hg h.bl.size (fun k e => (h.o.lt k e).1)
 exact ⟨hbl.setCell (p := ⟨b, 3, none⟩) h.lo _, h.lo, hx.s3 v2, zaM ht fun k hk => Below.heap_setCell _ _ _ _ (hx.ne ht (by decide) hk), zaM ho fun k hk => Below.heap_setCell _ _ _ _ (hx.ne ho (by decide) hk), h.hi, h.hd⟩
theorem RS.tk (h : RS E z w0 W b tv i d v L) : ∃ g c, tv = .slice (some ⟨g, 0, none⟩) (E.l.length + 1) c /\ ∀ (k : Nat) t, (zhO E z)[k]? = some t -> TR W g (k * 9) t := by
 obtain ⟨A, c, e, hr⟩ := zfK h.t rfl
 obtain ⟨g, rfl, _, hc⟩ := hr.rd (by unfold zhO; simp)
 exact ⟨g, c, by rw [e, zl8], hc⟩
end
abbrev tkZ : Obj := .cells #[.int .i64 0, .int .i64 0, .int .i64 0, .int .i64 0, .string ⟨#[]⟩, .int .u64 0, .int .u64 0, .int .u64 0, .int .u64 0] 79
theorem zjn (a b c d e0 e1 e2 e3 : Value) (k : Int) (W : World) : (Instr.field 79 (.agg #[.int .i64 k, a, b, c, d, e0, e1, e2, e3]) 0).run Tryz.prog W = .ok (.int .i64 k) W := by simp [Instr.field, run_underlying Tryz.underlying79, asAgg, go_sem, Tryz.isAgg3, Tryz.sizeOf3]
theorem fld2 (a b c d e0 e1 e2 e3 : Value) (k : Int) (W : World) : (Instr.field 79 (.agg #[a, b, .int .i64 k, c, d, e0, e1, e2, e3]) 2).run Tryz.prog W = .ok (.int .i64 k) W := by simp [Instr.field, run_underlying Tryz.underlying79, asAgg, go_sem, Tryz.isAgg3, Tryz.sizeOf3]
theorem zor {fn : Func} {R : Ending -> World -> Prop} {a : Act} {W : World} {b : Nat} {t : Tk} (hF : fn.results = #[.cell 2 79]) (hd : a.defers = []) (h2 : a.tmps.getD 2 undef = .pointer (some ⟨b, 0, none⟩)) (hT : TX W b t) (hR : R (.returned (tkG t)) W) : bodyPost Tryz.prog fn R .ret a W := by
 obtain ⟨c0, c1, c2, c3, c4, c5, c6, c7, c8⟩ := hT.cells
 refine bodyPost_ret (v := tkG t) ?_ hd hR
 simp only [Array.getD_eq_getD_getElem?] at h2
 simp [results, hF, go_sem, h2, c0, c1, c2, c3, c4, c5, c6, c7, c8]
theorem zay {E : PE} {z : Nat} {w0 W : World} {b : Nat} {tv : Value} {i d : Nat} {v : Value} {L : List Nd} (h : RS E z w0 W b tv i d v L) (t : Tk) (ht : (zhO E z)[i]? = some t) :
  Calls Tryz.prog 46 #[.pointer (some ⟨b, 0, none⟩)] W fun e W' => e = .returned (.agg #[.int .i64 t.kd, .int .i64 t.nn, .int .i64 t.fr, .int .i64 t.en, .string t.tx, .int .u64 t.s0, .int .u64 t.s1, .int .u64 t.s2, .int .u64 t.s3]) /\ Below W.heap.size W W' := by
 have HX : Hid (RS E z w0 (W.alloc tkZ) b tv i d v L) := h.later (zaa _ _)
 have HT : Hid (TX (W.alloc tkZ) W.heap.size tk0) := TX.new W tk0
 have HB : Hid (Below W.heap.size W (W.alloc tkZ)) := zaa _ _
 have HG : Hid ((zhO E z)[i]? = some t) := ht
 have hi := h.hi
 have z0 : (0 : Int) <= (i : Int) := by omega
 have z1 : (i : Int) < ((E.l.length + 1 : Nat) : Int) := by omega
 clear h ht
 go_enter Tryz.func46, Tryz.ntmps46
 go_wp2_with fail
 generalize W.alloc tkZ = w1 at *
 obtain ⟨g, c, rfl, hc⟩ := HX.out.tk
 obtain ⟨a0, a1, a2, a3, a4, a5, a6, a7, a8⟩ := hc i t HG.out
 obtain ⟨k0, k1, k2, k3⟩ := HX.out.x.cl
 obtain ⟨f0, f1', f2', f3, f4, f5, f6, f7, f8⟩ := HT.out.fz
 obtain ⟨y0, y1, y2, y3, y4, y5, y6, y7, y8⟩ := HT.out.cells
 clear hc HX HG
 generalize E.l.length + 1 = n at *
 go_region
 go_wp2_with fail
 exact zor rfl rfl rfl ((zar HT.out t).below (Below.refl _ _).drew) ⟨rfl, (zad HB.out (Nat.le_refl _) t).drew⟩
theorem zaf {P : Program} {fn : Func} {R : Ending -> World -> Prop} {ch : List PanicEntry} {a : Act} {w : World} (hd : a.defers = []) (h : R (.panicked ch) w) : bodyPost P fn R (.panic ch) a w := ⟨hd, h⟩
abbrev pnc (a c : Int) : Ending := .panicked [{ v := .iface 27 (.agg #[.int .i64 a, .int .i64 c]), recovered := false }]
theorem zfn {E : PE} {z : Nat} {w0 W : World} {b : Nat} {tv : Value} {i d : Nat} {v : Value} {L : List Nd} (h : RS E z w0 W b tv i d v L) (hlt : i < E.l.length) (hz : E.l.length <= 1000000) :
  Calls Tryz.prog 47 #[.pointer (some ⟨b, 0, none⟩)] W fun e W' => e = .returned (.int .i64 (kdA E (i + 1))) /\ Below W.heap.size W W' := by
 obtain ⟨t, ht, hk, _, _⟩ := zav E z (i := i + 1) (by omega)
 have HK : Hid (t.kd = kdA E (i + 1)) := hk
 obtain ⟨j, hj⟩ : ∃ j, j = i + 1 := ⟨_, rfl⟩
 rw [<- hj] at ht HK ⊢
 have u1 : IntKind.i64.wrap ((i : Int) + 1) = (j : Int) := by rw [IntKind.wrap_i64]; omega
 have z0 : (0 : Int) <= (j : Int) := by omega
 have z1 : (j : Int) < ((E.l.length + 1 : Nat) : Int) := by omega
 obtain ⟨g, c, rfl, hc⟩ := h.tk
 obtain ⟨a0, a1, a2, a3, a4, a5, a6, a7, a8⟩ := hc j t ht
 obtain ⟨k0, k1, k2, k3⟩ := h.x.cl
 clear hc h ht hk hj
 generalize E.l.length + 1 = n at *
 go_enter Tryz.func47, Tryz.ntmps47
 go_wp2_with fail
 go_quiet (fail)
 go_wp2_with fail
 go_ret
 exact ⟨by rw [<- HK.out]; rfl, below_drewN (Below.refl _ _) _⟩
theorem zc7 (a c : Int) (W : World) : Calls Tryz.prog 45 #[.int .i64 a, .int .i64 c] W fun e W' => e = pnc a c /\ W' = W := by
 go_enter Tryz.func45, Tryz.ntmps45
 go_wp2_with fail
 exact ⟨rfl, rfl, rfl⟩
theorem zbG {E : PE} {z : Nat} {w0 W : World} {b : Nat} {tv : Value} {i d : Nat} {v : Value} {L : List Nd} (h : RS E z w0 W b tv i d v L) (c : Int) :
  Calls Tryz.prog 50 #[.pointer (some ⟨b, 0, none⟩), .int .i64 c] W fun e W' => e = pnc (plA E z i) c /\ Below W.heap.size W W' := by
 obtain ⟨t, ht, _, hp, _⟩ := zav E z h.hi
 have HP : Hid (t.fr = plA E z i) := hp
 have HH : Hid (∀ _ : Unit, Calls Tryz.prog 46 #[.pointer (some ⟨b, 0, none⟩)] W fun e W' => e = .returned (.agg #[.int .i64 t.kd, .int .i64 t.nn, .int .i64 t.fr, .int .i64 t.en, .string t.tx, .int .u64 t.s0, .int .u64 t.s1, .int .u64 t.s2, .int .u64 t.s3]) /\ Below W.heap.size W W') := fun _ => zay h t ht
 have HU : Hid (∀ a W, Calls Tryz.prog 45 #[.int .i64 a, .int .i64 c] W fun e W' => e = pnc a c /\ W' = W) := fun a W => zc7 a c W
 clear h ht hp
 have fl2 := fld2
 go_enter Tryz.func50, Tryz.ntmps50
 go_wp2_with fail
 refine (HH.out ()).mono ?_
 rintro e w1 ⟨rfl, hb⟩
 have HB := hO hb
 clear hb HH
 go_wp2_with fail
 refine (HU.out _ _).mono ?_
 rintro e w2 ⟨rfl, rfl⟩
 exact zaf rfl ⟨by rw [<- HP.out], HB.out⟩
end Go.Proofs.YtkihfkcmcdiajaaGreatDoor.N
namespace Go.Proofs.YtkihfkcmcdiajaaGreatDoor.T
abbrev Pt := Nat × Nat × Nat
def ze1 (L : List Nd) (k : Nat) : Int := match L[k]? with
 | some n => n.op
 | none => 0
def arN (op : Int) : Nat := (ar op).toNat
def mk (L : List Nd) (k : Nat) (op : Int) (st : List Pt) : Pt :=
 if arN op = 0 then (k, k, 1) else if arN op = 1 then (match st with
  | x :: _ => (x.1, k, max 1 (x.2.2 + 1))
  | [] => (k, k, 1)) else (match st with
  | y :: x :: _ => (x.1, k, max (max 1 (if ze1 L x.2.1 = op then x.2.2 else x.2.2 + 1)) (y.2.2 + 1))
  | _ => (k, k, 1))
def run (L : List Nd) : Nat -> List Pt
 | 0 => []
 | k + 1 => mk L k (ze1 L k) (run L k) :: (run L k).drop (arN (ze1 L k))
def pt (L : List Nd) (k : Nat) : Pt := mk L k (ze1 L k) (run L k)
theorem zfL (L : List Nd) (k : Nat) : run L (k + 1) = pt L k :: (run L k).drop (arN (ze1 L k)) := rfl
def er (L : List Nd) (k : Nat) : Int := match L[k]? with
 | none => 0
 | some n => if alE n ≠ 0 then alE n else if (run L k).length < arN n.op then 42 else if 60 < (pt L k).2.2 then 4 else 0
def zeh (L : List Nd) : Nat -> Nat -> Nat × Int
 | 0, _ => if (run L L.length).length = 1 then (0, 0) else (L.length, 42)
 | m + 1, k => if er L k ≠ 0 then (k, er L k) else zeh L m (k + 1)
def ck (L : List Nd) : Nat × Int := if 2048 < L.length then (0, 2) else zeh L L.length 0
theorem zgi (L : List Nd) : ∀ (k m : Nat), k + m = L.length -> (∀ j, j < k -> er L j = 0) -> zeh L L.length 0 = zeh L m k := by
 intro k
 induction k with
 | zero => intro m hm _; rw [<- hm, Nat.zero_add]
 | succ k ih =>
  intro m hm h
  rw [ih (m + 1) (by omega) (fun j hj => h j (by omega)), zeh, if_neg (by rw [h k (by omega)]; simp)]
theorem zjQ {L : List Nd} {k : Nat} (hl : ¬ 2048 < L.length) (hk : k < L.length) (h : ∀ j, j < k -> er L j = 0) (he : er L k ≠ 0) : ck L = (k, er L k) := by
 rw [ck, if_neg hl, zgi L k (L.length - k) (by omega) h, show L.length - k = (L.length - k - 1) + 1 from by omega, zeh, if_pos he]
theorem ck_end {L : List Nd} (hl : ¬ 2048 < L.length) (h : ∀ j, j < L.length -> er L j = 0) : ck L = if (run L L.length).length = 1 then (0, 0) else (L.length, 42) := by
 rw [ck, if_neg hl, zgi L L.length 0 (by omega) h, zeh]
theorem zos {L : List Nd} (hl : 2048 < L.length) : ck L = (0, 2) := by rw [ck, if_pos hl]
theorem zl9 {L : List Nd} {k : Nat} {n : Nd} (h : L[k]? = some n) : er L k = if alE n ≠ 0 then alE n else if (run L k).length < arN n.op then 42 else if 60 < (pt L k).2.2 then 4 else 0 := by
 unfold er; rw [h]
theorem zma {L : List Nd} {k : Nat} {n : Nd} (h : L[k]? = some n) : ze1 L k = n.op := by unfold ze1; rw [h]
theorem alE_ar {n : Nd} (h : alE n = 0) : 0 <= ar n.op := by
 unfold alE at h
 split at h
 ·cases h
 ·omega
def Chn (L : List Nd) : Nat -> List Pt -> Prop
 | at', [] => at' = 0
 | at', x :: r => x.2.1 + 1 = at' /\ x = pt L x.2.1 /\ x.1 <= x.2.1 /\ Chn L x.1 r
theorem zot (L : List Nd) (k : Nat) (op : Int) (st : List Pt) : (mk L k op st).2.1 = k := by
 unfold mk
 split
 ·rfl
 ·split
  ·split <;> rfl
  ·split <;> rfl
theorem zhP (op : Int) : arN op <= 2 := by unfold arN; have := ar_hi op; omega
theorem zou (L : List Nd) : ∀ k, k <= L.length -> (∀ j, j < k -> er L j = 0) -> Chn L k (run L k) := by
 intro k
 induction k with
 | zero => intro _ _; exact rfl
 | succ k ih =>
  intro hk h
  have c := ih (by omega) (fun j hj => h j (by omega))
  have hn : L[k]? = some L[k] := List.getElem?_eq_getElem (by omega)
  have he := h k (by omega)
  rw [zl9 hn] at he
  have ha : alE L[k] = 0 := by
   apply Classical.byContradiction
   intro q
   rw [if_pos q] at he
   exact q he
  rw [if_neg (by simp [ha])] at he
  have hl : ¬ (run L k).length < arN L[k].op := by
   intro q
   rw [if_pos q] at he
   cases he
  have hop := zma hn
  rw [zfL]
  have hlast : (pt L k).2.1 = k := zot _ _ _ _
  refine ⟨by rw [hlast], by rw [hlast], ?_, ?_⟩
  ·rw [hlast]
   unfold pt mk
   rw [hop]
   split
   ·exact Nat.le_refl _
   ·split
    ·cases hr : run L k with
     | nil => exact Nat.le_refl _
     | cons x r => rw [hr] at c; have := c.1; have := c.2.2.1; show x.1 <= k; omega
    ·cases hr : run L k with
     | nil => exact Nat.le_refl _
     | cons y r =>
      rw [hr] at c
      cases hr2 : r with
      | nil => exact Nat.le_refl _
      | cons x r2 =>
       rw [hr2] at c
       have h1 := c.1; have h2 := c.2.2.1; have h3 := c.2.2.2.1; have h4 := c.2.2.2.2.2.1
       show x.1 <= k
       omega
  ·have h2 := zhP L[k].op
   unfold pt mk
   rw [hop]
   by_cases a0 : arN L[k].op = 0
   ·rw [if_pos a0, a0]
    exact c
   ·rw [if_neg a0]
    by_cases a1 : arN L[k].op = 1
    ·rw [if_pos a1, a1]
     rw [a1] at hl
     cases hr : run L k with
     | nil => rw [hr] at hl; exact absurd (by simp) hl
     | cons x r => rw [hr] at c; exact c.2.2.2
    ·rw [if_neg a1, show arN L[k].op = 2 from by omega]
     rw [show arN L[k].op = 2 from by omega] at hl
     cases hr : run L k with
     | nil => rw [hr] at hl; exact absurd (by simp) hl
     | cons y r =>
      rw [hr] at c hl
      cases hr2 : r with
      | nil => rw [hr2] at hl; exact absurd (by simp) hl
      | cons x r2 => rw [hr2] at c; exact c.2.2.2.2.2.2
theorem zov (L : List Nd) : ∀ (st : List Pt) (k : Nat), Chn L k st -> ∀ x ∈ st, x.2.1 < k /\ x.1 <= x.2.1 /\ x = pt L x.2.1 := by
 intro st
 induction st with
 | nil => intro k _ x hx; cases hx
 | cons y r ih =>
  intro k h x hx
  obtain ⟨h1, h2, h3, h4⟩ := h
  rcases List.mem_cons.1 hx with rfl | hx
  ·exact ⟨by omega, h3, h2⟩
  ·obtain ⟨a, b, c⟩ := ih y.1 h4 x hx
   exact ⟨by omega, b, c⟩
structure ErOk (L : List Nd) (k : Nat) (n : Nd) : Prop where
 al : alE n = 0
 ar : arN n.op <= (run L k).length
 ht : (pt L k).2.2 <= 60
theorem er_ok {L : List Nd} {k : Nat} {n : Nd} (hn : L[k]? = some n) (h : er L k = 0) : ErOk L k n := by
 rw [zl9 hn] at h
 by_cases h1 : alE n ≠ 0
 ·rw [if_pos h1] at h; exact absurd h h1
 rw [if_neg h1] at h
 by_cases h2 : (run L k).length < arN n.op
 ·rw [if_pos h2] at h; cases h
 rw [if_neg h2] at h
 by_cases h3 : 60 < (pt L k).2.2
 ·rw [if_pos h3] at h; cases h
 exact ⟨Classical.byContradiction h1, by omega, by omega⟩
theorem run_bd {L : List Nd} {k : Nat} (hk : k <= L.length) (h : ∀ j, j < k -> er L j = 0) : ∀ x ∈ run L k, x.1 <= x.2.1 /\ x.2.1 < k /\ x.2.2 <= 60 /\ x = pt L x.2.1 := by
 intro x hx
 obtain ⟨a, b, c⟩ := zov L _ k (zou L k hk h) x hx
 have hn : L[x.2.1]? = some L[x.2.1] := List.getElem?_eq_getElem (by omega)
 have := (er_ok hn (h _ a)).ht
 rw [<- c] at this
 exact ⟨b, a, this, c⟩
theorem zow (L : List Nd) (k : Nat) : (run L k).length <= k := by
 induction k with
 | zero => exact Nat.le_refl _
 | succ k ih => rw [zfL, List.length_cons, List.length_drop]; omega
theorem arN_of {n : Nd} (h : alE n = 0) : ((arN n.op : Nat) : Int) = ar n.op := by
 have := alE_ar h
 unfold arN
 omega
theorem zmb {α : Type} (st : List α) (a : Nat) (h : a <= st.length) : st.reverse.drop (st.length - a) = (st.take a).reverse := by
 rw [List.drop_reverse]
 congr 2
 omega
theorem zmc {α : Type} (st : List α) (a : Nat) (h : a <= st.length) : st.reverse.take (st.length - a) = (st.drop a).reverse := by
 rw [List.take_reverse]
 congr 2
 omega
open Go.RowKit
theorem zeD (c : Int) (w : World) : Calls Tryz.prog 123 #[.int .u8 c] w fun e w' => e = .returned (.bool (dgB c)) /\ w' = w := by
 by_cases h : 48 <= c
 ·have HE : Hid (dgB c = decide (c <= 57)) := (by show dgB c = _; unfold dgB; rw [decide_eq_true h]; rfl)
  go_enter Tryz.func123, Tryz.ntmps123
  go_wp2
  go_ret
  exact ⟨by rw [HE.out]; rfl, rfl⟩
 ·have HE : Hid (dgB c = false) := (by show dgB c = _; unfold dgB; rw [decide_eq_false h]; rfl)
  go_enter Tryz.func123, Tryz.ntmps123
  go_wp2
  go_ret
  exact ⟨by rw [HE.out]; rfl, rfl⟩
theorem zgj (c : Int) (w : World) : Calls Tryz.prog 124 #[.int .u8 c] w fun e w' => e = .returned (.bool (ltB c)) /\ w' = w := by
 have HE : Hid (ltB c = ((decide (97 <= c) && decide (c <= 122)) || (decide (65 <= c) && decide (c <= 90)))) := rfl
 by_cases h : 97 <= c <;> by_cases h1 : c <= 122 <;> by_cases h2 : 65 <= c <;> by_cases h3 : c <= 90
 all_goals
  go_enter Tryz.func124, Tryz.ntmps124
  go_wp2
  go_ret
  refine ⟨zaF ?_, rfl⟩
  rw [HE.out]
  simp <;> omega
theorem zgk (op : Int) (w : World) : Calls Tryz.prog 40 #[.int .i64 op] w fun e w' => e = .returned (.int .i64 (ar op)) /\ w' = w := by
 by_cases h1 : op < 1
 ·have HE : Hid (ar op = -1) := (by show ar op = _; unfold ar; rw [if_pos (.inl h1)])
  go_enter Tryz.func40, Tryz.ntmps40
  go_wp2
  go_ret
  exact ⟨by rw [HE.out]; rfl, rfl⟩
 by_cases h2 : 23 < op
 ·have HE : Hid (ar op = -1) := (by show ar op = _; unfold ar; rw [if_pos (.inr h2)])
  go_enter Tryz.func40, Tryz.ntmps40
  go_wp2
  go_ret
  exact ⟨by rw [HE.out]; rfl, rfl⟩
 by_cases h3 : op <= 6
 ·have HE : Hid (ar op = 0) := (by show ar op = _; unfold ar; rw [if_neg (by omega), if_pos (.inl h3)])
  go_enter Tryz.func40, Tryz.ntmps40
  go_wp2
  go_ret
  exact ⟨by rw [HE.out]; rfl, rfl⟩
 by_cases h4 : op = 17
 ·have HE : Hid (ar op = 0) := (by show ar op = _; unfold ar; rw [if_neg (by omega), if_pos (.inr h4)])
  have e4 : (op == 17) = true := beq_iff_eq.2 h4
  clear h4
  go_enter Tryz.func40, Tryz.ntmps40
  go_wp2
  go_ret
  exact ⟨by rw [HE.out]; rfl, rfl⟩
 have e4 : (op == 17) = false := bF h4
 by_cases h5 : op = 7
 ·have HE : Hid (ar op = 2) := (by show ar op = _; unfold ar; rw [if_neg (by omega), if_neg (by omega), if_pos (.inl h5)])
  have e5 : (op == 7) = true := beq_iff_eq.2 h5
  clear h5 h4
  go_enter Tryz.func40, Tryz.ntmps40
  go_wp2
  go_ret
  exact ⟨by rw [HE.out]; rfl, rfl⟩
 have e5 : (op == 7) = false := bF h5
 by_cases h6 : op = 8
 ·have HE : Hid (ar op = 2) := (by show ar op = _; unfold ar; rw [if_neg (by omega), if_neg (by omega), if_pos (.inr h6)])
  have e6 : (op == 8) = true := beq_iff_eq.2 h6
  clear h6 h5 h4
  go_enter Tryz.func40, Tryz.ntmps40
  go_wp2
  go_ret
  exact ⟨by rw [HE.out]; rfl, rfl⟩
 have e6 : (op == 8) = false := bF h6
 have HE : Hid (ar op = 1) := (by show ar op = _; unfold ar; rw [if_neg (by omega), if_neg (by omega), if_neg (by omega)])
 clear h6 h5 h4
 go_enter Tryz.func40, Tryz.ntmps40
 go_wp2
 go_ret
 exact ⟨by rw [HE.out]; rfl, rfl⟩
end Go.Proofs.YtkihfkcmcdiajaaGreatDoor.T
