/- DERIVED. Plain mathematics and walks, laid together (14). -/
import Derived.Lib.ItoaNum
import Derived.Laws.OwnMore
import Derived.Lib.AppendStr
import Derived.Laws.Bits64b
import Derived.Deep.RegionHeld3
import Derived.Test.YtkihfkcmcdiajaaGreatDoorPb13
set_option maxRecDepth 100000
set_option maxHeartbeats 8000000
namespace Go.Proofs.YtkihfkcmcdiajaaGreatDoor
open Go.RowKit
theorem zcC (kd nn fr en : Int) (tx : ByteArray) (s0 s1 s2 s3 n : Int) (ty : ByteArray) (r0 r1 r2 r3 : Int) : tkQ ⟨kd, nn, fr, en, tx, s0, s1, s2, s3⟩ ⟨kd, n, fr, en, ty, r0, r1, r2, r3⟩ = (nn == n && ((tx.toList == ty.toList) && (s0 == r0 && (s1 == r1 && (s2 == r2 && s3 == r3))))) := by
 unfold tkQ
 simp
theorem zdH {a b : Bool} (h : a = b) : Ending.returned (.bool a) = .returned (.bool b) := by rw [h]
theorem rq_1 (kd nn fr en s0 s1 s2 s3 : Int) (tx : ByteArray) (h : kd = 1) (w : World) : Calls Tryz.prog 68 #[.agg #[.int .i64 kd, .int .i64 nn, .int .i64 fr, .int .i64 en, .string tx, .int .u64 s0, .int .u64 s1, .int .u64 s2, .int .u64 s3]] w fun e w' => e = .returned (.bool (riF ⟨kd, nn, fr, en, tx, s0, s1, s2, s3⟩)) /\ Below w.heap.size w w' := by
 refine (rg_1 kd nn fr en s0 s1 s2 s3 tx h w).mono ?_
 rintro e w1 ⟨rfl, hb⟩
 refine ⟨zdH ?_, hb⟩
 subst h
 rw [zcC]
 unfold riF txF nbF seF gtK
 simp only [beq_self_eq_true, Bool.true_and]
 generalize zeb tx = a
 rw [Bool.eq_iff_iff]; cases a <;> simp <;> omega
theorem rq_21 (kd nn fr en s0 s1 s2 s3 : Int) (tx : ByteArray) (h : kd = 21) (w : World) : Calls Tryz.prog 68 #[.agg #[.int .i64 kd, .int .i64 nn, .int .i64 fr, .int .i64 en, .string tx, .int .u64 s0, .int .u64 s1, .int .u64 s2, .int .u64 s3]] w fun e w' => e = .returned (.bool (riF ⟨kd, nn, fr, en, tx, s0, s1, s2, s3⟩)) /\ Below w.heap.size w w' := by
 refine (rg_21 kd nn fr en s0 s1 s2 s3 tx h w).mono ?_
 rintro e w1 ⟨rfl, hb⟩
 refine ⟨zdH ?_, hb⟩
 subst h
 rw [zcC]
 unfold riF txF nbF seF gtK
 simp only [beq_self_eq_true, Bool.true_and]
 generalize zeb tx = a
 generalize (tx.toList == []) = c
 rw [Bool.eq_iff_iff]; cases a <;> cases c <;> simp <;> omega
theorem rq_2 (kd nn fr en s0 s1 s2 s3 : Int) (tx : ByteArray) (h : kd = 2) (w : World) : Calls Tryz.prog 68 #[.agg #[.int .i64 kd, .int .i64 nn, .int .i64 fr, .int .i64 en, .string tx, .int .u64 s0, .int .u64 s1, .int .u64 s2, .int .u64 s3]] w fun e w' => e = .returned (.bool (riF ⟨kd, nn, fr, en, tx, s0, s1, s2, s3⟩)) /\ Below w.heap.size w w' := by
 refine (rg_2 kd nn fr en s0 s1 s2 s3 tx h w).mono ?_
 rintro e w1 ⟨rfl, hb⟩
 refine ⟨zdH ?_, hb⟩
 subst h
 rw [zcC]
 unfold riF txF nbF seF gtK
 simp only [beq_self_eq_true, Bool.true_and]
 rw [Bool.eq_iff_iff]; simp; omega
theorem rq_3 (kd nn fr en s0 s1 s2 s3 : Int) (tx : ByteArray) (h : kd = 3) (w : World) : Calls Tryz.prog 68 #[.agg #[.int .i64 kd, .int .i64 nn, .int .i64 fr, .int .i64 en, .string tx, .int .u64 s0, .int .u64 s1, .int .u64 s2, .int .u64 s3]] w fun e w' => e = .returned (.bool (riF ⟨kd, nn, fr, en, tx, s0, s1, s2, s3⟩)) /\ Below w.heap.size w w' := by
 refine (rg_3 kd nn fr en s0 s1 s2 s3 tx h w).mono ?_
 rintro e w1 ⟨rfl, hb⟩
 refine ⟨zdH ?_, hb⟩
 subst h
 rw [zcC]
 have em : (⟨#[]⟩ : ByteArray).toList = [] := by rw [ByteArray.toList_eq]
 rw [em]
 unfold riF txF nbF seF gtK
 generalize (tx.toList == []) = a
 rw [Bool.eq_iff_iff]; cases a <;> simp <;> omega
theorem rq_4 (kd nn fr en s0 s1 s2 s3 : Int) (tx : ByteArray) (h : kd = 4) (w : World) : Calls Tryz.prog 68 #[.agg #[.int .i64 kd, .int .i64 nn, .int .i64 fr, .int .i64 en, .string tx, .int .u64 s0, .int .u64 s1, .int .u64 s2, .int .u64 s3]] w fun e w' => e = .returned (.bool (riF ⟨kd, nn, fr, en, tx, s0, s1, s2, s3⟩)) /\ Below w.heap.size w w' := by
 refine (rg_4 kd nn fr en s0 s1 s2 s3 tx h w).mono ?_
 rintro e w1 ⟨rfl, hb⟩
 refine ⟨zdH ?_, hb⟩
 subst h
 rw [zcC]
 have em : (⟨#[]⟩ : ByteArray).toList = [] := by rw [ByteArray.toList_eq]
 rw [em]
 unfold riF txF nbF seF gtK
 generalize (tx.toList == []) = a
 rw [Bool.eq_iff_iff]; cases a <;> simp <;> omega
theorem rq_13 (kd nn fr en s0 s1 s2 s3 : Int) (tx : ByteArray) (h : kd = 13) (w : World) : Calls Tryz.prog 68 #[.agg #[.int .i64 kd, .int .i64 nn, .int .i64 fr, .int .i64 en, .string tx, .int .u64 s0, .int .u64 s1, .int .u64 s2, .int .u64 s3]] w fun e w' => e = .returned (.bool (riF ⟨kd, nn, fr, en, tx, s0, s1, s2, s3⟩)) /\ Below w.heap.size w w' := by
 refine (rg_13 kd nn fr en s0 s1 s2 s3 tx h w).mono ?_
 rintro e w1 ⟨rfl, hb⟩
 refine ⟨zdH ?_, hb⟩
 subst h
 rw [zcC]
 have em : (⟨#[]⟩ : ByteArray).toList = [] := by rw [ByteArray.toList_eq]
 rw [em]
 unfold riF txF nbF seF gtK
 generalize (tx.toList == []) = a
 rw [Bool.eq_iff_iff]; cases a <;> simp <;> omega
theorem rq_14 (kd nn fr en s0 s1 s2 s3 : Int) (tx : ByteArray) (h : kd = 14) (w : World) : Calls Tryz.prog 68 #[.agg #[.int .i64 kd, .int .i64 nn, .int .i64 fr, .int .i64 en, .string tx, .int .u64 s0, .int .u64 s1, .int .u64 s2, .int .u64 s3]] w fun e w' => e = .returned (.bool (riF ⟨kd, nn, fr, en, tx, s0, s1, s2, s3⟩)) /\ Below w.heap.size w w' := by
 refine (rg_14 kd nn fr en s0 s1 s2 s3 tx h w).mono ?_
 rintro e w1 ⟨rfl, hb⟩
 refine ⟨zdH ?_, hb⟩
 subst h
 rw [zcC]
 have em : (⟨#[]⟩ : ByteArray).toList = [] := by rw [ByteArray.toList_eq]
 rw [em]
 unfold riF txF nbF seF gtK
 generalize (tx.toList == []) = a
 rw [Bool.eq_iff_iff]; cases a <;> simp <;> omega
theorem rq_15 (kd nn fr en s0 s1 s2 s3 : Int) (tx : ByteArray) (h : kd = 15) (w : World) : Calls Tryz.prog 68 #[.agg #[.int .i64 kd, .int .i64 nn, .int .i64 fr, .int .i64 en, .string tx, .int .u64 s0, .int .u64 s1, .int .u64 s2, .int .u64 s3]] w fun e w' => e = .returned (.bool (riF ⟨kd, nn, fr, en, tx, s0, s1, s2, s3⟩)) /\ Below w.heap.size w w' := by
 refine (rg_15 kd nn fr en s0 s1 s2 s3 tx h w).mono ?_
 rintro e w1 ⟨rfl, hb⟩
 refine ⟨zdH ?_, hb⟩
 subst h
 rw [zcC]
 have em : (⟨#[]⟩ : ByteArray).toList = [] := by rw [ByteArray.toList_eq]
 rw [em]
 unfold riF txF nbF seF gtK
 generalize (tx.toList == []) = a
 rw [Bool.eq_iff_iff]; cases a <;> simp <;> omega
theorem rq_29 (kd nn fr en s0 s1 s2 s3 : Int) (tx : ByteArray) (h : kd = 29) (w : World) : Calls Tryz.prog 68 #[.agg #[.int .i64 kd, .int .i64 nn, .int .i64 fr, .int .i64 en, .string tx, .int .u64 s0, .int .u64 s1, .int .u64 s2, .int .u64 s3]] w fun e w' => e = .returned (.bool (riF ⟨kd, nn, fr, en, tx, s0, s1, s2, s3⟩)) /\ Below w.heap.size w w' := by
 refine (rg_29 kd nn fr en s0 s1 s2 s3 tx h w).mono ?_
 rintro e w1 ⟨rfl, hb⟩
 refine ⟨zdH ?_, hb⟩
 subst h
 rw [zcC]
 have em : (⟨#[]⟩ : ByteArray).toList = [] := by rw [ByteArray.toList_eq]
 rw [em]
 unfold riF txF nbF seF gtK
 generalize (tx.toList == []) = a
 rw [Bool.eq_iff_iff]; cases a <;> simp <;> omega
theorem rq_30 (kd nn fr en s0 s1 s2 s3 : Int) (tx : ByteArray) (h : kd = 30) (w : World) : Calls Tryz.prog 68 #[.agg #[.int .i64 kd, .int .i64 nn, .int .i64 fr, .int .i64 en, .string tx, .int .u64 s0, .int .u64 s1, .int .u64 s2, .int .u64 s3]] w fun e w' => e = .returned (.bool (riF ⟨kd, nn, fr, en, tx, s0, s1, s2, s3⟩)) /\ Below w.heap.size w w' := by
 refine (rg_30 kd nn fr en s0 s1 s2 s3 tx h w).mono ?_
 rintro e w1 ⟨rfl, hb⟩
 refine ⟨zdH ?_, hb⟩
 subst h
 rw [zcC]
 have em : (⟨#[]⟩ : ByteArray).toList = [] := by rw [ByteArray.toList_eq]
 rw [em]
 unfold riF txF nbF seF gtK
 generalize (tx.toList == []) = a
 rw [Bool.eq_iff_iff]; cases a <;> simp <;> omega
theorem rq_5 (kd nn fr en s0 s1 s2 s3 : Int) (tx : ByteArray) (h : kd = 5) (u0 : 0 <= s0) (u1 : s0 < 18446744073709551616) (w : World) : Calls Tryz.prog 68 #[.agg #[.int .i64 kd, .int .i64 nn, .int .i64 fr, .int .i64 en, .string tx, .int .u64 s0, .int .u64 s1, .int .u64 s2, .int .u64 s3]] w fun e w' => e = .returned (.bool (riF ⟨kd, nn, fr, en, tx, s0, s1, s2, s3⟩)) /\ Below w.heap.size w w' := by
 refine (rg_5 kd nn fr en s0 s1 s2 s3 tx h u0 u1 w).mono ?_
 rintro e w1 ⟨rfl, hb⟩
 refine ⟨zdH ?_, hb⟩
 subst h
 rw [zcC]
 have em : (⟨#[]⟩ : ByteArray).toList = [] := by rw [ByteArray.toList_eq]
 rw [em]
 unfold riF txF nbF seF gtK
 generalize (tx.toList == []) = a
 rw [Bool.eq_iff_iff]; cases a <;> simp <;> omega
theorem rq_no (kd nn fr en s0 s1 s2 s3 : Int) (tx : ByteArray) (n1 : ¬ kd = 1) (n21 : ¬ kd = 21) (n2 : ¬ kd = 2) (n3 : ¬ kd = 3) (n28 : ¬ kd = 28) (n5 : ¬ kd = 5) (n4 : ¬ kd = 4) (n13 : ¬ kd = 13) (n14 : ¬ kd = 14) (n15 : ¬ kd = 15) (n29 : ¬ kd = 29) (n30 : ¬ kd = 30) (w : World) : Calls Tryz.prog 68 #[.agg #[.int .i64 kd, .int .i64 nn, .int .i64 fr, .int .i64 en, .string tx, .int .u64 s0, .int .u64 s1, .int .u64 s2, .int .u64 s3]] w fun e w' => e = .returned (.bool (riF ⟨kd, nn, fr, en, tx, s0, s1, s2, s3⟩)) /\ Below w.heap.size w w' := by
 refine (rg_no kd nn fr en s0 s1 s2 s3 tx n1 n21 n2 n3 n28 n5 n4 n13 n14 n15 n29 n30 w).mono ?_
 rintro e w1 ⟨rfl, hb⟩
 refine ⟨zdH ?_, hb⟩
 rw [zcC]
 have em : (⟨#[]⟩ : ByteArray).toList = [] := by rw [ByteArray.toList_eq]
 rw [em]
 unfold riF txF nbF seF gtK
 simp only [if_neg n1, if_neg n21, if_neg n2, if_neg n28, if_neg n5, if_neg n3]
 rw [if_neg n4, if_neg (by omega)]
 generalize (tx.toList == []) = a
 rw [Bool.eq_iff_iff]; cases a <;> simp <;> omega
theorem rq_28 (kd nn fr en s0 s1 s2 s3 : Int) (tx : ByteArray) (h : kd = 28) (w : World) : Calls Tryz.prog 68 #[.agg #[.int .i64 kd, .int .i64 nn, .int .i64 fr, .int .i64 en, .string tx, .int .u64 s0, .int .u64 s1, .int .u64 s2, .int .u64 s3]] w fun e w' => e = .returned (.bool (riF ⟨kd, nn, fr, en, tx, s0, s1, s2, s3⟩)) /\ Below w.heap.size w w' := by
 by_cases h0 : 0 < tx.size
 ·have hc := zal h0
  refine (rg_28 kd nn fr en s0 s1 s2 s3 tx h _ hc (cls tx[0].toNat).1 (cls tx[0].toNat).2 (fun w => zbk _ tx[0].toNat_lt w) w).mono ?_
  rintro e w1 ⟨rfl, hb⟩
  refine ⟨zdH ?_, hb⟩
  subst h
  rw [zcC]
  unfold riF txF nbF seF gtK
  have hcn : (chr tx 0).toNat = tx[0].toNat := by rw [hc]; rfl
  rw [hcn]
  simp only [beq_self_eq_true, Bool.true_and]
  generalize (cls tx[0].toNat).1 = x
  generalize (cls tx[0].toNat).2 = q
  rw [Bool.eq_iff_iff]; simp; omega
 ·have hc := zat h0
  refine (rg_28 kd nn fr en s0 s1 s2 s3 tx h _ hc 0#256 10 (fun w => zcx (-1) w (by omega)) w).mono ?_
  rintro e w1 ⟨rfl, hb⟩
  refine ⟨zdH ?_, hb⟩
  subst h
  have hs : ((tx.size : Int) == 1) = false := bF (by omega)
  unfold riF txF
  simp [hs]
theorem zld (kd nn fr en s0 s1 s2 s3 : Int) (tx : ByteArray) (u0 : 0 <= s0) (u1 : s0 < 18446744073709551616) (w : World) : Calls Tryz.prog 68 #[.agg #[.int .i64 kd, .int .i64 nn, .int .i64 fr, .int .i64 en, .string tx, .int .u64 s0, .int .u64 s1, .int .u64 s2, .int .u64 s3]] w fun e w' => e = .returned (.bool (riF ⟨kd, nn, fr, en, tx, s0, s1, s2, s3⟩)) /\ Below w.heap.size w w' := by
 by_cases n1 : kd = 1
 ·exact rq_1 kd nn fr en s0 s1 s2 s3 tx n1 w
 by_cases n21 : kd = 21
 ·exact rq_21 kd nn fr en s0 s1 s2 s3 tx n21 w
 by_cases n2 : kd = 2
 ·exact rq_2 kd nn fr en s0 s1 s2 s3 tx n2 w
 by_cases n3 : kd = 3
 ·exact rq_3 kd nn fr en s0 s1 s2 s3 tx n3 w
 by_cases n28 : kd = 28
 ·exact rq_28 kd nn fr en s0 s1 s2 s3 tx n28 w
 by_cases n5 : kd = 5
 ·exact rq_5 kd nn fr en s0 s1 s2 s3 tx n5 u0 u1 w
 by_cases n4 : kd = 4
 ·exact rq_4 kd nn fr en s0 s1 s2 s3 tx n4 w
 by_cases n13 : kd = 13
 ·exact rq_13 kd nn fr en s0 s1 s2 s3 tx n13 w
 by_cases n14 : kd = 14
 ·exact rq_14 kd nn fr en s0 s1 s2 s3 tx n14 w
 by_cases n15 : kd = 15
 ·exact rq_15 kd nn fr en s0 s1 s2 s3 tx n15 w
 by_cases n29 : kd = 29
 ·exact rq_29 kd nn fr en s0 s1 s2 s3 tx n29 w
 by_cases n30 : kd = 30
 ·exact rq_30 kd nn fr en s0 s1 s2 s3 tx n30 w
 exact rq_no kd nn fr en s0 s1 s2 s3 tx n1 n21 n2 n3 n28 n5 n4 n13 n14 n15 n29 n30 w
structure RdO (W : World) (A : Option Addr) (L : List Tk) : Prop where
 rd : L ≠ [] -> ∃ g o, A = some ⟨g, o, none⟩ /\ g < W.heap.size /\ ∀ (k : Nat) t, L[k]? = some t -> TR W g (o + k * 9) t
theorem RdT.o {W : World} {A : Option Addr} {L : List Tk} (h : RdT W A L) : RdO W A L := ⟨fun hne => by
 obtain ⟨g, e, lt, hc⟩ := h.rd hne
 exact ⟨g, 0, e, lt, fun k t hk => by rw [Nat.zero_add]; exact hc k t hk⟩⟩
structure TkB (t : Tk) : Prop where
 n : t.nn < 9223372036854775808
 u0 : 0 <= t.s0
 u1 : t.s0 < 18446744073709551616
 u2 : 0 <= t.s1 /\ t.s1 < 18446744073709551616
 u3 : 0 <= t.s2 /\ t.s2 < 18446744073709551616
 u4 : 0 <= t.s3 /\ t.s3 < 18446744073709551616
def zeh (i : Nat) : List Tk -> Nat × Int
 | [] => (0, 0)
 | t :: l => if riF t then zeh (i + 1) l else (i, 3)
def ckR (L : List Tk) : Nat × Int := if 4096 < L.length then (0, 2) else zeh 0 L
theorem zm5 (l : List Tk) : ∀ i, (zeh i l).2 = 0 -> ∀ t ∈ l, riF t = true := by
 induction l with
 | nil => intro i _ t h; cases h
 | cons a l ih =>
  intro i h t ht
  unfold zeh at h
  split at h
  ·rename_i ha
   rcases List.mem_cons.1 ht with rfl | h2
   ·exact ha
   ·exact ih _ h t h2
  ·cases h
theorem zle {L : List Tk} {k : Nat} (h : k < L.length) : L.drop k = L[k] :: L.drop (k + 1) := List.drop_eq_getElem_cons h
theorem ck_yes {L : List Tk} {k : Nat} {t : Tk} (h : L[k]? = some t) (hr : riF t = true) : zeh k (L.drop k) = zeh (k + 1) (L.drop (k + 1)) := by
 obtain ⟨hk, rfl⟩ := List.getElem?_eq_some_iff.1 h
 rw [zle hk, zeh, if_pos hr]
theorem ck_no {L : List Tk} {k : Nat} {t : Tk} (h : L[k]? = some t) (hr : riF t = false) : zeh k (L.drop k) = (k, 3) := by
 obtain ⟨hk, rfl⟩ := List.getElem?_eq_some_iff.1 h
 rw [zle hk, zeh, if_neg (by simp [hr])]
theorem zlf {p : Nat × Int} {a b : Int} (h1 : (p.1 : Int) = a) (h2 : p.2 = b) : Ending.returned (.tuple #[.int .i64 a, .int .i64 b]) = .returned (.tuple #[.int .i64 (p.1 : Int), .int .i64 p.2]) := by rw [h1, h2]
theorem zi5 (A : Option Addr) (c : Nat) (L : List Tk) (w : World) (hr : RdO w A L) (hl : L.length <= 140737488355328) (hb : ∀ t ∈ L, TkB t) : Calls Tryz.prog 37 #[.slice A L.length c] w fun e w' => e = .returned (.tuple #[.int .i64 ((ckR L).1 : Int), .int .i64 (ckR L).2]) /\ Below w.heap.size w w' := by
 by_cases h1 : 4096 < L.length
 ·have HE : Hid (ckR L = (0, 2)) := by show _ = _; unfold ckR; rw [if_pos h1]
  have v1 : (4096 : Int) < (L.length : Int) := by omega
  clear h1 hr hb
  go_enter Tryz.func37, Tryz.ntmps37
  go_wp2_with fail
  go_ret2
  exact ⟨zlf (by rw [HE.out]; rfl) (by rw [HE.out]), Below.refl _ _⟩
 ·have HE : Hid (ckR L = zeh 0 (L.drop 0)) := by show _ = _; unfold ckR; rw [if_neg h1, List.drop_zero]
  have v1 : ¬ (4096 : Int) < (L.length : Int) := by omega
  have hl2 : L.length <= 4096 := by omega
  have HR := hO hr
  have HG : Hid (∀ k, k < L.length -> ∃ t, L[k]? = some t /\ TkB t /\ L ≠ []) := fun k hk => ⟨L[k], List.getElem?_eq_getElem hk, hb _ (List.getElem_mem hk), by rintro rfl; simp at hk⟩
  have HX : Hid (∀ (kd nn fr en : Int) (tx : ByteArray) (s0 s1 s2 s3 : Int), TkB ⟨kd, nn, fr, en, tx, s0, s1, s2, s3⟩ -> ∀ w, Calls Tryz.prog 68 #[.agg #[.int .i64 kd, .int .i64 nn, .int .i64 fr, .int .i64 en, .string tx, .int .u64 s0, .int .u64 s1, .int .u64 s2, .int .u64 s3]] w fun e w' => e = .returned (.bool (riF ⟨kd, nn, fr, en, tx, s0, s1, s2, s3⟩)) /\ Below w.heap.size w w') := fun kd nn fr en tx s0 s1 s2 s3 ht w => zld _ _ _ _ _ _ _ _ _ ht.u0 ht.u1 w
  clear hr hb hl h1
  go_enter Tryz.func37, Tryz.ntmps37
  go_wp2_with fail
  go_loopw [4] (fun t wr => ∃ k : Nat, k <= L.length /\ t = .int .i64 k /\ Hid (Below w.heap.size w wr) /\ Hid (ckR L = zeh k (L.drop k))) (fun t _ => L.length - (intOf t).toNat)
  case atStart => exact ⟨0, by omega, by go_num, Below.refl _ _, HE.out⟩
  case round =>
   obtain ⟨k, hk, rfl, HW, HI⟩ := hrel
   by_cases hlt : k < L.length
   ·obtain ⟨t, ht, hb, hne⟩ := HG.out k hlt
    obtain ⟨g, o, rfl, lt, n1⟩ := HR.out.rd hne
    have key : ∀ j, wr.cell? ⟨g, j, none⟩ = w.cell? ⟨g, j, none⟩ := fun j => HW.out.cell (p := ⟨g, j, none⟩) lt
    obtain ⟨a0, a1, a2, a3, a4, a5, a6, a7, a8⟩ := n1 k _ ht
    rw [<- key] at a0 a1 a2 a3 a4 a5 a6 a7 a8
    have hg1 : g < wr.heap.size := Nat.lt_of_lt_of_le lt HW.out.size
    have z0 : (0 : Int) <= (k : Int) := by omega
    have z1 : (k : Int) < (L.length : Int) := by omega
    obtain ⟨kd, nn, fr, en, tx, s0, s1, s2, s3⟩ := t
    dsimp only at a0 a1 a2 a3 a4 a5 a6 a7 a8
    have HY := hO (HX.out kd nn fr en tx s0 s1 s2 s3 hb)
    have HC1 : Hid (riF ⟨kd, nn, fr, en, tx, s0, s1, s2, s3⟩ = true -> zeh k (L.drop k) = zeh (k + 1) (L.drop (k + 1))) := ck_yes ht
    have HC2 : Hid (riF ⟨kd, nn, fr, en, tx, s0, s1, s2, s3⟩ = false -> zeh k (L.drop k) = (k, 3)) := ck_no ht
    clear ht hb hne n1 key HG HR HX HE
    generalize riF ⟨kd, nn, fr, en, tx, s0, s1, s2, s3⟩ = B at *
    go_wp2_with fail
    refine (HY.out _).mono ?_
    rintro e w1 ⟨rfl, hb⟩
    have HW1 : Hid (Below w.heap.size w w1) := HW.out.trans (hb.mono HW.out.size)
    clear hb HY HW a0 a1 a2 a3 a4 a5 a6 a7 a8
    cases B
    ·have HF : Hid (ckR L = (k, 3)) := HI.out.trans (HC2.out rfl)
     clear HC1 HC2 HI
     go_wp2_with fail
     go_ret2
     exact ⟨zlf (by rw [HF.out]) (by rw [HF.out]), HW1.out⟩
    ·have HF : Hid (ckR L = zeh (k + 1) (L.drop (k + 1))) := HI.out.trans (HC1.out rfl)
     clear HC1 HC2 HI
     go_wp2_with fail
     go_roundw
     case rel => exact ⟨k + 1, by omega, by go_num, HW1.out, HF.out⟩
     case measure => simp [intOf]; omega
   ·obtain rfl : k = L.length := by omega
    have HF : Hid (ckR L = (0, 0)) := HI.out.trans (by rw [List.drop_length]; rfl)
    clear HG HR HX HE HI
    go_wp2_with fail
    go_ret2
    exact ⟨zlf (by rw [HF.out]; rfl) (by rw [HF.out]), HW.out⟩
def dgs (b : Nat) : Nat -> Nat -> List UInt8
 | 0, _ => []
 | f + 1, n => if n < b then [zbp n] else dgs b f (n / b) ++ [zbp (n % b)]
def dgT (b n : Nat) : List UInt8 := dgs b (n + 1) n
theorem zdI {b n : Nat} (hb : 2 <= b) (h : ¬ n < b) : n / b < n := Nat.div_lt_self (by omega) hb
theorem zm6 (b : Nat) (hb : 2 <= b) : ∀ f g n, n < f -> n < g -> dgs b f n = dgs b g n := by
 intro f
 induction f with
 | zero => intro g n h; omega
 | succ f ih =>
  intro g n h1 h2
  cases g with
  | zero => omega
  | succ g =>
   unfold dgs
   by_cases h : n < b
   ·rw [if_pos h, if_pos h]
   ·have hd := zdI hb h
    rw [if_neg h, if_neg h, ih g (n / b) (by omega) (by omega)]
theorem zec {b n : Nat} (h : n < b) : dgT b n = [zbp n] := by
 unfold dgT dgs
 rw [if_pos h]
theorem zfv {b n : Nat} (hb : 2 <= b) (h : ¬ n < b) : dgT b n = dgT b (n / b) ++ [zbp (n % b)] := by
 have hd := zdI hb h
 have e : dgT b n = dgs b n (n / b) ++ [zbp (n % b)] := by
  unfold dgT
  conv => lhs; unfold dgs
  rw [if_neg h]
 rw [e, zm6 b hb n (n / b + 1) (n / b) hd (by omega)]
 rfl
theorem zih (b n : Nat) (hb : 2 <= b) : dgT b n ≠ [] := by
 by_cases h : n < b
 ·rw [zec h]; simp
 ·rw [zfv hb h]; simp
theorem zb9 (b : Nat) (hb : 2 <= b) : ∀ (k n : Nat), n < b ^ (k + 1) -> (dgT b n).length <= k + 1 := by
 intro k
 induction k with
 | zero =>
  intro n h
  rw [zec (by simpa using h)]
  simp
 | succ k ih =>
  intro n h
  by_cases h1 : n < b
  ·rw [zec h1]; simp
  ·have h2 : n / b < b ^ (k + 1) := by
    rw [Nat.div_lt_iff_lt_mul (by omega), <- Nat.pow_succ]
    exact h
   rw [zfv hb h1, List.length_append, List.length_singleton]
   have := ih (n / b) h2
   omega
def whI (b n0 n : Nat) (l : List UInt8) : Prop := (n = n0 /\ l = []) ∨ (l ≠ [] /\ dgT b n0 = if n = 0 then l else dgT b n ++ l)
theorem zii {b n0 n : Nat} {l : List UInt8} (hb : 2 <= b) (h : whI b n0 n l) (hn : 0 < n ∨ l = []) : whI b n0 (n / b) (zbp (n % b) :: l) := by
 refine Or.inr ⟨by simp, ?_⟩
 have key : dgT b n0 = dgT b n ++ l := by
  rcases h with ⟨h1, h2⟩ | ⟨h1, h2⟩
  ·rw [h1, h2, List.append_nil]
  ·rcases hn with h3 | h3
   ·rw [h2, if_neg (by omega)]
   ·exact absurd h3 h1
 by_cases h4 : n < b
 ·rw [if_pos (Nat.div_eq_of_lt h4), key, zec h4, Nat.mod_eq_of_lt h4]
  rfl
 ·have h5 : ¬ n / b = 0 := by
   have : 1 <= n / b := (Nat.le_div_iff_mul_le (by omega)).2 (by omega)
   omega
  rw [if_neg h5, key, zfv hb h4, List.append_assoc]
  rfl
theorem zlg {b n0 n : Nat} {l : List UInt8} (h : whI b n0 n l) (hn : n = 0) (hl : l ≠ []) : dgT b n0 = l := by
 rcases h with ⟨_, h2⟩ | ⟨_, h2⟩
 ·exact absurd h2 hl
 ·rw [h2, if_pos hn]
def gnm (s : ByteArray) : ByteArray := if s.size = 0 then ⟨#[]⟩ else s ++ ⟨#[58]⟩
theorem sp_hit (x : BitVec 256) (k : Nat) (hb : x.getLsbD k = true) : ∃ l lo, spL (zbl x (k + 1)) = l ++ [(lo, (k : Int))] := by
 rw [zbW, hb]; exact zhN _ _
theorem zpE (x : BitVec 256) (k : Nat) (hb : ∀ j, j + 1 = k -> x.getLsbD j = false) : zcn (spL (zbl x k)) (k : Int) = spL (zbl x k) ++ [((k : Int), (k : Int))] := by
 rcases zbb (zbl x k) with h | ⟨m, c, h⟩
 ·rw [h]; rfl
 ·have hm := (zds x k c).1 (by rw [h]; simp)
  rw [h]
  obtain ⟨l, lo, e⟩ := zhN m c
  rw [e]
  refine zbF l lo c k fun e2 => ?_
  have := hb c.toNat (by omega)
  rw [this] at hm; simp at hm
theorem zi6 (x : BitVec 256) (w : World) :
  Calls Tryz.prog 96 #[sv x] w fun e W' => ∃ v, e = .returned v /\ W'.ownsRow (w.heap.size + 1) 133 2 v (spL (bys x)).length (spc (spL (bys x))) /\ (spL (bys x) = [] -> v = .slice none 0 0) /\ Below w.heap.size w W' := by
 obtain ⟨i0, hi, hz0, hz1, hz2⟩ := info_parts Tryz.info52
 go_enter Tryz.func96, Tryz.ntmps96
 go_wp2
 go_loopw [3, 4] (fun v t wr => ∃ k : Nat, k <= 256 /\ t = .int .i64 k /\ wr.ownsRow (w.heap.size + 1) 133 2 v (spL (zbl x k)).length (spc (spL (zbl x k))) /\ (spL (zbl x k) = [] -> v = .slice none 0 0) /\ Holds wr w.heap.size x /\ Below w.heap.size w wr) (fun _ t _ => 256 - (intOf t).toNat)
 case atStart => exact ⟨0, by omega, rfl, World.ownsRow_nil _ _ _ _, fun _ => rfl, Holds.new w x, (Below.refl _ _).alloc (Nat.le_refl _) _⟩
 case round =>
  obtain ⟨k, hk, rfl, hown, hnil, hx, hbel⟩ := hrel
  have hsz : w.heap.size < wr.heap.size := hx.lt
  have HX := hO hx
  have HO := hO hown
  have HB := hO hbel
  have HN := hO hnil
  clear hnil
  by_cases hlt : k < 256
  ·have HG := hO (zcD x k (by omega) (by omega))
   have hlen : (spL (zbl x k)).length <= 256 := Nat.le_trans (zjx _) (by have := zfC x.getLsbD k; rw [zet]; omega)
   obtain ⟨l0, c0, c1, c2, c3, f0, f1, f2, f3⟩ := hx
   clear hown hbel
   cases hb : zgN x k
   ·have HE : Hid (zbl x (k + 1) = zbl x k) := (by
     rw [HG.out, Int.toNat_natCast] at hb
     have h := zbW x k; rw [hb] at h; exact h)
    go_wp2_with fail
    refine (zaQ x k _).mono ?_
    rintro e w1 ⟨rfl, hb1⟩
    have hO1 := hO (za8 HO.out hb1 (by omega))
    have hB1 := hO (HB.out.trans (hb1.mono (by omega)))
    have hX1 := hO (HX.out.below hb1 (by omega))
    clear hb1
    go_wp2
    go_roundw
    case rel => exact ⟨k + 1, by omega, by go_num, (by rw [HE.out]; exact hO1.out), (by rw [HE.out]; exact HN.out), hX1.out, hB1.out⟩
    case measure => simp [intOf]; omega
   ·have hbk : x.getLsbD k = true := by rw [HG.out, Int.toNat_natCast] at hb; exact hb
    have HSS : Hid (spL (zbl x (k + 1)) = zcn (spL (zbl x k)) (k : Int)) := (by
     show _ = _
     rw [zbW, hbk]; exact zc5 _ _)
    cases hp : zgN x ((k : Int) - 1)
    ·have HE : Hid (spL (zbl x (k + 1)) = spL (zbl x k) ++ [((k : Int), (k : Int))]) := HSS.out.trans (zpE x k (fun j hj => by
      have h := zcD x ((k : Int) - 1) (by omega) (by omega)
      rw [hp, show ((k : Int) - 1).toNat = j from by omega] at h
      exact h.symm))
     clear HSS hbk
     go_wp2_with fail
     refine (zaQ x k _).mono ?_
     rintro e w1 ⟨rfl, hb1⟩
     have hX1 := hO (HX.out.below hb1 (by omega))
     have hs1 := hb1.size
     clear c0 c1 c2 c3 f0 f1 f2 f3
     obtain ⟨l0, c0, c1, c2, c3, f0, f1, f2, f3⟩ := hX1.out
     go_wp2_with fail
     refine (zaQ x ((k : Int) - 1) _).mono ?_
     rintro e w2 ⟨rfl, hb2⟩
     have hbb := hb1.trans (hb2.mono hb1.size)
     have hO1 := za8 HO.out hbb (by omega)
     have hB1 := hO (HB.out.trans (hbb.mono (by omega)))
     have hX2 := hO (HX.out.below hbb (by omega))
     have hsz1 : w.heap.size < w2.heap.size := hX2.out.lt
     clear c0 c1 c2 c3 f0 f1 f2 f3 HO HX HB hb1 hb2 hbb hX1
     go_wp2_with (at_builtin; refine wpList_append_own _ rfl _ _ 130 rfl (w.heap.size + 1) 133 i0 (.agg #[.int .i64 0, .int .i64 0]) 2 16 Tryz.underlying130 hi hz0 hz1 hz2 rfl (by decide) _ _ _ rfl (hO1.alloc _) ⟨w2.heap.size, 0, none⟩ 1 1 [.int .i64 (k : Int), .int .i64 (k : Int)] rfl rfl (cell_two_new _ _ _ _) ?c2 ?c3 ?c4 ?c5 ?_)
     case c2 => intro u hu; simp at hu; subst hu; rfl
     case c3 => unfold maxLen; omega
     case c4 => omega
     case c5 => simp; omega
     intro v' w3 hown' hgrow _
     have hle := fun j e => (hO1.lt j e).1
     have hB2 := hO ((hB1.out.alloc (by omega) (.cells #[.int .i64 (k : Int), .int .i64 (k : Int)] 133)).grown hgrow (by simp; omega) (fun j e => by have := hle j e; omega))
     have hX3 := hO (zdk (hX2.out.alloc (.cells #[.int .i64 (k : Int), .int .i64 (k : Int)] 133)) hgrow (fun e => by have := hle _ e; omega))
     have hO2 := hO hown'
     clear hO1 hown' hgrow hle
     go_wp2
     go_roundw
     case rel =>
      refine ⟨k + 1, by omega, by go_num, ?_, ?_, hX3.out, hB2.out⟩
      ·rw [HE.out, List.length_append, zbY]; exact hO2.out
      ·rw [HE.out]; intro h; simp at h
     case measure => simp [intOf]; omega
    ·have hpos : 1 <= k := by
      by_cases h : 1 <= k
      ·exact h
      ·exfalso
       rw [zgT x ((k : Int) - 1) (by omega)] at hp; cases hp
     obtain ⟨l, lo, hl⟩ := sp_hit x (k - 1) (by
      have h := zcD x ((k : Int) - 1) (by omega) (by omega)
      rw [hp, show ((k : Int) - 1).toNat = k - 1 from by omega] at h
      exact h.symm)
     rw [show k - 1 + 1 = k from by omega] at hl
     have HE : Hid (spL (zbl x (k + 1)) = l ++ [(lo, (k : Int))]) := (by
      have h := HSS.out
      rw [hl, zbX _ _ _ _ (by omega)] at h
      exact h)
     have hown := HO.out
     rw [hl, List.length_append, List.length_singleton] at hown
     rw [hl, List.length_append, List.length_singleton] at hlen
     obtain ⟨g, cap, rfl⟩ := ownsRow_succ hown
     have HO' := hO hown
     clear HSS hbk HN hl hown HO
     go_wp2_with fail
     refine (zaQ x k _).mono ?_
     rintro e w1 ⟨rfl, hb1⟩
     have hX1 := hO (HX.out.below hb1 (by omega))
     have hs1 := hb1.size
     clear c0 c1 c2 c3 f0 f1 f2 f3
     obtain ⟨l0, c0, c1, c2, c3, f0, f1, f2, f3⟩ := hX1.out
     go_wp2_with fail
     refine (zaQ x ((k : Int) - 1) _).mono ?_
     rintro e w2 ⟨rfl, hb2⟩
     have hbb := hb1.trans (hb2.mono hb1.size)
     have hO1 := za8 HO'.out hbb (by omega)
     have hB1 := hO (HB.out.trans (hbb.mono (by omega)))
     have hX2 := hO (HX.out.below hbb (by omega))
     clear c0 c1 c2 c3 f0 f1 f2 f3 HX HB hb1 hb2 hbb hX1
     have hcu := hO1.cellAt (l.length * 2 + 1) (by omega)
     rw [zbY, List.getElem?_append_right (by rw [zfE]; omega), zfE, show l.length * 2 + 1 - l.length * 2 = 1 from by omega] at hcu
     replace hcu : w2.cell? ⟨g, l.length * 2 + 1, none⟩ = some (.int .i64 ((k - 1 : Nat) : Int)) := hcu
     have hfu := hO1.frozenAt (l.length * 2 + 1)
     have hg0 : w.heap.size + 1 <= g := (hO1.lt g rfl).1
     have HO1 := hO hO1
     clear hO1
     go_wp2
     obtain ⟨hst, hgs⟩ := World.ownsRow.stored HO1.out (l.length * 2 + 1) (.int .i64 (k : Int))
     rw [zob] at hst
     go_roundw
     case rel =>
      refine ⟨k + 1, by omega, by go_num, ?_, ?_, zdk hX2.out hgs (fun e => by cases e; omega), hB1.out.grown hgs (by have h := hX2.out.lt; omega) (fun j e => by cases e; omega)⟩
      ·rw [HE.out, List.length_append, List.length_singleton]; exact hst
      ·rw [HE.out]; intro h; simp at h
     case measure => simp [intOf]; omega
  ·obtain rfl : k = 256 := by omega
   clear hown hx hbel
   go_wp2
   go_ret
   exact ⟨_, rfl, HO.out, HN.out, HB.out⟩
theorem zeV : ∀ m : Fin 16, digs.extract m.val (m.val + 1) = ⟨#[zbp m.val]⟩ := by decide
theorem zij (b : Nat) (hb : b < 256) (w : World) :
  Calls Tryz.prog 94 #[.int .i64 b] w fun e w' => e = .returned (.string ⟨#[zbp (b / 16), zbp (b % 16)]⟩) /\ Below w.heap.size w w' := by
 have t1 : IntKind.i64.wrap ((b : Int) / 16) = ((b / 16 : Nat) : Int) := by rw [IntKind.wrap_i64]; omega
 have t2 : IntKind.i64.wrap ((b : Int) % 16) = ((b % 16 : Nat) : Int) := by rw [IntKind.wrap_i64]; omega
 have t3 : (b : Int) / 16 = ((b / 16 : Nat) : Int) := by omega
 have t4 : (b : Int) % 16 = ((b % 16 : Nat) : Int) := by omega
 have k0 : (0 : Int) <= ((b / 16 : Nat) : Int) := by omega
 have k1 : ((b / 16 : Nat) : Int) < 16 := by omega
 have k2 : (0 : Int) <= ((b % 16 : Nat) : Int) := by omega
 have k3 : ((b % 16 : Nat) : Int) < 16 := by omega
 have q1 : b / 16 < 16 := by omega
 have q2 : b % 16 < 16 := by omega
 have HM := hO (zeV ⟨b / 16, q1⟩)
 have HN := hO (zeV ⟨b % 16, q2⟩)
 generalize b / 16 = m at *
 generalize b % 16 = n at *
 have v1 : IntKind.i64.wrap ((m : Int) + 1) = (m : Int) + 1 := by rw [IntKind.wrap_i64]; omega
 have v2 : IntKind.i64.wrap ((n : Int) + 1) = (n : Int) + 1 := by rw [IntKind.wrap_i64]; omega
 have y1 : ((m : Int) + 1).toNat = m + 1 := by omega
 have y2 : ((n : Int) + 1).toNat = n + 1 := by omega
 have l1 : (m : Int) <= (m : Int) + 1 := by omega
 have l2 : (n : Int) <= (n : Int) + 1 := by omega
 have l3 : (m : Int) + 1 <= 16 := by omega
 have l4 : (n : Int) + 1 <= 16 := by omega
 have l5 : (0 : Int) <= (m : Int) + 1 := by omega
 have l6 : (0 : Int) <= (n : Int) + 1 := by omega
 go_enter Tryz.func94, Tryz.ntmps94
 go_wp2_with fail
 go_region
 all_goals
  go_wp2
  go_ret
  exact ⟨zce (by show digs.extract m (m + 1) ++ digs.extract n (n + 1) = _; rw [HM.out, HN.out]; exact cat11 _ _), (Below.refl _ _).drew⟩
theorem zi7 (b : Nat) (hb : b < 256) (w : World) (h1 : ((b : Int) == 10) = false) (h2 : ((b : Int) == 13) = false) (h3 : ((b : Int) == 9) = false) (h4 : zaC (b : Int) = true) :
  Calls Tryz.prog 97 #[.int .i64 b] w fun e w' => e = .returned (.string ⟨#[92, UInt8.ofNat b]⟩) /\ Below w.heap.size w w' := by
 have hw8 : IntKind.u8.wrap (b : Int) = (b : Int) := by rw [IntKind.wrap_u8']; omega
 have hcv := conv1 b w
 rw [Int.toNat_natCast] at hcv
 go_enter Tryz.func97, Tryz.ntmps97
 go_wp2_with fail
 refine (za1 _ _).mono ?_
 rintro e w' ⟨rfl, rfl⟩
 go_wp2
 go_ret
 exact ⟨zce (cat11 _ _), zaD _ _⟩
theorem zlh (b : Nat) (hb : b < 256) (w : World) (h1 : ((b : Int) == 10) = false) (h2 : ((b : Int) == 13) = false) (h3 : ((b : Int) == 9) = false) (h4 : zaC (b : Int) = false) (h5 : ze2 (b : Int) = true) :
  Calls Tryz.prog 97 #[.int .i64 b] w fun e w' => e = .returned (.string ⟨#[UInt8.ofNat b]⟩) /\ Below w.heap.size w w' := by
 have hw8 : IntKind.u8.wrap (b : Int) = (b : Int) := by rw [IntKind.wrap_u8']; omega
 have hp : 32 <= (b : Int) /\ (b : Int) <= 126 := by simpa [ze2] using h5
 obtain ⟨p1, p2⟩ := hp
 have hcv := conv1 b w
 rw [Int.toNat_natCast] at hcv
 go_enter Tryz.func97, Tryz.ntmps97
 go_wp2_with fail
 refine (za1 _ _).mono ?_
 rintro e w' ⟨rfl, rfl⟩
 go_wp2
 go_ret
 exact ⟨rfl, zaD _ _⟩
theorem zli (b : Nat) (hb : b < 256) (w : World) (h1 : ((b : Int) == 10) = false) (h2 : ((b : Int) == 13) = false) (h3 : ((b : Int) == 9) = false) (h4 : zaC (b : Int) = false) (h5 : ze2 (b : Int) = false) :
    Calls Tryz.prog 97 #[.int .i64 b] w fun e w' => e = .returned (.string ⟨#[92, 120, zbp (b / 16), zbp (b % 16)]⟩) /\ Below w.heap.size w w' := by
  have hp : ¬ (32 <= (b : Int) /\ (b : Int) <= 126) := by
    intro h; have : ze2 (b : Int) = true := by simpa [ze2] using h
    rw [this] at h5; cases h5
  have HX : Hid (∀ w, Calls Tryz.prog 94 #[.int .i64 b] w fun e w' => e = .returned (.string ⟨#[zbp (b / 16), zbp (b % 16)]⟩) /\ Below w.heap.size w w') := fun w => zij b hb w
  by_cases p1 : 32 <= (b : Int)
  · have p2 : ¬ (b : Int) <= 126 := fun h => hp ⟨p1, h⟩
    clear hp h5
    go_enter Tryz.func97, Tryz.ntmps97
    go_wp2_with fail
    refine (za1 _ _).mono ?_
    rintro e w' ⟨rfl, rfl⟩
    go_wp2_with fail
    refine (HX.out _).mono ?_
    rintro e w1 ⟨rfl, hb1⟩
    have HB := hO hb1
    clear hb1
    go_wp2
    go_ret
    exact ⟨zce (zod _ _ _ _), HB.out⟩
  · clear hp h5
    go_enter Tryz.func97, Tryz.ntmps97
    go_wp2_with fail
    refine (za1 _ _).mono ?_
    rintro e w' ⟨rfl, rfl⟩
    go_wp2_with fail
    refine (HX.out _).mono ?_
    rintro e w1 ⟨rfl, hb1⟩
    have HB := hO hb1
    clear hb1
    go_wp2
    go_ret
    exact ⟨zce (zod _ _ _ _), HB.out⟩
theorem zik (b : Nat) (hb : b < 256) (w : World) :
  Calls Tryz.prog 97 #[.int .i64 b] w fun e w' => e = .returned (.string ⟨(itm b).toArray⟩) /\ Below w.heap.size w w' := by
 unfold itm
 by_cases h1 : b = 10
 ·subst h1; rw [if_pos rfl]
  go_enter Tryz.func97, Tryz.ntmps97
  go_wp2
  go_ret
  exact ⟨rfl, Below.refl _ _⟩
 rw [if_neg h1]
 by_cases h2 : b = 13
 ·subst h2; rw [if_pos rfl]
  go_enter Tryz.func97, Tryz.ntmps97
  go_wp2
  go_ret
  exact ⟨rfl, Below.refl _ _⟩
 rw [if_neg h2]
 by_cases h3 : b = 9
 ·subst h3; rw [if_pos rfl]
  go_enter Tryz.func97, Tryz.ntmps97
  go_wp2
  go_ret
  exact ⟨rfl, Below.refl _ _⟩
 rw [if_neg h3]
 have e1 : ((b : Int) == 10) = false := bF (by omega)
 have e2 : ((b : Int) == 13) = false := bF (by omega)
 have e3 : ((b : Int) == 9) = false := bF (by omega)
 cases h4 : zaC (b : Int)
 ·rw [if_neg (by simp)]
  cases h5 : ze2 (b : Int)
  ·rw [if_neg (by simp)]; exact zli b hb w e1 e2 e3 h4 h5
  ·rw [if_pos rfl]; exact zlh b hb w e1 e2 e3 h4 h5
 ·rw [if_pos rfl]; exact zi7 b hb w e1 e2 e3 h4
end Go.Proofs.YtkihfkcmcdiajaaGreatDoor
namespace Go.Proofs.YtkihfkcmcdiajaaGreatDoor.Q
open Go.RowKit
theorem zhx (l : List Int) (hl : l.length <= 100) (w : World) : (w.alloc (.cells (l.map (Value.int .u8)).toArray 5)).ownsRow w.heap.size 5 1 (.slice (some ⟨w.heap.size, 0, none⟩) l.length l.length) l.length (l.map (Value.int .u8)) := by
 have h := World.ownsRow_lit (e := 5) (size := 1) (base := w.heap.size) w (l.map (Value.int .u8)).toArray l.length (Nat.le_refl _) (by unfold maxLen; omega) (by simp)
 simpa using h
end Go.Proofs.YtkihfkcmcdiajaaGreatDoor.Q
namespace Go.Proofs.YtkihfkcmcdiajaaGreatDoor
open Go.RowKit
def liT (s : ByteArray) (k : Nat) : List Int := ((Q.byl s).take k).flatMap Q.shB
theorem zm7 (s : ByteArray) (k : Nat) (h : k < s.size) : liT s (k + 1) = liT s k ++ Q.shB (s[k].toNat : Int) := by
 have h2 := Q.zms s k h
 unfold Q.qTo at h2
 rw [List.cons_append] at h2
 exact (List.cons.inj h2).2
theorem zpF (s : ByteArray) (k : Nat) : (liT s k).length <= 4 * k := by
 have h := (Q.zhc s k).1
 unfold Q.qTo at h
 rw [List.length_cons] at h
 unfold liT
 omega
theorem zpG (s : ByteArray) (k : Nat) (h : s.size <= k) : (⟨#[39]⟩ : ByteArray) ++ zaj (liT s k) ++ ⟨#[39]⟩ = Q.zaj (Q.qT s) := by
 rw [<- Q.zhb s k h, <- znN, Q.zcs, Q.zcs]
 unfold Q.qTo liT
 apply ByteArray.ext
 simp
theorem zc0 {w : World} {base e sz : Nat} {v : Value} {n : Nat} {xs : List Value} (h : w.ownsRow base e sz v n xs) : ∃ ao cap, v = .slice ao n cap := by
 rcases h.2 with ⟨rfl, rfl⟩ | ⟨g, cap, cur, rfl, _⟩
 ·exact ⟨_, _, rfl⟩
 ·exact ⟨_, _, rfl⟩
theorem znS : ∀ m : Fin 16, ((zbp m.val).toNat : Int) = Q.zbp (m.val : Int) := by decide
theorem zlj (a b : UInt8) : Lib.strCells ⟨#[a, b]⟩ = [.int .u8 (a.toNat : Int), .int .u8 (b.toNat : Int)] := by simp [Lib.strCells]
theorem cells4 (a b c d : UInt8) : Lib.strCells ⟨#[a, b, c, d]⟩ = [.int .u8 (a.toNat : Int), .int .u8 (b.toNat : Int), .int .u8 (c.toNat : Int), .int .u8 (d.toNat : Int)] := by simp [Lib.strCells]
theorem zgH (s : ByteArray) (hs : s.size <= 255) (w : World) : Calls Tryz.prog 69 #[.string s] w fun e w' => e = .returned (.string (Q.zaj (Q.qT s))) /\ Below w.heap.size w w' := by
 obtain ⟨i0, hinf, hz0, hz1, hz2⟩ := info_parts Tryz.info5
 have HO : Hid (w.ownsRow w.heap.size 5 1 (.slice none 0 0) (liT s 0).length ((liT s 0).map (Value.int .u8))) := World.ownsRow_nil _ _ _ _
 go_enter Tryz.func69, Tryz.ntmps69
 go_wp2_with fail
 go_loopw [3, 4] (fun v t wr => ∃ k : Nat, k <= s.size /\ t = .int .i64 k /\ Hid (wr.ownsRow w.heap.size 5 1 v (liT s k).length ((liT s k).map (Value.int .u8)) /\ Below w.heap.size w wr)) (fun _ t _ => s.size - (intOf t).toNat)
 case atStart => exact ⟨0, by omega, by go_num, HO.out, Below.refl _ _⟩
 case round =>
  obtain ⟨k, hk, rfl, HI⟩ := hrel
  clear HO
  have hql := zpF s k
  obtain ⟨ao, cap, hv⟩ := zc0 HI.out.1
  subst hv
  by_cases hlt : k < s.size
  ·have HQ := hO (zm7 s k hlt)
   have hbb : (s[k].toNat : Int) <= 255 := by have := s[k].toNat_lt; omega
   have hwr := HI.out.2.size
   by_cases h10 : (s[k].toNat : Int) = 10
   ·have HS : Hid (liT s (k + 1) = liT s k ++ [92, 110]) := (by show _ = _; rw [HQ.out]; unfold Q.shB; rw [if_pos h10])
    have e10 : ((s[k].toNat : Int) == 10) = true := beq_iff_eq.2 h10
    clear HQ h10
    go_wp2_with (at_builtin; refine Lib.wpList_append_own_string _ rfl _ _ 84 9 rfl w.heap.size 5 i0 Tryz.underlying84 Tryz.underlying9 hinf hz0 hz1 hz2 _ _ _ rfl HI.out.1 ⟨#[92, 110]⟩ rfl ?c3 ?c4 ?c5 ?_)
    case c3 => unfold maxLen; show _ + 2 <= _; omega
    case c4 => show _ + 2 <= _; omega
    case c5 => exact HI.out.2.size
    intro v' w2 hown' hgrow _
    have HI2 := (show Hid (w2.ownsRow w.heap.size 5 1 v' (liT s (k + 1)).length ((liT s (k + 1)).map (Value.int .u8)) /\ Below w.heap.size w w2) from (by
     refine ⟨?_, HI.out.2.grown hgrow HI.out.2.size (fun j e => (HI.out.1.lt j e).1)⟩
     rw [HS.out, List.length_append, List.map_append]
     rw [zlj] at hown'
     exact hown'))
    clear hown' hgrow
    go_wp2
    go_roundw
    case rel => exact ⟨k + 1, by omega, by go_num, HI2⟩
    case measure => simp [intOf]; omega
   have e10 : ((s[k].toNat : Int) == 10) = false := bF h10
   by_cases h13 : (s[k].toNat : Int) = 13
   ·have HS : Hid (liT s (k + 1) = liT s k ++ [92, 114]) := (by show _ = _; rw [HQ.out]; unfold Q.shB; rw [if_neg h10, if_pos h13])
    have e13 : ((s[k].toNat : Int) == 13) = true := beq_iff_eq.2 h13
    clear HQ h10 h13
    go_wp2_with (at_builtin; refine Lib.wpList_append_own_string _ rfl _ _ 84 9 rfl w.heap.size 5 i0 Tryz.underlying84 Tryz.underlying9 hinf hz0 hz1 hz2 _ _ _ rfl HI.out.1 ⟨#[92, 114]⟩ rfl ?c3 ?c4 ?c5 ?_)
    case c3 => unfold maxLen; show _ + 2 <= _; omega
    case c4 => show _ + 2 <= _; omega
    case c5 => exact HI.out.2.size
    intro v' w2 hown' hgrow _
    have HI2 := (show Hid (w2.ownsRow w.heap.size 5 1 v' (liT s (k + 1)).length ((liT s (k + 1)).map (Value.int .u8)) /\ Below w.heap.size w w2) from (by
     refine ⟨?_, HI.out.2.grown hgrow HI.out.2.size (fun j e => (HI.out.1.lt j e).1)⟩
     rw [HS.out, List.length_append, List.map_append]
     rw [zlj] at hown'
     exact hown'))
    clear hown' hgrow
    go_wp2
    go_roundw
    case rel => exact ⟨k + 1, by omega, by go_num, HI2⟩
    case measure => simp [intOf]; omega
   have e13 : ((s[k].toNat : Int) == 13) = false := bF h13
   by_cases h9 : (s[k].toNat : Int) = 9
   ·have HS : Hid (liT s (k + 1) = liT s k ++ [92, 116]) := (by show _ = _; rw [HQ.out]; unfold Q.shB; rw [if_neg h10, if_neg h13, if_pos h9])
    have e9 : ((s[k].toNat : Int) == 9) = true := beq_iff_eq.2 h9
    clear HQ h10 h13 h9
    go_wp2_with (at_builtin; refine Lib.wpList_append_own_string _ rfl _ _ 84 9 rfl w.heap.size 5 i0 Tryz.underlying84 Tryz.underlying9 hinf hz0 hz1 hz2 _ _ _ rfl HI.out.1 ⟨#[92, 116]⟩ rfl ?c3 ?c4 ?c5 ?_)
    case c3 => unfold maxLen; show _ + 2 <= _; omega
    case c4 => show _ + 2 <= _; omega
    case c5 => exact HI.out.2.size
    intro v' w2 hown' hgrow _
    have HI2 := (show Hid (w2.ownsRow w.heap.size 5 1 v' (liT s (k + 1)).length ((liT s (k + 1)).map (Value.int .u8)) /\ Below w.heap.size w w2) from (by
     refine ⟨?_, HI.out.2.grown hgrow HI.out.2.size (fun j e => (HI.out.1.lt j e).1)⟩
     rw [HS.out, List.length_append, List.map_append]
     rw [zlj] at hown'
     exact hown'))
    clear hown' hgrow
    go_wp2
    go_roundw
    case rel => exact ⟨k + 1, by omega, by go_num, HI2⟩
    case measure => simp [intOf]; omega
   have e9 : ((s[k].toNat : Int) == 9) = false := bF h9
   by_cases hg : (s[k].toNat : Int) = 39 ∨ (s[k].toNat : Int) = 92
   ·have HS : Hid (liT s (k + 1) = liT s k ++ [92, (s[k].toNat : Int)]) := (by show _ = _; rw [HQ.out]; unfold Q.shB; rw [if_neg h10, if_neg h13, if_neg h9, if_pos hg])
    have hg2 : ((s[k].toNat : Int) == 92) = true ∨ (((s[k].toNat : Int) == 92) = false /\ ((s[k].toNat : Int) == 39) = true) := by
     rcases hg with h | h
     ·exact .inr ⟨bF (by omega), beq_iff_eq.2 h⟩
     ·exact .inl (beq_iff_eq.2 h)
    clear HQ h10 h13 h9 hg
    rcases hg2 with e92 | ⟨e92, e39⟩
    all_goals
     go_wp2_with (at_builtin; refine wpList_append_own _ rfl _ _ 84 rfl w.heap.size 5 i0 (.int .u8 0) 1 1 Tryz.underlying84 hinf hz0 hz1 hz2 rfl (by decide) _ _ _ rfl (HI.out.1.alloc _) ⟨wr.heap.size, 0, none⟩ 2 2 [.int .u8 92, .int .u8 (s[k].toNat : Int)] rfl rfl ?c1 ?c2 ?c3 ?c4 ?c5 ?_)
     case c1 => exact (Q.zhx [92, (s[k].toNat : Int)] (by simp) wr).cells rfl
     case c2 => first | rfl | (intro u hu; simp at hu; rcases hu with rfl | rfl <;> rfl) | (intro u hu; simp at hu; subst hu; rfl)
     case c3 => unfold maxLen; omega
     case c4 => omega
     case c5 => first | omega | (simp; omega)
     intro v' w2 hown' hgrow _
     have hle := fun j e => (HI.out.1.lt j e).1
     have HI2 := (show Hid (w2.ownsRow w.heap.size 5 1 v' (liT s (k + 1)).length ((liT s (k + 1)).map (Value.int .u8)) /\ Below w.heap.size w w2) from (by
      refine ⟨?_, (HI.out.2.alloc HI.out.2.size (.cells #[.int .u8 92, .int .u8 (s[k].toNat : Int)] 5)).grown hgrow (by have := HI.out.2.size; simp; omega) (fun j e => hle j e)⟩
      rw [HS.out, List.length_append, List.map_append]
      exact hown'))
     clear hown' hgrow hle
     go_wp2
     go_roundw
     case rel => exact ⟨k + 1, by omega, by go_num, HI2⟩
     case measure => simp [intOf]; omega
   have e39 : ((s[k].toNat : Int) == 39) = false := bF (by omega)
   have e92 : ((s[k].toNat : Int) == 92) = false := bF (by omega)
   by_cases hp : 32 <= (s[k].toNat : Int) /\ (s[k].toNat : Int) <= 126
   ·have HS : Hid (liT s (k + 1) = liT s k ++ [(s[k].toNat : Int)]) := (by show _ = _; rw [HQ.out]; unfold Q.shB; rw [if_neg h10, if_neg h13, if_neg h9, if_neg hg, if_pos hp])
    obtain ⟨hp1, hp2⟩ := hp
    clear HQ h10 h13 h9 hg
    go_wp2_with (at_builtin; refine wpList_append_own _ rfl _ _ 84 rfl w.heap.size 5 i0 (.int .u8 0) 1 1 Tryz.underlying84 hinf hz0 hz1 hz2 rfl (by decide) _ _ _ rfl (HI.out.1.alloc _) ⟨wr.heap.size, 0, none⟩ 1 1 [.int .u8 (s[k].toNat : Int)] rfl rfl ?c1 ?c2 ?c3 ?c4 ?c5 ?_)
    case c1 => exact (Q.zhx [(s[k].toNat : Int)] (by simp) wr).cells rfl
    case c2 => first | rfl | (intro u hu; simp at hu; rcases hu with rfl | rfl <;> rfl) | (intro u hu; simp at hu; subst hu; rfl)
    case c3 => unfold maxLen; omega
    case c4 => omega
    case c5 => first | omega | (simp; omega)
    intro v' w2 hown' hgrow _
    have hle := fun j e => (HI.out.1.lt j e).1
    have HI2 := (show Hid (w2.ownsRow w.heap.size 5 1 v' (liT s (k + 1)).length ((liT s (k + 1)).map (Value.int .u8)) /\ Below w.heap.size w w2) from (by
     refine ⟨?_, (HI.out.2.alloc HI.out.2.size (.cells #[.int .u8 (s[k].toNat : Int)] 5)).grown hgrow (by have := HI.out.2.size; simp; omega) (fun j e => hle j e)⟩
     rw [HS.out, List.length_append, List.map_append]
     exact hown'))
    clear hown' hgrow hle
    go_wp2
    go_roundw
    case rel => exact ⟨k + 1, by omega, by go_num, HI2⟩
    case measure => simp [intOf]; omega
   have hm1 : s[k].toNat / 16 < 16 := by omega
   have hm2 : s[k].toNat % 16 < 16 := by omega
   have HS := (show Hid (liT s (k + 1) = liT s k ++ [92, 120, ((zbp (s[k].toNat / 16)).toNat : Int), ((zbp (s[k].toNat % 16)).toNat : Int)]) from (by
    show _ = _
    rw [HQ.out, znS ⟨_, hm1⟩, znS ⟨_, hm2⟩]
    unfold Q.shB
    rw [if_neg h10, if_neg h13, if_neg h9, if_neg hg, if_neg hp]
    rfl))
   have HX : Hid (∀ w, Calls Tryz.prog 94 #[.int .i64 (s[k].toNat : Int)] w fun e w' => e = .returned (.string ⟨#[zbp (s[k].toNat / 16), zbp (s[k].toNat % 16)]⟩) /\ Below w.heap.size w w') := fun w => zij _ (by omega) w
   have hp2 : ¬ 32 <= (s[k].toNat : Int) ∨ (32 <= (s[k].toNat : Int) /\ ¬ (s[k].toNat : Int) <= 126) := by omega
   have hw8 : IntKind.i64.wrap (s[k].toNat : Int) = (s[k].toNat : Int) := by rw [IntKind.wrap_i64]; omega
   clear HQ h10 h13 h9 hg hp hm1 hm2
   generalize zbp (s[k].toNat / 16) = x at *
   generalize zbp (s[k].toNat % 16) = y at *
   rcases hp2 with hp2 | ⟨hp2, hp3⟩
   all_goals
    go_wp2_with fail
    refine (HX.out _).mono ?_
    rintro e w1 ⟨rfl, hb⟩
    have HJ : Hid (w1.ownsRow w.heap.size 5 1 (.slice ao (liT s k).length cap) (liT s k).length ((liT s k).map (Value.int .u8)) /\ Below w.heap.size w w1) := ⟨zbH HI.out.1 hb, HI.out.2.trans (hb.mono HI.out.2.size)⟩
    clear hb HX HI
    go_wp2_with (at_builtin; refine Lib.wpList_append_own_string _ rfl _ _ 84 9 rfl w.heap.size 5 i0 Tryz.underlying84 Tryz.underlying9 hinf hz0 hz1 hz2 _ _ _ rfl HJ.out.1 (⟨#[92, 120]⟩ ++ ⟨#[x, y]⟩) rfl ?c3 ?c4 ?c5 ?_)
    case c3 => unfold maxLen; show _ + 4 <= _; omega
    case c4 => show _ + 4 <= _; omega
    case c5 => exact HJ.out.2.size
    intro v' w2 hown' hgrow _
    have HI2 := (show Hid (w2.ownsRow w.heap.size 5 1 v' (liT s (k + 1)).length ((liT s (k + 1)).map (Value.int .u8)) /\ Below w.heap.size w w2) from (by
     refine ⟨?_, HJ.out.2.grown hgrow HJ.out.2.size (fun j e => (HJ.out.1.lt j e).1)⟩
     rw [HS.out, List.length_append, List.map_append]
     rw [zod, cells4] at hown'
     exact hown'))
    clear hown' hgrow HJ
    go_wp2
    go_roundw
    case rel => exact ⟨k + 1, by omega, by go_num, HI2⟩
    case measure => simp [intOf]; omega
  ·have HL := hO (zpG s k (by omega))
   have hct := zc4 HI.out.1
   have hsz : (zaj (liT s k)).size <= 1020 := by rw [zaw]; omega
   have HB := hO HI.out.2
   clear HI
   generalize zaj (liT s k) = A at *
   go_wp2_with fail
   go_ret
   exact ⟨zce HL.out, HB.out⟩
def mkS (a b c d : Int) : BitVec 256 := BitVec.ofNat 256 (a.toNat + 2 ^ 64 * (b.toNat + 2 ^ 64 * (c.toNat + 2 ^ 64 * d.toNat)))
theorem znT (a b c d : Int) (ha : 0 <= a /\ a < 18446744073709551616) (hb : 0 <= b /\ b < 18446744073709551616) (hc : 0 <= c /\ c < 18446744073709551616) (hd : 0 <= d /\ d < 18446744073709551616) :
  wd (mkS a b c d) 0 = a /\ wd (mkS a b c d) 1 = b /\ wd (mkS a b c d) 2 = c /\ wd (mkS a b c d) 3 = d := by
 unfold mkS
 simp only [wd, BitVec.extractLsb'_toNat, BitVec.toNat_ofNat, Nat.shiftRight_eq_div_pow]
 refine ⟨?_, ?_, ?_, ?_⟩ <;> omega
def txO (l : List UInt8) : ByteArray := ⟨l.toArray⟩
def rnT (a b : Nat) : ByteArray := ⟨#[37, 117, 123]⟩ ++ txO (dgT 16 a) ++ ⟨#[45]⟩ ++ txO (dgT 16 b) ++ ⟨#[125]⟩
def tkX (t : Tk) : ByteArray :=
 if t.kd = 1 then t.tx else if t.kd = 21 then ⟨#[123, 58]⟩ ++ gnm t.tx else if t.kd = 2 then Q.zaj (Q.qT t.tx) else
 if t.kd = 3 then txO (shT (mkS t.s0 t.s1 t.s2 t.s3)) else if t.kd = 28 then ⟨#[37]⟩ ++ t.tx else if t.kd = 5 then rnT t.nn.toNat t.s0.toNat else
 if t.kd = 4 then txO (dgT 10 t.nn.toNat) else if t.kd = 13 then ⟨#[94]⟩ ++ txO (dgT 10 t.nn.toNat) else if t.kd = 14 then ⟨#[94, 43]⟩ ++ txO (dgT 10 t.nn.toNat) else
 if t.kd = 15 then ⟨#[94, 45]⟩ ++ txO (dgT 10 t.nn.toNat) else if t.kd = 29 then ⟨#[37, 101]⟩ else if t.kd = 30 then ⟨#[37, 102]⟩ else txO (sgn t.kd.toNat)
theorem zlk {t : Tk} (h : riF t = true) : 1 <= t.kd /\ t.kd <= 30 /\ txF t.kd t.tx = true /\ 0 <= t.nn /\ t.nn <= (if t.kd = 5 then t.s0 else gtK t.kd) /\ seF t.kd t.tx t.s0 t.s1 t.s2 t.s3 = true := by
 unfold riF nbF at h
 simp only [Bool.and_eq_true, decide_eq_true_eq] at h
 obtain ⟨⟨⟨⟨h1, h2⟩, h3⟩, h4, h5⟩, h6⟩ := h
 exact ⟨h1, h2, h3, h4, h5, h6⟩
theorem zdJ {s : ByteArray} (h : zeb s = true) : 0 < s.size /\ s.size <= 32 := by
 unfold zeb at h
 simp only [Bool.and_eq_true, decide_eq_true_eq] at h
 exact ⟨h.1.1.1, h.1.1.2⟩
theorem zgc {s : ByteArray} (h : (s.toList == []) = true) : s.size = 0 := by
 have h := beq_iff_eq.1 h
 rw [ByteArray.toList_eq] at h
 have : s.data.toList.length = 0 := by rw [h]; rfl
 exact this
theorem zhy {k : Int} {s : ByteArray} (h : txF k s = true) : s.size <= 255 := by
 unfold txF at h
 split at h
 ·have := zdJ h; omega
 split at h
 ·rcases Bool.or_eq_true_iff.1 h with h | h
  ·have := zgc h; omega
  ·have := zdJ h; omega
 split at h
 ·have := of_decide_eq_true h; omega
 split at h
 ·have := beq_iff_eq.1 h; omega
 ·have := zgc h; omega
theorem zhz {k s0 s1 s2 s3 : Int} {s : ByteArray} (hk : k = 5) (h : seF k s s0 s1 s2 s3 = true) : s0 <= 1114111 := by
 subst hk
 unfold seF at h
 rw [if_neg (by omega), if_neg (by omega), if_pos rfl] at h
 simp only [Bool.and_eq_true, decide_eq_true_eq] at h
 exact h.1
theorem zbe (l : List UInt8) : (txO l).size = l.length := by show l.toArray.size = _; simp
theorem zpH (x : BitVec 256) : (shT x).length <= 2306 := by
 unfold shT
 split
 ·simp
 ·have h1 := zh9 (spL (bys x))
  have h2 := zd1 x
  simp only [List.length_append, List.length_cons, List.length_nil]
  omega
theorem zcJ : ∀ d : Fin 16, zaH ((zbp d.val).toNat : Int) = (d.val : Int) /\ hxB ((zbp d.val).toNat : Int) = true /\ (d.val < 10 -> dgB ((zbp d.val).toNat : Int) = true) /\ (((zbp d.val).toNat : Int) = 48 -> d.val = 0) := by decide
theorem zpI (b : Nat) (hb : 2 <= b) (hb2 : b <= 16) (n : Nat) : ∀ x ∈ dgT b n, ∃ d, d < b /\ x = zbp d := by
 induction n using Nat.strongRecOn with
 | _ n ih =>
  intro x hx
  by_cases h : n < b
  ·rw [zec h] at hx
   exact ⟨n, h, by simpa using hx⟩
  ·rw [zfv hb h] at hx
   rcases List.mem_append.1 hx with h1 | h1
   ·exact ih (n / b) (zdI hb h) x h1
   ·exact ⟨n % b, Nat.mod_lt _ (by omega), by simpa using h1⟩
theorem zll (b : Nat) (hb : 2 <= b) (n : Nat) (hn : 0 < n) : ∃ d r, 0 < d /\ d < b /\ dgT b n = zbp d :: r := by
 induction n using Nat.strongRecOn with
 | _ n ih =>
  by_cases h : n < b
  ·exact ⟨n, [], hn, h, zec h⟩
  ·have h1 : 0 < n / b := Nat.div_pos (by omega) (by omega)
   obtain ⟨d, r, h2, h3, h4⟩ := ih (n / b) (zdI hb h) h1
   exact ⟨d, r ++ [zbp (n % b)], h2, h3, by rw [zfv hb h, h4]; rfl⟩
theorem chL_in {l : List UInt8} {i : Nat} {x : UInt8} (h : l[i]? = some x) : chL l i = (x.toNat : Int) := by unfold chL; rw [h]
theorem zlm {l : List UInt8} {i : Nat} (h : l.length <= i) : chL l i = -1 := by unfold chL; rw [List.getElem?_eq_none h]
theorem zm8 (p q : List UInt8) (i : Nat) (h : i < p.length) : chL (p ++ q) i = chL p i := by unfold chL; rw [List.getElem?_append_left h]
theorem zil (b : Nat) (hb : 2 <= b) (hb2 : b <= 16) (n i : Nat) (h : i < (dgT b n).length) : ∃ d, d < b /\ chL (dgT b n) i = ((zbp d).toNat : Int) := by
 obtain ⟨d, h1, h2⟩ := zpI b hb hb2 n (dgT b n)[i] (List.getElem_mem h)
 exact ⟨d, h1, by rw [chL_in (List.getElem?_eq_getElem h), h2]⟩
theorem zgI (b : Nat) (hb : 2 <= b) (hb2 : b <= 16) (n : Nat) : ∀ q : List UInt8, zaB (tx8 (dgT b n ++ q)) 0 (b : Int) (dgT b n).length = (n : Int) := by
 induction n using Nat.strongRecOn with
 | _ n ih =>
  intro q
  by_cases h : n < b
  ·rw [zec h]
   have e : chr (tx8 ([zbp n] ++ q)) 0 = ((zbp n).toNat : Int) := by rw [zaP]; rfl
   show (0 : Int) * b + zaH (chr (tx8 ([zbp n] ++ q)) 0) = n
   rw [e, (zcJ ⟨n, by omega⟩).1]
   show (0 : Int) * b + (n : Int) = n
   rw [Int.zero_mul, Int.zero_add]
  ·have hd := zfv hb h
   have h2 := ih (n / b) (zdI hb h) ([zbp (n % b)] ++ q)
   have hm : n % b < b := Nat.mod_lt _ (by omega)
   rw [hd, List.append_assoc, List.length_append, List.length_singleton]
   show zaB _ 0 (b : Int) (dgT b (n / b)).length * b + zaH (chr _ (0 + (dgT b (n / b)).length)) = n
   rw [h2, Nat.zero_add, at0]
   have e : chL ([zbp (n % b)] ++ q) 0 = ((zbp (n % b)).toNat : Int) := rfl
   rw [e, (zcJ ⟨n % b, by omega⟩).1]
   show ((n / b : Nat) : Int) * (b : Int) + ((n % b : Nat) : Int) = n
   have h3 := Nat.div_add_mod n b
   have h4 : ((b * (n / b) + n % b : Nat) : Int) = (n : Int) := by rw [h3]
   rw [Int.natCast_add, Int.natCast_mul, Int.mul_comm] at h4
   exact h4
theorem zln (p l q : List UInt8) : Ag (tx8 l) 0 (tx8 (p ++ l ++ q)) p.length l.length := fun k hk => by
 rw [Nat.zero_add, zaP, zaP, List.append_assoc, zhq, zm8 _ _ _ hk]
theorem zm9 (n : Nat) : spN dgB (tx8 (dgT 10 n)) 0 = 0 + (dgT 10 n).length := by
 refine zic (by decide) (by omega) (fun k _ hk => ?_) ?_
 ·obtain ⟨d, h1, h2⟩ := zil 10 (by omega) (by omega) n k (by omega)
  rw [zaP, h2]
  exact (zcJ ⟨d, by omega⟩).2.2.1 h1
 ·rw [zaP, zlm (by omega)]; decide
theorem run16 (n : Nat) : spN hxB (tx8 (dgT 16 n)) 0 = 0 + (dgT 16 n).length := by
 refine zic (by decide) (by omega) (fun k _ hk => ?_) ?_
 ·obtain ⟨d, h1, h2⟩ := zil 16 (by omega) (by omega) n k (by omega)
  rw [zaP, h2]
  exact (zcJ ⟨d, by omega⟩).2.1
 ·rw [zaP, zlm (by omega)]; decide
theorem num10 (n : Nat) (most : Int) (h1 : n <= 999999) (h2 : (n : Int) <= most) : zbx (tx8 (dgT 10 n)) 0 most = .inl (n : Int) := by
 have hr := zm9 n
 have hl := zb9 10 (by omega) 5 n (by omega)
 have hne := zih 10 n (by omega)
 have hw : zaB (tx8 (dgT 10 n)) 0 10 (dgT 10 n).length = (n : Int) := by
  have h := zgI 10 (by omega) (by omega) n []
  rw [List.append_nil] at h
  exact h
 have hpos : 0 < (dgT 10 n).length := by
  cases hd : dgT 10 n with
  | nil => exact absurd hd hne
  | cons a b => simp
 unfold zbx
 rw [hr, Nat.zero_add, Nat.sub_zero, if_neg, if_neg, hw]
 ·rw [hw]; omega
 ·rintro (q | ⟨q1, q2⟩)
  ·omega
  ·by_cases h0 : 0 < n
   ·obtain ⟨d, r, d1, d2, d3⟩ := zll 10 (by omega) n h0
    rw [zaP, d3] at q2
    have := (zcJ ⟨d, by omega⟩).2.2.2 q2
    simp only at this
    omega
   ·obtain rfl : n = 0 := by omega
    rw [zec (by omega)] at q1
    simp at q1
structure Beg (s : ByteArray) : Prop where
 b : ¬ (chr s 0 = 9 ∨ chr s 0 = 10 ∨ chr s 0 = 13 ∨ chr s 0 = 32)
 c : ¬ (chr s 0 = 45 /\ chr s 1 = 45)
theorem Beg.of {s : ByteArray} {c : Int} (h : chr s 0 = c) (h1 : ¬ (c = 9 ∨ c = 10 ∨ c = 13 ∨ c = 32 ∨ c = 45)) : Beg s := ⟨by rw [h]; omega, by rw [h]; omega⟩
structure Aln (s : ByteArray) (kd nn : Int) (tx : ByteArray) (s0 s1 s2 s3 : Int) : Prop where
 p : 0 < s.size
 o : zaE s 0 = .inl ⟨kd, nn, 0, (s.size : Nat), tx, s0, s1, s2, s3⟩
 b : Beg s
theorem zpJ {s : ByteArray} (h : zeb s = true) : Aln s 1 0 s 0 0 0 0 := by
 unfold zeb at h
 simp only [Bool.and_eq_true, decide_eq_true_eq, beq_iff_eq] at h
 obtain ⟨⟨⟨h1, h2⟩, h3⟩, h4⟩ := h
 refine ⟨h1, ?_, ?_⟩
 ·unfold zaE
  rw [if_pos h3]
  unfold zca
  rw [h4, Nat.sub_zero, if_neg (by omega)]
  congr 2
  apply ByteArray.ext
  simp []
 ·refine Beg.of rfl ?_
  unfold hdB at h3
  simp only [Bool.or_eq_true, Bool.and_eq_true, decide_eq_true_eq, beq_iff_eq] at h3
  omega
theorem al_num (n : Nat) (h : n <= 999999) : Aln (tx8 (dgT 10 n)) 4 n ⟨#[]⟩ 0 0 0 0 := by
 have hne := zih 10 n (by omega)
 have hpos : 0 < (dgT 10 n).length := by
  cases hd : dgT 10 n with
  | nil => exact absurd hd hne
  | cons a b => simp
 obtain ⟨d, h1, h2⟩ := zil 10 (by omega) (by omega) n 0 hpos
 have h3 := (zcJ ⟨d, by omega⟩).2.2.1 h1
 dsimp only at h3
 rw [<- h2, <- zaP] at h3
 have hc : 48 <= chr (tx8 (dgT 10 n)) 0 /\ chr (tx8 (dgT 10 n)) 0 <= 57 := by
  unfold dgB at h3
  simpa using h3
 refine ⟨hpos, ?_, Beg.of rfl (by omega)⟩
 have hh : hdB (chr (tx8 (dgT 10 n)) 0) = false := by
  unfold hdB
  simp only [Bool.or_eq_false_iff, Bool.and_eq_false_iff, decide_eq_false_iff_not, beq_eq_false_iff_ne]
  omega
 unfold zaE
 rw [if_neg (by rw [hh]; decide), if_pos h3]
 unfold nmR
 rw [show gtK 4 = 999999 from rfl, num10 n 999999 h (by omega), zm9 n, Nat.zero_add]
 rfl
end Go.Proofs.YtkihfkcmcdiajaaGreatDoor
namespace Go.Proofs.YtkihfkcmcdiajaaGreatDoor.Q
open Go.RowKit
def lch (l : List Int) (i : Nat) : Int := (l[i]?).getD (-1)
theorem zdK {l : List Int} (h : By l) (i : Nat) : chr (zaj l) i = lch l i := by
 by_cases hi : i < (zaj l).size
 ·rw [zal hi]
  have hl : i < l.length := by rwa [zaw] at hi
  unfold lch
  rw [List.getElem?_eq_getElem hl]
  have hb := h l[i] (List.getElem_mem hl)
  have he : (zaj l)[i] = UInt8.ofNat l[i].toNat := by
   have h2 := zbf l
   have : (zaj l).data.toList[i]'(by simpa using hi) = (zaj l)[i] := rfl
   rw [<- this]
   simp [h2]
  rw [he]
  show ((UInt8.ofNat l[i].toNat).toNat : Int) = l[i]
  rw [UInt8.toNat_ofNat', Nat.mod_eq_of_lt (by omega)]
  omega
 ·rw [zat hi]
  unfold lch
  rw [List.getElem?_eq_none (by rw [zaw] at hi; omega)]
  rfl
theorem zhA : ∀ b : Fin 256, zaX (zaj (shB (b.val : Int))) 0 = .inl ((b.val : Int), (shB (b.val : Int)).length) /\ chr (zaj (shB (b.val : Int))) 0 ≠ 39 := by
 have key : ∀ b : Fin 256, (match zaX (zaj (shB (b.val : Int))) 0 with | .inl (x, n) => decide (x = (b.val : Int)) && decide (n = (shB (b.val : Int)).length) | .inr (_, _) => false) = true /\ decide (chr (zaj (shB (b.val : Int))) 0 ≠ 39) = true := by decide +kernel
 intro b
 obtain ⟨h1, h2⟩ := key b
 refine ⟨?_, of_decide_eq_true h2⟩
 split at h1
 ·next x n hx =>
  rw [hx]
  simp only [Bool.and_eq_true, decide_eq_true_eq] at h1
  rw [h1.1, h1.2]
 ·cases h1
theorem zpK (a p c : List Int) (i : Nat) (h : i < p.length) : lch (a ++ p ++ c) (a.length + i) = lch p i := by
 unfold lch
 rw [List.append_assoc, List.getElem?_append_right (by omega), show a.length + i - a.length = i from by omega, List.getElem?_append_left h]
theorem zpL (a : List Int) (x : Int) : lch (a ++ [x]) a.length = x := by
 unfold lch
 rw [List.getElem?_append_right (Nat.le_refl _), Nat.sub_self]
 rfl
theorem zi8 {s s' : ByteArray} {d n : Nat} {b : Int} (h : zaZ s 0 = some (b, n)) (hc : ∀ k, k < n -> chr s' (d + k) = chr s k) : zaZ s' d = some (b, d + n) := by
 unfold zaZ at h ⊢
 split at h
 ·next q =>
  cases h
  rw [Nat.zero_add] at hc
  rw [Nat.zero_add, Nat.zero_add] at *
  rw [hc 2 (by omega), hc 3 (by omega), if_pos q]
 ·cases h
theorem zi9 {s s' : ByteArray} {d n : Nat} {b : Int} (h : zax s 0 = some (b, n)) (hc : ∀ k, k < n -> chr s' (d + k) = chr s k) : zax s' d = some (b, d + n) := by
 have hn : 1 < n := by
  unfold zax zaZ at h
  repeat' split at h
  all_goals first | (cases h; omega) | cases h
 have h1 := hc 1 (by omega)
 unfold zax at h ⊢
 rw [Nat.zero_add] at h
 rw [h1]
 split at h
 ·next q => cases h; rw [if_pos q]
 ·next q1 =>
  rw [if_neg q1]
  split at h
  ·next q => cases h; rw [if_pos q]
  ·next q2 =>
   rw [if_neg q2]
   split at h
   ·next q => cases h; rw [if_pos q]
   ·next q3 =>
    rw [if_neg q3]
    split at h
    ·next q => cases h; rw [if_pos q]
    ·next q4 =>
     rw [if_neg q4]
     split at h
     ·next q => rw [if_pos q]; exact zi8 h hc
     ·cases h
theorem zfd {s s' : ByteArray} {d n : Nat} {b : Int} (h : zaX s 0 = .inl (b, n)) (hc : ∀ k, k < n -> chr s' (d + k) = chr s k) : zaX s' d = .inl (b, d + n) := by
 have hn := zgv h
 have h1 := hc 0 (by omega)
 rw [Nat.add_zero] at h1
 unfold zaX at h ⊢
 rw [h1]
 split at h
 ·next q =>
  rw [if_pos q]
  split at h
  ·cases h
  ·next p hp => cases h; rw [zi9 hp hc]
 ·next q =>
  rw [if_neg q]
  split at h
  ·cases h
  ·next q2 => cases h; rw [if_neg q2]
theorem zja (L : List Int) (hL : By L) (rest : List Int) (hr : By rest) (a : List Int) (l : List Int) (hE : L = a ++ rest.flatMap shB ++ [39]) (f : Nat) (hf : L.length + 1 <= f + a.length) :
  za9 (zaj L) 39 f a.length l = .inl (l ++ rest, L.length) := by
 induction rest generalizing a l f with
 | nil =>
  obtain ⟨g, rfl⟩ : ∃ g, f = g + 1 := ⟨f - 1, by rw [hE] at hf; simp at hf; omega⟩
  have h39 : chr (zaj L) a.length = 39 := by
   rw [zdK hL, hE]; simp only [List.flatMap_nil, List.append_nil]; exact zpL a 39
  rw [zfq h39, List.append_nil]
  have : L.length = a.length + 1 := by rw [hE]; simp
  rw [this]
 | cons b rest ih =>
  obtain ⟨g, rfl⟩ : ∃ g, f = g + 1 := ⟨f - 1, by rw [hE] at hf; simp at hf; omega⟩
  have hb := hr b (List.mem_cons_self ..)
  have hlen := zkm b
  have hE2 : L = a ++ shB b ++ (rest.flatMap shB ++ [39]) := by rw [hE, List.flatMap_cons]; simp
  obtain ⟨p1, p2⟩ := zhA ⟨b.toNat, by omega⟩
  rw [show (((⟨b.toNat, by omega⟩ : Fin 256).val : Nat) : Int) = b from by show ((b.toNat : Nat) : Int) = b; omega] at p1 p2
  have hcp : ∀ i, i < (shB b).length -> chr (zaj L) (a.length + i) = chr (zaj (shB b)) i := fun i hi => by
   rw [zdK hL, zdK (znI hb.1 hb.2), hE2]; exact zpK a (shB b) _ i hi
  have hsz : (zaj L).size = L.length := zaw L
  have hL2 : L.length = a.length + (shB b).length + (rest.flatMap shB ++ [39]).length := by rw [hE2]; simp; omega
  have hlt : a.length < (zaj L).size := by omega
  have hne : chr (zaj L) a.length ≠ 39 := by have := hcp 0 (by omega); rw [Nat.add_zero] at this; rw [this]; exact p2
  have hby : zaX (zaj L) a.length = .inl (b, a.length + (shB b).length) := by
   have hs := zfd p1 hcp
   exact hs
  rw [zeJ hne hlt hby]
  have h3 := ih (fun n hn => hr n (List.mem_cons_of_mem _ hn)) (a ++ shB b) (l ++ [b]) (by rw [hE2]; simp) g (by rw [List.length_append]; omega)
  rw [List.length_append] at h3
  rw [h3]
  simp
theorem zlo (s : ByteArray) (h : (qT s).length <= 65536) : zb7 (zaj (qT s)) 0 = .inl (byl s, (qT s).length) := by
 have hsz := zaw (qT s)
 have hb := qT_by s
 have hE : qT s = [39] ++ (byl s).flatMap shB ++ [39] := rfl
 have h0 : chr (zaj (qT s)) 0 = 39 := by rw [zdK hb]; rfl
 unfold zb7
 rw [if_neg (by omega), if_neg (by omega), show (0 : Int).toNat = 0 from rfl, h0, if_pos (.inl rfl)]
 have h2 := zja (qT s) hb (byl s) (znJ s) [39] [] hE ((zaj (qT s)).size + 1) (by rw [hsz]; simp)
 exact h2
end Go.Proofs.YtkihfkcmcdiajaaGreatDoor.Q
namespace Go.Proofs.YtkihfkcmcdiajaaGreatDoor
open Go.RowKit
theorem zgJ {s : ByteArray} {c : Int} (h0 : chr s 0 = c) (h1 : hdB c = false) (h2 : dgB c = false) (h3 : ¬ (c = 39 ∨ c = 34)) (h4 : ¬ c = 91) (h5 : ¬ c = 37) : zaE s 0 = zbr s 0 := by
 unfold zaE
 rw [h0, if_neg (by rw [h1]; decide), if_neg (by rw [h2]; decide), if_neg h3, if_neg h4, if_neg h5]
theorem zlp (p : List UInt8) (k : Int) (n : Nat) (h : n <= 50) (hp : p = [94] /\ k = 13 ∨ p = [94, 43] /\ k = 14 ∨ p = [94, 45] /\ k = 15) : Aln (tx8 (p ++ dgT 10 n)) k n ⟨#[]⟩ 0 0 0 0 := by
 have hne := zih 10 n (by omega)
 have hpos : 0 < (dgT 10 n).length := by
  cases hd : dgT 10 n with
  | nil => exact absurd hd hne
  | cons a b => simp
 obtain ⟨d, d1, d2⟩ := zil 10 (by omega) (by omega) n 0 hpos
 have d3 := (zcJ ⟨d, by omega⟩).2.2.1 d1
 dsimp only at d3
 rw [<- d2] at d3
 have hc : 48 <= chL (dgT 10 n) 0 /\ chL (dgT 10 n) 0 <= 57 := by
  unfold dgB at d3
  simpa using d3
 have hsz : (tx8 (p ++ dgT 10 n)).size = p.length + (dgT 10 n).length := by rw [zeS, List.length_append]
 have hag : Ag (tx8 (dgT 10 n)) 0 (tx8 (p ++ dgT 10 n)) p.length (dgT 10 n).length := by
  have := zln p (dgT 10 n) []
  rwa [List.append_nil] at this
 have hend : dgB (chr (tx8 (p ++ dgT 10 n)) (p.length + (dgT 10 n).length)) = false := by
  rw [zat (by rw [hsz]; omega)]; decide
 have hnum := zhu (b' := 0) (by
  show nmR (tx8 (dgT 10 n)) 0 0 k = .inl ⟨k, n, (0 : Nat), ((dgT 10 n).length : Nat), ⟨#[]⟩, 0, 0, 0, 0⟩
  have hg : gtK k = 50 := by rcases hp with h | h | h <;> (rw [h.2]; rfl)
  unfold nmR
  rw [hg, num10 n 50 (by omega) (by omega), zm9 n, Nat.zero_add]) (by have := zm9 n; omega) hag hend
 have hfirst := atj p (dgT 10 n) 0
 rcases hp with ⟨rfl, rfl⟩ | ⟨rfl, rfl⟩ | ⟨rfl, rfl⟩
 ·have c0 : chr (tx8 ([94] ++ dgT 10 n)) 0 = 94 := by rw [zaP]; rfl
  refine ⟨by rw [hsz]; omega, ?_, Beg.of c0 (by omega)⟩
  rw [zgJ c0 (by decide) (by decide) (by decide) (by decide) (by decide)]
  have e : zap (tx8 ([94] ++ dgT 10 n)) 0 = (13, [94]) := by
   rw [zbj, c0, Nat.zero_add, show chr (tx8 ([94] ++ dgT 10 n)) 1 = chL (dgT 10 n) 0 from hfirst]
   unfold sgC
   rw [if_neg (by decide), if_pos rfl, if_neg (by omega), if_neg (by omega)]
  unfold zbr
  rw [e]
  rw [if_neg (by decide), if_pos (by decide), hsz]
  exact hnum
 ·have c0 : chr (tx8 ([94, 43] ++ dgT 10 n)) 0 = 94 := by rw [zaP]; rfl
  have c1 : chr (tx8 ([94, 43] ++ dgT 10 n)) 1 = 43 := by rw [zaP]; rfl
  refine ⟨by rw [hsz]; omega, ?_, Beg.of c0 (by omega)⟩
  rw [zgJ c0 (by decide) (by decide) (by decide) (by decide) (by decide)]
  have e : zap (tx8 ([94, 43] ++ dgT 10 n)) 0 = (14, [94, 43]) := by rw [zbj, c0, Nat.zero_add, c1]; rfl
  unfold zbr
  rw [e]
  rw [if_neg (by decide), if_pos (by decide), hsz]
  exact hnum
 ·have c0 : chr (tx8 ([94, 45] ++ dgT 10 n)) 0 = 94 := by rw [zaP]; rfl
  have c1 : chr (tx8 ([94, 45] ++ dgT 10 n)) 1 = 45 := by rw [zaP]; rfl
  refine ⟨by rw [hsz]; omega, ?_, Beg.of c0 (by omega)⟩
  rw [zgJ c0 (by decide) (by decide) (by decide) (by decide) (by decide)]
  have e : zap (tx8 ([94, 45] ++ dgT 10 n)) 0 = (15, [94, 45]) := by rw [zbj, c0, Nat.zero_add, c1]; rfl
  unfold zbr
  rw [e]
  rw [if_neg (by decide), if_pos (by decide), hsz]
  exact hnum
theorem pt_at {s : ByteArray} {d n : Nat} (h : n <= 1114111) (hag : Ag (tx8 (dgT 16 n)) 0 s d (dgT 16 n).length) (he : hxB (chr s (d + (dgT 16 n).length)) = false) : ptP s d = ((n : Int), d + (dgT 16 n).length, true) := by
 have hne := zih 16 n (by omega)
 have hl := zb9 16 (by omega) 5 n (by omega)
 have hpos : 0 < (dgT 16 n).length := by
  cases hd : dgT 16 n with
  | nil => exact absurd hd hne
  | cons a b => simp
 have hr := zc8 (by decide) hag (run16 n) he
 have hw : zaB s d 16 (dgT 16 n).length = (n : Int) := by
  rw [zgb hag _ (Nat.le_refl _)]
  have h := zgI 16 (by omega) (by omega) n []
  rw [List.append_nil] at h
  exact h
 unfold ptP
 rw [hr, if_neg (by omega), show d + (dgT 16 n).length - d = (dgT 16 n).length from by omega, hw, decide_eq_true (by omega)]
def rnL (a b : Nat) : List UInt8 := [37, 117, 123] ++ dgT 16 a ++ [45] ++ dgT 16 b ++ [125]
theorem rnT_L (a b : Nat) : rnT a b = tx8 (rnL a b) := by
 unfold rnT rnL txO
 apply ByteArray.ext
 simp
theorem al_pts (a b : Nat) (hab : a <= b) (hb : b <= 1114111) : Aln (rnT a b) 5 a ⟨#[]⟩ b 0 0 0 := by
 rw [rnT_L]
 have hsz : (tx8 (rnL a b)).size = 3 + (dgT 16 a).length + 1 + (dgT 16 b).length + 1 := by
  rw [zeS]; unfold rnL; simp only [List.length_append, List.length_cons, List.length_nil]
 have c0 : chr (tx8 (rnL a b)) 0 = 37 := by rw [zaP]; rfl
 have c1 : chr (tx8 (rnL a b)) 1 = 117 := by rw [zaP]; rfl
 have c2 : chr (tx8 (rnL a b)) 2 = 123 := by rw [zaP]; rfl
 have hA : Ag (tx8 (dgT 16 a)) 0 (tx8 (rnL a b)) 3 (dgT 16 a).length := by
  have := zln [37, 117, 123] (dgT 16 a) ([45] ++ dgT 16 b ++ [125])
  rwa [show [37, 117, 123] ++ dgT 16 a ++ ([45] ++ dgT 16 b ++ [125]) = rnL a b from by unfold rnL; simp] at this
 have hB : Ag (tx8 (dgT 16 b)) 0 (tx8 (rnL a b)) (3 + (dgT 16 a).length + 1) (dgT 16 b).length := by
  have := zln ([37, 117, 123] ++ dgT 16 a ++ [45]) (dgT 16 b) [125]
  rwa [show ([37, 117, 123] ++ dgT 16 a ++ [45] : List UInt8).length = 3 + (dgT 16 a).length + 1 from by simp only [List.length_append, List.length_cons, List.length_nil]] at this
 have e1 : chr (tx8 (rnL a b)) (3 + (dgT 16 a).length) = 45 := by
  have := at0 ([37, 117, 123] ++ dgT 16 a) ([45] ++ dgT 16 b ++ [125])
  rw [show ([37, 117, 123] ++ dgT 16 a) ++ ([45] ++ dgT 16 b ++ [125]) = rnL a b from by unfold rnL; simp, show ([37, 117, 123] ++ dgT 16 a : List UInt8).length = 3 + (dgT 16 a).length from by simp only [List.length_append, List.length_cons, List.length_nil]] at this
  exact this
 have e2 : chr (tx8 (rnL a b)) (3 + (dgT 16 a).length + 1 + (dgT 16 b).length) = 125 := by
  have := at0 ([37, 117, 123] ++ dgT 16 a ++ [45] ++ dgT 16 b) [125]
  rw [show ([37, 117, 123] ++ dgT 16 a ++ [45] ++ dgT 16 b : List UInt8).length = 3 + (dgT 16 a).length + 1 + (dgT 16 b).length from by simp only [List.length_append, List.length_cons, List.length_nil]] at this
  exact this
 have p1 := pt_at (by omega) hA (by rw [e1]; decide)
 have p2 := pt_at hb hB (by rw [e2]; decide)
 refine ⟨by rw [hsz]; omega, ?_, Beg.of c0 (by omega)⟩
 unfold zaE
 rw [c0, if_neg (by decide), if_neg (by decide), if_neg (by decide), if_neg (by decide), if_pos rfl]
 unfold zcy
 have hp : pfx (tx8 (rnL a b)) 0 [37, 117, 123] = true := by
  unfold pfx; rw [c0]
  unfold pfx; rw [Nat.zero_add, c1]
  unfold pfx; rw [c2]
  rfl
 rw [if_pos hp]
 unfold zb2
 rw [Nat.zero_add, p1]
 dsimp only
 rw [if_neg (by decide), if_pos e1, p2]
 dsimp only
 rw [if_neg (by simp; omega), if_pos e2, hsz]
 rfl
theorem al_pct (c : UInt8) (h : (cls c.toNat).2 = 0) : Aln (tx8 [37, c]) 28 0 (tx8 [c]) (wd (cls c.toNat).1 0) (wd (cls c.toNat).1 1) (wd (cls c.toNat).1 2) (wd (cls c.toNat).1 3) := by
 have n1 : c.toNat ≠ 101 := by intro q; rw [q] at h; revert h; decide
 have n2 : c.toNat ≠ 102 := by intro q; rw [q] at h; revert h; decide
 have c0 : chr (tx8 [37, c]) 0 = 37 := by rw [zaP]; rfl
 have c1 : chr (tx8 [37, c]) 1 = (c.toNat : Int) := by rw [zaP]; rfl
 have c2 : chr (tx8 [37, c]) 2 = -1 := by rw [zaP]; rfl
 refine ⟨by show 0 < 2; omega, ?_, Beg.of c0 (by omega)⟩
 unfold zaE
 rw [c0, if_neg (by decide), if_neg (by decide), if_neg (by decide), if_neg (by decide), if_pos rfl]
 unfold zcy
 have hp : pfx (tx8 [37, c]) 0 [37, 117, 123] = false := by
  unfold pfx
  unfold pfx
  unfold pfx
  rw [Nat.zero_add, show (1 : Nat) + 1 = 2 from rfl, c2]
  simp
 have e : zap (tx8 [37, c]) 0 = (0, []) := by
  rw [zbj, c0, Nat.zero_add, c1]
  unfold sgC
  rw [if_pos rfl, if_neg (by omega), if_neg (by omega)]
 rw [if_neg (by rw [hp]; decide), e]
 rw [if_neg (by decide), Nat.zero_add, c1, Int.toNat_natCast, if_pos ⟨by show 1 < 2; omega, h⟩]
 congr 2
theorem zpM : Aln (tx8 [123, 58]) 21 0 ⟨#[]⟩ 0 0 0 0 := by
 have c0 : chr (tx8 [123, 58]) 0 = 123 := by rw [zaP]; rfl
 have c1 : chr (tx8 [123, 58]) 1 = 58 := by rw [zaP]; rfl
 have c2 : chr (tx8 [123, 58]) 2 = -1 := by rw [zaP]; rfl
 refine ⟨by show 0 < 2; omega, ?_, Beg.of c0 (by omega)⟩
 rw [zgJ c0 (by decide) (by decide) (by decide) (by decide) (by decide)]
 have e : zap (tx8 [123, 58]) 0 = (21, [123, 58]) := by rw [zbj, c0, Nat.zero_add, c1]; rfl
 unfold zbr
 rw [e]
 rw [if_neg (by decide), if_neg (by decide), if_pos (by decide)]
 show zcv (tx8 [123, 58]) 0 2 = _
 unfold zcv
 rw [c2, if_neg (by decide)]
 rfl
theorem al_grp {s : ByteArray} (h : zeb s = true) : Aln (⟨#[123, 58]⟩ ++ (s ++ ⟨#[58]⟩)) 21 0 s 0 0 0 0 := by
 unfold zeb at h
 simp only [Bool.and_eq_true, decide_eq_true_eq, beq_iff_eq] at h
 obtain ⟨⟨⟨h1, h2⟩, h3⟩, h4⟩ := h
 obtain ⟨l, rfl⟩ : ∃ l : List UInt8, s = tx8 l := ⟨s.data.toList, by apply ByteArray.ext; simp⟩
 have hX : (⟨#[123, 58]⟩ ++ (tx8 l ++ ⟨#[58]⟩) : ByteArray) = tx8 ([123, 58] ++ l ++ [58]) := by apply ByteArray.ext; simp
 rw [hX]
 rw [zeS] at h1 h2 h4
 have hag := zln [123, 58] l [58]
 have c0 : chr (tx8 ([123, 58] ++ l ++ [58])) 0 = 123 := by rw [zaP]; rfl
 have c1 : chr (tx8 ([123, 58] ++ l ++ [58])) 1 = 58 := by rw [zaP]; rfl
 have c2 : chr (tx8 ([123, 58] ++ l ++ [58])) 2 = chr (tx8 l) 0 := hag 0 h1
 have ce : chr (tx8 ([123, 58] ++ l ++ [58])) (2 + l.length) = 58 := by
  have := at0 ([123, 58] ++ l) [58]
  rw [show ([123, 58] ++ l : List UInt8).length = 2 + l.length from by simp only [List.length_append, List.length_cons, List.length_nil]] at this
  exact this
 have hr : spN nmB (tx8 ([123, 58] ++ l ++ [58])) 2 = 2 + l.length := zc8 (by decide) hag (by rw [h4, Nat.zero_add]) (by show nmB (chr _ (2 + l.length)) = false; rw [ce]; decide)
 have hsz : (tx8 ([123, 58] ++ l ++ [58])).size = 2 + l.length + 1 := by rw [zeS]; simp only [List.length_append, List.length_cons, List.length_nil]
 refine ⟨by rw [hsz]; omega, ?_, Beg.of c0 (by omega)⟩
 rw [zgJ c0 (by decide) (by decide) (by decide) (by decide) (by decide)]
 have e : zap (tx8 ([123, 58] ++ l ++ [58])) 0 = (21, [123, 58]) := by rw [zbj, c0, Nat.zero_add, c1]; rfl
 unfold zbr
 rw [e]
 rw [if_neg (by decide), if_neg (by decide), if_pos (by decide)]
 show zcv _ 0 2 = _
 unfold zcv
 rw [c2, if_pos h3, hr, if_neg (by omega), if_pos ce, hsz]
 have hx : (tx8 ([123, 58] ++ l ++ [58])).extract 2 (2 + l.length) = tx8 l := by
  apply ByteArray.ext
  simp [ByteArray.data_extract]
 rw [hx]
 rfl
theorem al_lit (s : ByteArray) (h : s.size <= 255) : Aln (Q.zaj (Q.qT s)) 2 0 s 0 0 0 0 := by
 have hq : (Q.qT s).length <= 4 * s.size + 2 := by
  have h := (Q.zhc s s.size).1
  rw [<- Q.zhb s s.size (Nat.le_refl _), List.length_append, List.length_singleton]
  omega
 have hsz : (Q.zaj (Q.qT s)).size = (Q.qT s).length := Q.zaw _
 have c0 : chr (Q.zaj (Q.qT s)) 0 = 39 := by
  rw [<- ziX, Q.zdK (Q.qT_by s)]
  rfl
 have hpos : 0 < (Q.zaj (Q.qT s)).size := zau (by rw [c0]; omega)
 have hr := Q.zlo s (by omega)
 have hl := zh2 (Q.zaj (Q.qT s)) 0 (by omega) (by omega) (.inl c0)
 refine ⟨hpos, ?_, Beg.of c0 (by omega)⟩
 unfold zaE
 rw [c0, if_neg (by decide), if_neg (by decide), if_pos (by decide), <- hl]
 rw [show (((0 : Nat) : Int)) = 0 from rfl, hr]
 unfold zkP
 dsimp only
 rw [if_neg (by rw [Q.zfY]; omega), hsz, <- znN, Q.zfr]
 rfl
theorem al_cls (x : BitVec 256) : Aln (tx8 (shT x)) 3 0 ⟨#[]⟩ (wd x 0) (wd x 1) (wd x 2) (wd x 3) := by
 have hr := zk5 x
 have c0 : chr (tx8 (shT x)) 0 = 91 := by
  rw [zaP]
  unfold shT
  split <;> rfl
 refine ⟨zau (by rw [c0]; omega), ?_, Beg.of c0 (by omega)⟩
 unfold zaE
 rw [c0, if_neg (by decide), if_neg (by decide), if_neg (by decide), if_pos rfl]
 rw [show (((0 : Nat) : Int)) = 0 from rfl, hr]
 rfl
def zpN (r : Sum Tk (Nat × Int)) (k : Int) (n : Nat) : Bool := match r with
 | .inl t => t.kd == k && t.nn == 0 && t.fr == 0 && t.en == (n : Int) && t.tx.data.toList == [] && t.s0 == 0 && t.s1 == 0 && t.s2 == 0 && t.s3 == 0
 | .inr _ => false
theorem zna {r : Sum Tk (Nat × Int)} {k : Int} {n : Nat} (h : zpN r k n = true) : r = .inl ⟨k, 0, 0, (n : Int), ⟨#[]⟩, 0, 0, 0, 0⟩ := by
 cases r with
 | inr q => cases h
 | inl t =>
  obtain ⟨a0, a1, a2, a3, a4, a5, a6, a7, a8⟩ := t
  simp only [zpN, Bool.and_eq_true, beq_iff_eq] at h
  obtain ⟨⟨⟨⟨⟨⟨⟨⟨h0, h1⟩, h2⟩, h3⟩, h4⟩, h5⟩, h6⟩, h7⟩, h8⟩ := h
  have h4 : a4 = ⟨#[]⟩ := by apply ByteArray.ext; simpa using h4
  subst h0 h1 h2 h3 h4 h5 h6 h7 h8
  rfl
def sgX (k : Nat) : List UInt8 := if k = 29 then [37, 101] else if k = 30 then [37, 102] else sgn k
def begB (l : List UInt8) : Bool := decide (0 < l.length) && !(chL l 0 == 9) && !(chL l 0 == 10) && !(chL l 0 == 13) && !(chL l 0 == 32) && !(chL l 0 == 45 && chL l 1 == 45)
theorem sg_all : ∀ k, k < 31 -> (1 <= k /\ k ≠ 1 /\ k ≠ 21 /\ k ≠ 2 /\ k ≠ 3 /\ k ≠ 28 /\ k ≠ 5 /\ k ≠ 4 /\ k ≠ 13 /\ k ≠ 14 /\ k ≠ 15) -> (zpN (zaE (tx8 (sgX k)) 0) k (sgX k).length && begB (sgX k)) = true := by decide +kernel
theorem al_sig (k : Nat) (h1 : k < 31) (h2 : 1 <= k /\ k ≠ 1 /\ k ≠ 21 /\ k ≠ 2 /\ k ≠ 3 /\ k ≠ 28 /\ k ≠ 5 /\ k ≠ 4 /\ k ≠ 13 /\ k ≠ 14 /\ k ≠ 15) : Aln (tx8 (sgX k)) k 0 ⟨#[]⟩ 0 0 0 0 := by
 have h := sg_all k h1 h2
 obtain ⟨h3, h4⟩ := Bool.and_eq_true_iff.1 h
 simp only [begB, Bool.and_eq_true, decide_eq_true_eq, Bool.not_eq_true', beq_eq_false_iff_ne, Bool.and_eq_false_iff] at h4
 obtain ⟨⟨⟨⟨⟨g0, g1⟩, g2⟩, g3⟩, g4⟩, g5⟩ := h4
 refine ⟨g0, zna h3, ⟨?_, ?_⟩⟩
 ·rw [zaP]; omega
 ·rw [zaP, zaP]; omega
theorem asT_go (l : List UInt8) : ∀ r : ByteArray, ((l.map fun x => (x.toNat : Int)).foldl (fun r n => r.push (UInt8.ofNat n.toNat)) r) = r ++ ⟨l.toArray⟩ := by
 induction l with
 | nil => intro r; apply ByteArray.ext; simp
 | cons x l ih =>
  intro r
  rw [List.map_cons, List.foldl_cons, ih]
  apply ByteArray.ext
  simp
theorem zpO (l : List UInt8) : zaj (l.map fun x => (x.toNat : Int)) = ⟨l.toArray⟩ := by
 unfold zaj
 rw [asT_go]
 apply ByteArray.ext
 simp
theorem qT_len (s : ByteArray) : (Q.qT s).length <= 4 * s.size + 2 := by
 have h := (Q.zhc s s.size).1
 rw [<- Q.zhb s s.size (Nat.le_refl _), List.length_append, List.length_singleton]
 omega
theorem zpP (s : ByteArray) (h : s.size <= 255) : (gnm s).size <= 256 := by
 unfold gnm
 split
 ·decide
 ·rw [ByteArray.size_append]; show s.size + 1 <= _; omega
theorem zlq (m : Nat) (hm : m < 16) (l : List UInt8) : digs.extract m (m + 1) ++ (⟨l.toArray⟩ : ByteArray) = ⟨(zbp m :: l).toArray⟩ := by
 rw [zeV ⟨m, hm⟩]
 exact znQ [zbp m] l
theorem zcK (n0 : Nat) (hn : n0 <= 1114111) (w : World) : Calls Tryz.prog 71 #[.int .i64 n0, .int .i64 10] w fun e w' => e = .returned (.string ⟨(dgT 10 n0).toArray⟩) /\ w' = w := by
 have HN : Hid (∀ n l, whI 10 n0 n l -> 0 < n ∨ l = [] -> whI 10 n0 (n / 10) (zbp (n % 10) :: l)) := fun n l h1 h2 => zii (by omega) h1 h2
 have HE : Hid (∀ n l, whI 10 n0 n l -> n = 0 -> l ≠ [] -> dgT 10 n0 = l) := fun n l h1 h2 h3 => zlg h1 h2 h3
 have HC : Hid (∀ m, m < 16 -> ∀ l : List UInt8, digs.extract m (m + 1) ++ (⟨l.toArray⟩ : ByteArray) = ⟨(zbp m :: l).toArray⟩) := fun m hm l => zlq m hm l
 go_enter Tryz.func71, Tryz.ntmps71
 go_wp2_with fail
 go_loopw [0, 5] (fun t s wr => ∃ n : Nat, ∃ A : ByteArray, n <= 1114111 /\ t = .int .i64 n /\ s = .string A /\ wr = w /\ A.size + n <= 1114112 /\ Hid (∃ l, A = ⟨l.toArray⟩ /\ whI 10 n0 n l)) (fun t s _ => (intOf t).toNat + (match s with | .string A => if A.size = 0 then 1 else 0 | _ => 0))
 case atStart => exact ⟨n0, _, hn, rfl, rfl, rfl, by show 0 + n0 <= _; omega, [], rfl, Or.inl ⟨rfl, rfl⟩⟩
 case round =>
  obtain ⟨n, A, h1, rfl, rfl, rfl, h2, HI⟩ := hrel
  have step : 0 < n ∨ A.size = 0 -> ∃ l, digs.extract (n % 10) (n % 10 + 1) ++ A = ⟨l.toArray⟩ /\ whI 10 n0 (n / 10) l := fun hc => by
   obtain ⟨l, rfl, hl⟩ := HI.out
   refine ⟨_, HC.out (n % 10) (by omega) l, HN.out n l hl ?_⟩
   rcases hc with hc | hc
   ·exact Or.inl hc
   ·exact Or.inr (List.eq_nil_of_length_eq_zero hc)
  have t1 : IntKind.i64.wrap ((n : Int) / 10) = ((n / 10 : Nat) : Int) := by rw [IntKind.wrap_i64]; omega
  have t2 : IntKind.i64.wrap ((n : Int) % 10) = ((n % 10 : Nat) : Int) := by rw [IntKind.wrap_i64]; omega
  have t3 : (n : Int) / 10 = ((n / 10 : Nat) : Int) := by omega
  have t4 : (n : Int) % 10 = ((n % 10 : Nat) : Int) := by omega
  have q1 : n / 10 <= n := Nat.div_le_self _ _
  have q2 : n % 10 < 16 := by omega
  have q3 : 0 < n -> n / 10 < n := fun h => Nat.div_lt_self h (by omega)
  clear HC HN
  generalize n / 10 = p at *
  generalize n % 10 = m at *
  have v1 : IntKind.i64.wrap ((m : Int) + 1) = (m : Int) + 1 := by rw [IntKind.wrap_i64]; omega
  have y1 : ((m : Int) + 1).toNat = m + 1 := by omega
  have l1 : (m : Int) <= (m : Int) + 1 := by omega
  have l3 : (m : Int) + 1 <= 16 := by omega
  have l5 : (0 : Int) <= (m : Int) + 1 := by omega
  have l0 : (0 : Int) <= (m : Int) := by omega
  have HX : Hid (digs.extract m (m + 1) = ⟨#[zbp m]⟩) := zeV ⟨m, q2⟩
  have HS := hO step
  have hA : A.size <= 1114112 := by omega
  clear step
  by_cases hn0 : 0 < n
  ·have z : (0 : Int) < (n : Int) := by omega
   go_wp2_with fail
   go_roundw
   case rel => exact ⟨p, _, by omega, rfl, rfl, trivial, by
    show (digs.extract m (m + 1) ++ A).size + p <= _
    rw [HX.out, ByteArray.size_append]
    have := q3 hn0
    show 1 + A.size + p <= _
    omega, HS.out (Or.inl hn0)⟩
   case measure =>
    have h5 := q3 hn0
    show p + (if (digs.extract m (m + 1) ++ A).size = 0 then 1 else 0) < n + (if A.size = 0 then 1 else 0)
    rw [HX.out, ByteArray.size_append, if_neg (show ¬ (ByteArray.mk #[zbp m]).size + A.size = 0 by show ¬ 1 + A.size = 0; omega)]
    split <;> omega
  ·have z : ¬ (0 : Int) < (n : Int) := by omega
   have HZ : Hid (n = 0) := Nat.eq_zero_of_not_pos hn0
   by_cases ha : A.size = 0
   ·obtain rfl : A = ⟨#[]⟩ := ByteArray.ext (Array.eq_empty_of_size_eq_zero ha)
    go_wp2_with fail
    go_roundw
    case rel => exact ⟨p, _, by omega, rfl, rfl, trivial, by
     show (digs.extract m (m + 1) ++ ⟨#[]⟩).size + p <= _
     rw [HX.out, ByteArray.size_append]
     show 1 + 0 + p <= _
     omega, HS.out (Or.inr rfl)⟩
    case measure =>
     show p + (if (digs.extract m (m + 1) ++ ⟨#[]⟩).size = 0 then 1 else 0) < n + (if (⟨#[]⟩ : ByteArray).size = 0 then 1 else 0)
     rw [HX.out, ByteArray.size_append, if_neg (show ¬ (ByteArray.mk #[zbp m]).size + (⟨#[]⟩ : ByteArray).size = 0 by show ¬ 1 + 0 = 0; omega), if_pos ha]
     omega
   ·have he := zif (s := A) (by omega)
    have HF : Hid (A = ⟨(dgT 10 n0).toArray⟩) := by
     show _ = _
     obtain ⟨l, rfl, hl⟩ := HI.out
     rw [HE.out n l hl HZ.out (by rintro rfl; exact ha rfl)]
    clear HI HS HE HZ hn0
    go_wp2_with fail
    go_ret
    exact ⟨zce HF.out, rfl⟩
theorem zeW (n0 : Nat) (hn : n0 <= 1114111) (w : World) : Calls Tryz.prog 71 #[.int .i64 n0, .int .i64 16] w fun e w' => e = .returned (.string ⟨(dgT 16 n0).toArray⟩) /\ w' = w := by
 have HN : Hid (∀ n l, whI 16 n0 n l -> 0 < n ∨ l = [] -> whI 16 n0 (n / 16) (zbp (n % 16) :: l)) := fun n l h1 h2 => zii (by omega) h1 h2
 have HE : Hid (∀ n l, whI 16 n0 n l -> n = 0 -> l ≠ [] -> dgT 16 n0 = l) := fun n l h1 h2 h3 => zlg h1 h2 h3
 have HC : Hid (∀ m, m < 16 -> ∀ l : List UInt8, digs.extract m (m + 1) ++ (⟨l.toArray⟩ : ByteArray) = ⟨(zbp m :: l).toArray⟩) := fun m hm l => zlq m hm l
 go_enter Tryz.func71, Tryz.ntmps71
 go_wp2_with fail
 go_loopw [0, 5] (fun t s wr => ∃ n : Nat, ∃ A : ByteArray, n <= 1114111 /\ t = .int .i64 n /\ s = .string A /\ wr = w /\ A.size + n <= 1114112 /\ Hid (∃ l, A = ⟨l.toArray⟩ /\ whI 16 n0 n l)) (fun t s _ => (intOf t).toNat + (match s with | .string A => if A.size = 0 then 1 else 0 | _ => 0))
 case atStart => exact ⟨n0, _, hn, rfl, rfl, rfl, by show 0 + n0 <= _; omega, [], rfl, Or.inl ⟨rfl, rfl⟩⟩
 case round =>
  obtain ⟨n, A, h1, rfl, rfl, rfl, h2, HI⟩ := hrel
  have step : 0 < n ∨ A.size = 0 -> ∃ l, digs.extract (n % 16) (n % 16 + 1) ++ A = ⟨l.toArray⟩ /\ whI 16 n0 (n / 16) l := fun hc => by
   obtain ⟨l, rfl, hl⟩ := HI.out
   refine ⟨_, HC.out (n % 16) (by omega) l, HN.out n l hl ?_⟩
   rcases hc with hc | hc
   ·exact Or.inl hc
   ·exact Or.inr (List.eq_nil_of_length_eq_zero hc)
  have t1 : IntKind.i64.wrap ((n : Int) / 16) = ((n / 16 : Nat) : Int) := by rw [IntKind.wrap_i64]; omega
  have t2 : IntKind.i64.wrap ((n : Int) % 16) = ((n % 16 : Nat) : Int) := by rw [IntKind.wrap_i64]; omega
  have t3 : (n : Int) / 16 = ((n / 16 : Nat) : Int) := by omega
  have t4 : (n : Int) % 16 = ((n % 16 : Nat) : Int) := by omega
  have q1 : n / 16 <= n := Nat.div_le_self _ _
  have q2 : n % 16 < 16 := by omega
  have q3 : 0 < n -> n / 16 < n := fun h => Nat.div_lt_self h (by omega)
  clear HC HN
  generalize n / 16 = p at *
  generalize n % 16 = m at *
  have v1 : IntKind.i64.wrap ((m : Int) + 1) = (m : Int) + 1 := by rw [IntKind.wrap_i64]; omega
  have y1 : ((m : Int) + 1).toNat = m + 1 := by omega
  have l1 : (m : Int) <= (m : Int) + 1 := by omega
  have l3 : (m : Int) + 1 <= 16 := by omega
  have l5 : (0 : Int) <= (m : Int) + 1 := by omega
  have l0 : (0 : Int) <= (m : Int) := by omega
  have HX : Hid (digs.extract m (m + 1) = ⟨#[zbp m]⟩) := zeV ⟨m, q2⟩
  have HS := hO step
  have hA : A.size <= 1114112 := by omega
  clear step
  by_cases hn0 : 0 < n
  ·have z : (0 : Int) < (n : Int) := by omega
   go_wp2_with fail
   go_roundw
   case rel => exact ⟨p, _, by omega, rfl, rfl, trivial, by
    show (digs.extract m (m + 1) ++ A).size + p <= _
    rw [HX.out, ByteArray.size_append]
    have := q3 hn0
    show 1 + A.size + p <= _
    omega, HS.out (Or.inl hn0)⟩
   case measure =>
    have h5 := q3 hn0
    show p + (if (digs.extract m (m + 1) ++ A).size = 0 then 1 else 0) < n + (if A.size = 0 then 1 else 0)
    rw [HX.out, ByteArray.size_append, if_neg (show ¬ (ByteArray.mk #[zbp m]).size + A.size = 0 by show ¬ 1 + A.size = 0; omega)]
    split <;> omega
  ·have z : ¬ (0 : Int) < (n : Int) := by omega
   have HZ : Hid (n = 0) := Nat.eq_zero_of_not_pos hn0
   by_cases ha : A.size = 0
   ·obtain rfl : A = ⟨#[]⟩ := ByteArray.ext (Array.eq_empty_of_size_eq_zero ha)
    go_wp2_with fail
    go_roundw
    case rel => exact ⟨p, _, by omega, rfl, rfl, trivial, by
     show (digs.extract m (m + 1) ++ ⟨#[]⟩).size + p <= _
     rw [HX.out, ByteArray.size_append]
     show 1 + 0 + p <= _
     omega, HS.out (Or.inr rfl)⟩
    case measure =>
     show p + (if (digs.extract m (m + 1) ++ ⟨#[]⟩).size = 0 then 1 else 0) < n + (if (⟨#[]⟩ : ByteArray).size = 0 then 1 else 0)
     rw [HX.out, ByteArray.size_append, if_neg (show ¬ (ByteArray.mk #[zbp m]).size + (⟨#[]⟩ : ByteArray).size = 0 by show ¬ 1 + 0 = 0; omega), if_pos ha]
     omega
   ·have he := zif (s := A) (by omega)
    have HF : Hid (A = ⟨(dgT 16 n0).toArray⟩) := by
     show _ = _
     obtain ⟨l, rfl, hl⟩ := HI.out
     rw [HE.out n l hl HZ.out (by rintro rfl; exact ha rfl)]
    clear HI HS HE HZ hn0
    go_wp2_with fail
    go_ret
    exact ⟨zce HF.out, rfl⟩
theorem znb (x : BitVec 256) : (x == 0#256) = ((cnt x : Int) == 0) := by
 rw [Bool.eq_iff_iff]
 simp only [beq_iff_eq]
 constructor
 ·rintro rfl
  have : ∀ k, zef (0#256).getLsbD k = 0 := fun k => by induction k with
   | zero => rfl
   | succ n ih => rw [zcl, ih]; simp
  have h := this 256
  show ((zef (0#256).getLsbD 256 : Nat) : Int) = 0
  omega
 ·intro h
  have hz : ∀ k, zef x.getLsbD k = 0 -> ∀ j, j < k -> x.getLsbD j = false := fun k => by induction k with
   | zero => intro _ j hj; omega
   | succ n ih =>
    intro h j hj
    rw [zcl] at h
    by_cases e : j = n
    ·subst e; cases hb : x.getLsbD j with
     | false => rfl
     | true => rw [hb] at h; simp at h
    ·exact ih (by omega) j (by omega)
  refine zfg _ _ fun j hj => ?_
  rw [hz 256 (by unfold cnt at h; omega) j hj]; simp
theorem zpQ (x : BitVec 256) : cnt x + cnt (~~~ x) = 256 := by
 have : ∀ k, k <= 256 -> zef x.getLsbD k + zef (~~~ x).getLsbD k = k := fun k => by induction k with
  | zero => intro _; rfl
  | succ n ih =>
   intro hk
   have h := ih (by omega)
   rw [zcl, zcl, BitVec.getLsbD_not]
   have : n < 256 := by omega
   cases x.getLsbD n <;> simp [this] <;> omega
 exact this 256 (Nat.le_refl _)
theorem zim (x : BitVec 256) : (x == ~~~ 0#256) = ((cnt x : Int) == 256) := by
 have h1 := znb (~~~ x)
 have h2 := zpQ x
 have e : (x == ~~~ 0#256) = (~~~ x == 0#256) := by
  rw [Bool.eq_iff_iff]; simp only [beq_iff_eq]
  constructor
  ·rintro rfl; exact BitVec.not_not
  ·intro h; rw [<- h, BitVec.not_not]
 rw [e, h1, Bool.eq_iff_iff]
 simp only [beq_iff_eq]
 omega
end Go.Proofs.YtkihfkcmcdiajaaGreatDoor
