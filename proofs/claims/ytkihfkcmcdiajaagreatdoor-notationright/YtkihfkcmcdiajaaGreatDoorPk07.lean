/- DERIVED. Plain mathematics and walks, laid together (7). -/
import Derived.WalkKit
import Derived.Lib.Builder
import Derived.Lib.UnsafeStr
import Derived.Lib.AppendStr
import Derived.Lib.RuneBytes
import Derived.Lib.DecodeN
import Derived.Laws.RangeAny
import Derived.Lib.RuneCount
import Derived.Laws.Runes
import Derived.Lib.Strings
import Derived.Lib.Small
import Derived.Deep.AppendLies
import Derived.Maps.Range
import Derived.OwnWalk
import Derived.ProofKit
import Derived.BigQuiet
import Derived.WalkSmall
import Derived.Test.YtkihfkcmcdiajaaGreatDoorPk06
namespace Go.Proofs.YtkihfkcmcdiajaaGreatDoor.N
open Go.RowKit
set_option maxRecDepth 100000 in
set_option maxHeartbeats 8000000 in
theorem beginsRule_any {E : PE} {z : Nat} {w0 W : World} {b : Nat} {tv : Value} {i d : Nat} {v : Value} {L : List Nd} (h : RS E z w0 W b tv i d v L) (hz : E.l.length ≤ 1000000) :
    Calls Tryz.prog 23 #[.pointer (some ⟨b, 0, none⟩)] W fun e W' => e = .returned (.bool (ruB E i)) ∧ Below W.heap.size W W' := by
  obtain ⟨t, ht, hk, _, _⟩ := toks_get E z h.hi
  have HH : Hid (∀ _ : Unit, Calls Tryz.prog 46 #[.pointer (some ⟨b, 0, none⟩)] W fun e W' => e = .returned (.agg #[.int .i64 t.kd, .int .i64 t.nn, .int .i64 t.fr, .int .i64 t.en, .string t.tx, .int .u64 t.s0, .int .u64 t.s1, .int .u64 t.s2, .int .u64 t.s3]) ∧ Below W.heap.size W W') := fun _ => here_any h t ht
  have H := (show Hid _ from h)
  have fl0 := fld0
  by_cases h1 : kdA E i = 1
  · have hlt := kd_lt (E := E) (i := i) (by omega)
    have HB : Hid (∀ W, RS E z w0 W b tv i d v L → Calls Tryz.prog 47 #[.pointer (some ⟨b, 0, none⟩)] W fun e W' => e = .returned (.int .i64 (kdA E (i + 1))) ∧ Below W.heap.size W W') := fun W h => behind_any h hlt hz
    have HR : Hid (ruB E i = (kdA E (i + 1) == 6)) := by show ruB E i = _; unfold ruB; rw [h1]; rfl
    rw [hk.trans h1] at HH
    clear h ht hk h1 hlt
    generalize kdA E (i + 1) = k2 at *
    go_enter Tryz.func23, Tryz.ntmps23
    go_wp2_with fail
    refine (HH.out ()).mono ?_
    rintro e w1 ⟨rfl, hb⟩
    have H1 := (show Hid _ from H.out.later hb)
    have HB1 := (show Hid _ from hb)
    clear hb HH H
    go_wp2_with fail
    refine (HB.out _ H1.out).mono ?_
    rintro e w2 ⟨rfl, hb⟩
    go_wp2_with fail
    go_ret
    exact ⟨by rw [HR.out]; rfl, HB1.out.trans (hb.mono HB1.out.size)⟩
  · have HR : Hid (ruB E i = false) := by show ruB E i = _; unfold ruB; rw [beq_eq_false_iff_ne.2 h1]; rfl
    have t1 : (t.kd == 1) = false := by rw [hk]; exact beq_eq_false_iff_ne.2 h1
    clear h ht hk h1
    go_enter Tryz.func23, Tryz.ntmps23
    go_wp2_with fail
    refine (HH.out ()).mono ?_
    rintro e w1 ⟨rfl, hb⟩
    have HB1 := (show Hid _ from hb)
    clear hb HH H
    go_wp2_with fail
    go_ret
    exact ⟨by rw [HR.out]; rfl, HB1.out⟩
/-- Does a primary begin here? -/
def prK (k : Int) : Bool := k == 2 || k == 3 || k == 28 || k == 5 || k == 18 || k == 29 || k == 30 || k == 16 || k == 19 || k == 21 || k == 23 || k == 25
def bgP (E : PE) (i : Nat) : Bool := prK (kdA E i) || (kdA E i == 1 && !(kdA E (i + 1) == 6))
theorem bgn_eq (E : PE) (i : Nat) : bgn E i = (kdA E i == 8 || kdA E i == 9 || bgP E i) := by
  unfold bgn bgP bgK prK
  simp only [Bool.or_assoc]
set_option maxRecDepth 100000 in
set_option maxHeartbeats 8000000 in
theorem beginsPrim_any {E : PE} {z : Nat} {w0 W : World} {b : Nat} {tv : Value} {i d : Nat} {v : Value} {L : List Nd} (h : RS E z w0 W b tv i d v L) (hz : E.l.length ≤ 1000000) :
    Calls Tryz.prog 156 #[.pointer (some ⟨b, 0, none⟩)] W fun e W' => e = .returned (.bool (bgP E i)) ∧ Below W.heap.size W W' := by
  obtain ⟨t, ht, hk, _, _⟩ := toks_get E z h.hi
  have HH : Hid (∀ _ : Unit, Calls Tryz.prog 46 #[.pointer (some ⟨b, 0, none⟩)] W fun e W' => e = .returned (.agg #[.int .i64 t.kd, .int .i64 t.nn, .int .i64 t.fr, .int .i64 t.en, .string t.tx, .int .u64 t.s0, .int .u64 t.s1, .int .u64 t.s2, .int .u64 t.s3]) ∧ Below W.heap.size W W') := fun _ => here_any h t ht
  have H := (show Hid _ from h)
  have fl0 := fld0
  by_cases c2 : kdA E i = 2
  · have HR : Hid (bgP E i = true) := by show bgP E i = _; unfold bgP; rw [c2]; rfl
    rw [hk.trans c2] at HH
    clear h ht hk c2 H
    go_enter Tryz.func156, Tryz.ntmps156
    go_wp2_with fail
    refine (HH.out ()).mono ?_
    rintro e w1 ⟨rfl, hb⟩
    have HB1 := (show Hid _ from hb)
    clear hb HH
    go_wp2_with fail
    go_ret
    exact ⟨by rw [HR.out]; rfl, HB1.out⟩
  by_cases c3 : kdA E i = 3
  · have HR : Hid (bgP E i = true) := by show bgP E i = _; unfold bgP; rw [c3]; rfl
    rw [hk.trans c3] at HH
    clear h ht hk c3 c2 H
    go_enter Tryz.func156, Tryz.ntmps156
    go_wp2_with fail
    refine (HH.out ()).mono ?_
    rintro e w1 ⟨rfl, hb⟩
    have HB1 := (show Hid _ from hb)
    clear hb HH
    go_wp2_with fail
    go_ret
    exact ⟨by rw [HR.out]; rfl, HB1.out⟩
  by_cases c28 : kdA E i = 28
  · have HR : Hid (bgP E i = true) := by show bgP E i = _; unfold bgP; rw [c28]; rfl
    rw [hk.trans c28] at HH
    clear h ht hk c28 c2 c3 H
    go_enter Tryz.func156, Tryz.ntmps156
    go_wp2_with fail
    refine (HH.out ()).mono ?_
    rintro e w1 ⟨rfl, hb⟩
    have HB1 := (show Hid _ from hb)
    clear hb HH
    go_wp2_with fail
    go_ret
    exact ⟨by rw [HR.out]; rfl, HB1.out⟩
  by_cases c5 : kdA E i = 5
  · have HR : Hid (bgP E i = true) := by show bgP E i = _; unfold bgP; rw [c5]; rfl
    rw [hk.trans c5] at HH
    clear h ht hk c5 c2 c3 c28 H
    go_enter Tryz.func156, Tryz.ntmps156
    go_wp2_with fail
    refine (HH.out ()).mono ?_
    rintro e w1 ⟨rfl, hb⟩
    have HB1 := (show Hid _ from hb)
    clear hb HH
    go_wp2_with fail
    go_ret
    exact ⟨by rw [HR.out]; rfl, HB1.out⟩
  by_cases c18 : kdA E i = 18
  · have HR : Hid (bgP E i = true) := by show bgP E i = _; unfold bgP; rw [c18]; rfl
    rw [hk.trans c18] at HH
    clear h ht hk c18 c2 c3 c28 c5 H
    go_enter Tryz.func156, Tryz.ntmps156
    go_wp2_with fail
    refine (HH.out ()).mono ?_
    rintro e w1 ⟨rfl, hb⟩
    have HB1 := (show Hid _ from hb)
    clear hb HH
    go_wp2_with fail
    go_ret
    exact ⟨by rw [HR.out]; rfl, HB1.out⟩
  by_cases c29 : kdA E i = 29
  · have HR : Hid (bgP E i = true) := by show bgP E i = _; unfold bgP; rw [c29]; rfl
    rw [hk.trans c29] at HH
    clear h ht hk c29 c2 c3 c28 c5 c18 H
    go_enter Tryz.func156, Tryz.ntmps156
    go_wp2_with fail
    refine (HH.out ()).mono ?_
    rintro e w1 ⟨rfl, hb⟩
    have HB1 := (show Hid _ from hb)
    clear hb HH
    go_wp2_with fail
    go_ret
    exact ⟨by rw [HR.out]; rfl, HB1.out⟩
  by_cases c30 : kdA E i = 30
  · have HR : Hid (bgP E i = true) := by show bgP E i = _; unfold bgP; rw [c30]; rfl
    rw [hk.trans c30] at HH
    clear h ht hk c30 c2 c3 c28 c5 c18 c29 H
    go_enter Tryz.func156, Tryz.ntmps156
    go_wp2_with fail
    refine (HH.out ()).mono ?_
    rintro e w1 ⟨rfl, hb⟩
    have HB1 := (show Hid _ from hb)
    clear hb HH
    go_wp2_with fail
    go_ret
    exact ⟨by rw [HR.out]; rfl, HB1.out⟩
  by_cases c16 : kdA E i = 16
  · have HR : Hid (bgP E i = true) := by show bgP E i = _; unfold bgP; rw [c16]; rfl
    rw [hk.trans c16] at HH
    clear h ht hk c16 c2 c3 c28 c5 c18 c29 c30 H
    go_enter Tryz.func156, Tryz.ntmps156
    go_wp2_with fail
    refine (HH.out ()).mono ?_
    rintro e w1 ⟨rfl, hb⟩
    have HB1 := (show Hid _ from hb)
    clear hb HH
    go_wp2_with fail
    go_ret
    exact ⟨by rw [HR.out]; rfl, HB1.out⟩
  by_cases c19 : kdA E i = 19
  · have HR : Hid (bgP E i = true) := by show bgP E i = _; unfold bgP; rw [c19]; rfl
    rw [hk.trans c19] at HH
    clear h ht hk c19 c2 c3 c28 c5 c18 c29 c30 c16 H
    go_enter Tryz.func156, Tryz.ntmps156
    go_wp2_with fail
    refine (HH.out ()).mono ?_
    rintro e w1 ⟨rfl, hb⟩
    have HB1 := (show Hid _ from hb)
    clear hb HH
    go_wp2_with fail
    go_ret
    exact ⟨by rw [HR.out]; rfl, HB1.out⟩
  by_cases c21 : kdA E i = 21
  · have HR : Hid (bgP E i = true) := by show bgP E i = _; unfold bgP; rw [c21]; rfl
    rw [hk.trans c21] at HH
    clear h ht hk c21 c2 c3 c28 c5 c18 c29 c30 c16 c19 H
    go_enter Tryz.func156, Tryz.ntmps156
    go_wp2_with fail
    refine (HH.out ()).mono ?_
    rintro e w1 ⟨rfl, hb⟩
    have HB1 := (show Hid _ from hb)
    clear hb HH
    go_wp2_with fail
    go_ret
    exact ⟨by rw [HR.out]; rfl, HB1.out⟩
  by_cases c23 : kdA E i = 23
  · have HR : Hid (bgP E i = true) := by show bgP E i = _; unfold bgP; rw [c23]; rfl
    rw [hk.trans c23] at HH
    clear h ht hk c23 c2 c3 c28 c5 c18 c29 c30 c16 c19 c21 H
    go_enter Tryz.func156, Tryz.ntmps156
    go_wp2_with fail
    refine (HH.out ()).mono ?_
    rintro e w1 ⟨rfl, hb⟩
    have HB1 := (show Hid _ from hb)
    clear hb HH
    go_wp2_with fail
    go_ret
    exact ⟨by rw [HR.out]; rfl, HB1.out⟩
  by_cases c25 : kdA E i = 25
  · have HR : Hid (bgP E i = true) := by show bgP E i = _; unfold bgP; rw [c25]; rfl
    rw [hk.trans c25] at HH
    clear h ht hk c25 c2 c3 c28 c5 c18 c29 c30 c16 c19 c21 c23 H
    go_enter Tryz.func156, Tryz.ntmps156
    go_wp2_with fail
    refine (HH.out ()).mono ?_
    rintro e w1 ⟨rfl, hb⟩
    have HB1 := (show Hid _ from hb)
    clear hb HH
    go_wp2_with fail
    go_ret
    exact ⟨by rw [HR.out]; rfl, HB1.out⟩
  by_cases c1 : kdA E i = 1
  · have HR : Hid (bgP E i = !(ruB E i)) := by
      show bgP E i = _
      unfold bgP ruB
      rw [c1]
      show (false || (true && !(kdA E (i + 1) == 6))) = !(true && (kdA E (i + 1) == 6))
      simp
    have HU : Hid (∀ W, RS E z w0 W b tv i d v L → Calls Tryz.prog 23 #[.pointer (some ⟨b, 0, none⟩)] W fun e W' => e = .returned (.bool (ruB E i)) ∧ Below W.heap.size W W') := fun W h => beginsRule_any h hz
    have hnot : ∀ (x : Bool) (w : World), (Op.unary .not (.bool x)).run Tryz.prog w = .ok (.bool (!x)) w := fun _ _ => rfl
    rw [hk.trans c1] at HH
    clear h ht hk c1 c2 c3 c28 c5 c18 c29 c30 c16 c19 c21 c23 c25
    generalize ruB E i = r2 at *
    go_enter Tryz.func156, Tryz.ntmps156
    go_wp2_with fail
    refine (HH.out ()).mono ?_
    rintro e w1 ⟨rfl, hb⟩
    have H1 := (show Hid _ from H.out.later hb)
    have HB1 := (show Hid _ from hb)
    clear hb HH H
    go_wp2_with fail
    refine (HU.out _ H1.out).mono ?_
    rintro e w2 ⟨rfl, hb⟩
    go_wp2_with fail
    go_ret
    exact ⟨by rw [HR.out]; rfl, HB1.out.trans (hb.mono HB1.out.size)⟩
  · have HR : Hid (bgP E i = false) := by
      show bgP E i = _
      unfold bgP prK
      simp only [beq_eq_false_iff_ne.2 c1, beq_eq_false_iff_ne.2 c2, beq_eq_false_iff_ne.2 c3, beq_eq_false_iff_ne.2 c28, beq_eq_false_iff_ne.2 c5, beq_eq_false_iff_ne.2 c18, beq_eq_false_iff_ne.2 c29, beq_eq_false_iff_ne.2 c30, beq_eq_false_iff_ne.2 c16, beq_eq_false_iff_ne.2 c19, beq_eq_false_iff_ne.2 c21, beq_eq_false_iff_ne.2 c23, beq_eq_false_iff_ne.2 c25]
      rfl
    have v1 : (t.kd == 1) = false := by rw [hk]; exact beq_eq_false_iff_ne.2 c1
    have v2 : (t.kd == 2) = false := by rw [hk]; exact beq_eq_false_iff_ne.2 c2
    have v3 : (t.kd == 3) = false := by rw [hk]; exact beq_eq_false_iff_ne.2 c3
    have v28 : (t.kd == 28) = false := by rw [hk]; exact beq_eq_false_iff_ne.2 c28
    have v5 : (t.kd == 5) = false := by rw [hk]; exact beq_eq_false_iff_ne.2 c5
    have v18 : (t.kd == 18) = false := by rw [hk]; exact beq_eq_false_iff_ne.2 c18
    have v29 : (t.kd == 29) = false := by rw [hk]; exact beq_eq_false_iff_ne.2 c29
    have v30 : (t.kd == 30) = false := by rw [hk]; exact beq_eq_false_iff_ne.2 c30
    have v16 : (t.kd == 16) = false := by rw [hk]; exact beq_eq_false_iff_ne.2 c16
    have v19 : (t.kd == 19) = false := by rw [hk]; exact beq_eq_false_iff_ne.2 c19
    have v21 : (t.kd == 21) = false := by rw [hk]; exact beq_eq_false_iff_ne.2 c21
    have v23 : (t.kd == 23) = false := by rw [hk]; exact beq_eq_false_iff_ne.2 c23
    have v25 : (t.kd == 25) = false := by rw [hk]; exact beq_eq_false_iff_ne.2 c25
    clear h ht hk c1 c2 c3 c28 c5 c18 c29 c30 c16 c19 c21 c23 c25 H
    go_enter Tryz.func156, Tryz.ntmps156
    go_wp2_with fail
    refine (HH.out ()).mono ?_
    rintro e w1 ⟨rfl, hb⟩
    have HB1 := (show Hid _ from hb)
    clear hb HH
    go_wp2_with fail
    go_ret
    exact ⟨by rw [HR.out]; rfl, HB1.out⟩
set_option maxRecDepth 100000 in
set_option maxHeartbeats 8000000 in
theorem beginsPre_any {E : PE} {z : Nat} {w0 W : World} {b : Nat} {tv : Value} {i d : Nat} {v : Value} {L : List Nd} (h : RS E z w0 W b tv i d v L) (hz : E.l.length ≤ 1000000) :
    Calls Tryz.prog 139 #[.pointer (some ⟨b, 0, none⟩)] W fun e W' => e = .returned (.bool (bgn E i)) ∧ Below W.heap.size W W' := by
  obtain ⟨t, ht, hk, _, _⟩ := toks_get E z h.hi
  have HH : Hid (∀ _ : Unit, Calls Tryz.prog 46 #[.pointer (some ⟨b, 0, none⟩)] W fun e W' => e = .returned (.agg #[.int .i64 t.kd, .int .i64 t.nn, .int .i64 t.fr, .int .i64 t.en, .string t.tx, .int .u64 t.s0, .int .u64 t.s1, .int .u64 t.s2, .int .u64 t.s3]) ∧ Below W.heap.size W W') := fun _ => here_any h t ht
  have H := (show Hid _ from h)
  have fl0 := fld0
  by_cases c8 : kdA E i = 8
  · have HR : Hid (bgn E i = true) := by show bgn E i = _; unfold bgn; rw [c8]; rfl
    rw [hk.trans c8] at HH
    clear h ht hk c8 H
    go_enter Tryz.func139, Tryz.ntmps139
    go_wp2_with fail
    refine (HH.out ()).mono ?_
    rintro e w1 ⟨rfl, hb⟩
    have HB1 := (show Hid _ from hb)
    clear hb HH
    go_wp2_with fail
    go_ret
    exact ⟨by rw [HR.out]; rfl, HB1.out⟩
  by_cases c9 : kdA E i = 9
  · have HR : Hid (bgn E i = true) := by show bgn E i = _; unfold bgn; rw [c9]; rfl
    rw [hk.trans c9] at HH
    clear h ht hk c9 c8 H
    go_enter Tryz.func139, Tryz.ntmps139
    go_wp2_with fail
    refine (HH.out ()).mono ?_
    rintro e w1 ⟨rfl, hb⟩
    have HB1 := (show Hid _ from hb)
    clear hb HH
    go_wp2_with fail
    go_ret
    exact ⟨by rw [HR.out]; rfl, HB1.out⟩
  have HR : Hid (bgn E i = bgP E i) := by show bgn E i = _; rw [bgn_eq, beq_eq_false_iff_ne.2 c8, beq_eq_false_iff_ne.2 c9]; rfl
  have HU : Hid (∀ W, RS E z w0 W b tv i d v L → Calls Tryz.prog 156 #[.pointer (some ⟨b, 0, none⟩)] W fun e W' => e = .returned (.bool (bgP E i)) ∧ Below W.heap.size W W') := fun W h => beginsPrim_any h hz
  have v8 : (t.kd == 8) = false := by rw [hk]; exact beq_eq_false_iff_ne.2 c8
  have v9 : (t.kd == 9) = false := by rw [hk]; exact beq_eq_false_iff_ne.2 c9
  clear h ht hk c8 c9
  generalize bgP E i = r2 at *
  go_enter Tryz.func139, Tryz.ntmps139
  go_wp2_with fail
  refine (HH.out ()).mono ?_
  rintro e w1 ⟨rfl, hb⟩
  have H1 := (show Hid _ from H.out.later hb)
  have HB1 := (show Hid _ from hb)
  clear hb HH H
  go_wp2_with fail
  refine (HU.out _ H1.out).mono ?_
  rintro e w2 ⟨rfl, hb⟩
  go_wp2_with fail
  go_ret
  exact ⟨by rw [HR.out]; rfl, HB1.out.trans (hb.mono HB1.out.size)⟩
/-- The kind of node that a suffix makes; is it one? -/
def sfO (k : Int) : Int := if k = 10 then 11 else if k = 11 then 9 else if k = 12 then 10 else if k = 13 then 14 else if k = 14 then 15 else if k = 15 then 16 else 0
def sfB (k : Int) : Bool := k == 10 || k == 11 || k == 12 || k == 13 || k == 14 || k == 15
set_option maxRecDepth 100000 in
set_option maxHeartbeats 8000000 in
theorem suffixOf_any (k : Int) (W : World) : Calls Tryz.prog 173 #[.int .i64 k] W fun e W' => e = .returned (.tuple #[.int .i64 (sfO k), .bool (sfB k)]) ∧ W' = W := by
  by_cases c10 : k = 10
  · subst c10
    go_enter Tryz.func173, Tryz.ntmps173
    go_wp2_with fail
    go_ret2
    exact ⟨rfl, rfl⟩
  by_cases c11 : k = 11
  · subst c11
    clear c10
    go_enter Tryz.func173, Tryz.ntmps173
    go_wp2_with fail
    go_ret2
    exact ⟨rfl, rfl⟩
  by_cases c12 : k = 12
  · subst c12
    clear c10 c11
    go_enter Tryz.func173, Tryz.ntmps173
    go_wp2_with fail
    go_ret2
    exact ⟨rfl, rfl⟩
  by_cases c13 : k = 13
  · subst c13
    clear c10 c11 c12
    go_enter Tryz.func173, Tryz.ntmps173
    go_wp2_with fail
    go_ret2
    exact ⟨rfl, rfl⟩
  by_cases c14 : k = 14
  · subst c14
    clear c10 c11 c12 c13
    go_enter Tryz.func173, Tryz.ntmps173
    go_wp2_with fail
    go_ret2
    exact ⟨rfl, rfl⟩
  by_cases c15 : k = 15
  · subst c15
    clear c10 c11 c12 c13 c14
    go_enter Tryz.func173, Tryz.ntmps173
    go_wp2_with fail
    go_ret2
    exact ⟨rfl, rfl⟩
  have v10 : (k == 10) = false := beq_eq_false_iff_ne.2 c10
  have v11 : (k == 11) = false := beq_eq_false_iff_ne.2 c11
  have v12 : (k == 12) = false := beq_eq_false_iff_ne.2 c12
  have v13 : (k == 13) = false := beq_eq_false_iff_ne.2 c13
  have v14 : (k == 14) = false := beq_eq_false_iff_ne.2 c14
  have v15 : (k == 15) = false := beq_eq_false_iff_ne.2 c15
  have e1 : sfO k = 0 := by unfold sfO; rw [if_neg c10, if_neg c11, if_neg c12, if_neg c13, if_neg c14, if_neg c15]
  have e2 : sfB k = false := by unfold sfB; rw [v10, v11, v12, v13, v14, v15]; rfl
  rw [e1, e2]
  clear c10 c11 c12 c13 c14 c15 e1 e2
  go_enter Tryz.func173, Tryz.ntmps173
  go_wp2_with fail
  go_ret2
  exact ⟨rfl, rfl⟩
end Go.Proofs.YtkihfkcmcdiajaaGreatDoor.N

namespace Go.Proofs.YtkihfkcmcdiajaaGreatDoor.R
open Go.RowKit
theorem fill0_any (lo hi : Int) (w : World) (h0 : 0 ≤ lo) (hle : lo ≤ hi) (h1 : hi ≤ 255) :
    Calls Tryz.prog 168 #[.agg #[.int .u64 0, .int .u64 0, .int .u64 0, .int .u64 0], .int .i64 lo, .int .i64 hi] w fun e w' => e = .returned (sv (spn lo hi)) ∧ Below w.heap.size w w' := by
  have h := fill_any 0#256 lo hi w h0 hle h1
  rw [BitVec.zero_or, sv, wd_zero, wd_zero, wd_zero, wd_zero] at h
  exact h
set_option maxHeartbeats 1000000 in
theorem spanOf_yes (lo hi : Int) (w : World) (h0 : 0 ≤ lo) (hle : lo ≤ hi) (h1 : hi ≤ 255) :
    Calls Tryz.prog 204 #[.int .i64 lo, .int .i64 hi] w fun e w' => e = .returned (.bool true) ∧ w' = w := by
  have H1 : Hid (∀ w, Calls Tryz.prog 206 #[.int .i64 lo] w fun e w' => e = .returned (.bool true) ∧ w' = w) := fun w => by
    have e := isByte_any lo w
    rwa [decide_eq_true h0, decide_eq_true (show lo ≤ 255 by omega)] at e
  have H2 : Hid (∀ w, Calls Tryz.prog 206 #[.int .i64 hi] w fun e w' => e = .returned (.bool true) ∧ w' = w) := fun w => by
    have e := isByte_any hi w
    rwa [decide_eq_true (show 0 ≤ hi by omega), decide_eq_true h1] at e
  clear h0 h1
  go_enter Tryz.func204, Tryz.ntmps204
  go_wp2_with fail
  refine (H1.out _).mono ?_
  rintro e w' ⟨rfl, rfl⟩
  go_wp2_with fail
  refine (H2.out _).mono ?_
  rintro e w' ⟨rfl, rfl⟩
  go_wp2
  go_ret
  exact ⟨rfl, rfl⟩
set_option maxHeartbeats 1000000 in
theorem range_yes (lo hi : Int) (w : World) (h0 : 0 ≤ lo) (hle : lo ≤ hi) (h1 : hi ≤ 255) :
    Calls Tryz.prog 201 #[.int .i64 lo, .int .i64 hi] w fun e w' => e = .returned (.tuple #[sv (spn lo hi), .int .i64 0]) ∧ Below w.heap.size w w' := by
  have HH := (show Hid _ from Holds.zero w)
  have HR := (show Hid _ from (Below.refl w.heap.size w).alloc (Nat.le_refl _) (.cells #[.int .u64 0, .int .u64 0, .int .u64 0, .int .u64 0] 49))
  have H1 : Hid (∀ w, Calls Tryz.prog 204 #[.int .i64 lo, .int .i64 hi] w fun e w' => e = .returned (.bool true) ∧ w' = w) := fun w => spanOf_yes lo hi w h0 hle h1
  have H2 : Hid (∀ w, Calls Tryz.prog 168 #[.agg #[.int .u64 0, .int .u64 0, .int .u64 0, .int .u64 0], .int .i64 lo, .int .i64 hi] w fun e w' => e = .returned (sv (spn lo hi)) ∧ Below w.heap.size w w') := fun w => fill0_any lo hi w h0 hle h1
  generalize spn lo hi = r at *
  go_enter Tryz.func201, Tryz.ntmps201
  go_wp2_with fail
  refine (H1.out _).mono ?_
  rintro e w1 ⟨rfl, rfl⟩
  go_wp2_with fail
  refine (H2.out _).mono ?_
  rintro e w2 ⟨rfl, hb⟩
  have HR2 := (show Hid _ from HR.out.trans (hb.mono (by simp)))
  obtain ⟨l0, c0, c1, c2, c3, f0, f1, f2, f3⟩ := HH.out.below hb (by simp)
  clear hb
  go_wp2
  exact bodyPost_ret (v := .tuple #[sv r, .int .i64 0]) (by simp [results, Tryz.results201, go_sem, *]) rfl ⟨rfl, (((HR2.out.setCell (Nat.le_refl _) _).setCell (Nat.le_refl _) _).setCell (Nat.le_refl _) _).setCell (Nat.le_refl _) _⟩
end Go.Proofs.YtkihfkcmcdiajaaGreatDoor.R

namespace Go.Proofs.YtkihfkcmcdiajaaGreatDoor.R
open Go.RowKit
/-- The byte of a text at a place, or -1. -/
def chr (s : ByteArray) (i : Nat) : Int := if h : i < s.size then (s[i].toNat : Int) else -1
theorem chr_in {s : ByteArray} {i : Nat} (h : i < s.size) : chr s i = (s[i].toNat : Int) := by unfold chr; rw [dif_pos h]
theorem chr_out {s : ByteArray} {i : Nat} (h : ¬ i < s.size) : chr s i = -1 := by unfold chr; rw [dif_neg h]
theorem chr_le (s : ByteArray) (i : Nat) : -1 ≤ chr s i ∧ chr s i ≤ 255 := by
  unfold chr
  split
  · have := s[i].toNat_lt; omega
  · omega
theorem chr_lt {s : ByteArray} {i : Nat} (h : 0 ≤ chr s i) : i < s.size := by
  by_cases hi : i < s.size
  · exact hi
  · rw [chr_out hi] at h; omega
theorem chr_bd {s : ByteArray} {i : Nat} (h : i < s.size) : 0 ≤ chr s i ∧ chr s i ≤ 255 := by
  rw [chr_in h]; have := s[i].toNat_lt; omega
def asText (l : List Int) : ByteArray := l.foldl (fun r n => r.push (UInt8.ofNat n.toNat)) ByteArray.empty
theorem asText_data (l : List Int) : (asText l).data.toList = l.map (fun n => UInt8.ofNat n.toNat) := by
  have key : ∀ (l : List Int) (s : ByteArray), (l.foldl (fun r n => r.push (UInt8.ofNat n.toNat)) s).data.toList = s.data.toList ++ l.map (fun n => UInt8.ofNat n.toNat) := by
    intro l
    induction l with
    | nil => intro s; simp
    | cons b l ih => intro s; rw [List.foldl_cons, ih]; simp [ByteArray.push]
  have := key l ByteArray.empty
  simpa [asText] using this

/-- The bytes of a text, as numbers. -/
def byl (s : ByteArray) : List Int := s.data.toList.map fun c => (c.toNat : Int)
def By (l : List Int) : Prop := ∀ n ∈ l, 0 ≤ n ∧ n ≤ 255

theorem By.append {a b : List Int} (h : By a) (k : By b) : By (a ++ b) := fun n hn => by
  rcases List.mem_append.1 hn with h1 | h1
  · exact h n h1
  · exact k n h1
theorem By.nil : By [] := fun n hn => by cases hn
theorem By.cons {x : Int} {l : List Int} (hx : 0 ≤ x ∧ x ≤ 255) (h : By l) : By (x :: l) := fun n hn => by
  rcases List.mem_cons.1 hn with rfl | h1
  · exact hx
  · exact h n h1
theorem byl_len (s : ByteArray) : (byl s).length = s.size := by unfold byl; rw [List.length_map]; rfl
theorem byl_get (s : ByteArray) (k : Nat) (h : k < s.size) : (byl s)[k]? = some (s[k].toNat : Int) := by
  unfold byl
  rw [List.getElem?_map, List.getElem?_eq_getElem (by simpa using h)]
  rfl
theorem asText_eq (l : List Int) : asText l = ⟨(l.map fun n => UInt8.ofNat n.toNat).toArray⟩ := by
  have h := asText_data l
  cases ht : asText l with
  | mk d =>
    rw [ht] at h
    cases d with
    | mk x => simp at h; rw [h]
theorem asText_size (l : List Int) : (asText l).size = l.length := by
  rw [asText_eq]; show (List.toArray _).size = _; simp
theorem asText_byl (s : ByteArray) : asText (byl s) = s := by
  rw [asText_eq]
  unfold byl
  rw [List.map_map]
  have : (List.map ((fun n : Int => UInt8.ofNat n.toNat) ∘ fun c : UInt8 => (c.toNat : Int)) s.data.toList) = s.data.toList := by
    conv => rhs; rw [← List.map_id s.data.toList]
    refine List.map_congr_left fun c _ => ?_
    simp
  rw [this]

/-- A code point. -/
def cp (n : Int) : Prop := 0 ≤ n ∧ n ≤ 1114111 ∧ ¬ (55296 ≤ n ∧ n ≤ 57343)
/-- Its bytes. -/
abbrev enL (n : Int) : List Int := Lib.encodeRuneZ n
theorem enL_by (n : Int) : By (enL n) := fun x hx => by have := Lib.encodeRuneZ_byte n x hx; omega
theorem enL_one {r : Int} (h0 : 0 ≤ r) (h1 : r ≤ 127) : enL r = [r] := Lib.encodeRuneZ_one h0 h1
theorem enL_two {r : Int} (h0 : 128 ≤ r) (h1 : r ≤ 2047) : enL r = [192 + r / 64, 128 + r % 64] := Lib.encodeRuneZ_two h0 h1
theorem enL_three {r : Int} (h : (2048 ≤ r ∧ r < 55296) ∨ (57343 < r ∧ r ≤ 65535)) : enL r = [224 + r / 4096, 128 + r / 64 % 64, 128 + r % 64] := Lib.encodeRuneZ_three h
theorem enL_four {r : Int} (h0 : 65536 ≤ r) (h1 : r ≤ 1114111) : enL r = [240 + r / 262144, 128 + r / 4096 % 64, 128 + r / 64 % 64, 128 + r % 64] := Lib.encodeRuneZ_four h0 h1
theorem cp_cases {r : Int} (h : cp r) : (0 ≤ r ∧ r ≤ 127) ∨ (128 ≤ r ∧ r ≤ 2047) ∨ ((2048 ≤ r ∧ r < 55296) ∨ (57343 < r ∧ r ≤ 65535)) ∨ (65536 ≤ r ∧ r ≤ 1114111) := by
  unfold cp at h; omega
/-- How many bytes a number has. -/
def szI (n : Int) : Nat := if n ≤ 127 then 1 else if n ≤ 2047 then 2 else if n ≤ 65535 then 3 else 4
theorem enL_len {r : Int} (h : cp r) : (enL r).length = szI r := by
  unfold szI
  rcases cp_cases h with q | q | q | q
  · rw [enL_one q.1 q.2, if_pos (by omega)]; rfl
  · rw [enL_two q.1 q.2, if_neg (by omega), if_pos (by omega)]; rfl
  · rw [enL_three q, if_neg (by omega), if_neg (by omega), if_pos (by omega)]; rfl
  · rw [enL_four q.1 q.2, if_neg (by omega), if_neg (by omega), if_neg (by omega)]; rfl
theorem szI_bd (n : Int) : 1 ≤ szI n ∧ szI n ≤ 4 := by
  unfold szI
  repeat' split
  all_goals omega

theorem ba_ext {a b : ByteArray} (h : a.data.toList = b.data.toList) : a = b := by
  cases a with | mk x => cases b with | mk y => cases x with | mk l => cases y with | mk m => simp at h; rw [h]
set_option maxRecDepth 100000 in
theorem encode_eq {r : Int} (h : cp r) : Utf8.encode r = asText (enL r) := by
  have hv : Utf8.valid r = true := by rw [validRune_eq]; unfold validRune; unfold cp at h; exact decide_eq_true (by omega)
  apply ba_ext
  rw [asText_data]
  unfold Utf8.encode
  simp only [hv, if_true]
  rcases cp_cases h with q | q | q | q
  · rw [enL_one q.1 q.2, if_pos (by omega)]; rfl
  · rw [enL_two q.1 q.2, if_neg (by omega), if_pos (by omega)]
    simp only [List.map_cons, List.map_nil]
    rw [show (192 + r / 64).toNat = 192 + r.toNat / 64 from by omega, show (128 + r % 64).toNat = 128 + r.toNat % 64 from by omega]
  · rw [enL_three q, if_neg (by omega), if_neg (by omega), if_pos (by omega)]
    simp only [List.map_cons, List.map_nil]
    rw [show (224 + r / 4096).toNat = 224 + r.toNat / 4096 from by omega, show (128 + r / 64 % 64).toNat = 128 + r.toNat / 64 % 64 from by omega, show (128 + r % 64).toNat = 128 + r.toNat % 64 from by omega]
  · rw [enL_four q.1 q.2, if_neg (by omega), if_neg (by omega), if_neg (by omega)]
    simp only [List.map_cons, List.map_nil]
    rw [show (240 + r / 262144).toNat = 240 + r.toNat / 262144 from by omega, show (128 + r / 4096 % 64).toNat = 128 + r.toNat / 4096 % 64 from by omega, show (128 + r / 64 % 64).toNat = 128 + r.toNat / 64 % 64 from by omega, show (128 + r % 64).toNat = 128 + r.toNat % 64 from by omega]

/-- A list of bytes stands at a place of a text. -/
def St (s : ByteArray) (i : Nat) (l : List Int) : Prop := ∀ k x, l[k]? = some x → chr s (i + k) = x
theorem St.one {s : ByteArray} {i : Nat} {x : Int} (h : chr s i = x) : St s i [x] := fun k y hk => by
  match k, hk with
  | 0, hk => cases hk; exact h
theorem St.two {s : ByteArray} {i : Nat} {x y : Int} (h : chr s i = x) (h1 : chr s (i + 1) = y) : St s i [x, y] := fun k v hk => by
  match k, hk with
  | 0, hk => cases hk; exact h
  | 1, hk => cases hk; exact h1
theorem St.three {s : ByteArray} {i : Nat} {x y z : Int} (h : chr s i = x) (h1 : chr s (i + 1) = y) (h2 : chr s (i + 2) = z) : St s i [x, y, z] := fun k v hk => by
  match k, hk with
  | 0, hk => cases hk; exact h
  | 1, hk => cases hk; exact h1
  | 2, hk => cases hk; exact h2
theorem St.four {s : ByteArray} {i : Nat} {x y z u : Int} (h : chr s i = x) (h1 : chr s (i + 1) = y) (h2 : chr s (i + 2) = z) (h3 : chr s (i + 3) = u) : St s i [x, y, z, u] := fun k v hk => by
  match k, hk with
  | 0, hk => cases hk; exact h
  | 1, hk => cases hk; exact h1
  | 2, hk => cases hk; exact h2
  | 3, hk => cases hk; exact h3

theorem St.lt {s : ByteArray} {i : Nat} {l : List Int} (h : St s i l) (hb : By l) (h0 : l ≠ []) : i + l.length ≤ s.size := by
  have hl : l.length - 1 < l.length := by have := List.length_pos_iff.2 h0; omega
  have hx := h (l.length - 1) _ (List.getElem?_eq_getElem hl)
  have := hb _ (List.getElem_mem hl)
  have := chr_lt (s := s) (i := i + (l.length - 1)) (by omega)
  omega
end Go.Proofs.YtkihfkcmcdiajaaGreatDoor.R

namespace Go.Proofs.YtkihfkcmcdiajaaGreatDoor.R
open Go.RowKit
/-- What is taken off the first byte. -/
def hdI (n : Nat) : Int := if n = 2 then 192 else if n = 3 then 224 else if n = 4 then 240 else 0
/-- The number that bytes tell, as long as it is not negative. -/
def fz (s : ByteArray) (p : Nat) : Nat → Nat → Int → Int
  | 0, _, r => r
  | k + 1, i, r => if 0 ≤ r then fz s p k (i + 1) (r * 64 + chr s (p + i) - 128) else r
theorem ext_size (s : ByteArray) (i j : Nat) (h : j ≤ s.size) : (s.extract i j).size = j - i := by
  rw [ByteArray.size_extract]; omega
theorem chr_ext (s : ByteArray) (i j k : Nat) (hj : j ≤ s.size) (h : i + k < j) : chr (s.extract i j) k = chr s (i + k) := by
  have h1 : k < (s.extract i j).size := by rw [ext_size _ _ _ hj]; omega
  rw [chr_in h1, chr_in (by omega)]
  rw [ByteArray.getElem_extract]
theorem chr_asText {l : List Int} (hb : By l) (k : Nat) : chr (asText l) k = (l[k]?).getD (-1) := by
  by_cases hk : k < l.length
  · have h1 : k < (asText l).size := by rw [asText_size]; exact hk
    rw [chr_in h1, List.getElem?_eq_getElem hk]
    have e1 : (asText l).data.toList[k]? = some (asText l)[k] := by rw [List.getElem?_eq_getElem (by simpa using h1)]; rfl
    rw [asText_data, List.getElem?_map, List.getElem?_eq_getElem hk] at e1
    have e2 : UInt8.ofNat (l[k]).toNat = (asText l)[k] := Option.some.inj e1
    rw [← e2]
    have := hb _ (List.getElem_mem hk)
    rw [UInt8.toNat_ofNat', Nat.mod_eq_of_lt (by omega)]
    simp; omega
  · rw [chr_out (by rw [asText_size]; exact hk), List.getElem?_eq_none (by omega)]; rfl
theorem runeLen_eq {r : Int} (h : cp r) : Lib.runeLen r = (szI r : Int) := by
  unfold Lib.runeLen szI
  unfold cp at h
  repeat' split
  all_goals omega
end Go.Proofs.YtkihfkcmcdiajaaGreatDoor.R

namespace Go.Proofs.YtkihfkcmcdiajaaGreatDoor.R
open Go.RowKit
/-- A number from 0 to 10FFFF. -/
def bdB (n : Int) : Bool := decide (0 ≤ n ∧ n ≤ 1114111)
theorem bdB_t {n : Int} (h : 0 ≤ n ∧ n ≤ 1114111) : bdB n = true := decide_eq_true h
theorem bdB_f {n : Int} (h : ¬ (0 ≤ n ∧ n ≤ 1114111)) : bdB n = false := decide_eq_false h
end Go.Proofs.YtkihfkcmcdiajaaGreatDoor.R

namespace Go.Proofs.YtkihfkcmcdiajaaGreatDoor.R
open Go.RowKit
/-- Where a piece is cut at a size. -/
def seamAt (lo hi m : Int) : Option Int :=
  if lo / m = hi / m then none else if lo % m ≠ 0 then some ((lo / m + 1) * m) else if (hi + 1) % m ≠ 0 then some (hi / m * m) else none
def seamK (lo hi : Int) : Nat → Int → Option Int
  | 0, _ => none
  | k + 1, m => match seamAt lo hi (m * 64) with
    | some c => some c
    | none => seamK lo hi k (m * 64)
/-- Where a piece is cut. -/
def seam (lo hi : Int) : Option Int := seamK lo hi (szI lo - 1) 1
/-- A piece of one block. -/
def Blk (lo hi : Int) : Prop := lo ≤ hi ∧ ((0 ≤ lo ∧ hi ≤ 127) ∨ (128 ≤ lo ∧ hi ≤ 2047) ∨ (2048 ≤ lo ∧ hi ≤ 55295) ∨ (57344 ≤ lo ∧ hi ≤ 65535) ∨ (65536 ≤ lo ∧ hi ≤ 1114111))

theorem seamAt_bd {lo hi m c : Int} (hm : m = 64 ∨ m = 4096 ∨ m = 262144) (_h0 : 0 ≤ lo) (h1 : lo ≤ hi) (h : seamAt lo hi m = some c) : lo < c ∧ c ≤ hi := by
  unfold seamAt at h
  split at h
  · cases h
  · split at h
    · cases h; rcases hm with rfl | rfl | rfl <;> omega
    · split at h
      · cases h; rcases hm with rfl | rfl | rfl <;> omega
      · cases h
theorem seamK_bd {lo hi c : Int} (h0 : 0 ≤ lo) (h1 : lo ≤ hi) : ∀ (k : Nat) (m : Int), (k ≤ 3 ∧ m = 1 ∨ k ≤ 2 ∧ m = 64 ∨ k ≤ 1 ∧ m = 4096 ∨ k = 0) → seamK lo hi k m = some c → lo < c ∧ c ≤ hi
  | 0, _, _, h => by cases h
  | k + 1, m, hk, h => by
    rw [seamK] at h
    split at h
    · next c' hc => cases h; exact seamAt_bd (by omega) h0 h1 hc
    · exact seamK_bd h0 h1 k (m * 64) (by omega) h
theorem seam_bd {lo hi c : Int} (h0 : 0 ≤ lo) (h1 : lo ≤ hi) (h : seam lo hi = some c) : lo < c ∧ c ≤ hi :=
  seamK_bd h0 h1 _ _ (.inl ⟨by have := szI_bd lo; omega, rfl⟩) h
theorem seamK_none {lo hi : Int} {k : Nat} {m : Int} (h : seamAt lo hi (m * 64) = none) : seamK lo hi (k + 1) m = seamK lo hi k (m * 64) := by rw [seamK, h]
theorem seamK_some {lo hi c : Int} {k : Nat} {m : Int} (h : seamAt lo hi (m * 64) = some c) : seamK lo hi (k + 1) m = some c := by rw [seamK, h]
theorem Blk.cut {lo hi c : Int} (h : Blk lo hi) (hc : seam lo hi = some c) : Blk lo (c - 1) ∧ Blk c hi := by
  unfold Blk at *
  have := seam_bd (by omega) h.1 hc
  omega
theorem Blk.cpl {lo hi : Int} (h : Blk lo hi) : cp lo ∧ cp hi ∧ szI lo = szI hi ∧ 0 ≤ lo ∧ lo ≤ hi ∧ hi ≤ 1114111 := by
  unfold Blk at h; unfold cp szI
  refine ⟨by omega, by omega, ?_, by omega, by omega, by omega⟩
  repeat' split
  all_goals omega
/-- The pieces of a piece, rising. -/
def pcs : Nat → Int → Int → List (Int × Int)
  | 0, lo, hi => [(lo, hi)]
  | f + 1, lo, hi => match seam lo hi with
    | none => [(lo, hi)]
    | some c => pcs f lo (c - 1) ++ pcs f c hi
abbrev Shape := List (Int × Int)
/-- A piece's shape. -/
def shp (p : Int × Int) : Shape := (enL p.1).zip (enL p.2)
/-- The shapes of a piece of one block. -/
def shs (lo hi : Int) : List Shape := (pcs (hi - lo).toNat lo hi).map shp
theorem pcs_none {f : Nat} {lo hi : Int} (h : seam lo hi = none) : pcs f lo hi = [(lo, hi)] := by
  cases f with
  | zero => rfl
  | succ f => rw [pcs, h]
theorem pcs_some {f : Nat} {lo hi c : Int} (h : seam lo hi = some c) : pcs (f + 1) lo hi = pcs f lo (c - 1) ++ pcs f c hi := by rw [pcs, h]
/-- More fuel changes nothing. -/
theorem pcs_more : ∀ (f g : Nat) (lo hi : Int), 0 ≤ lo → lo ≤ hi → (hi - lo).toNat ≤ f → (hi - lo).toNat ≤ g → pcs f lo hi = pcs g lo hi
  | 0, g, lo, hi, h0, h1, hf, _ => by
    cases hs : seam lo hi with
    | none => rw [pcs_none hs, pcs_none hs]
    | some c => have := seam_bd h0 h1 hs; omega
  | f + 1, 0, lo, hi, h0, h1, _, hg => by
    cases hs : seam lo hi with
    | none => rw [pcs_none hs, pcs_none hs]
    | some c => have := seam_bd h0 h1 hs; omega
  | f + 1, g + 1, lo, hi, h0, h1, hf, hg => by
    cases hs : seam lo hi with
    | none => rw [pcs_none hs, pcs_none hs]
    | some c =>
      have := seam_bd h0 h1 hs
      rw [pcs_some hs, pcs_some hs, pcs_more f g lo (c - 1) h0 (by omega) (by omega) (by omega), pcs_more f g c hi (by omega) (by omega) (by omega) (by omega)]
theorem shs_none {lo hi : Int} (h : seam lo hi = none) : shs lo hi = [shp (lo, hi)] := by unfold shs; rw [pcs_none h]; rfl
theorem shs_some {lo hi c : Int} (h0 : 0 ≤ lo) (h1 : lo ≤ hi) (h : seam lo hi = some c) : shs lo hi = shs lo (c - 1) ++ shs c hi := by
  have hb := seam_bd h0 h1 h
  unfold shs
  rw [← List.map_append]
  obtain ⟨f, hf⟩ : ∃ f, (hi - lo).toNat = f + 1 := ⟨(hi - lo).toNat - 1, by omega⟩
  rw [hf, pcs_some h, pcs_more f _ lo (c - 1) h0 (by omega) (by omega) (Nat.le_refl _), pcs_more f _ c hi (by omega) (by omega) (by omega) (Nat.le_refl _)]
theorem pcs_len : ∀ (f : Nat) (lo hi : Int), 0 ≤ lo → lo ≤ hi → 1 ≤ (pcs f lo hi).length ∧ ((pcs f lo hi).length : Int) ≤ hi - lo + 1
  | 0, lo, hi, _, h1 => by
    constructor
    · show 1 ≤ 1; omega
    · show ((1 : Nat) : Int) ≤ _; omega
  | f + 1, lo, hi, h0, h1 => by
    cases hs : seam lo hi with
    | none =>
      rw [pcs_none hs]
      constructor
      · show 1 ≤ 1; omega
      · show ((1 : Nat) : Int) ≤ _; omega
    | some c =>
      have := seam_bd h0 h1 hs
      have a := pcs_len f lo (c - 1) h0 (by omega)
      have b := pcs_len f c hi (by omega) (by omega)
      rw [pcs_some hs, List.length_append]
      omega
theorem shs_len {lo hi : Int} (h0 : 0 ≤ lo) (h1 : lo ≤ hi) : 1 ≤ (shs lo hi).length ∧ ((shs lo hi).length : Int) ≤ hi - lo + 1 := by
  unfold shs; rw [List.length_map]; exact pcs_len _ lo hi h0 h1
theorem shp_len {lo hi : Int} (h : Blk lo hi) : (shp (lo, hi)).length = szI lo := by
  obtain ⟨h1, h2, h3, _⟩ := h.cpl
  unfold shp
  rw [List.length_zip, enL_len h1, enL_len h2, ← h3, Nat.min_self]
/-- The blocks. -/
def blks : List (Int × Int) := [(0, 127), (128, 2047), (2048, 55295), (57344, 65535), (65536, 1114111)]
/-- What a block gives of a range. -/
def ofBlk (lo hi : Int) (b : Int × Int) : List Shape := if max b.1 lo ≤ min b.2 hi then shs (max b.1 lo) (min b.2 hi) else []
/-- The shapes of a range, from the first blocks. -/
def shTo (lo hi : Int) (k : Nat) : List Shape := (blks.take k).flatMap (ofBlk lo hi)
def shAll (lo hi : Int) : List Shape := blks.flatMap (ofBlk lo hi)
theorem shTo_all (lo hi : Int) : shTo lo hi 5 = shAll lo hi := rfl
theorem shTo_succ (lo hi : Int) (k : Nat) (b : Int × Int) (h : blks[k]? = some b) : shTo lo hi (k + 1) = shTo lo hi k ++ ofBlk lo hi b := by
  unfold shTo
  rw [List.take_add_one, h, List.flatMap_append]
  simp
theorem blk_get {k : Nat} {b : Int × Int} (h : blks[k]? = some b) : 0 ≤ b.1 ∧ b.1 ≤ b.2 ∧ b.2 ≤ 1114111 ∧ ∀ lo hi, max b.1 lo ≤ min b.2 hi → Blk (max b.1 lo) (min b.2 hi) := by
  unfold Blk
  match k, h with
  | 0, h => cases h; exact ⟨by decide, by decide, by decide, fun lo hi _ => by omega⟩
  | 1, h => cases h; exact ⟨by decide, by decide, by decide, fun lo hi _ => by omega⟩
  | 2, h => cases h; exact ⟨by decide, by decide, by decide, fun lo hi _ => by omega⟩
  | 3, h => cases h; exact ⟨by decide, by decide, by decide, fun lo hi _ => by omega⟩
  | 4, h => cases h; exact ⟨by decide, by decide, by decide, fun lo hi _ => by omega⟩
theorem ofBlk_len (lo hi : Int) (b : Int × Int) (h0 : 0 ≤ b.1) (h1 : b.1 ≤ b.2) : ((ofBlk lo hi b).length : Int) ≤ b.2 - b.1 + 1 := by
  unfold ofBlk
  split
  · next h => have := shs_len (lo := max b.1 lo) (hi := min b.2 hi) (by omega) h; omega
  · show ((0 : Nat) : Int) ≤ _; omega
theorem flat_len (lo hi : Int) (l : List (Int × Int)) (h : ∀ b ∈ l, 0 ≤ b.1 ∧ b.1 ≤ b.2) : ((l.flatMap (ofBlk lo hi)).length : Int) ≤ (l.map fun b => b.2 - b.1 + 1).sum := by
  induction l with
  | nil => simp
  | cons b l ih =>
    rw [List.flatMap_cons, List.length_append, List.map_cons, List.sum_cons]
    have h1 := h b (List.mem_cons_self)
    have h2 := ofBlk_len lo hi b h1.1 h1.2
    have h3 := ih fun c hc => h c (List.mem_cons_of_mem _ hc)
    omega
theorem blks_ok : ∀ b ∈ blks, 0 ≤ b.1 ∧ b.1 ≤ b.2 := by decide
theorem shTo_bd (lo hi : Int) (k : Nat) : ((shTo lo hi k).length : Int) ≤ ((blks.take k).map fun b => b.2 - b.1 + 1).sum :=
  flat_len lo hi (blks.take k) fun b hb => blks_ok b (List.mem_of_mem_take hb)
theorem shTo_room (lo hi : Int) (k : Nat) (b : Int × Int) (h : blks[k]? = some b) : ((shTo lo hi k).length : Int) + (b.2 - b.1 + 1) ≤ 1114112 := by
  have h1 := shTo_bd lo hi k
  match k, h, h1 with
  | 0, h, h1 => cases h; have e : ((blks.take 0).map fun b => b.2 - b.1 + 1).sum = 0 := by decide
                rw [e] at h1; dsimp only; omega
  | 1, h, h1 => cases h; have e : ((blks.take 1).map fun b => b.2 - b.1 + 1).sum = 128 := by decide
                rw [e] at h1; dsimp only; omega
  | 2, h, h1 => cases h; have e : ((blks.take 2).map fun b => b.2 - b.1 + 1).sum = 2048 := by decide
                rw [e] at h1; dsimp only; omega
  | 3, h, h1 => cases h; have e : ((blks.take 3).map fun b => b.2 - b.1 + 1).sum = 55296 := by decide
                rw [e] at h1; dsimp only; omega
  | 4, h, h1 => cases h; have e : ((blks.take 4).map fun b => b.2 - b.1 + 1).sum = 63488 := by decide
                rw [e] at h1; dsimp only; omega
theorem shTo_len (lo hi : Int) (k : Nat) : (shTo lo hi k).length ≤ 1114112 := by
  have h1 := shTo_bd lo hi k
  have h2 : ((blks.take k).map fun b => b.2 - b.1 + 1).sum ≤ 1114112 := by
    match k with
    | 0 => decide
    | 1 => decide
    | 2 => decide
    | 3 => decide
    | 4 => decide
    | k + 5 => rw [List.take_of_length_le (by show 5 ≤ k + 5; omega)]; decide
  omega
end Go.Proofs.YtkihfkcmcdiajaaGreatDoor.R

namespace Go.Proofs.YtkihfkcmcdiajaaGreatDoor.R
open Go.RowKit
/-- The cells of a shape. -/
def spc (s : Shape) : List Value := s.flatMap fun p => [.int .i64 p.1, .int .i64 p.2]
theorem spc_append (s t : Shape) : spc (s ++ t) = spc s ++ spc t := by unfold spc; rw [List.flatMap_append]
/-- A byte of a code point's text. -/
theorem enc_chr {r : Int} (h : cp r) (k : Nat) (hk : k < szI r) : (enL r)[k]? = some (chr (Utf8.encode r) k) ∧ k < (Utf8.encode r).size := by
  have hl := enL_len h
  have h1 : k < (enL r).length := by omega
  rw [encode_eq h]
  refine ⟨?_, by rw [asText_size]; exact h1⟩
  rw [chr_asText (enL_by r), List.getElem?_eq_getElem h1]; rfl
theorem enc_size {r : Int} (h : cp r) : (Utf8.encode r).size = szI r := by rw [encode_eq h, asText_size, enL_len h]
theorem shp_get {lo hi : Int} (h : Blk lo hi) (k : Nat) (hk : k < szI lo) : (shp (lo, hi))[k]? = some (chr (Utf8.encode lo) k, chr (Utf8.encode hi) k) := by
  obtain ⟨h1, h2, h3, _⟩ := h.cpl
  unfold shp
  rw [List.getElem?_zip_eq_some]
  exact ⟨(enc_chr h1 k hk).1, (enc_chr h2 k (by omega)).1⟩
theorem shp_take {lo hi : Int} (h : Blk lo hi) (k : Nat) (hk : k < szI lo) : (shp (lo, hi)).take (k + 1) = (shp (lo, hi)).take k ++ [(chr (Utf8.encode lo) k, chr (Utf8.encode hi) k)] := by
  rw [List.take_add_one, shp_get h k hk]; rfl
end Go.Proofs.YtkihfkcmcdiajaaGreatDoor.R

namespace Go.Proofs.YtkihfkcmcdiajaaGreatDoor.R
open Go.RowKit
theorem own_base {w : World} {a b e size : Nat} {v : Value} {n : Nat} {xs : List Value} (h : w.ownsRow b e size v n xs) (hab : a ≤ b) : w.ownsRow a e size v n xs := by
  obtain ⟨h1, h2⟩ := h
  refine ⟨h1, ?_⟩
  rcases h2 with h2 | ⟨g, cap, cur, h3, h4, h5⟩
  · exact .inl h2
  · exact .inr ⟨g, cap, cur, h3, Nat.le_trans hab h4, h5⟩
theorem Below.grow {w w' : World} (hb : Below w.heap.size w w') (row : Option Nat) : w.grownBy w' row := ⟨hb.os, hb.tape, hb.output, hb.size, fun k hk _ => hb.block k hk⟩
theorem own_below {w w' : World} {base e size : Nat} {v : Value} {n : Nat} {xs : List Value} (h : w.ownsRow base e size v n xs) (hb : Below w.heap.size w w') : w'.ownsRow base e size v n xs := by
  refine h.kept (row := none) (Below.grow hb none) ?_
  cases h2 : v.ownBlock
  · exact .inl rfl
  · exact .inr (by simp)

/-- A list of shapes that the call owns: no two of its lists share any memory. -/
structure RR (W : World) (B : Nat) (v : Value) (ss : List Shape) (xs : List Value) : Prop where
  o : W.ownsRow B 130 1 v xs.length xs
  len : xs.length = ss.length
  each : ∀ (i : Nat) x s, xs[i]? = some x → ss[i]? = some s → W.ownsRow B 133 2 x s.length (spc s) ∧ x.ownBlock ≠ none ∧ x.ownBlock ≠ v.ownBlock
  apart : ∀ (i j : Nat) x y, xs[i]? = some x → xs[j]? = some y → i ≠ j → x.ownBlock ≠ y.ownBlock

theorem RR.nil (W : World) (B : Nat) : RR W B (.slice none 0 0) [] [] :=
  ⟨World.ownsRow_nil _ _ _ _, rfl, fun _ _ _ h => (by cases h), fun _ _ _ _ h => (by cases h)⟩
theorem RR.lt {W : World} {B : Nat} {v : Value} {ss : List Shape} {xs : List Value} (h : RR W B v ss xs) {i : Nat} {x : Value} (hx : xs[i]? = some x) : ∃ g, x.ownBlock = some g ∧ B ≤ g ∧ g < W.heap.size := by
  have hi : i < ss.length := by
    rw [← h.len]
    by_cases q : i < xs.length
    · exact q
    · rw [List.getElem?_eq_none (by omega)] at hx; cases hx
  obtain ⟨h1, h2, _⟩ := h.each i x _ hx (List.getElem?_eq_getElem hi)
  cases hb : x.ownBlock with
  | none => exact absurd hb h2
  | some g => exact ⟨g, rfl, (h1.lt g hb).1, (h1.lt g hb).2⟩
theorem RR.below {W W' : World} {B : Nat} {v : Value} {ss : List Shape} {xs : List Value} (h : RR W B v ss xs) (hb : Below W.heap.size W W') : RR W' B v ss xs :=
  ⟨own_below h.o hb, h.len, fun i x s hx hs => ⟨own_below (h.each i x s hx hs).1 hb, (h.each i x s hx hs).2⟩, h.apart⟩
theorem RR.alloc {W : World} {B : Nat} {v : Value} {ss : List Shape} {xs : List Value} (h : RR W B v ss xs) (o : Obj) : RR (W.alloc o) B v ss xs :=
  h.below ((Below.refl _ _).alloc (Nat.le_refl _) _)
theorem RR.drew {W : World} {B : Nat} {v : Value} {ss : List Shape} {xs : List Value} (h : RR W B v ss xs) : RR W.drew B v ss xs :=
  h.below (Below.refl _ _).drew
/-- One shape more. -/
theorem RR.push {W W1 : World} {B : Nat} {v y : Value} {ss : List Shape} {s : Shape} {xs : List Value} {g0 g cap : Nat} {ob : Obj} (h : RR W B v ss xs) (hy : W.ownsRow B 133 2 y s.length (spc s)) (hyb : y.ownBlock = some g0)
    (hyv : v.ownBlock ≠ some g0) (hyx : ∀ (i : Nat) x, xs[i]? = some x → x.ownBlock ≠ some g0)
    (hown : W1.ownsRow B 130 1 (.slice (some ⟨g, 0, none⟩) (xs.length + 1) cap) (xs.length + 1) (xs ++ [y])) (hgrow : (W.alloc ob).grownBy W1 v.ownBlock) (hat : v.ownBlock = some g ∨ g = W.heap.size + 1) :
    RR W1 B (.slice (some ⟨g, 0, none⟩) (xs.length + 1) cap) (ss ++ [s]) (xs ++ [y]) := by
  have hal := h.alloc ob
  have hya := hy.alloc ob
  have hg0 := (hy.lt g0 hyb).2
  have hne : ∀ x : Value, (∃ k, x.ownBlock = some k ∧ k < W.heap.size) → x.ownBlock ≠ v.ownBlock → x.ownBlock ≠ (Value.slice (some ⟨g, 0, none⟩) (xs.length + 1) cap).ownBlock := by
    rintro x ⟨k, hk, hlt⟩ hv e
    rw [hk] at e
    have e2 : k = g := Option.some.inj e
    rcases hat with q | q
    · exact hv (by rw [hk, q, e2])
    · omega
  refine ⟨?_, by rw [List.length_append, List.length_append, h.len]; rfl, ?_, ?_⟩
  · rw [List.length_append]; exact hown
  · intro i x t hx ht
    by_cases hi : i < xs.length
    · rw [List.getElem?_append_left hi] at hx
      rw [List.getElem?_append_left (by rw [← h.len]; exact hi)] at ht
      obtain ⟨e1, e2, e3⟩ := hal.each i x t hx ht
      obtain ⟨k, hk, _, hlt⟩ := h.lt hx
      exact ⟨e1.kept hgrow (.inr e3), e2, hne x ⟨k, hk, hlt⟩ e3⟩
    · rw [List.getElem?_append_right (by omega)] at hx
      rw [List.getElem?_append_right (by rw [← h.len]; omega), ← h.len] at ht
      have hi0 : i - xs.length = 0 := by
        by_cases q : i - xs.length = 0
        · exact q
        · rw [List.getElem?_eq_none (by simp; omega)] at hx; cases hx
      rw [hi0] at hx ht
      cases hx
      cases ht
      have hv : y.ownBlock ≠ v.ownBlock := by rw [hyb]; exact Ne.symm hyv
      exact ⟨hya.kept hgrow (.inr hv), by rw [hyb]; simp, hne y ⟨g0, hyb, hg0⟩ hv⟩
  · intro i j x z hx hz hij
    by_cases hi : i < xs.length
    · rw [List.getElem?_append_left hi] at hx
      by_cases hj : j < xs.length
      · rw [List.getElem?_append_left hj] at hz
        exact h.apart i j x z hx hz hij
      · rw [List.getElem?_append_right (by omega)] at hz
        have hj0 : j - xs.length = 0 := by
          by_cases q : j - xs.length = 0
          · exact q
          · rw [List.getElem?_eq_none (by simp; omega)] at hz; cases hz
        rw [hj0] at hz
        cases hz
        rw [hyb]
        exact hyx i x hx
    · rw [List.getElem?_append_right (by omega)] at hx
      have hi0 : i - xs.length = 0 := by
        by_cases q : i - xs.length = 0
        · exact q
        · rw [List.getElem?_eq_none (by simp; omega)] at hx; cases hx
      rw [hi0] at hx
      cases hx
      by_cases hj : j < xs.length
      · rw [List.getElem?_append_left hj] at hz
        rw [hyb]
        exact Ne.symm (hyx j z hz)
      · rw [List.getElem?_append_right (by omega)] at hz
        have hj0 : j - xs.length = 0 := by
          by_cases q : j - xs.length = 0
          · exact q
          · rw [List.getElem?_eq_none (by simp; omega)] at hz; cases hz
        omega
end Go.Proofs.YtkihfkcmcdiajaaGreatDoor.R

namespace Go.Proofs.YtkihfkcmcdiajaaGreatDoor.R
open Go.RowKit
set_option maxHeartbeats 1000000 in
theorem inBounds_any (n : Int) (w : World) : Calls Tryz.prog 199 #[.int .i64 n] w fun e w' => e = .returned (.bool (bdB n)) ∧ w' = w := by
  by_cases h0 : 0 ≤ n
  · by_cases h1 : n ≤ 1114111
    · have HE := (show Hid (bdB n = true) from bdB_t ⟨h0, h1⟩)
      go_enter Tryz.func199, Tryz.ntmps199
      go_wp2
      go_ret
      exact ⟨by rw [HE.out]; rfl, rfl⟩
    · have HE := (show Hid (bdB n = false) from bdB_f (fun h => h1 h.2))
      go_enter Tryz.func199, Tryz.ntmps199
      go_wp2
      go_ret
      exact ⟨by rw [HE.out]; rfl, rfl⟩
  · have HE := (show Hid (bdB n = false) from bdB_f (fun h => h0 h.1))
    go_enter Tryz.func199, Tryz.ntmps199
    go_wp2
    go_ret
    exact ⟨by rw [HE.out]; rfl, rfl⟩
end Go.Proofs.YtkihfkcmcdiajaaGreatDoor.R

namespace Go.Proofs.YtkihfkcmcdiajaaGreatDoor.R
open Go.RowKit
/-- A box with a run. -/
structure RBox (w : World) (b : Nat) (p q : Int) : Prop where
  lt : b < w.heap.size
  c0 : w.cell? ⟨b, 0, none⟩ = some (.int .i32 p)
  c1 : w.cell? ⟨b, 1, none⟩ = some (.int .i32 q)
theorem RBox.new (w : World) (p q : Int) : RBox (w.alloc (.cells #[.int .i32 p, .int .i32 q] 186)) w.heap.size p q := by
  constructor <;> simp [go_sem]
theorem RBox.below {B : Nat} {w w' : World} {b : Nat} {p q : Int} (h : RBox w b p q) (hb : Below B w w') (hB : b < B) : RBox w' b p q :=
  ⟨Nat.lt_of_lt_of_le h.lt hb.size, (hb.cell (p := ⟨b, 0, none⟩) hB).trans h.c0, (hb.cell (p := ⟨b, 1, none⟩) hB).trans h.c1⟩
theorem RBox.grown {w w' : World} {b : Nat} {p q : Int} {row : Option Nat} (h : RBox w b p q) (hg : w.grownBy w' row) (hne : row = some b → False) : RBox w' b p q := by
  have e := hg.block b h.lt (fun e => hne e.symm)
  exact ⟨Nat.lt_of_lt_of_le h.lt hg.size, (World.cell?_of_block (a := ⟨b, 0, none⟩) e).trans h.c0, (World.cell?_of_block (a := ⟨b, 1, none⟩) e).trans h.c1⟩

/-- What seam answers. -/
def smV : Option Int → Value
  | some c => .tuple #[.int .i32 c, .bool true]
  | none => .tuple #[.int .i32 0, .bool false]

structure AtM (w wr : World) (lo hi : Int) : Prop where
  x : RBox wr w.heap.size lo hi
  b : Below w.heap.size w wr

set_option maxRecDepth 100000 in
set_option maxHeartbeats 8000000 in
theorem seam_any (lo hi : Int) (h : Blk lo hi) (w : World) :
    Calls Tryz.prog 202 #[.agg #[.int .i32 lo, .int .i32 hi]] w fun e w' => e = .returned (smV (seam lo hi)) ∧ Below w.heap.size w w' := by
  have hcp := h.cpl.1
  have h0 := h.cpl.2.2.2.1
  have h1 := h.cpl.2.2.2.2.1
  have h2 := h.cpl.2.2.2.2.2
  have HL : Hid (∀ w, Calls Tryz.prog 205 #[.int .i32 lo] w fun e w' => e = .returned (.int .i64 (szI lo : Int)) ∧ w' = w) := fun w => by
    have hh := Tryz.utf8_RuneLen lo w
    rwa [runeLen_eq hcp] at hh
  have hsz := szI_bd lo
  have HA := (show Hid (AtM w (w.alloc (.cells #[.int .i32 lo, .int .i32 hi] 186)) lo hi) from ⟨RBox.new w lo hi, (Below.refl _ _).alloc (Nat.le_refl _) _⟩)
  have HS := (show Hid (∀ c, seam lo hi = some c → lo < c ∧ c ≤ hi) from fun c hc => seam_bd h0 h1 hc)
  generalize hR : seam lo hi = R at *
  have HR := (show Hid (seamK lo hi (szI lo - 1) 1 = R) from hR)
  generalize szI lo = K at *
  clear hR hcp h
  obtain ⟨_, c0, c1⟩ := HA.out.x
  go_enter Tryz.func202, Tryz.ntmps202
  go_wp2_with fail
  refine (HL.out _).mono ?_
  rintro e w1 ⟨rfl, rfl⟩
  clear c0 c1 HL
  go_wp2_with fail
  go_loopw [4, 11] (fun t u wr => ∃ k : Nat, ∃ m : Int, t = .int .i32 m ∧ u = .int .i64 k ∧ k + 1 ≤ K ∧ Hid ((k = 0 ∧ m = 1) ∨ (k = 1 ∧ m = 64) ∨ (k = 2 ∧ m = 4096) ∨ k = 3) ∧ Hid (seamK lo hi (K - 1 - k) m = R) ∧ Hid (AtM w wr lo hi)) (fun _ u _ => 5 - (intOf u).toNat)
  case atStart => exact ⟨0, 1, rfl, rfl, by omega, .inl ⟨rfl, rfl⟩, HR, HA⟩
  case round =>
    obtain ⟨k, m, rfl, rfl, hk, HM, HK, HW⟩ := hrel
    clear HA HR
    by_cases hlt : k + 1 < K
    · have hlt2 : (k : Int) < (K : Int) - 1 := by omega
      obtain ⟨m', hm', hmm⟩ : ∃ m' : Int, m' = m * 64 ∧ (m' = 64 ∨ m' = 4096 ∨ m' = 262144) := ⟨_, rfl, by have e := HM.out; omega⟩
      have HM2 := (show Hid ((k + 1 = 0 ∧ m' = 1) ∨ (k + 1 = 1 ∧ m' = 64) ∨ (k + 1 = 2 ∧ m' = 4096) ∨ k + 1 = 3) from (by show _ ∨ _; have e := HM.out; omega))
      have hwm : IntKind.i32.wrap (m * 64) = m' := by rw [← hm', IntKind.wrap_i32]; rcases hmm with rfl | rfl | rfl <;> rfl
      have HKn := (show Hid (seamAt lo hi m' = none → seamK lo hi (K - 1 - (k + 1)) m' = R) from fun e => by
        have e2 := HK.out
        rw [hm'] at e
        rw [show K - 1 - k = (K - 1 - (k + 1)) + 1 from by omega, seamK_none e, ← hm'] at e2
        exact e2)
      have HKs := (show Hid (∀ c, seamAt lo hi m' = some c → R = some c ∧ lo < c ∧ c ≤ hi) from fun c e => by
        have e2 := HK.out
        rw [hm'] at e
        rw [show K - 1 - k = (K - 1 - (k + 1)) + 1 from by omega, seamK_some e] at e2
        exact ⟨e2.symm, HS.out c e2.symm⟩)
      have hpos : 0 < m' ∧ m' ≤ 262144 := by omega
      have hm0 : m' ≠ 0 := by omega
      have q1 : lo.tdiv m' = lo / m' := Int.tdiv_eq_ediv_of_nonneg h0
      have q2 : hi.tdiv m' = hi / m' := Int.tdiv_eq_ediv_of_nonneg (by omega)
      have q3 : lo.tmod m' = lo % m' := Int.tmod_eq_emod_of_nonneg h0
      have q4 : (hi + 1).tmod m' = (hi + 1) % m' := Int.tmod_eq_emod_of_nonneg (by omega)
      have b1 : 0 ≤ lo / m' ∧ lo / m' ≤ lo := by rcases hmm with rfl | rfl | rfl <;> omega
      have b2 : 0 ≤ hi / m' ∧ hi / m' ≤ hi := by rcases hmm with rfl | rfl | rfl <;> omega
      have b3 : 0 ≤ lo % m' ∧ lo % m' < m' := by rcases hmm with rfl | rfl | rfl <;> omega
      have b4 : 0 ≤ (hi + 1) % m' ∧ (hi + 1) % m' < m' := by rcases hmm with rfl | rfl | rfl <;> omega
      have HSe := (show Hid (∀ a b x y, a = lo / m' → b = hi / m' → x = lo % m' → y = (hi + 1) % m' → seamAt lo hi m' = if a = b then none else if x ≠ 0 then some ((a + 1) * m') else if y ≠ 0 then some (b * m') else none) from fun a b x y e1 e2 e3 e4 => by rw [e1, e2, e3, e4]; rfl)
      have HSq := (show Hid _ from HSe.out (lo / m') (hi / m') (lo % m') ((hi + 1) % m') rfl rfl rfl rfl)
      clear hm' HK HM hmm HSe HS
      have c0 := HW.out.x.c0
      have c1 := HW.out.x.c1
      go_wp2_with fail
      go_quiet (fail)
      have HW1 := (show Hid (AtM w (wr.drewN nq) lo hi) from ⟨HW.out.x.below (below_drewN (Below.refl _ _) _) HW.out.x.lt, HW.out.b.trans (below_drewN (Below.refl _ _) _)⟩)
      generalize wr.drewN nq = w1 at *
      clear c0 c1 HW q1 q2
      have c0 := HW1.out.x.c0
      have c1 := HW1.out.x.c1
      generalize lo / m' = a at *
      generalize hi / m' = b at *
      generalize lo % m' = x at *
      generalize (hi + 1) % m' = y at *
      by_cases hab : a = b
      · have HN := (show Hid _ from HKn.out (by rw [HSq.out, if_pos hab]))
        clear HKn HKs HSq
        subst hab
        go_wp2
        go_roundw
        case rel => exact ⟨k + 1, m', by go_num, by go_num, by omega, HM2, HN, HW1⟩
        case measure => simp [intOf]; omega
      · have eab : (a == b) = false := beq_eq_false_iff_ne.2 hab
        by_cases hx : x = 0
        · have ex : (x != 0) = false := by rw [hx]; rfl
          by_cases hy : y = 0
          · have HN := (show Hid _ from HKn.out (by rw [HSq.out, if_neg hab, if_neg (by omega), if_neg (by omega)]))
            have ey : (y != 0) = false := by rw [hy]; rfl
            clear HKn HKs HSq hab hx hy
            go_wp2
            go_roundw
            case rel => exact ⟨k + 1, m', by go_num, by go_num, by omega, HM2, HN, HW1⟩
            case measure => simp [intOf]; omega
          · obtain ⟨hR, hb1, hb2⟩ := HKs.out (b * m') (by rw [HSq.out, if_neg hab, if_neg (by omega), if_pos hy])
            have ey : (y != 0) = true := bne_iff_ne.2 hy
            have HE := (show Hid _ from hR)
            have v1 : IntKind.i32.wrap (b * m') = b * m' := by rw [IntKind.wrap_i32]; omega
            clear HKn HKs HSq hab hx hy hR hb1 hb2
            go_wp2
            go_ret2
            exact ⟨by rw [HE.out]; rfl, HW1.out.b⟩
        · obtain ⟨hR, hb1, hb2⟩ := HKs.out ((a + 1) * m') (by rw [HSq.out, if_neg hab, if_pos hx])
          have ex : (x != 0) = true := bne_iff_ne.2 hx
          have HE := (show Hid _ from hR)
          have v1 : IntKind.i32.wrap ((a + 1) * m') = (a + 1) * m' := by rw [IntKind.wrap_i32]; omega
          clear HKn HKs HSq hab hx hR hb1 hb2
          go_wp2
          go_ret2
          exact ⟨by rw [HE.out]; rfl, HW1.out.b⟩
    · have HE := (show Hid (R = none) from (by have e := HK.out; rw [show K - 1 - k = 0 from by omega] at e; exact e.symm))
      obtain rfl : K = k + 1 := by omega
      clear HK HM HS
      go_wp2
      go_ret2
      exact ⟨by rw [HE.out]; rfl, HW.out.b⟩
end Go.Proofs.YtkihfkcmcdiajaaGreatDoor.R
