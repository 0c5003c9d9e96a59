/- DERIVED. Walks: works, two of the chapter's examples. -/
import Derived.Test.YtlcmlipldkpliabRdE
import Derived.Test.YtlcmlipldkpliabShow
import Derived.Test.YtlcmlipldkpliabRange
namespace Go.Proofs.Ytlcmlipldkpliab
open Go.RowKit

def isOk (r : Rd (BitVec 256)) (x : BitVec 256) : Bool := match r with | .inl y => y == x | .inr (_, _) => false
theorem isOk_eq {r : Rd (BitVec 256)} {x : BitVec 256} (h : isOk r x = true) : r = .inl x := by
  cases r with
  | inl y => rw [show y = x from by simpa [isOk] using h]
  | inr pq =>
    obtain ⟨a, c⟩ := pq
    simp [isOk] at h
theorem ex_range : rng 97 99 = (spn 97 99, 0) := by decide +kernel
theorem ex_parse : rdParse ⟨#[91, 94, 97, 45, 122, 93]⟩ = .inl (~~~ spn 97 122) := isOk_eq (by decide +kernel)
theorem ex_count : cnt (spn 97 99) = 3 := by decide +kernel
theorem ex_count2 : cnt (~~~ spn 97 122) = 230 := by decide +kernel
theorem ex_show : shT (spn 97 99) = [91, 97, 45, 99, 93] := by decide +kernel

structure AtW (w : World) (b c : Nat) (x y : BitVec 256) (wr : World) : Prop where
  h1 : Holds wr b x
  h2 : Holds wr c y
  h3 : FHolds wr (c + 1) 0 0
  hb : Below w.heap.size w wr
  le : w.heap.size ≤ b
  lt : b < c
theorem AtW.below {w : World} {b c : Nat} {x y : BitVec 256} {wr w1 : World} (h : AtW w b c x y wr) (hb : Below wr.heap.size wr w1) : AtW w b c x y w1 :=
  ⟨h.h1.below hb h.h1.lt, h.h2.below hb h.h2.lt, h.h3.below hb h.h3.lt, h.hb.trans (hb.mono h.hb.size), h.le, h.lt⟩
theorem AtW.drew {w : World} {b c : Nat} {x y : BitVec 256} {wr : World} (h : AtW w b c x y wr) : AtW w b c x y wr.drew := h.below (Below.refl _ _).drew

set_option maxRecDepth 100000 in
set_option maxHeartbeats 2000000 in
theorem works_any (w : World) : Calls Try.prog 6 #[] w fun e w' => e = .returned (.bool true) ∧ Below w.heap.size w w' := by
  have HX : Hid (∀ w, Calls Try.prog 22 #[.int .i64 97, .int .i64 99] w fun e w' => e = .returned (.tuple #[sv (spn 97 99), .int .i64 0]) ∧ Below w.heap.size w w') := fun w => by
    have h := range_any 97 99 w
    rw [ex_range] at h
    exact h
  have HY : Hid (∀ w, Calls Try.prog 16 #[.string ⟨#[91, 94, 97, 45, 122, 93]⟩] w fun e w' => e = .returned (.tuple #[sv (~~~ spn 97 122), .agg #[.int .i64 0, .int .i64 0]]) ∧ Below w.heap.size w w') := fun w => by
    have h := parse_any ⟨#[91, 94, 97, 45, 122, 93]⟩ w
    rw [ex_parse] at h
    exact h
  have HC : Hid (∀ w, Calls Try.prog 13 #[sv (spn 97 99)] w fun e w' => e = .returned (.int .i64 3) ∧ Below w.heap.size w w') := fun w => by
    have h := count_any (spn 97 99) w
    rw [ex_count] at h
    exact h
  have HD : Hid (∀ w, Calls Try.prog 13 #[sv (~~~ spn 97 122)] w fun e w' => e = .returned (.int .i64 230) ∧ Below w.heap.size w w') := fun w => by
    have h := count_any (~~~ spn 97 122) w
    rw [ex_count2] at h
    exact h
  have HS : Hid (∀ w, Calls Try.prog 17 #[sv (spn 97 99)] w fun e w' => e = .returned (.string ⟨#[91, 97, 45, 99, 93]⟩) ∧ Below w.heap.size w w') := fun w => by
    have h := show_any (spn 97 99) w
    rw [ex_show] at h
    exact h
  generalize spn 97 99 = x at *
  generalize ~~~ spn 97 122 = y at *
  go_enter Try.func6, Try.ntmps6
  go_wp2_with fail
  refine (HX.out _).mono ?_
  rintro e w1 ⟨rfl, hb1⟩
  have HB := (show Hid _ from hb1)
  clear hb1 HX
  go_wp2_with fail
  refine (HY.out _).mono ?_
  rintro e w2 ⟨rfl, hb2⟩
  have HH := (show Hid (Holds w2 w1.heap.size x) from (Holds.new w1 x).below hb2 (by simp))
  have hl : w1.heap.size < w2.heap.size := HH.out.lt
  have HA := (show Hid (AtW w w1.heap.size w2.heap.size x y ((w2.alloc (c4 y)).alloc fz)) from (by
    have hB := (below1 w1 (c4 x)).trans (hb2.mono (by simp))
    refine ⟨(HH.out.alloc _).alloc _, (Holds.new w2 y).alloc _, ?_, (((HB.out.trans (hB.mono HB.out.size)).alloc (HB.out.trans (hB.mono HB.out.size)).size _).alloc ?_ _), HB.out.size, hl⟩
    · have h := FHolds.new (w2.alloc (c4 y)) 0 0
      rw [show (w2.alloc (c4 y)).heap.size = w2.heap.size + 1 from by simp] at h
      exact h
    · rw [show (w2.alloc (c4 y)).heap.size = w2.heap.size + 1 from by simp]
      exact Nat.le_succ_of_le (HB.out.trans (hB.mono HB.out.size)).size))
  clear hb2 HY HB
  obtain ⟨_, c0, c1, c2, c3, f0, f1, f2, f3⟩ := HH.out
  go_wp2_with fail
  refine (HC.out _).mono ?_
  rintro e w3 ⟨rfl, hb3⟩
  have HA3 := (show Hid _ from HA.out.below hb3)
  clear hb3 HA HH c0 c1 c2 c3 f0 f1 f2 f3 HC
  obtain ⟨_, c0, c1, c2, c3, f0, f1, f2, f3⟩ := HA3.out.h1
  obtain ⟨_, d0, d1, d2, d3, g0, g1, g2, g3⟩ := HA3.out.h2
  obtain ⟨_, e0, e1, k0, k1⟩ := HA3.out.h3
  go_wp2_with fail
  refine (HD.out _).mono ?_
  rintro e w4 ⟨rfl, hb4⟩
  have HA4 := (show Hid _ from HA3.out.below hb4)
  clear hb4 HA3 c0 c1 c2 c3 f0 f1 f2 f3 d0 d1 d2 d3 g0 g1 g2 g3 e0 e1 k0 k1 HD
  obtain ⟨_, c0, c1, c2, c3, f0, f1, f2, f3⟩ := HA4.out.h1
  go_wp2_with fail
  refine (HS.out _).mono ?_
  rintro e w5 ⟨rfl, hb5⟩
  have HA5 := (show Hid _ from HA4.out.below hb5)
  clear hb5 HA4 c0 c1 c2 c3 f0 f1 f2 f3 HS
  go_wp2_with fail
  go_ret
  exact ⟨rfl, HA5.out.hb⟩
end Go.Proofs.Ytlcmlipldkpliab
