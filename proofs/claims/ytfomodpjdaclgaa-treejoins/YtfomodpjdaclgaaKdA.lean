/- DERIVED. Walks: Kids, by the document. -/
import Derived.Test.YtfomodpjdaclgaaFdB
namespace Go.Proofs.Ytfomodpjdaclgaa
open Go.RowKit

theorem own_ints (w : World) (xs : List Int) (_h0 : xs ≠ []) (hl : xs.length ≤ 2) : (w.alloc (.cells (xs.map fun x => Value.int .i64 x).toArray 3)).ownsRow w.heap.size 3 1 (.slice (some ⟨w.heap.size, 0, none⟩) xs.length xs.length) xs.length (xs.map fun x => .int .i64 x) :=
  ⟨by simp, .inr ⟨w.heap.size, xs.length, _, rfl, Nat.le_refl _, heap_alloc_new w _, Nat.le_refl _, by unfold maxLen; omega, by simp, by rw [Nat.mul_one]; exact List.take_of_length_le (by simp)⟩⟩
set_option maxRecDepth 100000 in
set_option maxHeartbeats 4000000 in
theorem kids_any (L : List Nd) (gp op cp g1 c1 : Nat) (j : Nat) (hL : L.length ≤ 2048) (hj : j < L.length) (he : ∀ i, i < L.length → er L i = 0) (w : World) (hp : NdL w gp op L) (lp : gp < w.heap.size) (hb : ∀ i, i < L.length → w.cell? ⟨g1, i, none⟩ = some (.int .i64 (pt L i).1)) :
    Calls Try.prog 43 #[.slice (some ⟨gp, op, none⟩) L.length cp, .slice (some ⟨g1, 0, none⟩) L.length c1, .int .i64 j] w fun e w' => (∃ v, e = .returned v ∧ w'.ownsRow w.heap.size 3 1 v (arN (opAt L j)) (lastc ((run L j).take (arN (opAt L j))).reverse)) ∧ Below w.heap.size w w' := by
  obtain ⟨n, hn⟩ : ∃ n, L[j]? = some n := ⟨_, List.getElem?_eq_getElem hj⟩
  have hok := er_ok hn (he j hj)
  have HA : Hid (∀ w, Calls Try.prog 14 #[.int .i64 n.op] w fun e w' => e = .returned (.int .i64 (ar n.op)) ∧ w' = w) := fun w => arityR_any n.op w
  have e1 := (hp j n hn).c0
  have hop := op_of hn
  have hch := chn_run L j (by omega) (fun i hi => he i (by omega))
  have har := arN_of hok.al
  have ha2 := arN_le n.op
  have hal := hok.ar
  have z0 : (0 : Int) ≤ (j : Int) := by omega
  have z1 : (j : Int) < (L.length : Int) := by omega
  rw [hop]
  clear hok hp hn he hop
  rw [← har] at HA
  clear har
  by_cases a0 : arN n.op = 0
  · rw [a0] at HA ⊢
    clear a0 hal ha2 hch hb
    go_enter Try.func43, Try.ntmps43
    go_wp2_with fail
    refine (HA.out _).mono ?_
    rintro e w2 ⟨rfl, rfl⟩
    clear HA e1
    go_wp2_with fail
    go_ret
    exact ⟨⟨_, rfl, World.ownsRow_nil _ _ _ _⟩, Below.refl _ _⟩
  · cases hst : run L j with
    | nil => rw [hst] at hal; simp at hal; omega
    | cons y r =>
      rw [hst] at hch hal
      obtain ⟨q1, q2, q3, q4⟩ := hch
      by_cases a1 : arN n.op = 1
      · rw [a1] at HA ⊢
        have hR : lastc ((y :: r).take 1).reverse = [(.int .i64 ((j : Int) - 1) : Value)] := by
          show [Value.int .i64 (y.2.1 : Int)] = _
          rw [show (y.2.1 : Int) = (j : Int) - 1 from by omega]
        have HO := (show Hid ((w.alloc (.cells #[.int .i64 ((j : Int) - 1)] 3)).ownsRow w.heap.size 3 1 (.slice (some ⟨w.heap.size, 0, none⟩) 1 1) 1 (lastc ((y :: r).take 1).reverse)) from by rw [hR]; exact own_ints w [(j : Int) - 1] (by simp) (by simp))
        clear a0 a1 hal ha2 hb q1 q2 q3 q4 hst hR
        go_enter Try.func43, Try.ntmps43
        go_wp2_with fail
        refine (HA.out _).mono ?_
        rintro e w2 ⟨rfl, rfl⟩
        clear HA e1
        go_wp2_with fail
        go_ret
        exact ⟨⟨_, rfl, HO.out⟩, below_box _ _⟩
      · have a2 : arN n.op = 2 := by omega
        rw [a2] at HA hal ⊢
        cases hr : r with
        | nil => rw [hr] at hal; simp at hal
        | cons x r2 =>
          rw [hr] at q4
          obtain ⟨p1, p2, p3, p4⟩ := q4
          have e2 := hb y.2.1 (by omega)
          rw [← q2] at e2
          have hR : lastc ((y :: x :: r2).take 2).reverse = [(.int .i64 ((y.1 : Int) - 1) : Value), .int .i64 ((j : Int) - 1)] := by
            show [Value.int .i64 (x.2.1 : Int), .int .i64 (y.2.1 : Int)] = _
            rw [show (y.2.1 : Int) = (j : Int) - 1 from by omega, show (x.2.1 : Int) = (y.1 : Int) - 1 from by omega]
          have HO := (show Hid ((w.alloc (.cells #[.int .i64 ((y.1 : Int) - 1), .int .i64 ((j : Int) - 1)] 3)).ownsRow w.heap.size 3 1 (.slice (some ⟨w.heap.size, 0, none⟩) 2 2) 2 (lastc ((y :: x :: r2).take 2).reverse)) from by rw [hR]; exact own_ints w [(y.1 : Int) - 1, (j : Int) - 1] (by simp) (by simp))
          have hsub : (j : Int) - 1 = (y.2.1 : Int) := by omega
          have z4 : (0 : Int) ≤ (y.2.1 : Int) := by omega
          have z5 : (y.2.1 : Int) < (L.length : Int) := by omega
          have zy : y.1 ≤ 2048 := by omega
          rw [hsub] at HO
          clear a0 a1 a2 hal ha2 hb q1 q2 q3 p1 p2 p3 p4 hst hR hr
          obtain ⟨y1, y2, y3⟩ := y
          simp only at e2 hsub z4 z5 zy HO
          go_enter Try.func43, Try.ntmps43
          go_wp2_with fail
          refine (HA.out _).mono ?_
          rintro e w2 ⟨rfl, rfl⟩
          clear HA e1
          go_wp2_with fail
          go_ret
          exact ⟨⟨_, rfl, HO.out⟩, below_box _ _⟩
end Go.Proofs.Ytfomodpjdaclgaa
