/- DERIVED. Walks: Parts by the document; SameInts. -/
import Derived.Test.YtfomodpjdaclgaaRfA
import Derived.Test.YtfomodpjdaclgaaKdA
namespace Go.Proofs.Ytfomodpjdaclgaa
open Go.RowKit

set_option maxRecDepth 100000 in
set_option maxHeartbeats 4000000 in
theorem partsR_any (L : List Nd) (Ap : Option Addr) (cp : Nat) (at' : Int) (hL : L.length ≤ 140737488355328) (hT : ∀ n ∈ L, n.tx.size ≤ 140737488355328) (w : World) (hp : RdN w Ap L) :
    Calls Try.prog 21 #[.slice Ap L.length cp, .int .i64 at'] w fun e w' => PsV w w' L at' e ∧ Below w.heap.size w w' := by
  have HC : Hid (∀ _ : Unit, Calls Try.prog 40 #[.slice Ap L.length cp, .int .i64 at'] w fun e w' => e = .returned (.int .i64 (fdE L at')) ∧ Below w.heap.size w w') := fun _ => look_any L Ap cp at' hL hT w hp
  have HF : Hid (∀ W, Below w.heap.size w W → Rt L → Calls Try.prog 38 #[.slice Ap L.length cp] W fun e w' => FrV W w' L e ∧ Below W.heap.size W w') := fun W hW hr => from_any L Ap cp (by have := hr.len; omega) hT W (hp.below hW (Nat.le_refl _))
  have HP := (show Hid (RdN w Ap L) from hp)
  clear hp hT
  go_enter Try.func21, Try.ntmps21
  go_wp2_with fail
  refine (HC.out ()).mono ?_
  rintro e w2 ⟨rfl, b2⟩
  have HB := (show Hid (Below w.heap.size w w2) from b2)
  clear HC b2
  by_cases hc : fdE L at' = 0
  · obtain ⟨hr, j, hj, hjl⟩ := fdE_ok hc
    have t1 : (fdE L at' != 0) = false := by rw [hc]; rfl
    have HR := (show Hid (Rt L ∧ fdE L at' = 0) from ⟨hr, hc⟩)
    obtain ⟨gp, op, rfl, lp, cl⟩ := HP.out (by rintro rfl; simp at hjl)
    have HCl := (show Hid (NdL w gp op L) from cl)
    subst hj
    clear hc hr cl HP
    go_wp2_with fail
    refine (HF.out _ HB.out HR.out.1).mono ?_
    rintro e w3 ⟨hv, b3⟩
    have HB3 := (show Hid (Below w.heap.size w w3) from HB.out.trans (b3.mono HB.out.size))
    obtain ⟨v1, v2, rfl, hat⟩ := hv.ok HR.out.1
    obtain ⟨A1, c1, A2, c2, rfl, rfl, hf⟩ := hat.form
    obtain ⟨g1, g2, rfl, rfl⟩ := hf (by omega)
    have HK : Hid (∀ _ : Unit, Calls Try.prog 43 #[.slice (some ⟨gp, op, none⟩) L.length cp, .slice (some ⟨g1, 0, none⟩) L.length c1, .int .i64 j] w3 fun e w' => (∃ v, e = .returned v ∧ w'.ownsRow w3.heap.size 3 1 v (arN (opAt L j)) (lastc ((run L j).take (arN (opAt L j))).reverse)) ∧ Below w3.heap.size w3 w') := fun _ =>
      kids_any L gp op cp g1 c1 j (by have := HR.out.1.len; omega) hjl HR.out.1.each w3 (HCl.out.same (HB3.out.block gp lp)) (Nat.lt_of_lt_of_le lp HB3.out.size) (fun i hi => by
        have := hat.o1.cells (g := g1) rfl i _ (bgc_get hi)
        rwa [Addr.add_lit, Nat.zero_add] at this)
    clear HF hv b3 hat hf HB HCl
    go_wp2_with fail
    refine (HK.out ()).mono ?_
    rintro e w4 ⟨⟨v, rfl, ho⟩, b4⟩
    have HO := (show Hid (w4.ownsRow w.heap.size 3 1 v (arN (opAt L j)) (lastc ((run L j).take (arN (opAt L j))).reverse)) from own_base ho HB3.out.size)
    have HB4 := (show Hid (Below w.heap.size w w4) from HB3.out.trans (b4.mono HB3.out.size))
    clear HK ho b4 HB3
    go_wp2_with fail
    go_ret2
    exact ⟨⟨v, by rw [HR.out.2]; rfl, .inr ⟨HR.out.2, HO.out⟩⟩, HB4.out⟩
  · have t1 : (fdE L at' != 0) = true := by rw [bne, beq_eq_false_iff_ne.2 hc]; rfl
    have HI := (show Hid (fdE L at' ≠ 0) from hc)
    clear hc HF HP
    go_wp2_with fail
    go_ret2
    exact ⟨⟨_, rfl, .inl ⟨HI.out, rfl⟩⟩, HB.out⟩

set_option maxRecDepth 100000 in
set_option maxHeartbeats 4000000 in
theorem sameInts_any (v1 v2 : Value) (B1 B2 n : Nat) (l : List Int) (hl : n ≤ 4) (w : World) (h1 : w.ownsRow B1 3 1 v1 n (l.map fun x => .int .i64 x)) (h2 : w.ownsRow B2 3 1 v2 n (l.map fun x => .int .i64 x)) :
    Calls Try.prog 25 #[v1, v2] w fun e w' => e = .returned (.bool true) ∧ Below w.heap.size w w' := by
  have form : ∀ (v : Value) (B : Nat), w.ownsRow B 3 1 v n (l.map fun x => .int .i64 x) → ∃ A c, v = .slice A n c ∧ (0 < n → ∃ g, A = some ⟨g, 0, none⟩ ∧ g < w.heap.size ∧ ∀ (j : Nat) (x : Int), l[j]? = some x → w.cell? ⟨g, j, none⟩ = some (.int .i64 x)) := fun v B h => by
    have hc := h
    rcases h.2 with ⟨rfl, h0⟩ | ⟨g, cap, cur, rfl, _⟩
    · exact ⟨none, 0, by rw [h0], fun q => by omega⟩
    · refine ⟨_, cap, rfl, fun _ => ⟨g, rfl, (hc.lt g rfl).2, fun j x hj => ?_⟩⟩
      have := hc.cells (g := g) rfl j (.int .i64 x) (by rw [List.getElem?_map, hj]; rfl)
      rwa [Addr.add_lit, Nat.zero_add] at this
  obtain ⟨A1, c1, rfl, f1⟩ := form v1 B1 h1
  obtain ⟨A2, c2, rfl, f2⟩ := form v2 B2 h2
  have hll : l.length = n := by have := h1.1; rw [List.length_map] at this; omega
  have H1 := (show Hid _ from f1)
  have H2 := (show Hid _ from f2)
  have HG := (show Hid (∀ k, k < n → ∃ x, l[k]? = some x) from fun k hk => ⟨_, List.getElem?_eq_getElem (by omega)⟩)
  clear h1 h2 form f1 f2 hll
  go_enter Try.func25, Try.ntmps25
  go_wp2_with fail
  go_loopw [5] (fun t wr => ∃ k : Nat, k ≤ n ∧ t = .int .i64 k ∧ Hid (Below w.heap.size w wr)) (fun t _ => n - (intOf t).toNat)
  case atStart => exact ⟨0, by omega, by go_num, Below.refl _ _⟩
  case round =>
    obtain ⟨k, hk, rfl, HW⟩ := hrel
    by_cases hlt : k < n
    · obtain ⟨x, hx⟩ := HG.out k hlt
      obtain ⟨g1, rfl, l1, q1⟩ := H1.out (by omega)
      obtain ⟨g2, rfl, l2, q2⟩ := H2.out (by omega)
      have e1 := (HW.out.cell (p := ⟨g1, k, none⟩) l1).trans (q1 k x hx)
      have e2 := (HW.out.cell (p := ⟨g2, k, none⟩) l2).trans (q2 k x hx)
      have z0 : (0 : Int) ≤ (k : Int) := by omega
      have z1 : (k : Int) < (n : Int) := by omega
      clear HG H1 H2 q1 q2 hx
      go_wp2_with fail
      go_quiet (fail)
      have HW2 := (show Hid (Below w.heap.size w (wr.drewN nq)) from HW.out.trans (below_drewN (Below.refl _ _) _))
      generalize wr.drewN nq = w2 at *
      clear e1 e2 HW
      go_wp2
      go_roundw
      case rel => exact ⟨k + 1, by omega, by go_num, HW2⟩
      case measure => simp [intOf]; omega
    · obtain rfl : k = n := by omega
      clear HG H1 H2
      go_wp2
      go_ret
      exact ⟨rfl, HW.out⟩
end Go.Proofs.Ytfomodpjdaclgaa
