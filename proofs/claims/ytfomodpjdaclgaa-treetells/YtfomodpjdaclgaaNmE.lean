/- DERIVED. Walks: Names. -/
import Derived.Test.YtfomodpjdaclgaaNmD
import Derived.Test.YtfomodpjdaclgaaFdB
namespace Go.Proofs.Ytfomodpjdaclgaa
open Go.RowKit

set_option maxRecDepth 100000 in
set_option maxHeartbeats 1000000 in
theorem through_long (L : List Nd) (Ap : Option Addr) (cp : Nat) (sv : Value) (hlong : 2048 < L.length) (w : World) :
    Calls Try.prog 36 #[.slice Ap L.length cp, sv] w fun e w' => e = .returned (.tuple #[.int .i64 (ck L).1, .int .i64 (ck L).2]) ∧ w' = w := by
  have HE := (show Hid (ck L = (0, 2)) from ck_long hlong)
  have z : (2048 : Int) < (L.length : Int) := by omega
  go_enter Try.func36, Try.ntmps36
  go_wp2_with fail
  go_ret2
  exact ⟨by rw [HE.out]; rfl, rfl⟩

set_option maxRecDepth 100000 in
set_option maxHeartbeats 4000000 in
theorem names_any (L : List Nd) (Ap : Option Addr) (cp : Nat) (hL : L.length ≤ 140737488355328) (hT : ∀ n ∈ L, n.tx.size ≤ 140737488355328) (w : World) (hp : RdN w Ap L) :
    Calls Try.prog 31 #[.slice Ap L.length cp] w fun e w' => NmV w w' L e ∧ Below w.heap.size w w' := by
  obtain ⟨W2, hW2⟩ : ∃ W2, W2 = (w.alloc (.cells #[.slice Ap L.length cp] 23)).alloc (.cells #[.slice none 0 0] 52) := ⟨_, rfl⟩
  have hB1 := below_box w (.cells #[.slice Ap L.length cp] 23)
  have hB2 : Below w.heap.size w W2 := by rw [hW2]; exact hB1.alloc hB1.size _
  have hs2 : W2.heap.size = w.heap.size + 2 := by rw [hW2]; simp
  have e0 : W2.heap[w.heap.size]? = some (.cells #[.slice Ap L.length cp] 23 (0, 0)) := by
    rw [hW2, (below_box _ _).block _ (by simp)]
    exact heap_alloc_new w _
  have e1 : W2.heap[w.heap.size + 1]? = some (.cells #[.slice none 0 0] 52 (0, 0)) := by
    rw [hW2]
    have h := heap_alloc_new (w.alloc (.cells #[.slice Ap L.length cp] 23)) (.cells #[.slice none 0 0] 52)
    rw [World.size_alloc] at h
    exact h
  have k0 : W2.cell? ⟨w.heap.size, 0, none⟩ = some (.slice Ap L.length cp) := by rw [cell_of_row W2 _ 0 _ 23 (0, 0) e0]; rfl
  have HT : Hid (∀ _ : Unit, Calls Try.prog 36 #[.slice Ap L.length cp, .func (.func 49) #[] #[.pointer (some ⟨w.heap.size, 0, none⟩), .pointer (some ⟨w.heap.size + 1, 0, none⟩)]] W2 fun e w' => e = .returned (.tuple #[.int .i64 (ck L).1, .int .i64 (ck L).2]) ∧ Below w.heap.size W2 w' ∧ ((ck L).2 = 0 → ∃ v, TB w' (w.heap.size + 1) v ∧ w'.ownsRow w.heap.size 9 1 v (nmL L L.length).length (stc (nmL L L.length)))) := fun _ => by
    by_cases hlen : 2048 < L.length
    · exact (through_long L Ap cp _ hlen W2).mono fun e w' ⟨h1, h2⟩ => ⟨h1, by rw [h2]; exact Below.refl _ _, fun q => by rw [ck_long hlen] at q; cases q⟩
    · refine (through_any L 49 _ _ Ap cp w.heap.size hL hT W2 (by omega) (hp.below hB2 (Nat.le_refl _)) (fun hne a ha => by
        obtain ⟨g, o, e, lt, _⟩ := hp hne
        rw [e] at ha
        cases ha
        exact lt) enters49 (see49 L Ap cp w.heap.size (w.heap.size + 1) w.heap.size W2.heap.size (by omega)) (fun b => b = w.heap.size + 1) ⟨by omega, ⟨_, ⟨e1⟩, fun b => by simp [Value.ownBlock], World.ownsRow_nil _ _ _ _⟩, k0, fun hne => ?_⟩).mono fun e w' ⟨h1, h2, k, X, hj, hk⟩ => ⟨h1, h2, fun q => by
          obtain ⟨v, h3, _, h4⟩ := hj.s
          rw [hk q] at h4
          exact ⟨v, h3, own_base h4 (by omega)⟩⟩
      obtain ⟨g, o, e, lt, cl⟩ := hp hne
      exact ⟨g, o, e, lt, by omega, cl.same (hB2.block g lt)⟩
  have HB2 := (show Hid (Below w.heap.size w W2) from hB2)
  clear hB1 hB2 e0 e1 hp hT hs2
  have HE : Hid (nmE L = if (ck L).2 = 0 then nmL L L.length else []) := rfl
  subst hW2
  go_enter Try.func31, Try.ntmps31
  go_wp2_with fail
  refine (HT.out ()).mono ?_
  rintro e w3 ⟨rfl, b3, hn⟩
  have HB3 := (show Hid (Below w.heap.size w w3) from HB2.out.trans b3)
  clear HT b3 HB2 k0
  by_cases hc : (ck L).2 = 0
  · obtain ⟨v, h3, h4⟩ := hn hc
    have c0 := h3.c0
    have HI := (show Hid (nmE L = nmL L L.length ∧ (ck L).2 = 0) from ⟨by rw [HE.out, if_pos hc], hc⟩)
    have HO := (show Hid (w3.ownsRow w.heap.size 9 1 v (nmL L L.length).length (stc (nmL L L.length))) from h4)
    have t1 : ((ck L).2 != 0) = false := by rw [hc]; rfl
    clear hn hc HE h3 h4
    go_wp2_with fail
    go_ret2
    exact ⟨⟨v, by rw [HI.out.2]; rfl, by rw [HI.out.1]; exact HO.out⟩, HB3.out⟩
  · have HI := (show Hid (nmE L = []) from by show nmE L = _; rw [HE.out, if_neg hc])
    have t1 : ((ck L).2 != 0) = true := by rw [bne, beq_eq_false_iff_ne.2 hc]; rfl
    clear hn hc HE
    go_wp2_with fail
    go_ret2
    exact ⟨⟨_, rfl, by rw [HI.out]; exact World.ownsRow_nil _ _ _ _⟩, HB3.out⟩
end Go.Proofs.Ytfomodpjdaclgaa
