/- DERIVED. Walks: Captures, by the program and by the document. -/
import Derived.Test.YtfomodpjdaclgaaCpA
namespace Go.Proofs.Ytfomodpjdaclgaa
open Go.RowKit

def cpE (L : List Nd) : Int := if (ck L).2 = 0 then (cpN L L.length : Int) else 0

set_option maxRecDepth 100000 in
set_option maxHeartbeats 4000000 in
theorem captures_any (L : List Nd) (Ap : Option Addr) (cp : Nat) (hL : L.length ≤ 140737488355328) (hT : ∀ n ∈ L, n.tx.size ≤ 140737488355328) (w : World) (hp : RdN w Ap L) :
    Calls Try.prog 33 #[.slice Ap L.length cp] w fun e w' => e = .returned (.tuple #[.int .i64 (cpE L), .int .i64 (ck L).2]) ∧ Below w.heap.size w w' := by
  obtain ⟨W2, hW2⟩ : ∃ W2, W2 = (w.alloc (.cells #[.slice Ap L.length cp] 23)).alloc (.cells #[.int .i64 0] 3) := ⟨_, rfl⟩
  have hB1 := below_box w (.cells #[.slice Ap L.length cp] 23)
  have hB2 : Below w.heap.size w W2 := by rw [hW2]; exact hB1.alloc hB1.size _
  have hs2 : W2.heap.size = w.heap.size + 2 := by rw [hW2]; simp
  have e0 : W2.heap[w.heap.size]? = some (.cells #[.slice Ap L.length cp] 23 (0, 0)) := by
    rw [hW2, (below_box _ _).block _ (by simp)]
    exact heap_alloc_new w _
  have e1 : W2.heap[w.heap.size + 1]? = some (.cells #[.int .i64 0] 3 (0, 0)) := by
    rw [hW2]
    have h := heap_alloc_new (w.alloc (.cells #[.slice Ap L.length cp] 23)) (.cells #[.int .i64 0] 3)
    rw [World.size_alloc] at h
    exact h
  have k0 : W2.cell? ⟨w.heap.size, 0, none⟩ = some (.slice Ap L.length cp) := by rw [cell_of_row W2 _ 0 _ 23 (0, 0) e0]; rfl
  have HT : Hid (∀ _ : Unit, Calls Try.prog 36 #[.slice Ap L.length cp, .func (.func 51) #[] #[.pointer (some ⟨w.heap.size, 0, none⟩), .pointer (some ⟨w.heap.size + 1, 0, none⟩)]] W2 fun e w' => e = .returned (.tuple #[.int .i64 (ck L).1, .int .i64 (ck L).2]) ∧ Below w.heap.size W2 w' ∧ ((ck L).2 = 0 → IB w' (w.heap.size + 1) (cpN L L.length))) := fun _ => by
    refine (through_any L 51 _ _ Ap cp w.heap.size hL hT W2 (by omega) (hp.below hB2 (Nat.le_refl _)) (fun hne a ha => by
      obtain ⟨g, o, e, lt, _⟩ := hp hne
      rw [e] at ha
      cases ha
      exact lt) enters51 (see51 L Ap cp w.heap.size (w.heap.size + 1) w.heap.size W2.heap.size hL) (fun b => b = w.heap.size + 1) ⟨by omega, fun b => Iff.rfl, ⟨e1⟩, k0, fun hne => ?_⟩).mono fun e w' ⟨h1, h2, k, X, hj, hk⟩ => ⟨h1, h2, fun q => by rw [← hk q]; exact hj.n⟩
    obtain ⟨g, o, e, lt, cl⟩ := hp hne
    exact ⟨g, o, e, lt, by omega, cl.same (hB2.block g lt)⟩
  have HB2 := (show Hid (Below w.heap.size w W2) from hB2)
  clear hB1 hB2 e0 e1 hp hT hs2
  have HE : Hid (cpE L = if (ck L).2 = 0 then (cpN L L.length : Int) else 0) := rfl
  subst hW2
  go_enter Try.func33, Try.ntmps33
  go_wp2_with fail
  refine (HT.out ()).mono ?_
  rintro e w3 ⟨rfl, b3, hn⟩
  have HB3 := (show Hid (Below w.heap.size w w3) from HB2.out.trans b3)
  clear HT b3 HB2 k0
  by_cases hc : (ck L).2 = 0
  · have c0 := (hn hc).c0
    have HI := (show Hid (cpE L = (cpN L L.length : Int) ∧ (ck L).2 = 0) from ⟨by rw [HE.out, if_pos hc], hc⟩)
    have t1 : ((ck L).2 != 0) = false := by rw [hc]; rfl
    clear hn hc HE
    go_wp2_with fail
    go_ret2
    exact ⟨by rw [HI.out.1, HI.out.2]; rfl, HB3.out⟩
  · have HI := (show Hid (cpE L = 0) from by show cpE L = _; rw [HE.out, if_neg hc])
    have t1 : ((ck L).2 != 0) = true := by rw [bne, beq_eq_false_iff_ne.2 hc]; rfl
    clear hn hc HE
    go_wp2_with fail
    go_ret2
    exact ⟨by rw [HI.out]; rfl, HB3.out⟩

set_option maxRecDepth 100000 in
set_option maxHeartbeats 1000000 in
theorem catches_any (op : Int) (h : op ≤ 23) (w : World) : Calls Try.prog 52 #[.int .i64 op] w fun e w' => e = .returned (.bool (decide (17 ≤ op))) ∧ w' = w := by
  by_cases h17 : 17 ≤ op
  · have HE := (show Hid (decide (17 ≤ op) = true) from decide_eq_true h17)
    go_enter Try.func52, Try.ntmps52
    go_wp2_with fail
    go_ret
    exact ⟨by rw [HE.out]; rfl, rfl⟩
  · have HE := (show Hid (decide (17 ≤ op) = false) from decide_eq_false h17)
    go_enter Try.func52, Try.ntmps52
    go_wp2_with fail
    go_ret
    exact ⟨by rw [HE.out]; rfl, rfl⟩
theorem op_hi {n : Nd} (h : alE n = 0) : n.op ≤ 23 := by
  have := alE_ar h
  unfold ar at this
  split at this
  · omega
  · omega

set_option maxRecDepth 100000 in
set_option maxHeartbeats 4000000 in
theorem capturesR_any (L : List Nd) (Ap : Option Addr) (cp : Nat) (hL : L.length ≤ 140737488355328) (hT : ∀ n ∈ L, n.tx.size ≤ 140737488355328) (w : World) (hp : RdN w Ap L) :
    Calls Try.prog 34 #[.slice Ap L.length cp] w fun e w' => e = .returned (.tuple #[.int .i64 (cpE L), .int .i64 (ck L).2]) ∧ Below w.heap.size w w' := by
  have HC : Hid (∀ _ : Unit, Calls Try.prog 11 #[.slice Ap L.length cp] w fun e w' => e = .returned (.tuple #[.int .i64 (ck L).1, .int .i64 (ck L).2]) ∧ Below w.heap.size w w') := fun _ => checkR_any L Ap cp hL hT w hp
  have HP := (show Hid (RdN w Ap L) from hp)
  have HE : Hid (cpE L = if (ck L).2 = 0 then (cpN L L.length : Int) else 0) := rfl
  clear hp hT
  go_enter Try.func34, Try.ntmps34
  go_wp2_with fail
  refine (HC.out ()).mono ?_
  rintro e w2 ⟨rfl, b2⟩
  have HB := (show Hid (Below w.heap.size w w2) from b2)
  clear HC b2
  by_cases hc : (ck L).2 = 0
  · have hr := rt_of hc
    have HI := (show Hid (cpE L = (cpN L L.length : Int) ∧ (ck L).2 = 0) from ⟨by rw [HE.out, if_pos hc], hc⟩)
    have t1 : ((ck L).2 != 0) = false := by rw [hc]; rfl
    have HG := (show Hid (∀ k, k < L.length → ∃ n, L[k]? = some n ∧ n.op ≤ 23 ∧ L ≠ [] ∧ cpN L (k + 1) = cpN L k + if 17 ≤ n.op then 1 else 0) from fun k hk => by
      have hn : L[k]? = some L[k] := List.getElem?_eq_getElem hk
      exact ⟨_, hn, op_hi (er_ok hn (hr.each k hk)).al, by rintro rfl; simp at hk, by rw [cpN, op_of hn]⟩)
    have HN := (show Hid (∀ k, cpN L k ≤ k) from cpN_le L)
    have HCa : Hid (∀ op w, op ≤ 23 → Calls Try.prog 52 #[.int .i64 op] w fun e w' => e = .returned (.bool (decide (17 ≤ op))) ∧ w' = w) := fun op w h => catches_any op h w
    clear hc HE hr
    go_wp2_with fail
    go_loopw [6, 7] (fun u t wr => ∃ k : Nat, k ≤ L.length ∧ t = .int .i64 k ∧ u = .int .i64 (cpN L k) ∧ Hid (Below w.heap.size w wr)) (fun _ t _ => L.length - (intOf t).toNat)
    case atStart => exact ⟨0, by omega, by go_num, rfl, HB⟩
    case round =>
      obtain ⟨k, hk, rfl, rfl, HW⟩ := hrel
      clear HB
      by_cases hlt : k < L.length
      · obtain ⟨n, hn, hop, hne, hcn⟩ := HG.out k hlt
        obtain ⟨g, o, rfl, lg, cl⟩ := HP.out hne
        have e1 := ((cl.same (HW.out.block g lg)) k n hn).c0
        have z0 : (0 : Int) ≤ (k : Int) := by omega
        have z1 : (k : Int) < (L.length : Int) := by omega
        have hcb := HN.out k
        have HCn := (show Hid (cpN L (k + 1) = cpN L k + if 17 ≤ n.op then 1 else 0) from hcn)
        have HOp := (show Hid (n.op ≤ 23) from hop)
        clear hn hne cl HG HP hcn HN hop
        by_cases h17 : 17 ≤ n.op
        · have d1 : decide (17 ≤ n.op) = true := decide_eq_true h17
          have HZ := (show Hid (((cpN L (k + 1) : Nat) : Int) = (cpN L k : Int) + 1) from by show ((_ : Nat) : Int) = _; rw [HCn.out, if_pos h17]; omega)
          clear HCn h17
          generalize cpN L k = m at *
          go_wp2_with fail
          refine (HCa.out _ _ HOp.out).mono ?_
          rintro e w4 ⟨rfl, rfl⟩
          rw [d1]
          clear HCa e1 d1
          go_wp2_with fail
          go_roundw
          case rel => exact ⟨k + 1, by omega, by go_num, by rw [HZ.out], HW⟩
          case measure => simp [intOf]; omega
        · have d1 : decide (17 ≤ n.op) = false := decide_eq_false h17
          have HZ := (show Hid (((cpN L (k + 1) : Nat) : Int) = (cpN L k : Int)) from by show ((_ : Nat) : Int) = _; rw [HCn.out, if_neg h17]; omega)
          clear HCn h17
          generalize cpN L k = m at *
          go_wp2_with fail
          refine (HCa.out _ _ HOp.out).mono ?_
          rintro e w4 ⟨rfl, rfl⟩
          rw [d1]
          clear HCa e1 d1
          go_wp2_with fail
          go_roundw
          case rel => exact ⟨k + 1, by omega, by go_num, by rw [HZ.out], HW⟩
          case measure => simp [intOf]; omega
      · obtain rfl : k = L.length := by omega
        clear HG HP HN HCa
        go_wp2_with fail
        go_ret2
        exact ⟨by rw [HI.out.1, HI.out.2]; rfl, HW.out⟩
  · have HI := (show Hid (cpE L = 0) from by show cpE L = _; rw [HE.out, if_neg hc])
    have t1 : ((ck L).2 != 0) = true := by rw [bne, beq_eq_false_iff_ne.2 hc]; rfl
    clear hc HE HP
    go_wp2_with fail
    go_ret2
    exact ⟨by rw [HI.out]; rfl, HB.out⟩
end Go.Proofs.Ytfomodpjdaclgaa
