/- DERIVED. Walks: whether two patterns are the same; Check; lives. -/
import Derived.Test.YtfomodpjdaclgaaThB
import Derived.Shelf.Abstract
namespace Go.Proofs.Ytfomodpjdaclgaa
open Go.RowKit

def decNd (a b:Nd):Decidable (a = b):=if h:a.op = b.op ∧ a.nn = b.nn ∧ a.tx.data = b.tx.data ∧ a.s0 = b.s0 ∧ a.s1 = b.s1 ∧ a.s2 = b.s2 ∧ a.s3 = b.s3 then isTrue (by
  obtain ⟨h1,h2,h3,h4,h5,h6,h7⟩ := h
  obtain ⟨a1,a2,⟨a3⟩,a4,a5,a6,a7⟩ := a
  obtain ⟨b1,b2,⟨b3⟩,b4,b5,b6,b7⟩ := b
  dsimp only at h1 h2 h3 h4 h5 h6 h7
  subst h1 h2 h3 h4 h5 h6 h7
  rfl) else isFalse (fun e => h (by rw [e];exact ⟨rfl,rfl,rfl,rfl,rfl,rfl,rfl⟩))
def decPt (L M:List Nd):Decidable (L = M):=@instDecidableEqList Nd decNd L M
def patB (L M:List Nd):Bool:=@decide (L = M) (decPt L M)
theorem patB_t {L M : List Nd} (hl : L.length = M.length) (h : ∀ j : Nat, j < L.length → L[j]? = M[j]?) : patB L M = true := by
  unfold patB
  refine @decide_eq_true _ (decPt _ _) (List.ext_getElem? fun j => ?_)
  by_cases q : j < L.length
  · exact h j q
  · rw [List.getElem?_eq_none (by omega), List.getElem?_eq_none (by omega)]
theorem patB_f {L M : List Nd} (j : Nat) (h : L[j]? ≠ M[j]?) : patB L M = false := by
  unfold patB
  exact @decide_eq_false _ (decPt _ _) (fun e => h (by rw [e]))
theorem patB_ne {L M : List Nd} (h : ¬ L.length = M.length) : patB L M = false := by
  unfold patB
  exact @decide_eq_false _ (decPt _ _) (fun e => h (by rw [e]))
theorem patB_refl (L : List Nd) : patB L L = true := by
  unfold patB
  exact @decide_eq_true _ (decPt _ _) rfl

set_option maxRecDepth 100000 in
set_option maxHeartbeats 8000000 in
theorem equal_any (A1 A2 : Option Addr) (c1 c2 : Nat) (L M : List Nd) (hl : L.length ≤ 140737488355328) (hm : M.length ≤ 140737488355328) (w : World) (h1 : RdN w A1 L) (h2 : RdN w A2 M) :
    Calls Try.prog 44 #[.slice A1 L.length c1, .slice A2 M.length c2] w fun e w' => e = .returned (.bool (patB L M)) ∧ Below w.heap.size w w' := by
  by_cases hne : L.length = M.length
  · have t0 : ((L.length : Int) != (M.length : Int)) = false := by rw [bne, beq_iff_eq.2 (by omega)]; rfl
    have HT := (show Hid ((∀ j : Nat, j < L.length → L[j]? = M[j]?) → patB L M = true) from fun h => patB_t hne h)
    have HF := (show Hid (∀ j : Nat, L[j]? ≠ M[j]? → patB L M = false) from fun j h => patB_f j h)
    have H1 := (show Hid _ from h1)
    have H2 := (show Hid _ from h2)
    have HG := (show Hid (∀ k, k < L.length → ∃ m n, L[k]? = some m ∧ M[k]? = some n ∧ L ≠ [] ∧ M ≠ []) from fun k hk => ⟨_, _, List.getElem?_eq_getElem hk, List.getElem?_eq_getElem (by omega), by rintro rfl; simp at hk, by rintro rfl; rw [hne] at hk; simp at hk⟩)
    have hle : (L.length : Int) = (M.length : Int) := by omega
    clear h1 h2 hne
    go_enter Try.func44, Try.ntmps44
    go_wp2_with fail
    go_loopw [13] (fun t wr => ∃ k : Nat, k ≤ L.length ∧ t = .int .i64 k ∧ Hid (∀ j : Nat, j < k → L[j]? = M[j]?) ∧ Hid (Below w.heap.size w wr)) (fun t _ => L.length - (intOf t).toNat)
    case atStart => exact ⟨0, by omega, by go_num, fun j q => by omega, Below.refl _ _⟩
    case round =>
      obtain ⟨k, hk, rfl, HI, HW⟩ := hrel
      by_cases hlt : k < L.length
      · obtain ⟨m, n, hm1, hn1, nl, nm⟩ := HG.out k hlt
        obtain ⟨g1, o1, rfl, l1, q1⟩ := H1.out nl
        obtain ⟨g2, o2, rfl, l2, q2⟩ := H2.out nm
        obtain ⟨a0, a1, a2, a3, a4, a5, a6⟩ := (q1.same (HW.out.block g1 l1)) k m hm1
        obtain ⟨d0, d1, d2, d3, d4, d5, d6⟩ := (q2.same (HW.out.block g2 l2)) k n hn1
        have z0 : (0 : Int) ≤ (k : Int) := by omega
        have z1 : (k : Int) < (L.length : Int) := by omega
        have z2 : (k : Int) < (M.length : Int) := by omega
        have HN := (show Hid (L[k]? = some m ∧ M[k]? = some n) from ⟨hm1, hn1⟩)
        clear HG H1 H2 q1 q2 nl nm hm1 hn1 hle
        have hneq := node_neq m n
        cases he : ndE m n with
        | true =>
          rw [he] at hneq
          have HI2 := (show Hid (∀ j : Nat, j < k + 1 → L[j]? = M[j]?) from fun j hj => by
            by_cases q : j < k
            · exact HI.out j q
            · obtain rfl : j = k := by omega
              rw [HN.out.1, HN.out.2, ndE_eq he])
          clear HT HF HI he HN
          go_wp2_with fail
          go_quiet (fail)
          have HW2 := (show Hid (Below w.heap.size w (wr.drewN nq)) from HW.out.trans (below_drewN (Below.refl _ _) _))
          generalize wr.drewN nq = w2 at *
          clear hneq a0 a1 a2 a3 a4 a5 a6 d0 d1 d2 d3 d4 d5 d6 HW
          go_wp2_with fail
          go_roundw
          case rel => exact ⟨k + 1, by omega, by go_num, HI2, HW2⟩
          case measure => simp [intOf]; omega
        | false =>
          rw [he] at hneq
          have HE := (show Hid (patB L M = false) from HF.out k (by
            rw [HN.out.1, HN.out.2]
            intro e
            have e2 : m = n := Option.some.inj e
            rw [ndE_iff.2 e2] at he
            cases he))
          clear HT HF HI he HN
          go_wp2_with fail
          go_quiet (fail)
          have HW2 := (show Hid (Below w.heap.size w (wr.drewN nq)) from HW.out.trans (below_drewN (Below.refl _ _) _))
          generalize wr.drewN nq = w2 at *
          clear hneq a0 a1 a2 a3 a4 a5 a6 d0 d1 d2 d3 d4 d5 d6 HW
          go_wp2_with fail
          go_ret
          exact ⟨by rw [HE.out]; rfl, HW2.out⟩
      · obtain rfl : k = L.length := by omega
        have HE := (show Hid (patB L M = true) from HT.out HI.out)
        clear HG H1 H2 HT HF HI
        go_wp2_with fail
        go_ret
        exact ⟨by rw [HE.out]; rfl, HW.out⟩
  · have t0 : ((L.length : Int) != (M.length : Int)) = true := by rw [bne, beq_eq_false_iff_ne.2 (by omega)]; rfl
    have HE := (show Hid (patB L M = false) from patB_ne hne)
    clear h1 h2 hne
    go_enter Try.func44, Try.ntmps44
    go_wp2_with fail
    go_ret
    exact ⟨by rw [HE.out]; rfl, Below.refl _ _⟩

set_option maxRecDepth 100000 in
set_option maxHeartbeats 8000000 in
theorem samePattern_any (A1 A2 : Option Addr) (c1 c2 : Nat) (L M : List Nd) (hl : L.length ≤ 140737488355328) (hm : M.length ≤ 140737488355328) (w : World) (h1 : RdN w A1 L) (h2 : RdN w A2 M) :
    Calls Try.prog 24 #[.slice A1 L.length c1, .slice A2 M.length c2] w fun e w' => e = .returned (.bool (patB L M)) ∧ Below w.heap.size w w' := by
  by_cases hne : L.length = M.length
  · have t0 : ((L.length : Int) != (M.length : Int)) = false := by rw [bne, beq_iff_eq.2 (by omega)]; rfl
    have HT := (show Hid ((∀ j : Nat, j < L.length → L[j]? = M[j]?) → patB L M = true) from fun h => patB_t hne h)
    have HF := (show Hid (∀ j : Nat, L[j]? ≠ M[j]? → patB L M = false) from fun j h => patB_f j h)
    have H1 := (show Hid _ from h1)
    have H2 := (show Hid _ from h2)
    have HG := (show Hid (∀ k, k < L.length → ∃ m n, L[k]? = some m ∧ M[k]? = some n ∧ L ≠ [] ∧ M ≠ []) from fun k hk => ⟨_, _, List.getElem?_eq_getElem hk, List.getElem?_eq_getElem (by omega), by rintro rfl; simp at hk, by rintro rfl; rw [hne] at hk; simp at hk⟩)
    have hle : (L.length : Int) = (M.length : Int) := by omega
    clear h1 h2 hne
    go_enter Try.func24, Try.ntmps24
    go_wp2_with fail
    go_loopw [5] (fun t wr => ∃ k : Nat, k ≤ L.length ∧ t = .int .i64 k ∧ Hid (∀ j : Nat, j < k → L[j]? = M[j]?) ∧ Hid (Below w.heap.size w wr)) (fun t _ => L.length - (intOf t).toNat)
    case atStart => exact ⟨0, by omega, by go_num, fun j q => by omega, Below.refl _ _⟩
    case round =>
      obtain ⟨k, hk, rfl, HI, HW⟩ := hrel
      by_cases hlt : k < L.length
      · obtain ⟨m, n, hm1, hn1, nl, nm⟩ := HG.out k hlt
        obtain ⟨g1, o1, rfl, l1, q1⟩ := H1.out nl
        obtain ⟨g2, o2, rfl, l2, q2⟩ := H2.out nm
        obtain ⟨a0, a1, a2, a3, a4, a5, a6⟩ := (q1.same (HW.out.block g1 l1)) k m hm1
        obtain ⟨d0, d1, d2, d3, d4, d5, d6⟩ := (q2.same (HW.out.block g2 l2)) k n hn1
        have z0 : (0 : Int) ≤ (k : Int) := by omega
        have z1 : (k : Int) < (L.length : Int) := by omega
        have z2 : (k : Int) < (M.length : Int) := by omega
        have HN := (show Hid (L[k]? = some m ∧ M[k]? = some n) from ⟨hm1, hn1⟩)
        clear HG H1 H2 q1 q2 nl nm hm1 hn1 hle
        have hneq := node_neq m n
        cases he : ndE m n with
        | true =>
          rw [he] at hneq
          have HI2 := (show Hid (∀ j : Nat, j < k + 1 → L[j]? = M[j]?) from fun j hj => by
            by_cases q : j < k
            · exact HI.out j q
            · obtain rfl : j = k := by omega
              rw [HN.out.1, HN.out.2, ndE_eq he])
          clear HT HF HI he HN
          go_wp2_with fail
          go_quiet (fail)
          have HW2 := (show Hid (Below w.heap.size w (wr.drewN nq)) from HW.out.trans (below_drewN (Below.refl _ _) _))
          generalize wr.drewN nq = w2 at *
          clear hneq a0 a1 a2 a3 a4 a5 a6 d0 d1 d2 d3 d4 d5 d6 HW
          go_wp2_with fail
          go_roundw
          case rel => exact ⟨k + 1, by omega, by go_num, HI2, HW2⟩
          case measure => simp [intOf]; omega
        | false =>
          rw [he] at hneq
          have HE := (show Hid (patB L M = false) from HF.out k (by
            rw [HN.out.1, HN.out.2]
            intro e
            have e2 : m = n := Option.some.inj e
            rw [ndE_iff.2 e2] at he
            cases he))
          clear HT HF HI he HN
          go_wp2_with fail
          go_quiet (fail)
          have HW2 := (show Hid (Below w.heap.size w (wr.drewN nq)) from HW.out.trans (below_drewN (Below.refl _ _) _))
          generalize wr.drewN nq = w2 at *
          clear hneq a0 a1 a2 a3 a4 a5 a6 d0 d1 d2 d3 d4 d5 d6 HW
          go_wp2_with fail
          go_ret
          exact ⟨by rw [HE.out]; rfl, HW2.out⟩
      · obtain rfl : k = L.length := by omega
        have HE := (show Hid (patB L M = true) from HT.out HI.out)
        clear HG H1 H2 HT HF HI
        go_wp2_with fail
        go_ret
        exact ⟨by rw [HE.out]; rfl, HW.out⟩
  · have t0 : ((L.length : Int) != (M.length : Int)) = true := by rw [bne, beq_eq_false_iff_ne.2 (by omega)]; rfl
    have HE := (show Hid (patB L M = false) from patB_ne hne)
    clear h1 h2 hne
    go_enter Try.func24, Try.ntmps24
    go_wp2_with fail
    go_ret
    exact ⟨by rw [HE.out]; rfl, Below.refl _ _⟩

set_option maxRecDepth 100000 in
set_option maxHeartbeats 1000000 in
theorem same_any (A1 A2 : Option Addr) (c1 c2 : Nat) (L M : List Nd) (hl : L.length ≤ 140737488355328) (hm : M.length ≤ 140737488355328) (w : World) (h1 : RdN w A1 L) (h2 : RdN w A2 M) :
    Calls Try.prog 26 #[.slice A1 L.length c1, .slice A2 M.length c2] w fun e w' => e = .returned (.bool (patB L M)) ∧ Below w.heap.size w w' := by
  have H : Hid (∀ _ : Unit, Calls Try.prog 44 #[.slice A1 L.length c1, .slice A2 M.length c2] w fun e w' => e = .returned (.bool (patB L M)) ∧ Below w.heap.size w w') := fun _ => equal_any A1 A2 c1 c2 L M hl hm w h1 h2
  clear h1 h2 hl hm
  go_enter Try.func26, Try.ntmps26
  go_wp2_with fail
  refine (H.out ()).mono ?_
  rintro e w2 ⟨rfl, b2⟩
  clear H
  have HB := (show Hid _ from b2)
  clear b2
  go_wp2_with fail
  go_ret
  exact ⟨rfl, HB.out⟩

theorem enters37 (args : Array Value) (w : World) : (callFunc 37 args).run Try.prog w = .ok (.enter 37 args) w := enters_of Try.func37 (by kernel_rfl) rfl args w
set_option maxRecDepth 100000 in
set_option maxHeartbeats 1000000 in
theorem check1_any (p : Pt) (v : Value) (w : World) : Calls Try.prog 37 #[ptG p, v] w fun e w' => (∃ u, e = .returned u) ∧ Below w.heap.size w w' := by
  have HB := (show Hid (Below w.heap.size w (w.alloc (.cells #[.int .i64 p.1, .int .i64 p.2.1, .int .i64 p.2.2] 59))) from below_box _ _)
  go_enter Try.func37, Try.ntmps37
  go_wp2_with fail
  go_end0
  exact ⟨⟨_, rfl⟩, HB.out⟩
theorem see37 (L : List Nd) (Bc B : Nat) : See L 37 #[] Bc B (fun _ X _ => ∀ b, ¬ X b) :=
  ⟨fun _ _ _ _ h _ _ => h, fun _ _ _ h b q => absurd q (h b), fun k X w A c h _ _ _ _ _ => (check1_any (pt L k) (.slice A (arN (opAt L k)) c) w).mono fun _e _w' ⟨he, hb⟩ => ⟨he, X, h, ⟨hb.os, hb.tape, hb.output, hb.size, fun b hlt _ => hb.block b hlt⟩, fun _b q => .inl q⟩⟩

set_option maxRecDepth 100000 in
set_option maxHeartbeats 1000000 in
theorem check_any (L : List Nd) (Ap : Option Addr) (cp : Nat) (hL : L.length ≤ 140737488355328) (hT : ∀ n ∈ L, n.tx.size ≤ 140737488355328) (w : World) (hp : RdN w Ap L) :
    Calls Try.prog 10 #[.slice Ap L.length cp] w fun e w' => e = .returned (.tuple #[.int .i64 (ck L).1, .int .i64 (ck L).2]) ∧ Below w.heap.size w w' := by
  have H : Hid (∀ _ : Unit, Calls Try.prog 36 #[.slice Ap L.length cp, .func (.func 37) #[] #[]] w fun e w' => e = .returned (.tuple #[.int .i64 (ck L).1, .int .i64 (ck L).2]) ∧ Below w.heap.size w w' ∧ ∃ (k : Nat) (X : Nat → Prop), (∀ b, ¬ X b) ∧ ((ck L).2 = 0 → k = L.length)) := (fun _ => through_any L 37 #[] (fun _ X _ => ∀ b, ¬ X b) Ap cp w.heap.size hL hT w (Nat.le_refl _) hp (fun hne a ha => by
    obtain ⟨g, o, e, lt, _⟩ := hp hne
    rw [e] at ha
    cases ha
    exact lt) enters37 (see37 L _ _) (fun _ => False) (fun _ q => q))
  clear hp hT hL
  go_enter Try.func10, Try.ntmps10
  go_wp2_with fail
  refine (H.out ()).mono ?_
  rintro e w2 ⟨rfl, b2, _⟩
  clear H
  have HB := (show Hid _ from b2)
  clear b2
  go_wp2_with fail
  go_ret2
  exact ⟨rfl, HB.out⟩

end Go.Proofs.Ytfomodpjdaclgaa
