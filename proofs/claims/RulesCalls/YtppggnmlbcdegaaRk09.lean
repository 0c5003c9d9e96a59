/- RulesCalls: of every grammar, number and name the law returns true: Find, Calls and Reach answer as the document says; no conditions. -/
import Derived.Test.YtppggnmlbcdegaaRk08
namespace Go.Proofs.Ytppggnmlbcdegaa.N
open Go.RowKit Go.Maps
open Go.Proofs.Ytppggnmlbcdegaa.T

open U (nI own_get own_slice wpList_app1 below_grown TT Out info_split)
set_option maxRecDepth 100000 in
set_option maxHeartbeats 4000000 in
theorem sameI_any (v1 v2 : Value) (B1 B2 n : Nat) (l : List Nat) (hl : n ≤ 100000) (w : World) (h1 : w.ownsRow B1 3 1 v1 n (l.map nI)) (h2 : w.ownsRow B2 3 1 v2 n (l.map nI)) :
    Calls Try.prog 22 #[v1, v2] w fun e w' => e = .returned (.bool true) ∧ Below w.heap.size w w' := by
  have form : ∀ (v : Value) (B : Nat), w.ownsRow B 3 1 v n (l.map nI) → ∃ A c, v = .slice A n c ∧ (0 < n → ∃ g, A = some ⟨g, 0, none⟩ ∧ g < w.heap.size ∧ ∀ (j : Nat) (x : Nat), l[j]? = some x → w.cell? ⟨g, j, none⟩ = some (nI x)) := fun v B h => by
    have hc := h
    rcases h.2 with ⟨rfl, h0⟩ | ⟨g, cap, cur, rfl, _⟩
    · exact ⟨none, 0, by rw [h0], fun q => by omega⟩
    · refine ⟨_, cap, rfl, fun _ => ⟨g, rfl, (hc.lt g rfl).2, fun j x hj => ?_⟩⟩
      have := hc.cells (g := g) rfl j (nI x) (by rw [List.getElem?_map, hj]; rfl)
      rwa [Addr.add_lit, Nat.zero_add] at this
  obtain ⟨A1, c1, rfl, f1⟩ := form v1 B1 h1
  obtain ⟨A2, c2, rfl, f2⟩ := form v2 B2 h2
  have hll : l.length = n := by have := h1.1; rw [List.length_map] at this; omega
  have H1 := (show Hid _ from f1)
  have H2 := (show Hid _ from f2)
  have HG := (show Hid (∀ k, k < n → ∃ x, l[k]? = some x) from fun k hk => ⟨_, List.getElem?_eq_getElem (by omega)⟩)
  clear h1 h2 form f1 f2 hll
  go_enter Try.func22, Try.ntmps22
  go_wp2_with fail
  go_loopw [5] (fun t wr => ∃ k : Nat, k ≤ n ∧ t = .int .i64 k ∧ Hid (Below w.heap.size w wr)) (fun t _ => n - (intOf t).toNat)
  case atStart => exact ⟨0, by omega, by go_num, Below.refl _ _⟩
  case round =>
    obtain ⟨k, hk, rfl, HW⟩ := hrel
    by_cases hlt : k < n
    · obtain ⟨x, hx⟩ := HG.out k hlt
      obtain ⟨g1, rfl, l1, q1⟩ := H1.out (by omega)
      obtain ⟨g2, rfl, l2, q2⟩ := H2.out (by omega)
      have e1 := (HW.out.cell (p := ⟨g1, k, none⟩) l1).trans (q1 k x hx)
      have e2 := (HW.out.cell (p := ⟨g2, k, none⟩) l2).trans (q2 k x hx)
      have z0 : (0 : Int) ≤ (k : Int) := by omega
      have z1 : (k : Int) < (n : Int) := by omega
      unfold nI at e1 e2
      clear HG H1 H2 q1 q2 hx
      go_wp2_with fail
      go_quiet (fail)
      have HW2 := (show Hid (Below w.heap.size w (wr.drewN nq)) from HW.out.trans (below_drewN (Below.refl _ _) _))
      generalize wr.drewN nq = w2 at *
      clear e1 e2 HW
      go_wp2
      go_roundw
      case rel => exact ⟨k + 1, by omega, by go_num, HW2⟩
      case measure => simp [intOf]; omega
    · obtain rfl : k = n := by omega
      clear HG H1 H2
      go_wp2
      go_ret
      exact ⟨rfl, HW.out⟩
theorem cG_lt {gs : GL} {i j : Nat} (q : cG gs i j = true) : i < gs.length ∧ j < gs.length := by
  unfold cG at q
  cases hg : gs[i]? with
  | none => rw [hg] at q; cases q
  | some g =>
    rw [hg] at q
    simp only [List.any_eq_true, Bool.and_eq_true, decide_eq_true_eq] at q
    obtain ⟨nd, _, _, h3⟩ := q
    exact ⟨(List.getElem?_eq_some_iff.1 hg).1, fdG_lt h3⟩
theorem ls_cM (gs : GL) (i : Nat) : lsB ((List.range gs.length).map (cG gs i)) = cL gs i := by
  unfold lsB cL
  rw [List.length_map, List.length_range]
  refine List.filter_congr fun j hj => ?_
  rw [List.getElem?_map, List.getElem?_range (List.mem_range.1 hj)]
  rfl
set_option maxRecDepth 100000 in
set_option maxHeartbeats 4000000 in
theorem callsD_any (gs : GL) (A : Option Addr) (c : Nat) (r : Int) (w : World) (hp : GI w A gs) :
    Calls Try.prog 19 #[.agg #[.slice A gs.length c], .int .i64 r] w fun e w' => (∃ v, e = .returned (.tuple #[v, .int .i64 (lkR gs r)]) ∧ w'.ownsRow w.heap.size 3 1 v (clR gs r).length ((clR gs r).map nI)) ∧ Below w.heap.size w w' := by
  obtain ⟨w1, hw1⟩ : ∃ w1, w1 = (w.alloc (.cells #[.slice A gs.length c] 24)) := ⟨_, rfl⟩
  have HB1 : Hid (Below w.heap.size w w1) := by show Below _ _ _; rw [hw1]; exact below_box _ _
  have HG1 : Hid (GX w1 w.heap.size (.slice A gs.length c)) := by show GX _ _ _; rw [hw1]; exact GX.mk (heap_alloc_new w _)
  have HN := (show Hid (∀ _ : Unit, Calls Try.prog 40 #[.agg #[.slice A gs.length c], .int .i64 r] w1 fun e w' => e = .returned (.int .i64 (lkR gs r)) ∧ Below w1.heap.size w1 w') from fun _ => lookD_any gs A c r w1 (hp.later HB1.out))
  have HP := (show Hid (GI w A gs) from hp)
  clear hp
  go_enter Try.func19, Try.ntmps19
  go_wp2_with fail
  rw [← hw1]
  refine (HN.out ()).mono ?_
  rintro e w3 ⟨rfl, b3⟩
  have HB := (show Hid (Below w.heap.size w w3) from HB1.out.trans (b3.mono HB1.out.size))
  have q1 := (HG1.out.below b3).cl
  clear HN b3 hw1 HB1 HG1
  by_cases hz : lkR gs r = 0
  · have tz : (lkR gs r != 0) = false := by rw [hz]; rfl
    obtain ⟨hR, r0, r1⟩ := lkR_zero hz
    obtain ⟨i, rfl⟩ : ∃ i : Nat, r = (i : Int) := ⟨r.toNat, by omega⟩
    have hi : i < gs.length := by omega
    have HRr := (show Hid (clR gs i = cL gs i) from by show clR gs i = _; unfold clR; rw [if_pos hz]; rfl)
    have HC := (show Hid (∀ _ : Unit, Calls Try.prog 42 #[.agg #[.slice A gs.length c]] w3 fun e w' => (∃ v xs, e = .returned v ∧ TT w' (w3.heap.size + 1) 45 4 v (bM (cM gs)) xs) ∧ Below w3.heap.size w3 w') from fun _ => callsT_any hR A c w3 (HP.out.later HB.out))
    have H200 := (show Hid (gs.length ≤ 200) from hR.n2)
    have HZ := (show Hid (lkR gs i = 0) from hz)
    clear hz HP hR
    generalize hcd : lkR gs i = cd at *
    have HCD := (show Hid (lkR gs i = cd) from hcd)
    clear hcd
    go_wp2_with fail
    refine (HC.out ()).mono ?_
    rintro e w4 ⟨⟨v, xs, rfl, hT⟩, b4⟩
    have HB4 := (show Hid (Below w.heap.size w w4) from HB.out.trans (b4.mono HB.out.size))
    have hlx : xs.length = gs.length := hT.len.trans ((bM_len _).trans (cM_len gs))
    obtain ⟨x, row, hx, hrow, hox⟩ := hT.at' (i := i) (by rw [bM_len, cM_len]; exact hi)
    rw [bM_get (cM_get hi)] at hrow
    cases hrow
    obtain ⟨g0, cv, rfl, _, _, x0, _⟩ := own_get hT.o hx
    rw [hlx]
    have HLs := (show Hid (∀ _ : Unit, Calls Try.prog 41 #[x] w4 fun e w' => (∃ u, e = .returned u ∧ w'.ownsRow w4.heap.size 3 1 u (cL gs i).length ((cL gs i).map nI)) ∧ Below w4.heap.size w4 w') from fun _ => by
      have h := listed_any ((List.range gs.length).map (cG gs i)) (by rw [List.length_map, List.length_range]; exact H200.out) (B4 := w3.heap.size + 1) (v := x) w4 (by rw [List.length_map] at hox; exact hox)
      rw [ls_cM] at h
      exact h)
    have z0 : (0 : Int) ≤ (i : Int) := by omega
    have z1 : (i : Int) < (gs.length : Int) := by omega
    clear HC b4 hT hlx hx hox HB q1
    go_wp2_with fail
    refine (HLs.out ()).mono ?_
    rintro e w5 ⟨⟨u, rfl, ho5⟩, b5⟩
    have HB5 := (show Hid (Below w.heap.size w w5) from HB4.out.trans (b5.mono HB4.out.size))
    have HO := (show Hid (w5.ownsRow w.heap.size 3 1 u (clR gs i).length ((clR gs i).map nI)) from by show World.ownsRow _ _ _ _ _ _ _; rw [HRr.out]; exact U.own_base ho5 HB4.out.size)
    clear HLs ho5 b5 HB4 x0
    go_wp2_with fail
    refine bodyPost_ret (v := .tuple #[u, .int .i64 0]) (by simp [results, Try.results19, go_sem]) rfl ⟨⟨u, by rw [HCD.out, HZ.out], HO.out⟩, HB5.out⟩
  · have tz : (lkR gs r != 0) = true := by rw [bne, beq_eq_false_iff_ne.2 hz]; rfl
    have HRr := (show Hid (clR gs r = []) from by show clR gs r = _; unfold clR; rw [if_neg hz])
    clear hz HP
    generalize hcd : lkR gs r = cd at *
    have HCD := (show Hid (lkR gs r = cd) from hcd)
    clear hcd
    go_wp2_with fail
    refine bodyPost_ret (v := .tuple #[.slice none 0 0, .int .i64 cd]) (by simp [results, Try.results19, go_sem]) rfl ⟨⟨_, by rw [HCD.out], by rw [HRr.out]; exact World.ownsRow_nil _ _ _ _⟩, HB.out⟩
set_option maxRecDepth 100000 in
set_option maxHeartbeats 4000000 in
theorem reachD_any (gs : GL) (A : Option Addr) (c : Nat) (r : Int) (w : World) (hp : GI w A gs) :
    Calls Try.prog 21 #[.agg #[.slice A gs.length c], .int .i64 r] w fun e w' => (∃ v l, e = .returned (.tuple #[v, .int .i64 (lkR gs r)]) ∧ RhR gs r l ∧ w'.ownsRow w.heap.size 3 1 v l.length (l.map nI)) ∧ Below w.heap.size w w' := by
  obtain ⟨w1, hw1⟩ : ∃ w1, w1 = (w.alloc (.cells #[.slice A gs.length c] 24)) := ⟨_, rfl⟩
  have HB1 : Hid (Below w.heap.size w w1) := by show Below _ _ _; rw [hw1]; exact below_box _ _
  have HG1 : Hid (GX w1 w.heap.size (.slice A gs.length c)) := by show GX _ _ _; rw [hw1]; exact GX.mk (heap_alloc_new w _)
  have HN := (show Hid (∀ _ : Unit, Calls Try.prog 40 #[.agg #[.slice A gs.length c], .int .i64 r] w1 fun e w' => e = .returned (.int .i64 (lkR gs r)) ∧ Below w1.heap.size w1 w') from fun _ => lookD_any gs A c r w1 (hp.later HB1.out))
  have HP := (show Hid (GI w A gs) from hp)
  clear hp
  go_enter Try.func21, Try.ntmps21
  go_wp2_with fail
  rw [← hw1]
  refine (HN.out ()).mono ?_
  rintro e w3 ⟨rfl, b3⟩
  have HB := (show Hid (Below w.heap.size w w3) from HB1.out.trans (b3.mono HB1.out.size))
  have q1 := (HG1.out.below b3).cl
  clear HN b3 hw1 HB1 HG1
  by_cases hz : lkR gs r = 0
  · have tz : (lkR gs r != 0) = false := by rw [hz]; rfl
    obtain ⟨hR, r0, r1⟩ := lkR_zero hz
    obtain ⟨i, rfl⟩ : ∃ i : Nat, r = (i : Int) := ⟨r.toNat, by omega⟩
    have hi : i < gs.length := by omega
    have HC := (show Hid (∀ _ : Unit, Calls Try.prog 45 #[.agg #[.slice A gs.length c]] w3 fun e w' => (∃ v xs M, e = .returned v ∧ TT w' w3.heap.size 45 4 v (bM M) xs ∧ Tb gs.length M ∧ IsR gs.length (cG gs) (tb M)) ∧ Below w3.heap.size w3 w') from fun _ => comes_any hR A c w3 (HP.out.later HB.out))
    have H200 := (show Hid (gs.length ≤ 200) from hR.n2)
    have HZ := (show Hid (lkR gs i = 0) from hz)
    clear hz HP hR
    generalize hcd : lkR gs i = cd at *
    have HCD := (show Hid (lkR gs i = cd) from hcd)
    clear hcd
    go_wp2_with fail
    refine (HC.out ()).mono ?_
    rintro e w4 ⟨⟨v, xs, M, rfl, hT, hTb, hI⟩, b4⟩
    have HB4 := (show Hid (Below w.heap.size w w4) from HB.out.trans (b4.mono HB.out.size))
    obtain ⟨l, hl, hll⟩ := hTb.at' hi
    have hlx : xs.length = gs.length := hT.len.trans ((bM_len _).trans hTb.len)
    obtain ⟨x, row, hx, hrow, hox⟩ := hT.at' (i := i) (by rw [bM_len, hTb.len]; exact hi)
    rw [bM_get hl] at hrow
    cases hrow
    rw [List.length_map, hll] at hox
    obtain ⟨g0, cv, rfl, _, _, x0, _⟩ := own_get hT.o hx
    rw [hlx]
    obtain ⟨gu, cu, rfl, lb, lu, xu, fu⟩ := own_get hox (j := i) (x := .bool ((l[i]?).getD false)) (by rw [List.getElem?_map, List.getElem?_eq_getElem (by omega)]; rfl)
    obtain ⟨st1, st2⟩ := hox.stored i (.bool true)
    have HW5 := (show Hid (Below w.heap.size w (w4.setCell ⟨gu, i, none⟩ (.bool true))) from below_grown HB4.out st2 (fun k e => by cases e; have := HB.out.size; omega))
    have HLs := (show Hid (IsRh gs i (lsB (l.set i true))) from isRh_of hll hi (fun j => by
      by_cases hj : j < gs.length
      · rw [← hI.rl i j hi hj, tb_of hl, List.getElem?_eq_getElem (by omega)]; simp
      · constructor
        · intro q; have := (List.getElem?_eq_some_iff.1 q).1; omega
        · intro q
          have := Rc.least (d := fun _ b => b < gs.length) (fun a b h => (cG_lt h).2) (fun a k b _ _ h => h) q
          omega))
    have HMk := (show Hid (∀ _ : Unit, Calls Try.prog 41 #[.slice (some ⟨gu, 0, none⟩) gs.length cu] (w4.setCell ⟨gu, i, none⟩ (.bool true)) fun e w' => (∃ u, e = .returned u ∧ w'.ownsRow (w4.setCell ⟨gu, i, none⟩ (.bool true)).heap.size 3 1 u (lsB (l.set i true)).length ((lsB (l.set i true)).map nI)) ∧ Below (w4.setCell ⟨gu, i, none⟩ (.bool true)).heap.size (w4.setCell ⟨gu, i, none⟩ (.bool true)) w') from fun _ => by
      refine listed_any (l.set i true) (by rw [List.length_set, hll]; exact H200.out) (B4 := w3.heap.size) (w4.setCell ⟨gu, i, none⟩ (.bool true)) ?_
      rw [List.length_set, hll, List.map_set]
      exact st1)
    have z0 : (0 : Int) ≤ (i : Int) := by omega
    have z1 : (i : Int) < (gs.length : Int) := by omega
    clear HC b4 hT hlx hx hox HB q1 hTb hI hl hll st1 st2 lb lu HB4
    go_wp2_with fail
    refine (HMk.out ()).mono ?_
    rintro e w6 ⟨⟨u6, rfl, ho6⟩, b6⟩
    have HB6 := (show Hid (Below w.heap.size w w6) from HW5.out.trans (b6.mono HW5.out.size))
    have HO6 := (show Hid (w6.ownsRow w.heap.size 3 1 u6 (lsB (l.set i true)).length ((lsB (l.set i true)).map nI)) from U.own_base ho6 HW5.out.size)
    clear ho6 b6 HMk HW5
    go_wp2_with fail
    refine bodyPost_ret (v := .tuple #[u6, .int .i64 0]) (by simp [results, Try.results21, go_sem]) rfl ⟨⟨u6, _, by rw [HCD.out, HZ.out], ⟨fun _ => HLs.out, fun q => absurd (HCD.out.trans HZ.out) q⟩, HO6.out⟩, HB6.out⟩
  · have tz : (lkR gs r != 0) = true := by rw [bne, beq_eq_false_iff_ne.2 hz]; rfl
    have HZ := (show Hid (lkR gs r ≠ 0) from hz)
    clear hz HP
    generalize hcd : lkR gs r = cd at *
    have HCD := (show Hid (lkR gs r = cd) from hcd)
    clear hcd
    go_wp2_with fail
    refine bodyPost_ret (v := .tuple #[.slice none 0 0, .int .i64 cd]) (by simp [results, Try.results21, go_sem]) rfl ⟨⟨_, [], by rw [HCD.out], ⟨fun q => absurd (HCD.out.symm.trans q) HZ.out, fun _ => rfl⟩, World.ownsRow_nil _ _ _ _⟩, HB.out⟩
end Go.Proofs.Ytppggnmlbcdegaa.N

namespace Go.Proofs.Ytppggnmlbcdegaa.N
open Go.RowKit Go.Maps
open Go.Proofs.Ytppggnmlbcdegaa.T

open U (nI)
theorem clR_len (gs : GL) (r : Int) : (clR gs r).length ≤ 100000 := by
  unfold clR
  split
  · rename_i h
    have h1 := cL_len gs r.toNat
    have h2 := (lkR_zero h).1.n2
    omega
  · exact Nat.zero_le _
theorem rhR_len {gs : GL} {r : Int} {l : List Nat} (h : RhR gs r l) : l.length ≤ 100000 := by
  by_cases q : lkR gs r = 0
  · have h1 := (h.1 q).len
    have h2 := (lkR_zero q).1.n2
    omega
  · rw [h.2 q]; exact Nat.zero_le _
set_option maxRecDepth 100000 in
set_option maxHeartbeats 8000000 in
theorem calls_law (gs : GL) (A : Option Addr) (c : Nat) (r : Int) (s : ByteArray) (hs : s.size ≤ 140737488355328) (w : World) (hg : GrIn w A c gs) : Calls Try.prog 4 #[.agg #[.slice A gs.length c], .int .i64 r, .string s] w fun e w' => e = .returned (.bool true) ∧ Below w.heap.size w w' := by
  have hl := hg.len
  obtain ⟨w0, hw0⟩ : ∃ w0, w0 = w.alloc (.cells #[.slice A gs.length c] 24) := ⟨_, rfl⟩
  have hb0 : Below w.heap.size w w0 := by rw [hw0]; exact below_box w _
  have HX0 := (show Hid (GX w0 w.heap.size (.slice A gs.length c)) from by rw [hw0]; exact GX.mk (heap_alloc_new w _))
  have HE0 := (show Hid (w.alloc (.cells #[.slice A gs.length c] 24) = w0) from hw0.symm)
  have hg0 : GrIn w0 A c gs := hg.later hb0
  have HLe : Hid (∀ _ : Unit, Calls Try.prog 9 #[.agg #[.slice A gs.length c]] w0 fun e w' => ∃ g cap ov, e = .returned (.agg #[.slice (some ⟨g, 0, none⟩) gs.length cap]) ∧ ov.map (·.1) = gs ∧ LgB w0 w' g cap ov) := fun _ => lendG_any gs A c w0 hg0
  have HK : Hid (∀ (w' : World) (g cap : Nat) (ov : List Le), ov.map (·.1) = gs → LgB w0 w' g cap ov → GrD w' A gs → Calls Try.prog 15 #[.agg #[.slice (some ⟨g, 0, none⟩) gs.length cap], .agg #[.slice A gs.length c]] w' fun e w'' => e = .returned (.bool true) ∧ Below w'.heap.size w' w'') := fun w' g cap ov h0 h1 h2 => keptG_any h0 (fun r hr => by
    obtain ⟨k, hk⟩ := List.getElem?_of_mem hr
    obtain ⟨_, _, h6, _⟩ := hg.each k r hk
    exact h6.2.2.2.1) hl h1 h2
  have HWk := (show Hid (∀ W, Calls Try.prog 12 #[] W fun e w' => e = .returned (.bool true) ∧ Below W.heap.size W w') from lives_any)
  have HP := (show Hid (GI w0 A gs) from hg0.gi)
  have HB0 := (show Hid (Below w.heap.size w w0) from hb0)
  have x0 := HX0.out.cl
  have HA1 : Hid (∀ (w' : World) (Ap : Option Addr) (cp : Nat), GI w' Ap gs → Calls Try.prog 16 #[.agg #[.slice Ap gs.length cp], .string s] w' fun e w'' => e = .returned (.tuple #[.int .i64 (fnR gs s).1, .int .i64 (fnR gs s).2]) ∧ Below w'.heap.size w' w'') := fun w' Ap cp h => findP_any gs Ap cp s hs w' h
  have HD1 : Hid (∀ (w' : World) (Ap : Option Addr) (cp : Nat), GI w' Ap gs → Calls Try.prog 17 #[.agg #[.slice Ap gs.length cp], .string s] w' fun e w'' => e = .returned (.tuple #[.int .i64 (fnR gs s).1, .int .i64 (fnR gs s).2]) ∧ Below w'.heap.size w' w'') := fun w' Ap cp h => findD_any gs Ap cp s w' h
  have HA2 : Hid (∀ (w' : World) (Ap : Option Addr) (cp : Nat), GI w' Ap gs → Calls Try.prog 18 #[.agg #[.slice Ap gs.length cp], .int .i64 r] w' fun e w'' => (∃ v, e = .returned (.tuple #[v, .int .i64 (lkR gs r)]) ∧ w''.ownsRow w'.heap.size 3 1 v (clR gs r).length ((clR gs r).map nI)) ∧ Below w'.heap.size w' w'') := fun w' Ap cp h => callsP_any gs Ap cp r w' h
  have HD2 : Hid (∀ (w' : World) (Ap : Option Addr) (cp : Nat), GI w' Ap gs → Calls Try.prog 19 #[.agg #[.slice Ap gs.length cp], .int .i64 r] w' fun e w'' => (∃ v, e = .returned (.tuple #[v, .int .i64 (lkR gs r)]) ∧ w''.ownsRow w'.heap.size 3 1 v (clR gs r).length ((clR gs r).map nI)) ∧ Below w'.heap.size w' w'') := fun w' Ap cp h => callsD_any gs Ap cp r w' h
  have HA3 : Hid (∀ (w' : World) (Ap : Option Addr) (cp : Nat), GI w' Ap gs → Calls Try.prog 20 #[.agg #[.slice Ap gs.length cp], .int .i64 r] w' fun e w'' => (∃ v l, e = .returned (.tuple #[v, .int .i64 (lkR gs r)]) ∧ RhR gs r l ∧ w''.ownsRow w'.heap.size 3 1 v l.length (l.map nI)) ∧ Below w'.heap.size w' w'') := fun w' Ap cp h => reachP_any gs Ap cp r w' h
  have HD3 : Hid (∀ (w' : World) (Ap : Option Addr) (cp : Nat), GI w' Ap gs → Calls Try.prog 21 #[.agg #[.slice Ap gs.length cp], .int .i64 r] w' fun e w'' => (∃ v l, e = .returned (.tuple #[v, .int .i64 (lkR gs r)]) ∧ RhR gs r l ∧ w''.ownsRow w'.heap.size 3 1 v l.length (l.map nI)) ∧ Below w'.heap.size w' w'') := fun w' Ap cp h => reachD_any gs Ap cp r w' h
  have HLa := (show Hid ((clR gs r).length ≤ 100000) from clR_len gs r)
  generalize (fnR gs s).1 = f1 at *
  generalize (fnR gs s).2 = f2 at *
  clear hg hl hg0 hw0 hb0
  go_enter Try.func4, Try.ntmps4
  go_wp2_with (rw [HE0.out])
  refine (HLe.out ()).mono ?_
  rintro e w1 ⟨g, cap, ov, rfl, hm, ho⟩
  have HM := (show Hid (ov.map (·.1) = gs) from hm)
  obtain ⟨w2, hw2⟩ : ∃ w2, w2 = w1.alloc (.cells #[.slice (some ⟨g, 0, none⟩) gs.length cap] 24) := ⟨_, rfl⟩
  have HE2 := (show Hid (w1.alloc (.cells #[.slice (some ⟨g, 0, none⟩) gs.length cap] 24) = w2) from hw2.symm)
  have HS2 := (show Hid (LyS w0 w2 w.heap.size w1.heap.size (.slice A gs.length c) (.slice (some ⟨g, 0, none⟩) gs.length cap) g cap ov) from by
    have hb : Below w1.heap.size w1 w2 := by rw [hw2]; exact below_box w1 _
    have hX1 : GX w1 w.heap.size (.slice A gs.length c) := HX0.out.same (ho.b.block _ HX0.out.lt)
    exact ⟨ho.later hb, hX1.below hb, by rw [hw2]; exact GX.mk (heap_alloc_new w1 _)⟩)
  have y1 := HS2.out.x1.cl
  have y2 := HS2.out.x2.cl
  have HIn := (show Hid (∀ W, LyS w0 W w.heap.size w1.heap.size (.slice A gs.length c) (.slice (some ⟨g, 0, none⟩) gs.length cap) g cap ov → GI W (some ⟨g, 0, none⟩) gs ∧ GI W A gs) from fun W h => ⟨⟨h.l.gr HM.out, HP.out.l, HP.out.t⟩, HP.out.later h.l.b⟩)
  clear ho hm HLe hw2 x0 HX0
  go_wp2_with (rw [HE2.out])
  generalize w1.heap.size = k1 at *
  refine (HA1.out w2 _ _ (HIn.out _ HS2.out).1).mono ?_
  rintro e w3 ⟨rfl, b3⟩
  have HS3 := (show Hid (LyS w0 w3 w.heap.size k1 (.slice A gs.length c) (.slice (some ⟨g, 0, none⟩) gs.length cap) g cap ov) from HS2.out.later b3)
  clear b3 HS2 y1 y2 HA1 HE2
  have y1 := HS3.out.x1.cl
  have y2 := HS3.out.x2.cl
  go_wp2_with fail
  refine (HD1.out w3 _ _ (HIn.out _ HS3.out).2).mono ?_
  rintro e w4 ⟨rfl, b4⟩
  have HS4 := (show Hid (LyS w0 w4 w.heap.size k1 (.slice A gs.length c) (.slice (some ⟨g, 0, none⟩) gs.length cap) g cap ov) from HS3.out.later b4)
  clear b4 HS3 y1 y2 HD1
  have y1 := HS4.out.x1.cl
  have y2 := HS4.out.x2.cl
  go_wp2_with fail
  refine (HA2.out w4 _ _ (HIn.out _ HS4.out).1).mono ?_
  rintro e w5 ⟨⟨va, rfl, oa⟩, b5⟩
  have HS5 := (show Hid (LyS w0 w5 w.heap.size k1 (.slice A gs.length c) (.slice (some ⟨g, 0, none⟩) gs.length cap) g cap ov) from HS4.out.later b5)
  generalize w4.heap.size = ba at oa
  have HOa_5 := (show Hid (World.ownsRow w5 ba 3 1 va (clR gs r).length ((clR gs r).map nI)) from oa)
  clear b5 HS4 y1 y2 HA2 oa
  have y1 := HS5.out.x1.cl
  have y2 := HS5.out.x2.cl
  go_wp2_with fail
  refine (HD2.out w5 _ _ (HIn.out _ HS5.out).2).mono ?_
  rintro e w6 ⟨⟨vb, rfl, ob⟩, b6⟩
  have HS6 := (show Hid (LyS w0 w6 w.heap.size k1 (.slice A gs.length c) (.slice (some ⟨g, 0, none⟩) gs.length cap) g cap ov) from HS5.out.later b6)
  have HOa_6 := (show Hid (World.ownsRow w6 ba 3 1 va (clR gs r).length ((clR gs r).map nI)) from U.own_below HOa_5.out b6)
  generalize w5.heap.size = bb at ob
  have HOb_6 := (show Hid (World.ownsRow w6 bb 3 1 vb (clR gs r).length ((clR gs r).map nI)) from ob)
  clear b6 HS5 HOa_5 y1 y2 HD2 ob
  have y1 := HS6.out.x1.cl
  have y2 := HS6.out.x2.cl
  go_wp2_with fail
  refine (HA3.out w6 _ _ (HIn.out _ HS6.out).1).mono ?_
  rintro e w7 ⟨⟨vc, lc, rfl, rc, oc⟩, b7⟩
  have HS7 := (show Hid (LyS w0 w7 w.heap.size k1 (.slice A gs.length c) (.slice (some ⟨g, 0, none⟩) gs.length cap) g cap ov) from HS6.out.later b7)
  have HOa_7 := (show Hid (World.ownsRow w7 ba 3 1 va (clR gs r).length ((clR gs r).map nI)) from U.own_below HOa_6.out b7)
  have HOb_7 := (show Hid (World.ownsRow w7 bb 3 1 vb (clR gs r).length ((clR gs r).map nI)) from U.own_below HOb_6.out b7)
  generalize w6.heap.size = bc at oc
  have HRc := (show Hid (RhR gs r lc) from rc)
  clear rc
  have HOc_7 := (show Hid (World.ownsRow w7 bc 3 1 vc lc.length (lc.map nI)) from oc)
  clear b7 HS6 HOa_6 HOb_6 y1 y2 HA3 oc
  have y1 := HS7.out.x1.cl
  have y2 := HS7.out.x2.cl
  go_wp2_with fail
  refine (HD3.out w7 _ _ (HIn.out _ HS7.out).2).mono ?_
  rintro e w8 ⟨⟨vd, ld, rfl, rd, od⟩, b8⟩
  have HS8 := (show Hid (LyS w0 w8 w.heap.size k1 (.slice A gs.length c) (.slice (some ⟨g, 0, none⟩) gs.length cap) g cap ov) from HS7.out.later b8)
  have HOa_8 := (show Hid (World.ownsRow w8 ba 3 1 va (clR gs r).length ((clR gs r).map nI)) from U.own_below HOa_7.out b8)
  have HOb_8 := (show Hid (World.ownsRow w8 bb 3 1 vb (clR gs r).length ((clR gs r).map nI)) from U.own_below HOb_7.out b8)
  have HOc_8 := (show Hid (World.ownsRow w8 bc 3 1 vc lc.length (lc.map nI)) from U.own_below HOc_7.out b8)
  generalize w7.heap.size = bd at od
  obtain rfl : lc = ld := HRc.out.same rd
  clear rd
  have HOd_8 := (show Hid (World.ownsRow w8 bd 3 1 vd lc.length (lc.map nI)) from od)
  clear b8 HS7 HOa_7 HOb_7 HOc_7 y1 y2 HD3 od
  have y1 := HS8.out.x1.cl
  have y2 := HS8.out.x2.cl
  go_wp2_with fail
  refine (HWk.out w8).mono ?_
  rintro e w9 ⟨rfl, b9⟩
  have HS9 := (show Hid (LyS w0 w9 w.heap.size k1 (.slice A gs.length c) (.slice (some ⟨g, 0, none⟩) gs.length cap) g cap ov) from HS8.out.later b9)
  have HOa_9 := (show Hid (World.ownsRow w9 ba 3 1 va (clR gs r).length ((clR gs r).map nI)) from U.own_below HOa_8.out b9)
  have HOb_9 := (show Hid (World.ownsRow w9 bb 3 1 vb (clR gs r).length ((clR gs r).map nI)) from U.own_below HOb_8.out b9)
  have HOc_9 := (show Hid (World.ownsRow w9 bc 3 1 vc lc.length (lc.map nI)) from U.own_below HOc_8.out b9)
  have HOd_9 := (show Hid (World.ownsRow w9 bd 3 1 vd lc.length (lc.map nI)) from U.own_below HOd_8.out b9)
  clear b9 HS8 HOa_8 HOb_8 HOc_8 HOd_8 y1 y2 HWk
  have HLc := (show Hid (lc.length ≤ 100000) from rhR_len HRc.out)
  clear HRc
  have y1 := HS9.out.x1.cl
  have y2 := HS9.out.x2.cl
  go_wp2_with fail
  refine (sameI_any _ _ _ _ _ (clR gs r) HLa.out w9 HOa_9.out HOb_9.out).mono ?_
  rintro e w10 ⟨rfl, b10⟩
  have HS10 := (show Hid (LyS w0 w10 w.heap.size k1 (.slice A gs.length c) (.slice (some ⟨g, 0, none⟩) gs.length cap) g cap ov) from HS9.out.later b10)
  have HOa_10 := (show Hid (World.ownsRow w10 ba 3 1 va (clR gs r).length ((clR gs r).map nI)) from U.own_below HOa_9.out b10)
  have HOb_10 := (show Hid (World.ownsRow w10 bb 3 1 vb (clR gs r).length ((clR gs r).map nI)) from U.own_below HOb_9.out b10)
  have HOc_10 := (show Hid (World.ownsRow w10 bc 3 1 vc lc.length (lc.map nI)) from U.own_below HOc_9.out b10)
  have HOd_10 := (show Hid (World.ownsRow w10 bd 3 1 vd lc.length (lc.map nI)) from U.own_below HOd_9.out b10)
  clear b10 HS9 HOa_9 HOb_9 HOc_9 HOd_9 y1 y2 
  have y1 := HS10.out.x1.cl
  have y2 := HS10.out.x2.cl
  go_wp2_with fail
  refine (sameI_any _ _ _ _ _ lc HLc.out w10 HOc_10.out HOd_10.out).mono ?_
  rintro e w11 ⟨rfl, b11⟩
  have HS11 := (show Hid (LyS w0 w11 w.heap.size k1 (.slice A gs.length c) (.slice (some ⟨g, 0, none⟩) gs.length cap) g cap ov) from HS10.out.later b11)
  have HOa_11 := (show Hid (World.ownsRow w11 ba 3 1 va (clR gs r).length ((clR gs r).map nI)) from U.own_below HOa_10.out b11)
  have HOb_11 := (show Hid (World.ownsRow w11 bb 3 1 vb (clR gs r).length ((clR gs r).map nI)) from U.own_below HOb_10.out b11)
  have HOc_11 := (show Hid (World.ownsRow w11 bc 3 1 vc lc.length (lc.map nI)) from U.own_below HOc_10.out b11)
  have HOd_11 := (show Hid (World.ownsRow w11 bd 3 1 vd lc.length (lc.map nI)) from U.own_below HOd_10.out b11)
  clear b11 HS10 HOa_10 HOb_10 HOc_10 HOd_10 y1 y2 
  have y1 := HS11.out.x1.cl
  have y2 := HS11.out.x2.cl
  go_wp2_with fail
  refine (HK.out _ g cap ov HM.out HS11.out.l (HP.out.d.later HS11.out.l.b)).mono ?_
  rintro e wz ⟨rfl, bz⟩
  have HBz := (show Hid (Below w.heap.size w wz) from HB0.out.trans ((HS11.out.l.b.trans (bz.mono HS11.out.l.b.size)).mono HB0.out.size))
  clear bz HK HS11 HP y1 y2 HOa_11 HOb_11 HOc_11 HOd_11
  go_wp2_with fail
  go_ret
  exact ⟨rfl, HBz.out⟩
end Go.Proofs.Ytppggnmlbcdegaa.N

namespace Go.Proofs.Ytppggnmlbcdegaa
open Go.ChangeShapes Go.WideShapes Go.ChangeAt Go.RowKit
open Go.ChangeMaps (open_string shut_string)
set_option maxRecDepth 100000 in
theorem rulesCalls_lifted (os : Os) (started : os.Started) (H : Type) (enc : TypeId × Value → H) :
    ReturnsInHanded {} Try.checked os 4 .any (Rows.rulesCallsSpec.pre6 enc Try.prog Try.f4 Rows.rulesCallsRow.domain false) (Rows.rulesCallsSpec.post enc Try.prog Try.f4 false true false false) := by
  refine returnsInHanded_of_change_sized (C := Try.checked) T.own started (by kernel_rfl) Try.func4
    (ChangeSpec.witness6 (enc := enc) (C := Try.checked) false ⟨#[], #[.agg #[.slice none 0 0], .int .i64 0, .string ByteArray.empty], []⟩ 8 (by kernel_rfl) (by kernel_rfl) (by kernel_rfl) (by kernel_rfl)) ?_
  intro W base args ds gs before hval0 hW hcnd hsz _
  have hval : ∀ (j : Nat) t v, Try.f4.params[j]? = some t → args[j]? = some v → Value.okWide Try.prog W .any base t v := hval0
  have hW' := hW
  obtain ⟨p, q, hA0, hV, rfl, hfz, hnd⟩ := hW
  have hA : DataW.TrodAll enc Try.prog W 0 (fun _ => true) true Try.f4.params.toList args.toList ds p := hA0
  rw [Try.params4] at hA hval
  have hsz : (DataW.weightsEach Try.prog (#[24, 3, 9].toList ++ Rows.rulesCallsSpec.plain.varTypes Try.prog) (ds ++ gs)).all (· ≤ reachBytes) = true := hsz
  obtain ⟨v0, v1, v2, d0, d1, d2, p0, p1, p2, rfl, rfl, rfl, h0, h1, h2⟩ := trodAll_three hA
  obtain ⟨rfl, rfl⟩ := trodVars_none hV
  have lt0 : ∀ x ∈ p0, x.block < W.heap.size := by obtain ⟨m, hm⟩ := h0; exact DataW.trod_lt m _ _ _ hm
  obtain ⟨A0, c0, L0, rfl, r0⟩ := N.open_gram h0 (hval 0 24 v0 rfl rfl) (T.sized_at hsz (j := 0) rfl rfl)
  obtain ⟨n1, rfl, rfl, rfl, wm1⟩ := open_int Try.underlying3 (hval 1 3 v1 rfl rfl) h1
  have sz2 := T.sized_at hsz (j := 2) rfl rfl
  obtain ⟨s2, rfl, rfl, rfl, hs2⟩ := open_string Try.underlying9 (hval 2 9 v2 rfl rfl) h2
  have hb2 : s2.size ≤ 140737488355328 := by
    have hr : reachBytes = 140737488351232 := by decide
    have h := sz2 s2.size (by simp only [DataW.weights, List.mem_singleton]; rw [Array.length_toList]; rfl)
    rw [hr] at h
    omega
  clear hA0 hval0
  refine (N.calls_law L0 A0 c0 n1 s2 hb2 W r0).mono fun e W' ⟨he, bel⟩ => ?_
  subst he
  exact ⟨_, rfl, _, _, _, [], _, [], hW', trodAll_mk1 (shut_bool Try.underlying4 _), (trodAll_cons_mk (Below.trod T.laidOut (by kernel_rfl) (of_decide_eq_true (by kernel_rfl)) h0 bel lt0) (trodAll_cons_mk (shut_int Try.underlying3 wm1) (trodAll_cons_mk (shut_string Try.underlying9 hs2) trodAll_mk0))), rfl, bel.frame _, fun h => by cases h⟩

theorem rulesCalls_holds : Rows.RulesCallsSaid :=
  OpenClaim.holds_of_wide 4 Try.f4 rfl rfl rfl rfl rfl rfl rfl ⟨rfl, rfl, rfl, rfl, rfl⟩ rfl rfl rfl rfl rfl (by kernel_rfl) Try.func4 (by kernel_rfl)
    (of_decide_eq_true (by kernel_rfl)) (by unfold Func.isWrapper; first | (rw [if_pos (by decide +kernel)]; kernel_rfl) | (rw [if_neg (by decide +kernel)]; exact ⟨rfl, rfl⟩))
    (fun os started H enc _ => rulesCalls_lifted os started H enc)
end Go.Proofs.Ytppggnmlbcdegaa
