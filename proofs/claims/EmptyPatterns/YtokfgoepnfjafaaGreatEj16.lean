/- EmptyPatterns (9.2): of any grammar and any pattern, what the program tells of the pattern is what the document tells, and both stay as they are; for grammars and patterns within the reach of the form. -/
import Derived.BigQuiet
import Derived.Test.YtokfgoepnfjafaaGreatEj15
namespace Go.Proofs.YtokfgoepnfjafaaGreat.N
open Go.RowKit Go.Maps
open Go.Proofs.YtokfgoepnfjafaaGreat.T
def OfD (gs : GL) (L : List Nd) (x : Em) (cd : Int) : Prop := ((ckG gs).2 ≠ 0 → cd = (ckG gs).2 ∧ x = e0) ∧ ((ckG gs).2 = 0 → ((ck L).2 ≠ 0 → cd = (ck L).2 ∧ x = e0) ∧ ((ck L).2 = 0 → ((∃ n ∈ L, n.op = 6 ∧ fdG gs n.tx = none) → cd = 81 ∧ x = e0) ∧ ((∀ n ∈ L, n.op = 6 → ∃ i, fdG gs n.tx = some i) → cd = 0 ∧ ∃ now, KnD gs now ∧ x = EE (lkE gs now) L (L.length - 1))))
structure OdS (w W : World) (u : Value) : Prop where
  b : Below w.heap.size w W
  g : GX W w.heap.size u
  z : EX W (w.heap.size + 1) e0
theorem OdS.later {w W W' : World} {u : Value} (h : OdS w W u) (hb : Below W.heap.size W W') : OdS w W' u := ⟨h.b.trans (hb.mono h.b.size), h.g.below hb, h.z.below hb⟩
theorem OdS.ret {w W : World} {u : Value} (h : OdS w W u) (f : Em) : EX (st4 W (w.heap.size + 1) f) (w.heap.size + 1) f ∧ Below w.heap.size w (st4 W (w.heap.size + 1) f) := ⟨h.z.all f, st4_below h.b (by omega) f⟩
set_option maxRecDepth 100000 in
set_option maxHeartbeats 32000000 in
theorem ofD_any (gs : GL) (A : Option Addr) (c : Nat) (L : List Nd) (Ap : Option Addr) (cp : Nat) (hL : L.length ≤ 140737488355328) (hT : ∀ n ∈ L, n.tx.size ≤ 140737488355328) (w : World) (hp : GI w A gs) (hr : RdN w Ap L) :
    Calls Tryz.prog 15 #[.agg #[.slice A gs.length c], .slice Ap L.length cp] w fun e w' => (∃ x cd, e = .returned (.tuple #[emG x, .int .i64 cd]) ∧ OfD gs L x cd) ∧ Below w.heap.size w w' := by
  obtain ⟨w1, hw1⟩ : ∃ w1, w1 = (w.alloc (.cells #[.slice A gs.length c] 24)).alloc (.cells #[.bool false, .bool false, .int .i64 0, .int .i64 0] 33) := ⟨_, rfl⟩
  have HE1 := (show Hid ((w.alloc (.cells #[.slice A gs.length c] 24)).alloc (.cells #[.bool false, .bool false, .int .i64 0, .int .i64 0] 33) = w1) from hw1.symm)
  have HS1 := (show Hid (OdS w w1 (.slice A gs.length c)) from by
    have s1 := World.size_alloc w (.cells #[.slice A gs.length c] 24)
    refine ⟨by rw [hw1]; exact ((Below.refl _ _).alloc (Nat.le_refl _) _).alloc (by omega) _, by rw [hw1]; exact (GX.mk (heap_alloc_new w _)).below (below_box _ _), ?_⟩
    have h := EX.new (w.alloc (.cells #[.slice A gs.length c] 24)) e0
    rw [s1] at h
    rw [hw1]; exact h)
  have q1 := HS1.out.g.cl
  have HP := (show Hid (GI w A gs) from hp)
  have HN := (show Hid (∀ _ : Unit, Calls Tryz.prog 18 #[.agg #[.slice A gs.length c]] w1 fun e w' => e = .returned (.tuple #[.agg #[.int .i64 (ckG gs).1.1, .int .i64 (ckG gs).1.2], .int .i64 (ckG gs).2]) ∧ Below w1.heap.size w1 w') from fun _ => checkD_any gs A c w1 (hp.later HS1.out.b))
  have HTt := (show Hid (L.length ≤ 140737488355328 ∧ (∀ n ∈ L, n.tx.size ≤ 140737488355328) ∧ RdN w Ap L) from ⟨hL, hT, hr⟩)
  clear hw1 hp hL hT hr
  go_enter Tryz.func15, Tryz.ntmps15
  go_wp2_with (rw [HE1.out])
  refine (HN.out ()).mono ?_
  rintro e w3 ⟨rfl, b3⟩
  obtain ⟨w4, hw4⟩ : ∃ w4, w4 = w3.alloc (.cells #[.int .i64 ((ckG gs).1.1 : Int), .int .i64 ((ckG gs).1.2 : Int)] 52) := ⟨_, rfl⟩
  have HE4 := (show Hid (w3.alloc (.cells #[.int .i64 ((ckG gs).1.1 : Int), .int .i64 ((ckG gs).1.2 : Int)] 52) = w4) from hw4.symm)
  have HS4 := (show Hid (OdS w w4 (.slice A gs.length c)) from by show OdS _ _ _; rw [hw4]; exact (HS1.out.later b3).later (below_box _ _))
  have q4 := HS4.out.g.cl
  have f0 := HS4.out.z.fz 0
  have f1 := HS4.out.z.fz 1
  have f2 := HS4.out.z.fz 2
  have f3 := HS4.out.z.fz 3
  have z0 : w4.cell? ⟨w.heap.size + 1, 0, none⟩ = some (.bool false) := HS4.out.z.eb.c0
  have z1 : w4.cell? ⟨w.heap.size + 1, 1, none⟩ = some (.bool false) := HS4.out.z.eb.c1
  have z2 : w4.cell? ⟨w.heap.size + 1, 2, none⟩ = some (.int .i64 0) := HS4.out.z.eb.c2
  have z3 : w4.cell? ⟨w.heap.size + 1, 3, none⟩ = some (.int .i64 0) := HS4.out.z.eb.c3
  clear HN b3 HS1 hw4 HE1 q1
  by_cases hz : (ckG gs).2 = 0
  · have tz : ((ckG gs).2 != 0) = false := by rw [hz]; rfl
    have HZ := (show Hid ((ckG gs).2 = 0) from hz)
    have HR := (show Hid (RtG gs) from ckG_ok.1 hz)
    clear hz
    generalize hcd : (ckG gs).2 = cd at tz ⊢
    clear hcd
    have HC4 := (show Hid (∀ _ : Unit, Calls Tryz.prog 24 #[.slice Ap L.length cp] w4 fun e w' => e = .returned (.tuple #[.int .i64 (ck L).1, .int .i64 (ck L).2]) ∧ Below w4.heap.size w4 w') from fun _ => checkR_any L Ap cp HTt.out.1 HTt.out.2.1 w4 (HTt.out.2.2.below HS4.out.b (Nat.le_refl _)))
    clear f0 f1 f2 f3 z0 z1 z2 z3 q4
    go_wp2_with (rw [HE4.out])
    refine (HC4.out ()).mono ?_
    rintro e w5 ⟨rfl, b5⟩
    have HS5 := (show Hid (OdS w w5 (.slice A gs.length c)) from HS4.out.later b5)
    clear HC4 b5 HS4 HE4
    by_cases hc : (ck L).2 = 0
    · have tc : ((ck L).2 != 0) = false := by rw [hc]; rfl
      have HC := (show Hid ((ck L).2 = 0) from hc)
      have hrt := rt_of hc
      have HRt := (show Hid (Rt L) from hrt)
      have hlen : L.length ≤ 2048 := by have := hrt.len; omega
      have hne : L ≠ [] := by rintro rfl; have := hrt.one; simp [run] at this
      have hpos : 0 < L.length := List.length_pos_iff.2 hne
      obtain ⟨gp, op, rfl, lp, cl⟩ := HTt.out.2.2 hne
      have HCl := (show Hid (NdL w gp op L ∧ gp < w.heap.size) from ⟨cl, lp⟩)
      obtain ⟨jl, hjl⟩ : ∃ j, L.length = j + 1 := ⟨L.length - 1, by omega⟩
      have HJl := (show Hid (L.length = jl + 1) from hjl)
      have hsub : (L.length : Int) - 1 = (jl : Int) := by omega
      have HG := (show Hid (∀ k, k < L.length → ∃ n, L[k]? = some n) from fun k hk => ⟨_, List.getElem?_eq_getElem hk⟩)
      clear hc hrt hne hpos lp cl hjl
      generalize hcc : (ck L).2 = cc at tc ⊢
      clear hcc
      go_wp2_with fail
      go_loopw [10] (fun t wr => ∃ k : Nat, k ≤ L.length ∧ t = .int .i64 (k : Int) ∧ Hid (OdS w wr (.slice A gs.length c)) ∧ Hid (∀ (j : Nat) n, j < k → L[j]? = some n → n.op = 6 → ∃ i, fdG gs n.tx = some i)) (fun t _ => L.length - (intOf t).toNat)
      case atStart => exact ⟨0, by omega, by go_num, HS5, fun j n hj => by omega⟩
      case round =>
        obtain ⟨k, hk, rfl, HW, HJ⟩ := hrel
        clear HS5
        by_cases hlt : k < L.length
        · obtain ⟨n, hn⟩ := HG.out k hlt
          obtain ⟨a0, a1, a2, a3, a4, a5, a6⟩ := (HCl.out.1.same (HW.out.b.block gp HCl.out.2)) k n hn
          have y0 : (0 : Int) ≤ (k : Int) := by omega
          have y1 : (k : Int) < (L.length : Int) := by omega
          have HNn := (show Hid (L[k]? = some n) from hn)
          by_cases h6 : n.op = 6
          · have t6 : (n.op == 6) = true := by rw [h6]; rfl
            have HF : Hid (∀ W, Below wr.heap.size wr W → Calls Tryz.prog 25 #[.agg #[.slice A gs.length c], .string n.tx] W fun e w' => e = .returned (.int .i64 (fdN gs n.tx)) ∧ Below wr.heap.size wr w') := fun W hW => (find9_any gs A c n.tx W ((HP.out.later HW.out.b).later hW)).mono fun e w' p => ⟨p.1, hW.trans (p.2.mono hW.size)⟩
            have HKe := (show Hid (∀ W, Below wr.heap.size wr W → W.cell? ⟨w.heap.size, 0, none⟩ = some (.slice A gs.length c) ∧ W.cell? ⟨gp, op + k * 7, none⟩ = some (.int .i64 n.op) ∧ W.cell? ⟨gp, op + k * 7 + 2, none⟩ = some (.string n.tx)) from fun W hW => ⟨(HW.out.g.below hW).cl, (hW.cell (p := ⟨gp, op + k * 7, none⟩) (Nat.lt_of_lt_of_le HCl.out.2 HW.out.b.size)).trans a0, (hW.cell (p := ⟨gp, op + k * 7 + 2, none⟩) (Nat.lt_of_lt_of_le HCl.out.2 HW.out.b.size)).trans a2⟩)
            have q1 := HW.out.g.cl
            have H6 := (show Hid (n.op = 6) from h6)
            obtain ⟨fv, hfv⟩ : ∃ fv, fv = fdN gs n.tx := ⟨_, rfl⟩
            have HFv := (show Hid (fv = fdN gs n.tx) from hfv)
            rw [← hfv] at HF
            clear hn h6 hfv
            go_wp2_with fail
            go_region_held3 (fun W => W.cell? ⟨w.heap.size, 0, none⟩ = some (.slice A gs.length c) ∧ W.cell? ⟨gp, op + k * 7, none⟩ = some (.int .i64 n.op) ∧ W.cell? ⟨gp, op + k * 7 + 2, none⟩ = some (.string n.tx)) (first | go_keep | exact HKe.out _ b6) (first | (go_at_call 25; with_reducible refine (HF.out _ (Below.refl _ _).drew).mono ?_; rintro e w6 ⟨rfl, b6⟩))
            all_goals
              rename_i hHeld
              have HW6 := (show Hid (OdS w w6 (.slice A gs.length c)) from HW.out.later b6)
              clear hHeld b6 HKe HF HW q1 a0 a1 a2 a3 a4 a5 a6 t6
              cases hf : fdG gs n.tx with
              | none =>
                have tf : fv < 0 := by rw [HFv.out, fdN_none hf]; decide
                have HE := (show Hid (∃ n ∈ L, n.op = 6 ∧ fdG gs n.tx = none) from ⟨n, List.mem_of_getElem? HNn.out, H6.out, hf⟩)
                have HQ := (show Hid _ from HW6.out.ret e0)
                have f0 := HW6.out.z.fz 0
                have f1 := HW6.out.z.fz 1
                have f2 := HW6.out.z.fz 2
                have f3 := HW6.out.z.fz 3
                have z0 : w6.cell? ⟨w.heap.size + 1, 0, none⟩ = some (.bool false) := HW6.out.z.eb.c0
                have z1 : w6.cell? ⟨w.heap.size + 1, 1, none⟩ = some (.bool false) := HW6.out.z.eb.c1
                have z2 : w6.cell? ⟨w.heap.size + 1, 2, none⟩ = some (.int .i64 0) := HW6.out.z.eb.c2
                have z3 : w6.cell? ⟨w.heap.size + 1, 3, none⟩ = some (.int .i64 0) := HW6.out.z.eb.c3
                clear hf HW6 HJ HG HCl HR HP
                go_wp2_with fail
                refine ret_ex2 (s := 4) (t := 5) (k := w.heap.size + 1) (e := e0) (x := .int .i64 81) (by rfl) (by rfl) (by rfl) (by rfl) HQ.out.1 ?_
                exact ⟨⟨e0, 81, rfl, fun q => absurd HZ.out q, fun _ => ⟨fun q => absurd HC.out q, fun _ => ⟨(fun _ => ⟨rfl, rfl⟩), (fun q => by
                  obtain ⟨m, hm, h6, hno⟩ := HE.out
                  obtain ⟨i, hi⟩ := q m hm h6
                  rw [hno] at hi; cases hi)⟩⟩⟩, HQ.out.2⟩
              | some i =>
                have tf : ¬ fv < 0 := by rw [HFv.out, fdN_some hf]; omega
                have HJ2 := (show Hid (∀ (j : Nat) n, j < k + 1 → L[j]? = some n → n.op = 6 → ∃ i, fdG gs n.tx = some i) from fun j m hj hm h6 => by
                  by_cases e : j = k
                  · subst e
                    have h := HNn.out
                    rw [hm] at h
                    cases h
                    exact ⟨i, hf⟩
                  · exact HJ.out j m (by omega) hm h6)
                clear hf HJ HNn HFv H6
                go_wp2_with fail
                go_roundw
                case rel => exact ⟨k + 1, by omega, by go_num, HW6, HJ2⟩
                case measure => simp [intOf]; omega
          · have t6 : (n.op == 6) = false := beq_eq_false_iff_ne.2 h6
            have HJ2 := (show Hid (∀ (j : Nat) n, j < k + 1 → L[j]? = some n → n.op = 6 → ∃ i, fdG gs n.tx = some i) from fun j m hj hm g6 => by
              by_cases e : j = k
              · subst e
                rw [hn] at hm
                cases hm
                exact absurd g6 h6
              · exact HJ.out j m (by omega) hm g6)
            clear hn h6 HJ HNn
            go_wp2_with fail
            go_big_quiet (fail)
            have HW2 := (show Hid (OdS w (wr.drewN nq) (.slice A gs.length c)) from HW.out.later (below_dn _))
            generalize wr.drewN nq = w6 at *
            clear a0 a1 a2 a3 a4 a5 a6 HW t6
            go_wp2_with fail
            go_roundw
            case rel => exact ⟨k + 1, by omega, by go_num, HW2, HJ2⟩
            case measure => simp [intOf]; omega
        · obtain rfl : k = L.length := by omega
          have HFd := (show Hid (∀ n ∈ L, n.op = 6 → ∃ i, fdG gs n.tx = some i) from fun n hn h6 => by
            obtain ⟨j, hj⟩ := List.getElem?_of_mem hn
            exact HJ.out j n (List.getElem?_eq_some_iff.1 hj).1 hj h6)
          have HAl := (show Hid (∀ _ : Unit, Calls Tryz.prog 21 #[.agg #[.slice A gs.length c], .slice (some ⟨gp, op, none⟩) L.length cp] wr fun e w' => (∃ gv cv now, e = .returned (.slice (some ⟨gv, 0, none⟩) L.length cv) ∧ Hid (KnD gs now ∧ EB w' gv (jl * 4) (EE (lkE gs now) L jl))) ∧ Below wr.heap.size wr w') from fun _ => by
            refine (allD_any HR.out HRt.out HTt.out.2.1 HFd.out A (some ⟨gp, op, none⟩) c cp wr (HP.out.later HW.out.b) (HTt.out.2.2.below HW.out.b (Nat.le_refl _))).mono ?_
            rintro e w' ⟨⟨v, now, rfl, hk, ho⟩, b⟩
            obtain ⟨gv, cv, rfl, _, _⟩ := ho.form (by rw [HJl.out]; omega)
            refine ⟨⟨gv, cv, now, rfl, hk, ?_⟩, b⟩
            exact own_eb (xs := []) (by rw [List.append_nil]; exact ho) jl _ (by rw [List.getElem?_map, List.getElem?_range (by rw [HJl.out]; omega)]; rfl))
          have q1 := HW.out.g.cl
          have y2 : (0 : Int) ≤ (jl : Int) := by omega
          have y3 : (jl : Int) < (L.length : Int) := by omega
          clear HJ HG HCl HR HP HRt
          go_wp2_with fail
          refine (HAl.out ()).mono ?_
          rintro e w6 ⟨⟨gv, cv, now, rfl, hA⟩, b6⟩
          have HW6 := (show Hid (OdS w w6 (.slice A gs.length c)) from HW.out.later b6)
          obtain ⟨⟨en, ec, el, em⟩, hE⟩ : ∃ e, e = EE (lkE gs now) L jl := ⟨_, rfl⟩
          have hEB := hA.out.2
          rw [← hE] at hEB
          obtain ⟨k0, k1, k2, k3⟩ := hEB
          simp only at k0 k1 k2 k3
          have HH := (show Hid (KnD gs now ∧ (⟨en, ec, el, em⟩ : Em) = EE (lkE gs now) L (L.length - 1)) from ⟨hA.out.1, by rw [HJl.out]; exact hE⟩)
          have HQ := (show Hid _ from HW6.out.ret ⟨en, ec, el, em⟩)
          have f0 := HW6.out.z.fz 0
          have f1 := HW6.out.z.fz 1
          have f2 := HW6.out.z.fz 2
          have f3 := HW6.out.z.fz 3
          have z0 : w6.cell? ⟨w.heap.size + 1, 0, none⟩ = some (.bool false) := HW6.out.z.eb.c0
          have z1 : w6.cell? ⟨w.heap.size + 1, 1, none⟩ = some (.bool false) := HW6.out.z.eb.c1
          have z2 : w6.cell? ⟨w.heap.size + 1, 2, none⟩ = some (.int .i64 0) := HW6.out.z.eb.c2
          have z3 : w6.cell? ⟨w.heap.size + 1, 3, none⟩ = some (.int .i64 0) := HW6.out.z.eb.c3
          clear HAl hA b6 hE HW HW6 q1
          go_wp2_with fail
          refine ret_ex2 (s := 4) (t := 5) (k := w.heap.size + 1) (e := ⟨en, ec, el, em⟩) (x := .int .i64 0) (by rfl) (by rfl) (by rfl) (by rfl) HQ.out.1 ?_
          exact ⟨⟨⟨en, ec, el, em⟩, 0, rfl, fun q => absurd HZ.out q, fun _ => ⟨fun q => absurd HC.out q, fun _ => ⟨(fun q => by
            obtain ⟨m, hm, h6, hno⟩ := q
            obtain ⟨i, hi⟩ := HFd.out m hm h6
            rw [hno] at hi; cases hi), (fun _ => ⟨rfl, now, HH.out.1, HH.out.2⟩)⟩⟩⟩, HQ.out.2⟩
    · have tc : ((ck L).2 != 0) = true := by rw [bne, beq_eq_false_iff_ne.2 hc]; rfl
      have HC := (show Hid ((ck L).2 ≠ 0) from hc)
      have HQ := (show Hid _ from HS5.out.ret e0)
      have f0 := HS5.out.z.fz 0
      have f1 := HS5.out.z.fz 1
      have f2 := HS5.out.z.fz 2
      have f3 := HS5.out.z.fz 3
      have z0 : w5.cell? ⟨w.heap.size + 1, 0, none⟩ = some (.bool false) := HS5.out.z.eb.c0
      have z1 : w5.cell? ⟨w.heap.size + 1, 1, none⟩ = some (.bool false) := HS5.out.z.eb.c1
      have z2 : w5.cell? ⟨w.heap.size + 1, 2, none⟩ = some (.int .i64 0) := HS5.out.z.eb.c2
      have z3 : w5.cell? ⟨w.heap.size + 1, 3, none⟩ = some (.int .i64 0) := HS5.out.z.eb.c3
      clear hc HS5 HR HP
      generalize hcc : (ck L).2 = cc at tc ⊢
      have HCC := (show Hid ((ck L).2 = cc) from hcc)
      clear hcc
      go_wp2_with fail
      refine ret_ex2 (s := 4) (t := 5) (k := w.heap.size + 1) (e := e0) (x := .int .i64 cc) (by rfl) (by rfl) (by rfl) (by rfl) HQ.out.1 ?_
      exact ⟨⟨e0, cc, rfl, fun q => absurd HZ.out q, fun _ => ⟨fun _ => ⟨HCC.out.symm, rfl⟩, fun q => absurd q HC.out⟩⟩, HQ.out.2⟩
  · have tz : ((ckG gs).2 != 0) = true := by rw [bne, beq_eq_false_iff_ne.2 hz]; rfl
    have HZ := (show Hid ((ckG gs).2 ≠ 0) from hz)
    have HQ := (show Hid _ from HS4.out.ret e0)
    clear hz HP HS4
    generalize hcd : (ckG gs).2 = cd at tz ⊢
    have HCD := (show Hid ((ckG gs).2 = cd) from hcd)
    clear hcd
    go_wp2_with (rw [HE4.out])
    refine ret_ex2 (s := 4) (t := 5) (k := w.heap.size + 1) (e := e0) (x := .int .i64 cd) (by rfl) (by rfl) (by rfl) (by rfl) HQ.out.1 ?_
    exact ⟨⟨e0, cd, rfl, fun _ => ⟨HCD.out.symm, rfl⟩, fun q => absurd q HZ.out⟩, HQ.out.2⟩
end Go.Proofs.YtokfgoepnfjafaaGreat.N

namespace Go.Proofs.YtokfgoepnfjafaaGreat.N
open Go.RowKit Go.Maps
open Go.Proofs.YtokfgoepnfjafaaGreat.T

open U (own_get own_slice below_grown)
theorem of_same {gs : GL} {L : List Nd} {x y : Em} {c d : Int} (h1 : OfR gs L x c) (h2 : OfD gs L y d) : x = y ∧ c = d := by
  by_cases hz : (ckG gs).2 = 0
  · obtain ⟨p1, p2⟩ := h1.2 hz
    obtain ⟨q1, q2⟩ := h2.2 hz
    by_cases hc : (ck L).2 = 0
    · obtain ⟨p3, p4⟩ := p2 hc
      obtain ⟨q3, q4⟩ := q2 hc
      by_cases hu : ∃ n ∈ L, n.op = 6 ∧ fdG gs n.tx = none
      · exact ⟨(p3 hu).2.trans (q3 hu).2.symm, (p3 hu).1.trans (q3 hu).1.symm⟩
      · have hf : ∀ n ∈ L, n.op = 6 → ∃ i, fdG gs n.tx = some i := fun n hn h6 => by
          cases e : fdG gs n.tx with
          | none => exact absurd ⟨n, hn, h6, e⟩ hu
          | some i => exact ⟨i, rfl⟩
        obtain ⟨e1, n1, k1, rfl⟩ := p4 hf
        obtain ⟨e2, n2, k2, rfl⟩ := q4 hf
        have := kn_same (ckG_ok.1 hz) k1 k2
        subst this
        exact ⟨rfl, e1.trans e2.symm⟩
    · exact ⟨(p1 hc).2.trans (q1 hc).2.symm, (p1 hc).1.trans (q1 hc).1.symm⟩
  · exact ⟨(h1.1 hz).2.trans (h2.1 hz).2.symm, (h1.1 hz).1.trans (h2.1 hz).1.symm⟩
set_option maxRecDepth 100000 in
set_option maxHeartbeats 32000000 in
theorem patterns_law (gs : GL) (A : Option Addr) (c : Nat) (L : List Nd) (Ap : Option Addr) (cp : Nat) (w : World) (hg : GrIn w A c gs) (hi : T.InP w Ap cp L) (h64 : L.length * 64 ≤ 140737488351232) (hT : ∀ n ∈ L, n.tx.size ≤ 140737488351232) : Calls Tryz.prog 4 #[.agg #[.slice A gs.length c], .slice Ap L.length cp] w fun e w' => e = .returned (.bool true) ∧ Below w.heap.size w w' := by
  have hl := hg.len
  obtain ⟨w0, hw0⟩ : ∃ w0, w0 = w.alloc (.cells #[.slice A gs.length c] 24) := ⟨_, rfl⟩
  have hb0 : Below w.heap.size w w0 := by rw [hw0]; exact below_box w _
  have HX0 := (show Hid (GX w0 w.heap.size (.slice A gs.length c)) from by rw [hw0]; exact GX.mk (heap_alloc_new w _))
  have HE0 := (show Hid (w.alloc (.cells #[.slice A gs.length c] 24) = w0) from hw0.symm)
  have hg0 : GrIn w0 A c gs := hg.later hb0
  have HLe : Hid (∀ _ : Unit, Calls Tryz.prog 5 #[.agg #[.slice A gs.length c]] w0 fun e w' => ∃ g cap ov, e = .returned (.agg #[.slice (some ⟨g, 0, none⟩) gs.length cap]) ∧ ov.map (·.1) = gs ∧ LgB w0 w' g cap ov) := fun _ => lendG_any gs A c w0 hg0
  have HK : Hid (∀ (w' : World) (g cap : Nat) (ov : List Le), ov.map (·.1) = gs → LgB w0 w' g cap ov → GrD w' A gs → Calls Tryz.prog 11 #[.agg #[.slice (some ⟨g, 0, none⟩) gs.length cap], .agg #[.slice A gs.length c]] w' fun e w'' => e = .returned (.bool true) ∧ Below w'.heap.size w' w'') := fun w' g cap ov h0 h1 h2 => keptG_any h0 (fun r hr => by
    obtain ⟨k, hk⟩ := List.getElem?_of_mem hr
    obtain ⟨_, _, h6, _⟩ := hg.each k r hk
    exact h6.2.2.2.1) hl h1 h2
  have HWk := (show Hid (∀ W, Calls Tryz.prog 12 #[] W fun e w' => e = .returned (.bool true) ∧ Below W.heap.size W w') from works_any)
  have HP := (show Hid (GI w0 A gs) from hg0.gi)
  have HB0 := (show Hid (Below w.heap.size w w0) from hb0)
  have x0 := HX0.out.cl
  have HA : Hid (∀ (w' : World) (A1 A2 : Option Addr) (c1 c2 : Nat), GI w' A1 gs → RdN w' A2 L → Calls Tryz.prog 14 #[.agg #[.slice A1 gs.length c1], .slice A2 L.length c2] w' fun e w'' => (∃ x cd, e = .returned (.tuple #[emG x, .int .i64 cd]) ∧ OfR gs L x cd) ∧ Below w'.heap.size w' w'') := fun w' A1 A2 c1 c2 h1 h2 => ofP_any gs A1 c1 L A2 c2 (by omega) (fun n hn => by have := hT n hn; omega) w' h1 h2
  have HD : Hid (∀ (w' : World) (A1 A2 : Option Addr) (c1 c2 : Nat), GI w' A1 gs → RdN w' A2 L → Calls Tryz.prog 15 #[.agg #[.slice A1 gs.length c1], .slice A2 L.length c2] w' fun e w'' => (∃ x cd, e = .returned (.tuple #[emG x, .int .i64 cd]) ∧ OfD gs L x cd) ∧ Below w'.heap.size w' w'') := fun w' A1 A2 c1 c2 h1 h2 => ofD_any gs A1 c1 L A2 c2 (by omega) (fun n hn => by have := hT n hn; omega) w' h1 h2
  have HKp : Hid (∀ (w' : World) (gp pc B : Nat), RdN w' Ap L → T.LentR w' B gp pc L → Calls Tryz.prog 16 #[.slice (some ⟨gp, 0, none⟩) L.length pc, .slice Ap L.length cp] w' fun e w'' => e = .returned (.bool true) ∧ Below w'.heap.size w' w'') := fun w' gp pc B h1 h2 => T.kept_any Ap cp gp pc B L h64 w' h1 h2
  have HLp : Hid (∀ (w' : World), Below w.heap.size w w' → Calls Tryz.prog 13 #[.slice Ap L.length cp] w' fun e w'' => T.Lent w' w'' L e ∧ Below w'.heap.size w' w'') := fun w' hb => T.lend_any Ap cp L w' h64 ⟨hi.1.below hb (Nat.le_refl _), hi.2⟩
  have HRp := (show Hid (RdN w Ap L) from hi.1)
  clear hi h64 hT
  clear hg hl hg0 hw0 hb0
  go_enter Tryz.func4, Tryz.ntmps4
  go_wp2_with (rw [HE0.out])
  refine (HLe.out ()).mono ?_
  rintro e w1 ⟨g, cap, ov, rfl, hm, ho⟩
  have HM := (show Hid (ov.map (·.1) = gs) from hm)
  have HBw1 := (show Hid (Below w.heap.size w w1) from HB0.out.trans (ho.b.mono HB0.out.size))
  have HX1 := (show Hid (GX w1 w.heap.size (.slice A gs.length c)) from HX0.out.same (ho.b.block _ HX0.out.lt))
  have HO1 := (show Hid (LgB w0 w1 g cap ov) from ho)
  clear ho hm HLe x0 HE0
  go_wp2_with fail
  refine (HLp.out w1 HBw1.out).mono ?_
  rintro e w2 ⟨⟨gp, pc, rfl, hlp⟩, b2⟩
  obtain ⟨w3, hw3⟩ : ∃ w3, w3 = w2.alloc (.cells #[.slice (some ⟨g, 0, none⟩) gs.length cap] 24) := ⟨_, rfl⟩
  have HE3 := (show Hid (w2.alloc (.cells #[.slice (some ⟨g, 0, none⟩) gs.length cap] 24) = w3) from hw3.symm)
  have hb3 : Below w2.heap.size w2 w3 := by rw [hw3]; exact below_box w2 _
  have HS3 := (show Hid (LyS w0 w3 w.heap.size w2.heap.size (.slice A gs.length c) (.slice (some ⟨g, 0, none⟩) gs.length cap) g cap ov) from
    ⟨(HO1.out.later b2).later hb3, (HX1.out.below b2).below hb3, by rw [hw3]; exact GX.mk (heap_alloc_new w2 _)⟩)
  have HL3 := (show Hid (T.LentR w3 w1.heap.size gp pc L ∧ Below w.heap.size w w3) from ⟨(show T.LentR w2 w1.heap.size gp pc L from hlp).below hb3, (HBw1.out.trans (b2.mono HBw1.out.size)).trans (hb3.mono (HBw1.out.trans (b2.mono HBw1.out.size)).size)⟩)
  have HIn := (show Hid (∀ W, LyS w0 W w.heap.size w2.heap.size (.slice A gs.length c) (.slice (some ⟨g, 0, none⟩) gs.length cap) g cap ov → GI W (some ⟨g, 0, none⟩) gs ∧ GI W A gs) from fun W h => ⟨⟨h.l.gr HM.out, HP.out.l, HP.out.t⟩, HP.out.later h.l.b⟩)
  have y1 := HS3.out.x1.cl
  have y2 := HS3.out.x2.cl
  clear hlp b2 hw3 hb3 HO1 HX1 HX0 HLp HBw1
  go_wp2_with (rw [HE3.out])
  generalize w2.heap.size = k1 at *
  refine (HA.out w3 _ _ _ _ (HIn.out _ HS3.out).1 HL3.out.1.rd).mono ?_
  rintro e w4 ⟨⟨x, cd, rfl, hx⟩, b4⟩
  obtain ⟨w5, hw5⟩ : ∃ w5, w5 = w4.alloc (emO x) := ⟨_, rfl⟩
  have HS5 := (show Hid (Below w3.heap.size w3 w5 ∧ EX w5 w4.heap.size x) from by
    show _ ∧ _
    rw [hw5]
    exact ⟨b4.trans ((below_box _ _).mono b4.size), EX.new w4 x⟩)
  have HX := (show Hid (OfR gs L x cd) from hx)
  have p1 := (HS3.out.box HS5.out.1).1
  have p2 := (HS3.out.box HS5.out.1).2
  obtain ⟨xn, xc, xl, xm⟩ := x
  have HE5 := (show Hid (w4.alloc (.cells #[.bool xn, .bool xc, .int .i64 xl, .int .i64 xm] 33) = w5) from hw5.symm)
  clear hx hw5 b4 y1 y2 HE3
  go_wp2_with (rw [HE5.out])
  generalize w4.heap.size = k4 at *
  refine (HD.out w5 _ _ _ _ (HIn.out _ (HS3.out.later HS5.out.1)).2 (HRp.out.below (HL3.out.2.trans (HS5.out.1.mono HL3.out.2.size)) (Nat.le_refl _))).mono ?_
  rintro e w6 ⟨⟨y, cd2, rfl, hy⟩, b6⟩
  obtain ⟨rfl, rfl⟩ := of_same HX.out hy
  obtain ⟨w7, hw7⟩ : ∃ w7, w7 = w6.alloc (emO ⟨xn, xc, xl, xm⟩) := ⟨_, rfl⟩
  have hb57 : Below w5.heap.size w5 w7 := by rw [hw7]; exact b6.trans ((below_box _ _).mono b6.size)
  have HS7 := (show Hid (Below w3.heap.size w3 w7 ∧ EX w7 k4 ⟨xn, xc, xl, xm⟩ ∧ EX w7 w6.heap.size ⟨xn, xc, xl, xm⟩) from
    ⟨HS5.out.1.trans (hb57.mono HS5.out.1.size), HS5.out.2.below hb57, by rw [hw7]; exact EX.new w6 _⟩)
  have HE7 := (show Hid (w6.alloc (.cells #[.bool xn, .bool xc, .int .i64 xl, .int .i64 xm] 33) = w7) from hw7.symm)
  have heq := em_eqlO ⟨xn, xc, xl, xm⟩ ⟨xn, xc, xl, xm⟩
  rw [eqB_iff.2 rfl] at heq
  simp only [emG] at heq
  obtain ⟨a0, a1, a2, a3⟩ := HS7.out.2.1.eb
  obtain ⟨d0, d1, d2, d3⟩ := HS7.out.2.2.eb
  simp only [Nat.zero_add] at a0 a1 a2 a3 d0 d1 d2 d3
  have y1 := (HS3.out.box HS7.out.1).1
  have y2 := (HS3.out.box HS7.out.1).2
  clear hy hw7 b6 hb57 p1 p2 HE5 HD HA HX HS5
  go_wp2_with (rw [HE7.out])
  generalize w6.heap.size = k6 at *
  refine (HK.out w7 g cap ov HM.out (HS3.out.later HS7.out.1).l (HP.out.d.later (HS3.out.later HS7.out.1).l.b)).mono ?_
  rintro e w8 ⟨rfl, b8⟩
  have HB8 := (show Hid (Below w3.heap.size w3 w8) from HS7.out.1.trans (b8.mono HS7.out.1.size))
  clear b8 HS7 a0 a1 a2 a3 d0 d1 d2 d3 heq y1 y2 HE7 HK
  go_wp2_with fail
  refine (HKp.out w8 gp pc w1.heap.size (HRp.out.below (HL3.out.2.trans (HB8.out.mono HL3.out.2.size)) (Nat.le_refl _)) (HL3.out.1.below HB8.out)).mono ?_
  rintro e w9 ⟨rfl, b9⟩
  have HB9 := (show Hid (Below w3.heap.size w3 w9) from HB8.out.trans (b9.mono HB8.out.size))
  clear b9 HB8 HKp
  go_wp2_with fail
  refine (HWk.out w9).mono ?_
  rintro e w10 ⟨rfl, b10⟩
  have HB10 := (show Hid (Below w3.heap.size w3 w10) from HB9.out.trans (b10.mono HB9.out.size))
  clear b10 HB9 HWk
  go_wp2_with fail
  go_ret
  exact ⟨rfl, HL3.out.2.trans (HB10.out.mono HL3.out.2.size)⟩
end Go.Proofs.YtokfgoepnfjafaaGreat.N

namespace Go.Proofs.YtokfgoepnfjafaaGreat
open Go.ChangeShapes Go.WideShapes Go.ChangeAt Go.RowKit
open Go.ChangeMaps (open_string shut_string)
set_option maxRecDepth 100000 in
theorem emptyPatterns_lifted (os : Os) (started : os.Started) (H : Type) (enc : TypeId × Value → H) :
    ReturnsInHanded {} Tryz.checked os 4 .any (Rows.emptyPatternsSpec.pre6 enc Tryz.prog Tryz.f4 Rows.emptyPatternsRow.domain false) (Rows.emptyPatternsSpec.post enc Tryz.prog Tryz.f4 false true false false) := by
  refine returnsInHanded_of_change_sized (C := Tryz.checked) T.own started (by kernel_rfl) Tryz.func4
    (ChangeSpec.witness6 (enc := enc) (C := Tryz.checked) false ⟨#[], #[.agg #[.slice none 0 0], .slice none 0 0], []⟩ 8 (by kernel_rfl) (by kernel_rfl) (by kernel_rfl) (by kernel_rfl)) ?_
  intro W base args ds gs before hval0 hW hcnd hsz _
  have hval : ∀ (j : Nat) t v, Tryz.f4.params[j]? = some t → args[j]? = some v → Value.okWide Tryz.prog W .any base t v := hval0
  have hW' := hW
  obtain ⟨p, q, hA0, hV, rfl, hfz, hnd⟩ := hW
  have hA : DataW.TrodAll enc Tryz.prog W 0 (fun _ => true) true Tryz.f4.params.toList args.toList ds p := hA0
  rw [Tryz.params4] at hA hval
  have hsz : (DataW.weightsEach Tryz.prog (#[24, 38].toList ++ Rows.emptyPatternsSpec.plain.varTypes Tryz.prog) (ds ++ gs)).all (· ≤ reachBytes) = true := hsz
  obtain ⟨v0, v1, d0, d1, p0, p1, rfl, rfl, rfl, h0, h1⟩ := trodAll_two hA
  obtain ⟨rfl, rfl⟩ := trodVars_none hV
  have lt0 : ∀ x ∈ p0, x.block < W.heap.size := by obtain ⟨m, hm⟩ := h0; exact DataW.trod_lt m _ _ _ hm
  obtain ⟨A0, c0, L0, rfl, r0⟩ := N.open_gram h0 (hval 0 24 v0 rfl rfl) (T.sized_at hsz (j := 0) rfl rfl)
  have lt1 : ∀ x ∈ p1, x.block < W.heap.size := by obtain ⟨m, hm⟩ := h1; exact DataW.trod_lt m _ _ _ hm
  obtain ⟨A1, c1, L1, rfl, r1, nl1, s1, _⟩ := T.open_pat h1 (okWide_slice Tryz.underlying38 (hval 1 38 v1 rfl rfl))
  obtain ⟨a1, b1⟩ := s1 (T.sized_at hsz (j := 1) rfl rfl)
  clear hA0 hval0
  refine (N.patterns_law L0 A0 c0 L1 A1 c1 W r0 ⟨r1, nl1⟩ a1 b1).mono fun e W' ⟨he, bel⟩ => ?_
  subst he
  exact ⟨_, rfl, _, _, _, [], _, [], hW', trodAll_mk1 (shut_bool Tryz.underlying4 _), (trodAll_cons_mk (Below.trod T.laidOut (by kernel_rfl) (of_decide_eq_true (by kernel_rfl)) h0 bel lt0) (trodAll_cons_mk (Below.trod T.laidOut (by kernel_rfl) (of_decide_eq_true (by kernel_rfl)) h1 bel lt1) trodAll_mk0)), rfl, bel.frame _, fun h => by cases h⟩

theorem emptyPatterns_holds : Rows.EmptyPatternsSaid :=
  OpenClaim.holds_of_wide 4 Tryz.f4 rfl rfl rfl rfl rfl rfl rfl ⟨rfl, rfl, rfl, rfl, rfl⟩ rfl rfl rfl rfl rfl (by kernel_rfl) Tryz.func4 (by kernel_rfl)
    (of_decide_eq_true (by kernel_rfl)) (by unfold Func.isWrapper; first | (rw [if_pos (by decide +kernel)]; kernel_rfl) | (rw [if_neg (by decide +kernel)]; exact ⟨rfl, rfl⟩))
    (fun os started H enc _ => emptyPatterns_lifted os started H enc)
end Go.Proofs.YtokfgoepnfjafaaGreat
