/- DERIVED. Plain mathematics and walks, laid together (16). -/
import Derived.Test.YtbipjdgholdhcabGreatFr15
namespace Go.Proofs.YtbipjdgholdhcabGreat.N
open Go.RowKit Go.Maps
open Go.Proofs.YtbipjdgholdhcabGreat.T

open U (own_get own_slice below_grown)
structure PnS (w wr : World) (u : Value) (L : List Nd) (E : Nat → Bool) (gB N k : Nat) (v : Value) : Prop where
  b : Below w.heap.size w wr
  x : GX wr w.heap.size u
  r : ∀ i, i < L.length → wr.cell? ⟨gB, i, none⟩ = some (.int .i64 (pt L i).1)
  o : wr.ownsRow N 4 1 v k ((List.range k).map fun j => Value.bool (E j))
  n : w.heap.size + 1 ≤ N ∧ gB < N ∧ N ≤ wr.heap.size
theorem PnS.later {w wr w2 : World} {u : Value} {L : List Nd} {E : Nat → Bool} {gB N k : Nat} {v : Value} (h : PnS w wr u L E gB N k v) (hb : Below wr.heap.size wr w2) : PnS w w2 u L E gB N k v :=
  ⟨h.b.trans (hb.mono h.b.size), h.x.below hb, fun i hi => (hb.cell (p := ⟨gB, i, none⟩) (Nat.lt_of_lt_of_le h.n.2.1 h.n.2.2)).trans (h.r i hi), U.own_below h.o hb, h.n.1, h.n.2.1, Nat.le_trans h.n.2.2 hb.size⟩
theorem PnS.push {w wr w2 : World} {u : Value} {L : List Nd} {E : Nat → Bool} {gB N k : Nat} {v v' : Value} (h : PnS w wr u L E gB N k v) (ho : w2.ownsRow N 4 1 v' (k + 1) ((List.range k).map (fun j => Value.bool (E j)) ++ [.bool (E k)])) (hg : wr.grownBy w2 v.ownBlock) : PnS w w2 u L E gB N (k + 1) v' := by
  have hlow : ∀ q, v.ownBlock = some q → N ≤ q := fun q hq => (h.o.lt q hq).1
  have hn := h.n
  refine ⟨below_grown h.b hg (fun q e => by have := hlow q e; omega), h.x.same (hg.block _ h.x.lt (fun e => by have := hlow _ e.symm; omega)), fun i hi => ?_, ?_, hn.1, hn.2.1, Nat.le_trans hn.2.2 hg.size⟩
  · rw [World.cell?_of_block (a := ⟨gB, i, none⟩) (hg.block gB (by omega) (fun e => by have := hlow _ e.symm; omega))]
    exact h.r i hi
  · rw [List.range_succ, List.map_append]
    exact ho
set_option maxRecDepth 100000 in
set_option maxHeartbeats 128000000 in
/-- The document: which parts may match nothing. -/
theorem nothing10_any {gs : GL} {L : List Nd} (hrt : Rt L) (hsz : ∀ n ∈ L, n.tx.size ≤ 140737488355328) (hfd : ∀ n ∈ L, n.op = 6 → ∃ i, fdG gs n.tx = some i) (out : List Bool) (hlo : out.length = gs.length) (A Ap : Option Addr) (c cp gO co : Nat) (w : World) (hp : GI w A gs) (hL : RdN w Ap L) (hr : RdB w gO out) :
    Calls Tryz.prog 61 #[.agg #[.slice A gs.length c], .slice Ap L.length cp, .slice (some ⟨gO, 0, none⟩) gs.length co] w fun e w' => (∃ v, e = .returned v ∧ w'.ownsRow w.heap.size 4 1 v L.length ((List.range L.length).map fun j => Value.bool (nuA (kdR L) (lkB gs out) L j))) ∧ Below w.heap.size w w' := by
  have hlen : L.length ≤ 2048 := by have := hrt.len; omega
  have hne : L ≠ [] := by rintro rfl; have := hrt.one; simp [run] at this
  have hpos : 0 < L.length := List.length_pos_iff.2 hne
  obtain ⟨gp, op, rfl, lp, cl⟩ := hL hne
  obtain ⟨w1, hw1⟩ : ∃ w1, w1 = w.alloc (.cells #[.slice A gs.length c] 24) := ⟨_, rfl⟩
  have HE1 := (show Hid (w.alloc (.cells #[.slice A gs.length c] 24) = w1) from hw1.symm)
  have hb1 : Below w.heap.size w w1 := by rw [hw1]; exact below_box _ _
  have hs1 : w1.heap.size = w.heap.size + 1 := by rw [hw1, World.size_alloc]
  have hg1 : GX w1 w.heap.size (.slice A gs.length c) := by rw [hw1]; exact GX.mk (heap_alloc_new w _)
  have HBg := (show Hid (∀ _ : Unit, Calls Tryz.prog 62 #[.slice (some ⟨gp, op, none⟩) L.length cp] w1 fun e w' => (∃ v, e = .returned v ∧ w'.ownsRow w1.heap.size 3 1 v L.length (bgc L L.length)) ∧ Below w1.heap.size w1 w') from fun _ => begins9_any L _ cp hrt hsz w1 (hL.below hb1 (Nat.le_refl _)))
  have H1 := (show Hid (Below w.heap.size w w1 ∧ w1.heap.size = w.heap.size + 1 ∧ GX w1 w.heap.size (.slice A gs.length c)) from ⟨hb1, hs1, hg1⟩)
  have HP := (show Hid (GI w A gs) from hp)
  have HRt := (show Hid (Rt L) from hrt)
  have HR := (show Hid (RdB w gO out) from hr)
  have HCl := (show Hid (NdL w gp op L ∧ gp < w.heap.size) from ⟨cl, lp⟩)
  have HG := (show Hid (∀ k, k < L.length → ∃ n, L[k]? = some n ∧ alE n = 0) from fun k hk => by
    have e : L[k]? = some L[k] := List.getElem?_eq_getElem hk
    exact ⟨_, e, (er_ok e (hrt.each k hk)).al⟩)
  have HFd := (show Hid (∀ (k : Nat) n, L[k]? = some n → n.op = 6 → ∃ i, fdG gs n.tx = some i) from fun k n hn h6 => hfd n (List.mem_of_getElem? hn) h6)
  have HPos := (show Hid (0 < L.length) from hpos)
  obtain ⟨EE, hEE⟩ : ∃ EE, EE = nuA (kdR L) (lkB gs out) L := ⟨_, rfl⟩
  have HSt0 := (show Hid (∀ (k : Nat) n, L[k]? = some n → EE k = nuD n (if 0 < arN n.op then EE (((kdR L k)[0]?).getD k) else false) (if 1 < arN n.op then EE (((kdR L k)[1]?).getD k) else false) (lkB gs out)) from fun k n hn => by rw [hEE]; exact nuA_step (kds_R hrt) hn)
  rw [← hEE]
  clear hp hr hL hrt hne hpos cl lp hw1 hb1 hs1 hg1 hEE hsz hfd
  go_enter Tryz.func61, Tryz.ntmps61
  go_wp2_with (rw [HE1.out])
  clear HE1
  refine (HBg.out ()).mono ?_
  rintro e w2 ⟨⟨v, rfl, hov⟩, b2⟩
  obtain ⟨gB, cB, rfl, gl1, gl2, _, _⟩ := own_get hov (j := 0) (x := .int .i64 (pt L 0).1) (bgc_get HPos.out)
  have HS := (show Hid (PnS w w2 (.slice A gs.length c) L EE gB w2.heap.size 0 (.slice none 0 0)) from by
    obtain ⟨h1, h2, h3⟩ := H1.out
    refine ⟨h1.trans (b2.mono h1.size), h3.below b2, fun i hi => ?_, World.ownsRow_nil _ _ _ _, by have := b2.size; omega, gl2, Nat.le_refl _⟩
    obtain ⟨g', c', e, _, _, x, _⟩ := own_get hov (j := i) (x := .int .i64 (pt L i).1) (bgc_get hi)
    injection e with e1 _ _
    obtain ⟨rfl, _⟩ := Addr.mk.inj (Option.some.inj e1)
    exact x)
  generalize hN : w2.heap.size = N at *
  clear hN gl1 gl2 hov b2 H1 HBg
  go_wp2_with fail
  go_loopw [8, 9] (fun v t wr => ∃ (k : Nat) (A2 : Option Addr) (c2 : Nat), k ≤ L.length ∧ t = .int .i64 (k : Int) ∧ v = .slice A2 k c2 ∧ Hid (PnS w wr (.slice A gs.length c) L EE gB N k (.slice A2 k c2))) (fun _ t _ => L.length - (intOf t).toNat)
  case atStart => exact ⟨0, none, 0, Nat.zero_le _, by go_num, rfl, HS⟩
  case round =>
    obtain ⟨k, A2, c2, hk, rfl, rfl, HW⟩ := hrel
    clear HS
    by_cases hlt : k < L.length
    · obtain ⟨n, hn, hal⟩ := HG.out k hlt
      obtain ⟨hop, _⟩ := al_facts hal
      have hopn := op_of hn
      obtain ⟨d0, d1, d2, d3, d4, d5, d6⟩ := (HCl.out.1.same (HW.out.b.block gp HCl.out.2)) k n hn
      obtain ⟨w2, hw2⟩ : ∃ w2, w2 = wr.alloc (ndO n) := ⟨_, rfl⟩
      have HE2 := (show Hid (wr.alloc (.cells #[.int .i64 n.op, .int .i64 n.nn, .string n.tx, .int .u64 n.s0, .int .u64 n.s1, .int .u64 n.s2, .int .u64 n.s3] 57) = w2) from hw2.symm)
      have HN2 := (show Hid (NX w2 wr.heap.size n) from by rw [hw2]; exact ⟨heap_alloc_new wr _⟩)
      have hb2 : Below wr.heap.size wr w2 := by rw [hw2]; exact below_box _ _
      have HW2 := (show Hid (PnS w w2 (.slice A gs.length c) L EE gB N k (.slice A2 k c2)) from HW.out.later hb2)
      have HK := (show Hid (∀ _ : Unit, Calls Tryz.prog 64 #[.slice (some ⟨gp, op, none⟩) L.length cp, .slice (some ⟨gB, 0, none⟩) L.length cB, .int .i64 (k : Int)] w2 fun e w' => (∃ v, e = .returned v ∧ w'.ownsRow w2.heap.size 3 1 v (arN n.op) ((kdR L k).map fun j : Nat => Value.int .i64 (j : Int))) ∧ Below w2.heap.size w2 w') from fun _ => by
        have h := kids_any L gp op cp gB cB k hlen hlt (fun i hi => HRt.out.each i hi) w2 (HCl.out.1.same (HW2.out.b.block gp HCl.out.2)) (Nat.lt_of_lt_of_le HCl.out.2 HW2.out.b.size) HW2.out.r
        have e : lastc ((run L k).take (arN (T.opAt L k))).reverse = (kdR L k).map fun j : Nat => Value.int .i64 (j : Int) := by
          unfold lastc kdR
          rw [List.map_map]
          rfl
        rw [e, hopn] at h
        exact h)
      have HNn := (show Hid (L[k]? = some n) from hn)
      have HSt := (show Hid (EE k = nuD n (if 0 < arN n.op then EE (((kdR L k)[0]?).getD k) else false) (if 1 < arN n.op then EE (((kdR L k)[1]?).getD k) else false) (lkB gs out)) from HSt0.out k n hn)
      have HLk := (show Hid ((kdR L k).length = arN n.op ∧ ∀ j ∈ kdR L k, j < k) from ⟨(kds_R HRt.out).n k n hn, fun j hj => (kds_R HRt.out).lt k j hlt hj⟩)
      have z0 : (0 : Int) ≤ (k : Int) := by omega
      have z1 : (k : Int) < (L.length : Int) := by omega
      obtain ⟨m, hm⟩ : ∃ m, m = arN n.op := ⟨_, rfl⟩
      have HKm := (show Hid (m = arN n.op) from hm)
      rw [← hm] at HK
      clear hn hopn hw2 hb2 HW hal hm
      go_wp2_with (rw [HE2.out])
      refine (HK.out ()).mono ?_
      rintro e w3 ⟨⟨v3, rfl, ho3⟩, b3⟩
      obtain ⟨A3, c3, rfl⟩ := own_slice ho3
      have HW3 := (show Hid (PnS w w3 (.slice A gs.length c) L EE gB N k (.slice A2 k c2)) from HW2.out.later b3)
      have HN3 := (show Hid (NX w3 wr.heap.size n) from nx_below HN2.out b3)
      have HKd := (show Hid (∀ i, i < arN n.op → ∃ j gK gV, (kdR L k)[i]? = some j ∧ j < k ∧ A3 = some ⟨gK, 0, none⟩ ∧ A2 = some ⟨gV, 0, none⟩ ∧ w3.cell? ⟨gK, i, none⟩ = some (.int .i64 (j : Int)) ∧ w3.cell? ⟨gV, j, none⟩ = some (.bool (EE j))) from fun i hi => by
        obtain ⟨jj, hj⟩ : ∃ jj, (kdR L k)[i]? = some jj := ⟨_, List.getElem?_eq_getElem (by rw [HLk.out.1]; exact hi)⟩
        have hjk := HLk.out.2 _ (List.mem_of_getElem? hj)
        obtain ⟨gK, cK, eK, _, _, xK, _⟩ := own_get ho3 (j := i) (x := .int .i64 (jj : Int)) (by rw [List.getElem?_map, hj]; rfl)
        obtain ⟨gV, cV, eV, _, _, xV, _⟩ := own_get HW3.out.o (j := jj) (x := .bool (EE jj)) (by rw [List.getElem?_map, List.getElem?_range hjk]; rfl)
        injection eK with eK1 _ _
        injection eV with eV1 _ _
        exact ⟨_, gK, gV, hj, hjk, eK1, eV1, xK, xV⟩)
      have n0 : w3.cell? ⟨wr.heap.size, 0, none⟩ = some (.int .i64 n.op) := HN3.out.nb.c0
      have n1 : w3.cell? ⟨wr.heap.size, 1, none⟩ = some (.int .i64 n.nn) := HN3.out.nb.c1
      have n2 : w3.cell? ⟨wr.heap.size, 2, none⟩ = some (.string n.tx) := HN3.out.nb.c2
      have HOa := (show Hid (∀ W, Below w3.heap.size w3 W → W.ownsRow N 4 1 (.slice A2 k c2) k ((List.range k).map fun j => Value.bool (EE j))) from fun W hW => (HW3.out.later hW).o)
      have HNs := (show Hid (∀ W, Below w3.heap.size w3 W → N ≤ W.heap.size) from fun W hW => (HW3.out.later hW).n.2.2)
      have HPu := (show Hid (∀ W, Below w3.heap.size w3 W → ∀ (x : Bool), EE k = x → ∀ (g5 cap5 : Nat) (w5 : World), w5.ownsRow N 4 1 (.slice (some ⟨g5, 0, none⟩) (k + 1) cap5) (k + 1) ((List.range k).map (fun j => Value.bool (EE j)) ++ [.bool x]) → W.grownBy w5 (Value.slice A2 k c2).ownBlock → Hid (PnS w w5 (.slice A gs.length c) L EE gB N (k + 1) (.slice (some ⟨g5, 0, none⟩) (k + 1) cap5))) from fun W hW x hx g5 cap5 w5 h1 h2 => (HW3.out.later hW).push (by rw [hx]; exact h1) h2)
      clear ho3 b3 HN2 HN3 HW2 HK HE2 d0 d1 d2 d3 d4 d5 d6 HLk HSt0
      by_cases c1 : n.op = 1
      · have ho := c1
        have t1 : (n.op == 1) = true := by rw [ho]; rfl
        have HEk := (show Hid (EE k = true) from by show EE k = true; rw [HSt.out]; unfold nuD; rw [if_pos (by omega)])
        clear ho c1 HSt
        clear HG HR HP HCl HRt HKd hlt
        go_wp2_with (at_builtin; refine U.wpList_app1 rfl _ _ 82 rfl (.bool false) 1 Tryz.underlying82 Tryz.info4 rfl N k _ _ rfl rfl (HOa.out w3 (Below.refl _ _)) rfl (by omega) (by decide) (HNs.out w3 (Below.refl _ _)) ?_; intro g5 cap5 w5 ho5 hg5 hat5 hl5; have HV5 := HPu.out w3 (Below.refl _ _) (true) HEk.out g5 cap5 w5 ho5 hg5; clear ho5 hg5 hat5 hl5 HPu HOa HNs n0 n1 n2 t1)
        go_roundw
        case rel => exact ⟨k + 1, some ⟨g5, 0, none⟩, cap5, by omega, by go_num, rfl, HV5⟩
        case measure => simp [intOf]; omega
      by_cases c9 : n.op = 9
      · have ho := c9
        have t1 : (n.op == 1) = false := by rw [beq_eq_false_iff_ne]; omega
        have t9 : (n.op == 9) = true := by rw [ho]; rfl
        have HEk := (show Hid (EE k = true) from by show EE k = true; rw [HSt.out]; unfold nuD; rw [if_pos (by omega)])
        clear ho c9 HSt
        clear HG HR HP HCl HRt HKd hlt
        go_wp2_with (at_builtin; refine U.wpList_app1 rfl _ _ 82 rfl (.bool false) 1 Tryz.underlying82 Tryz.info4 rfl N k _ _ rfl rfl (HOa.out w3 (Below.refl _ _)) rfl (by omega) (by decide) (HNs.out w3 (Below.refl _ _)) ?_; intro g5 cap5 w5 ho5 hg5 hat5 hl5; have HV5 := HPu.out w3 (Below.refl _ _) (true) HEk.out g5 cap5 w5 ho5 hg5; clear ho5 hg5 hat5 hl5 HPu HOa HNs n0 n1 n2 t1 t9)
        go_roundw
        case rel => exact ⟨k + 1, some ⟨g5, 0, none⟩, cap5, by omega, by go_num, rfl, HV5⟩
        case measure => simp [intOf]; omega
      by_cases c11 : n.op = 11
      · have ho := c11
        have t1 : (n.op == 1) = false := by rw [beq_eq_false_iff_ne]; omega
        have t9 : (n.op == 9) = false := by rw [beq_eq_false_iff_ne]; omega
        have t11 : (n.op == 11) = true := by rw [ho]; rfl
        have HEk := (show Hid (EE k = true) from by show EE k = true; rw [HSt.out]; unfold nuD; rw [if_pos (by omega)])
        clear ho c11 HSt
        clear HG HR HP HCl HRt HKd hlt
        go_wp2_with (at_builtin; refine U.wpList_app1 rfl _ _ 82 rfl (.bool false) 1 Tryz.underlying82 Tryz.info4 rfl N k _ _ rfl rfl (HOa.out w3 (Below.refl _ _)) rfl (by omega) (by decide) (HNs.out w3 (Below.refl _ _)) ?_; intro g5 cap5 w5 ho5 hg5 hat5 hl5; have HV5 := HPu.out w3 (Below.refl _ _) (true) HEk.out g5 cap5 w5 ho5 hg5; clear ho5 hg5 hat5 hl5 HPu HOa HNs n0 n1 n2 t1 t9 t11)
        go_roundw
        case rel => exact ⟨k + 1, some ⟨g5, 0, none⟩, cap5, by omega, by go_num, rfl, HV5⟩
        case measure => simp [intOf]; omega
      by_cases c12 : n.op = 12
      · have ho := c12
        have t1 : (n.op == 1) = false := by rw [beq_eq_false_iff_ne]; omega
        have t9 : (n.op == 9) = false := by rw [beq_eq_false_iff_ne]; omega
        have t11 : (n.op == 11) = false := by rw [beq_eq_false_iff_ne]; omega
        have t12 : (n.op == 12) = true := by rw [ho]; rfl
        have HEk := (show Hid (EE k = true) from by show EE k = true; rw [HSt.out]; unfold nuD; rw [if_pos (by omega)])
        clear ho c12 HSt
        clear HG HR HP HCl HRt HKd hlt
        go_wp2_with (at_builtin; refine U.wpList_app1 rfl _ _ 82 rfl (.bool false) 1 Tryz.underlying82 Tryz.info4 rfl N k _ _ rfl rfl (HOa.out w3 (Below.refl _ _)) rfl (by omega) (by decide) (HNs.out w3 (Below.refl _ _)) ?_; intro g5 cap5 w5 ho5 hg5 hat5 hl5; have HV5 := HPu.out w3 (Below.refl _ _) (true) HEk.out g5 cap5 w5 ho5 hg5; clear ho5 hg5 hat5 hl5 HPu HOa HNs n0 n1 n2 t1 t9 t11 t12)
        go_roundw
        case rel => exact ⟨k + 1, some ⟨g5, 0, none⟩, cap5, by omega, by go_num, rfl, HV5⟩
        case measure => simp [intOf]; omega
      by_cases c13 : n.op = 13
      · have ho := c13
        have t1 : (n.op == 1) = false := by rw [beq_eq_false_iff_ne]; omega
        have t9 : (n.op == 9) = false := by rw [beq_eq_false_iff_ne]; omega
        have t11 : (n.op == 11) = false := by rw [beq_eq_false_iff_ne]; omega
        have t12 : (n.op == 12) = false := by rw [beq_eq_false_iff_ne]; omega
        have t13 : (n.op == 13) = true := by rw [ho]; rfl
        have HEk := (show Hid (EE k = true) from by show EE k = true; rw [HSt.out]; unfold nuD; rw [if_pos (by omega)])
        clear ho c13 HSt
        clear HG HR HP HCl HRt HKd hlt
        go_wp2_with (at_builtin; refine U.wpList_app1 rfl _ _ 82 rfl (.bool false) 1 Tryz.underlying82 Tryz.info4 rfl N k _ _ rfl rfl (HOa.out w3 (Below.refl _ _)) rfl (by omega) (by decide) (HNs.out w3 (Below.refl _ _)) ?_; intro g5 cap5 w5 ho5 hg5 hat5 hl5; have HV5 := HPu.out w3 (Below.refl _ _) (true) HEk.out g5 cap5 w5 ho5 hg5; clear ho5 hg5 hat5 hl5 HPu HOa HNs n0 n1 n2 t1 t9 t11 t12 t13)
        go_roundw
        case rel => exact ⟨k + 1, some ⟨g5, 0, none⟩, cap5, by omega, by go_num, rfl, HV5⟩
        case measure => simp [intOf]; omega
      by_cases c16 : n.op = 16
      · have ho := c16
        have t1 : (n.op == 1) = false := by rw [beq_eq_false_iff_ne]; omega
        have t9 : (n.op == 9) = false := by rw [beq_eq_false_iff_ne]; omega
        have t11 : (n.op == 11) = false := by rw [beq_eq_false_iff_ne]; omega
        have t12 : (n.op == 12) = false := by rw [beq_eq_false_iff_ne]; omega
        have t13 : (n.op == 13) = false := by rw [beq_eq_false_iff_ne]; omega
        have t16 : (n.op == 16) = true := by rw [ho]; rfl
        have HEk := (show Hid (EE k = true) from by show EE k = true; rw [HSt.out]; unfold nuD; rw [if_pos (by omega)])
        clear ho c16 HSt
        clear HG HR HP HCl HRt HKd hlt
        go_wp2_with (at_builtin; refine U.wpList_app1 rfl _ _ 82 rfl (.bool false) 1 Tryz.underlying82 Tryz.info4 rfl N k _ _ rfl rfl (HOa.out w3 (Below.refl _ _)) rfl (by omega) (by decide) (HNs.out w3 (Below.refl _ _)) ?_; intro g5 cap5 w5 ho5 hg5 hat5 hl5; have HV5 := HPu.out w3 (Below.refl _ _) (true) HEk.out g5 cap5 w5 ho5 hg5; clear ho5 hg5 hat5 hl5 HPu HOa HNs n0 n1 n2 t1 t9 t11 t12 t13 t16)
        go_roundw
        case rel => exact ⟨k + 1, some ⟨g5, 0, none⟩, cap5, by omega, by go_num, rfl, HV5⟩
        case measure => simp [intOf]; omega
      by_cases c17 : n.op = 17
      · have ho := c17
        have t1 : (n.op == 1) = false := by rw [beq_eq_false_iff_ne]; omega
        have t9 : (n.op == 9) = false := by rw [beq_eq_false_iff_ne]; omega
        have t11 : (n.op == 11) = false := by rw [beq_eq_false_iff_ne]; omega
        have t12 : (n.op == 12) = false := by rw [beq_eq_false_iff_ne]; omega
        have t13 : (n.op == 13) = false := by rw [beq_eq_false_iff_ne]; omega
        have t16 : (n.op == 16) = false := by rw [beq_eq_false_iff_ne]; omega
        have t17 : (n.op == 17) = true := by rw [ho]; rfl
        have HEk := (show Hid (EE k = true) from by show EE k = true; rw [HSt.out]; unfold nuD; rw [if_pos (by omega)])
        clear ho c17 HSt
        clear HG HR HP HCl HRt HKd hlt
        go_wp2_with (at_builtin; refine U.wpList_app1 rfl _ _ 82 rfl (.bool false) 1 Tryz.underlying82 Tryz.info4 rfl N k _ _ rfl rfl (HOa.out w3 (Below.refl _ _)) rfl (by omega) (by decide) (HNs.out w3 (Below.refl _ _)) ?_; intro g5 cap5 w5 ho5 hg5 hat5 hl5; have HV5 := HPu.out w3 (Below.refl _ _) (true) HEk.out g5 cap5 w5 ho5 hg5; clear ho5 hg5 hat5 hl5 HPu HOa HNs n0 n1 n2 t1 t9 t11 t12 t13 t16 t17)
        go_roundw
        case rel => exact ⟨k + 1, some ⟨g5, 0, none⟩, cap5, by omega, by go_num, rfl, HV5⟩
        case measure => simp [intOf]; omega
      by_cases c2 : n.op = 2
      · have ho := c2
        have t1 : (n.op == 1) = false := by rw [beq_eq_false_iff_ne]; omega
        have t9 : (n.op == 9) = false := by rw [beq_eq_false_iff_ne]; omega
        have t11 : (n.op == 11) = false := by rw [beq_eq_false_iff_ne]; omega
        have t12 : (n.op == 12) = false := by rw [beq_eq_false_iff_ne]; omega
        have t13 : (n.op == 13) = false := by rw [beq_eq_false_iff_ne]; omega
        have t16 : (n.op == 16) = false := by rw [beq_eq_false_iff_ne]; omega
        have t17 : (n.op == 17) = false := by rw [beq_eq_false_iff_ne]; omega
        have t2 : (n.op == 2) = true := by rw [ho]; rfl
        have HEk := (show Hid (EE k = false) from by show EE k = false; rw [HSt.out]; unfold nuD; rw [if_neg (by omega), if_pos (by omega)])
        clear ho c2 HSt
        clear HG HR HP HCl HRt HKd hlt
        go_wp2_with (at_builtin; refine U.wpList_app1 rfl _ _ 82 rfl (.bool false) 1 Tryz.underlying82 Tryz.info4 rfl N k _ _ rfl rfl (HOa.out w3 (Below.refl _ _)) rfl (by omega) (by decide) (HNs.out w3 (Below.refl _ _)) ?_; intro g5 cap5 w5 ho5 hg5 hat5 hl5; have HV5 := HPu.out w3 (Below.refl _ _) (false) HEk.out g5 cap5 w5 ho5 hg5; clear ho5 hg5 hat5 hl5 HPu HOa HNs n0 n1 n2 t1 t9 t11 t12 t13 t16 t17 t2)
        go_roundw
        case rel => exact ⟨k + 1, some ⟨g5, 0, none⟩, cap5, by omega, by go_num, rfl, HV5⟩
        case measure => simp [intOf]; omega
      by_cases c3 : n.op = 3
      · have ho := c3
        have t1 : (n.op == 1) = false := by rw [beq_eq_false_iff_ne]; omega
        have t9 : (n.op == 9) = false := by rw [beq_eq_false_iff_ne]; omega
        have t11 : (n.op == 11) = false := by rw [beq_eq_false_iff_ne]; omega
        have t12 : (n.op == 12) = false := by rw [beq_eq_false_iff_ne]; omega
        have t13 : (n.op == 13) = false := by rw [beq_eq_false_iff_ne]; omega
        have t16 : (n.op == 16) = false := by rw [beq_eq_false_iff_ne]; omega
        have t17 : (n.op == 17) = false := by rw [beq_eq_false_iff_ne]; omega
        have t2 : (n.op == 2) = false := by rw [beq_eq_false_iff_ne]; omega
        have t3 : (n.op == 3) = true := by rw [ho]; rfl
        have HEk := (show Hid (EE k = false) from by show EE k = false; rw [HSt.out]; unfold nuD; rw [if_neg (by omega), if_pos (by omega)])
        clear ho c3 HSt
        clear HG HR HP HCl HRt HKd hlt
        go_wp2_with (at_builtin; refine U.wpList_app1 rfl _ _ 82 rfl (.bool false) 1 Tryz.underlying82 Tryz.info4 rfl N k _ _ rfl rfl (HOa.out w3 (Below.refl _ _)) rfl (by omega) (by decide) (HNs.out w3 (Below.refl _ _)) ?_; intro g5 cap5 w5 ho5 hg5 hat5 hl5; have HV5 := HPu.out w3 (Below.refl _ _) (false) HEk.out g5 cap5 w5 ho5 hg5; clear ho5 hg5 hat5 hl5 HPu HOa HNs n0 n1 n2 t1 t9 t11 t12 t13 t16 t17 t2 t3)
        go_roundw
        case rel => exact ⟨k + 1, some ⟨g5, 0, none⟩, cap5, by omega, by go_num, rfl, HV5⟩
        case measure => simp [intOf]; omega
      by_cases c4 : n.op = 4
      · have ho := c4
        have t1 : (n.op == 1) = false := by rw [beq_eq_false_iff_ne]; omega
        have t9 : (n.op == 9) = false := by rw [beq_eq_false_iff_ne]; omega
        have t11 : (n.op == 11) = false := by rw [beq_eq_false_iff_ne]; omega
        have t12 : (n.op == 12) = false := by rw [beq_eq_false_iff_ne]; omega
        have t13 : (n.op == 13) = false := by rw [beq_eq_false_iff_ne]; omega
        have t16 : (n.op == 16) = false := by rw [beq_eq_false_iff_ne]; omega
        have t17 : (n.op == 17) = false := by rw [beq_eq_false_iff_ne]; omega
        have t2 : (n.op == 2) = false := by rw [beq_eq_false_iff_ne]; omega
        have t3 : (n.op == 3) = false := by rw [beq_eq_false_iff_ne]; omega
        have t4 : (n.op == 4) = true := by rw [ho]; rfl
        have HEk := (show Hid (EE k = false) from by show EE k = false; rw [HSt.out]; unfold nuD; rw [if_neg (by omega), if_pos (by omega)])
        clear ho c4 HSt
        clear HG HR HP HCl HRt HKd hlt
        go_wp2_with (at_builtin; refine U.wpList_app1 rfl _ _ 82 rfl (.bool false) 1 Tryz.underlying82 Tryz.info4 rfl N k _ _ rfl rfl (HOa.out w3 (Below.refl _ _)) rfl (by omega) (by decide) (HNs.out w3 (Below.refl _ _)) ?_; intro g5 cap5 w5 ho5 hg5 hat5 hl5; have HV5 := HPu.out w3 (Below.refl _ _) (false) HEk.out g5 cap5 w5 ho5 hg5; clear ho5 hg5 hat5 hl5 HPu HOa HNs n0 n1 n2 t1 t9 t11 t12 t13 t16 t17 t2 t3 t4)
        go_roundw
        case rel => exact ⟨k + 1, some ⟨g5, 0, none⟩, cap5, by omega, by go_num, rfl, HV5⟩
        case measure => simp [intOf]; omega
      by_cases c5 : n.op = 5
      · have ho := c5
        have t1 : (n.op == 1) = false := by rw [beq_eq_false_iff_ne]; omega
        have t9 : (n.op == 9) = false := by rw [beq_eq_false_iff_ne]; omega
        have t11 : (n.op == 11) = false := by rw [beq_eq_false_iff_ne]; omega
        have t12 : (n.op == 12) = false := by rw [beq_eq_false_iff_ne]; omega
        have t13 : (n.op == 13) = false := by rw [beq_eq_false_iff_ne]; omega
        have t16 : (n.op == 16) = false := by rw [beq_eq_false_iff_ne]; omega
        have t17 : (n.op == 17) = false := by rw [beq_eq_false_iff_ne]; omega
        have t2 : (n.op == 2) = false := by rw [beq_eq_false_iff_ne]; omega
        have t3 : (n.op == 3) = false := by rw [beq_eq_false_iff_ne]; omega
        have t4 : (n.op == 4) = false := by rw [beq_eq_false_iff_ne]; omega
        have t5 : (n.op == 5) = true := by rw [ho]; rfl
        have HEk := (show Hid (EE k = false) from by show EE k = false; rw [HSt.out]; unfold nuD; rw [if_neg (by omega), if_pos (by omega)])
        clear ho c5 HSt
        clear HG HR HP HCl HRt HKd hlt
        go_wp2_with (at_builtin; refine U.wpList_app1 rfl _ _ 82 rfl (.bool false) 1 Tryz.underlying82 Tryz.info4 rfl N k _ _ rfl rfl (HOa.out w3 (Below.refl _ _)) rfl (by omega) (by decide) (HNs.out w3 (Below.refl _ _)) ?_; intro g5 cap5 w5 ho5 hg5 hat5 hl5; have HV5 := HPu.out w3 (Below.refl _ _) (false) HEk.out g5 cap5 w5 ho5 hg5; clear ho5 hg5 hat5 hl5 HPu HOa HNs n0 n1 n2 t1 t9 t11 t12 t13 t16 t17 t2 t3 t4 t5)
        go_roundw
        case rel => exact ⟨k + 1, some ⟨g5, 0, none⟩, cap5, by omega, by go_num, rfl, HV5⟩
        case measure => simp [intOf]; omega
      by_cases c6 : n.op = 6
      · have ho := c6
        have t1 : (n.op == 1) = false := by rw [beq_eq_false_iff_ne]; omega
        have t9 : (n.op == 9) = false := by rw [beq_eq_false_iff_ne]; omega
        have t11 : (n.op == 11) = false := by rw [beq_eq_false_iff_ne]; omega
        have t12 : (n.op == 12) = false := by rw [beq_eq_false_iff_ne]; omega
        have t13 : (n.op == 13) = false := by rw [beq_eq_false_iff_ne]; omega
        have t16 : (n.op == 16) = false := by rw [beq_eq_false_iff_ne]; omega
        have t17 : (n.op == 17) = false := by rw [beq_eq_false_iff_ne]; omega
        have t2 : (n.op == 2) = false := by rw [beq_eq_false_iff_ne]; omega
        have t3 : (n.op == 3) = false := by rw [beq_eq_false_iff_ne]; omega
        have t4 : (n.op == 4) = false := by rw [beq_eq_false_iff_ne]; omega
        have t5 : (n.op == 5) = false := by rw [beq_eq_false_iff_ne]; omega
        have t6 : (n.op == 6) = true := by rw [ho]; rfl
        obtain ⟨i, hi⟩ := HFd.out k n HNn.out c6
        have hil := fdG_lt hi
        obtain ⟨bo, hbo⟩ : ∃ b, out[i]? = some b := ⟨_, List.getElem?_eq_getElem (by rw [hlo]; exact hil)⟩
        have HEk := (show Hid (EE k = bo) from by
          show EE k = bo
          rw [HSt.out]
          unfold nuD
          rw [if_neg (by omega), if_neg (by omega), if_pos c6]
          unfold lkB
          rw [hi]
          show (out[i]?).getD false = bo
          rw [hbo]
          rfl)
        have HNum := (show Hid (∀ _ : Unit, Calls Tryz.prog 63 #[.agg #[.slice A gs.length c], .string n.tx] w3 fun e w' => e = .returned (.int .i64 (i : Int)) ∧ Below w3.heap.size w3 w') from fun _ => by
          have h := number_any gs A c n.tx w3 (HP.out.later HW3.out.b)
          rw [fdN_some hi] at h
          exact h)
        have HRo := (show Hid (∀ W, Below w3.heap.size w3 W → W.cell? ⟨gO, i, none⟩ = some (.bool bo)) from fun W hW => (HR.out.later (HW3.out.b.trans (hW.mono HW3.out.b.size))) i bo hbo)
        have q3 := HW3.out.x.cl
        have v0 : (0 : Int) ≤ (i : Int) := by omega
        have v1 : (i : Int) < (gs.length : Int) := by omega
        clear ho c6 HSt hi hil hbo
        clear HG HR HP HCl HRt HKd hlt
        go_wp2_with fail
        refine (HNum.out ()).mono ?_
        rintro e w4 ⟨rfl, b34⟩
        have o4 := HRo.out w4 b34
        clear HNum HRo q3
        go_wp2_with (at_builtin; refine U.wpList_app1 rfl _ _ 82 rfl (.bool false) 1 Tryz.underlying82 Tryz.info4 rfl N k _ _ rfl rfl (HOa.out w4 b34) rfl (by omega) (by decide) (HNs.out w4 b34) ?_; intro g5 cap5 w5 ho5 hg5 hat5 hl5; have HV5 := HPu.out w4 b34 (bo) HEk.out g5 cap5 w5 ho5 hg5; clear ho5 hg5 hat5 hl5 HPu HOa HNs n0 n1 n2 o4 b34 t1 t9 t11 t12 t13 t16 t17 t2 t3 t4 t5 t6)
        go_roundw
        case rel => exact ⟨k + 1, some ⟨g5, 0, none⟩, cap5, by omega, by go_num, rfl, HV5⟩
        case measure => simp [intOf]; omega
      by_cases c7 : n.op = 7
      · have ho := c7
        have ha := arN_2 (n := n) (.inl c7)
        rw [ha] at HKm
        obtain rfl := HKm.out
        have t1 : (n.op == 1) = false := by rw [beq_eq_false_iff_ne]; omega
        have t9 : (n.op == 9) = false := by rw [beq_eq_false_iff_ne]; omega
        have t11 : (n.op == 11) = false := by rw [beq_eq_false_iff_ne]; omega
        have t12 : (n.op == 12) = false := by rw [beq_eq_false_iff_ne]; omega
        have t13 : (n.op == 13) = false := by rw [beq_eq_false_iff_ne]; omega
        have t16 : (n.op == 16) = false := by rw [beq_eq_false_iff_ne]; omega
        have t17 : (n.op == 17) = false := by rw [beq_eq_false_iff_ne]; omega
        have t2 : (n.op == 2) = false := by rw [beq_eq_false_iff_ne]; omega
        have t3 : (n.op == 3) = false := by rw [beq_eq_false_iff_ne]; omega
        have t4 : (n.op == 4) = false := by rw [beq_eq_false_iff_ne]; omega
        have t5 : (n.op == 5) = false := by rw [beq_eq_false_iff_ne]; omega
        have t6 : (n.op == 6) = false := by rw [beq_eq_false_iff_ne]; omega
        have t7 : (n.op == 7) = true := by rw [ho]; rfl
        obtain ⟨j0, gK, gV, hk0, hj0, rfl, rfl, hc0⟩ := HKd.out 0 (by omega)
        obtain ⟨kc0, vc0⟩ := hc0
        have u0 : (0 : Int) ≤ (j0 : Int) := by omega
        have u1 : (j0 : Int) < (k : Int) := by omega
        have hE0 : (if 0 < arN n.op then EE (((kdR L k)[0]?).getD k) else false) = EE j0 := by rw [if_pos (by omega), hk0]; rfl
        obtain ⟨j1, gK1, gV1, hk1, hj1, e31, e21, hc1⟩ := HKd.out 1 (by omega)
        obtain ⟨kc1, vc1⟩ := hc1
        obtain ⟨rfl, _⟩ := Addr.mk.inj (Option.some.inj e31)
        obtain ⟨rfl, _⟩ := Addr.mk.inj (Option.some.inj e21)
        have u2 : (0 : Int) ≤ (j1 : Int) := by omega
        have u3 : (j1 : Int) < (k : Int) := by omega
        have hE1 : (if 1 < arN n.op then EE (((kdR L k)[1]?).getD k) else false) = EE j1 := by rw [if_pos (by omega), hk1]; rfl
        rw [hE0, hE1] at HSt
        have HEq := (show Hid (EE k = (EE j0 && EE j1)) from by show EE k = _; rw [HSt.out]; unfold nuD; rw [if_neg (by omega), if_neg (by omega), if_neg (by omega), if_pos c7])
        generalize EE j0 = x0 at *
        generalize EE j1 = x1 at *
        clear ho c7 HSt hE0 hE1 hk0 hk1 e31 e21 ha
        clear HG HR HP HCl HRt HKd hlt
        cases x0 with
        | true =>
          have HEk := (show Hid (EE k = x1) from by show EE k = _; rw [HEq.out]; rfl)
          clear HEq
          go_wp2_with (at_builtin; refine U.wpList_app1 rfl _ _ 82 rfl (.bool false) 1 Tryz.underlying82 Tryz.info4 rfl N k _ _ rfl rfl (HOa.out w3 (Below.refl _ _)) rfl (by omega) (by decide) (HNs.out w3 (Below.refl _ _)) ?_; intro g5 cap5 w5 ho5 hg5 hat5 hl5; have HV5 := HPu.out w3 (Below.refl _ _) (x1) HEk.out g5 cap5 w5 ho5 hg5; clear ho5 hg5 hat5 hl5 HPu HOa HNs n0 n1 n2 kc0 vc0 kc1 vc1 t1 t9 t11 t12 t13 t16 t17 t2 t3 t4 t5 t6 t7)
          go_roundw
          case rel => exact ⟨k + 1, some ⟨g5, 0, none⟩, cap5, by omega, by go_num, rfl, HV5⟩
          case measure => simp [intOf]; omega
        | false =>
          have HEk := (show Hid (EE k = false) from by show EE k = _; rw [HEq.out]; rfl)
          clear HEq
          go_wp2_with (at_builtin; refine U.wpList_app1 rfl _ _ 82 rfl (.bool false) 1 Tryz.underlying82 Tryz.info4 rfl N k _ _ rfl rfl (HOa.out w3 (Below.refl _ _)) rfl (by omega) (by decide) (HNs.out w3 (Below.refl _ _)) ?_; intro g5 cap5 w5 ho5 hg5 hat5 hl5; have HV5 := HPu.out w3 (Below.refl _ _) (false) HEk.out g5 cap5 w5 ho5 hg5; clear ho5 hg5 hat5 hl5 HPu HOa HNs n0 n1 n2 kc0 vc0 kc1 vc1 t1 t9 t11 t12 t13 t16 t17 t2 t3 t4 t5 t6 t7)
          go_roundw
          case rel => exact ⟨k + 1, some ⟨g5, 0, none⟩, cap5, by omega, by go_num, rfl, HV5⟩
          case measure => simp [intOf]; omega
      by_cases c8 : n.op = 8
      · have ho := c8
        have ha := arN_2 (n := n) (.inr c8)
        rw [ha] at HKm
        obtain rfl := HKm.out
        have t1 : (n.op == 1) = false := by rw [beq_eq_false_iff_ne]; omega
        have t9 : (n.op == 9) = false := by rw [beq_eq_false_iff_ne]; omega
        have t11 : (n.op == 11) = false := by rw [beq_eq_false_iff_ne]; omega
        have t12 : (n.op == 12) = false := by rw [beq_eq_false_iff_ne]; omega
        have t13 : (n.op == 13) = false := by rw [beq_eq_false_iff_ne]; omega
        have t16 : (n.op == 16) = false := by rw [beq_eq_false_iff_ne]; omega
        have t17 : (n.op == 17) = false := by rw [beq_eq_false_iff_ne]; omega
        have t2 : (n.op == 2) = false := by rw [beq_eq_false_iff_ne]; omega
        have t3 : (n.op == 3) = false := by rw [beq_eq_false_iff_ne]; omega
        have t4 : (n.op == 4) = false := by rw [beq_eq_false_iff_ne]; omega
        have t5 : (n.op == 5) = false := by rw [beq_eq_false_iff_ne]; omega
        have t6 : (n.op == 6) = false := by rw [beq_eq_false_iff_ne]; omega
        have t7 : (n.op == 7) = false := by rw [beq_eq_false_iff_ne]; omega
        have t8 : (n.op == 8) = true := by rw [ho]; rfl
        obtain ⟨j0, gK, gV, hk0, hj0, rfl, rfl, hc0⟩ := HKd.out 0 (by omega)
        obtain ⟨kc0, vc0⟩ := hc0
        have u0 : (0 : Int) ≤ (j0 : Int) := by omega
        have u1 : (j0 : Int) < (k : Int) := by omega
        have hE0 : (if 0 < arN n.op then EE (((kdR L k)[0]?).getD k) else false) = EE j0 := by rw [if_pos (by omega), hk0]; rfl
        obtain ⟨j1, gK1, gV1, hk1, hj1, e31, e21, hc1⟩ := HKd.out 1 (by omega)
        obtain ⟨kc1, vc1⟩ := hc1
        obtain ⟨rfl, _⟩ := Addr.mk.inj (Option.some.inj e31)
        obtain ⟨rfl, _⟩ := Addr.mk.inj (Option.some.inj e21)
        have u2 : (0 : Int) ≤ (j1 : Int) := by omega
        have u3 : (j1 : Int) < (k : Int) := by omega
        have hE1 : (if 1 < arN n.op then EE (((kdR L k)[1]?).getD k) else false) = EE j1 := by rw [if_pos (by omega), hk1]; rfl
        rw [hE0, hE1] at HSt
        have HEq := (show Hid (EE k = (EE j0 || EE j1)) from by show EE k = _; rw [HSt.out]; unfold nuD; rw [if_neg (by omega), if_neg (by omega), if_neg (by omega), if_neg (by omega), if_pos c8])
        generalize EE j0 = x0 at *
        generalize EE j1 = x1 at *
        clear ho c8 HSt hE0 hE1 hk0 hk1 e31 e21 ha
        clear HG HR HP HCl HRt HKd hlt
        cases x0 with
        | true =>
          have HEk := (show Hid (EE k = true) from by show EE k = _; rw [HEq.out]; rfl)
          clear HEq
          go_wp2_with (at_builtin; refine U.wpList_app1 rfl _ _ 82 rfl (.bool false) 1 Tryz.underlying82 Tryz.info4 rfl N k _ _ rfl rfl (HOa.out w3 (Below.refl _ _)) rfl (by omega) (by decide) (HNs.out w3 (Below.refl _ _)) ?_; intro g5 cap5 w5 ho5 hg5 hat5 hl5; have HV5 := HPu.out w3 (Below.refl _ _) (true) HEk.out g5 cap5 w5 ho5 hg5; clear ho5 hg5 hat5 hl5 HPu HOa HNs n0 n1 n2 kc0 vc0 kc1 vc1 t1 t9 t11 t12 t13 t16 t17 t2 t3 t4 t5 t6 t7 t8)
          go_roundw
          case rel => exact ⟨k + 1, some ⟨g5, 0, none⟩, cap5, by omega, by go_num, rfl, HV5⟩
          case measure => simp [intOf]; omega
        | false =>
          have HEk := (show Hid (EE k = x1) from by show EE k = _; rw [HEq.out]; rfl)
          clear HEq
          go_wp2_with (at_builtin; refine U.wpList_app1 rfl _ _ 82 rfl (.bool false) 1 Tryz.underlying82 Tryz.info4 rfl N k _ _ rfl rfl (HOa.out w3 (Below.refl _ _)) rfl (by omega) (by decide) (HNs.out w3 (Below.refl _ _)) ?_; intro g5 cap5 w5 ho5 hg5 hat5 hl5; have HV5 := HPu.out w3 (Below.refl _ _) (x1) HEk.out g5 cap5 w5 ho5 hg5; clear ho5 hg5 hat5 hl5 HPu HOa HNs n0 n1 n2 kc0 vc0 kc1 vc1 t1 t9 t11 t12 t13 t16 t17 t2 t3 t4 t5 t6 t7 t8)
          go_roundw
          case rel => exact ⟨k + 1, some ⟨g5, 0, none⟩, cap5, by omega, by go_num, rfl, HV5⟩
          case measure => simp [intOf]; omega
      by_cases c14 : n.op = 14
      · have ho := c14
        have ha := arN_1 hop (by omega) (by omega)
        rw [ha] at HKm
        obtain rfl := HKm.out
        have t1 : (n.op == 1) = false := by rw [beq_eq_false_iff_ne]; omega
        have t9 : (n.op == 9) = false := by rw [beq_eq_false_iff_ne]; omega
        have t11 : (n.op == 11) = false := by rw [beq_eq_false_iff_ne]; omega
        have t12 : (n.op == 12) = false := by rw [beq_eq_false_iff_ne]; omega
        have t13 : (n.op == 13) = false := by rw [beq_eq_false_iff_ne]; omega
        have t16 : (n.op == 16) = false := by rw [beq_eq_false_iff_ne]; omega
        have t17 : (n.op == 17) = false := by rw [beq_eq_false_iff_ne]; omega
        have t2 : (n.op == 2) = false := by rw [beq_eq_false_iff_ne]; omega
        have t3 : (n.op == 3) = false := by rw [beq_eq_false_iff_ne]; omega
        have t4 : (n.op == 4) = false := by rw [beq_eq_false_iff_ne]; omega
        have t5 : (n.op == 5) = false := by rw [beq_eq_false_iff_ne]; omega
        have t6 : (n.op == 6) = false := by rw [beq_eq_false_iff_ne]; omega
        have t7 : (n.op == 7) = false := by rw [beq_eq_false_iff_ne]; omega
        have t8 : (n.op == 8) = false := by rw [beq_eq_false_iff_ne]; omega
        have t14 : (n.op == 14) = true := by rw [ho]; rfl
        obtain ⟨j0, gK, gV, hk0, hj0, rfl, rfl, hc0⟩ := HKd.out 0 (by omega)
        obtain ⟨kc0, vc0⟩ := hc0
        have u0 : (0 : Int) ≤ (j0 : Int) := by omega
        have u1 : (j0 : Int) < (k : Int) := by omega
        have hE0 : (if 0 < arN n.op then EE (((kdR L k)[0]?).getD k) else false) = EE j0 := by rw [if_pos (by omega), hk0]; rfl
        rw [hE0] at HSt
        have HEq := (show Hid (EE k = (decide (n.nn = 0) || EE j0)) from by show EE k = _; rw [HSt.out]; unfold nuD; rw [if_neg (by omega), if_neg (by omega), if_neg (by omega), if_neg (by omega), if_neg (by omega), if_pos (by omega)])
        generalize EE j0 = x0 at *
        by_cases hz : n.nn = 0
        · have tz : (n.nn == 0) = true := by rw [hz]; rfl
          have HEk := (show Hid (EE k = true) from by show EE k = _; rw [HEq.out, decide_eq_true hz]; rfl)
          clear ho c14 HSt hE0 hk0 HEq hz ha
          clear HG HR HP HCl HRt HKd hlt
          go_wp2_with (at_builtin; refine U.wpList_app1 rfl _ _ 82 rfl (.bool false) 1 Tryz.underlying82 Tryz.info4 rfl N k _ _ rfl rfl (HOa.out w3 (Below.refl _ _)) rfl (by omega) (by decide) (HNs.out w3 (Below.refl _ _)) ?_; intro g5 cap5 w5 ho5 hg5 hat5 hl5; have HV5 := HPu.out w3 (Below.refl _ _) (true) HEk.out g5 cap5 w5 ho5 hg5; clear ho5 hg5 hat5 hl5 HPu HOa HNs n0 n1 n2 kc0 vc0 tz t1 t9 t11 t12 t13 t16 t17 t2 t3 t4 t5 t6 t7 t8 t14)
          go_roundw
          case rel => exact ⟨k + 1, some ⟨g5, 0, none⟩, cap5, by omega, by go_num, rfl, HV5⟩
          case measure => simp [intOf]; omega
        · have tz : (n.nn == 0) = false := by rw [beq_eq_false_iff_ne]; exact hz
          have HEk := (show Hid (EE k = x0) from by show EE k = _; rw [HEq.out, decide_eq_false hz]; rfl)
          clear ho c14 HSt hE0 hk0 HEq hz ha
          clear HG HR HP HCl HRt HKd hlt
          go_wp2_with (at_builtin; refine U.wpList_app1 rfl _ _ 82 rfl (.bool false) 1 Tryz.underlying82 Tryz.info4 rfl N k _ _ rfl rfl (HOa.out w3 (Below.refl _ _)) rfl (by omega) (by decide) (HNs.out w3 (Below.refl _ _)) ?_; intro g5 cap5 w5 ho5 hg5 hat5 hl5; have HV5 := HPu.out w3 (Below.refl _ _) (x0) HEk.out g5 cap5 w5 ho5 hg5; clear ho5 hg5 hat5 hl5 HPu HOa HNs n0 n1 n2 kc0 vc0 tz t1 t9 t11 t12 t13 t16 t17 t2 t3 t4 t5 t6 t7 t8 t14)
          go_roundw
          case rel => exact ⟨k + 1, some ⟨g5, 0, none⟩, cap5, by omega, by go_num, rfl, HV5⟩
          case measure => simp [intOf]; omega
      by_cases c15 : n.op = 15
      · have ho := c15
        have ha := arN_1 hop (by omega) (by omega)
        rw [ha] at HKm
        obtain rfl := HKm.out
        have t1 : (n.op == 1) = false := by rw [beq_eq_false_iff_ne]; omega
        have t9 : (n.op == 9) = false := by rw [beq_eq_false_iff_ne]; omega
        have t11 : (n.op == 11) = false := by rw [beq_eq_false_iff_ne]; omega
        have t12 : (n.op == 12) = false := by rw [beq_eq_false_iff_ne]; omega
        have t13 : (n.op == 13) = false := by rw [beq_eq_false_iff_ne]; omega
        have t16 : (n.op == 16) = false := by rw [beq_eq_false_iff_ne]; omega
        have t17 : (n.op == 17) = false := by rw [beq_eq_false_iff_ne]; omega
        have t2 : (n.op == 2) = false := by rw [beq_eq_false_iff_ne]; omega
        have t3 : (n.op == 3) = false := by rw [beq_eq_false_iff_ne]; omega
        have t4 : (n.op == 4) = false := by rw [beq_eq_false_iff_ne]; omega
        have t5 : (n.op == 5) = false := by rw [beq_eq_false_iff_ne]; omega
        have t6 : (n.op == 6) = false := by rw [beq_eq_false_iff_ne]; omega
        have t7 : (n.op == 7) = false := by rw [beq_eq_false_iff_ne]; omega
        have t8 : (n.op == 8) = false := by rw [beq_eq_false_iff_ne]; omega
        have t14 : (n.op == 14) = false := by rw [beq_eq_false_iff_ne]; omega
        have t15 : (n.op == 15) = true := by rw [ho]; rfl
        obtain ⟨j0, gK, gV, hk0, hj0, rfl, rfl, hc0⟩ := HKd.out 0 (by omega)
        obtain ⟨kc0, vc0⟩ := hc0
        have u0 : (0 : Int) ≤ (j0 : Int) := by omega
        have u1 : (j0 : Int) < (k : Int) := by omega
        have hE0 : (if 0 < arN n.op then EE (((kdR L k)[0]?).getD k) else false) = EE j0 := by rw [if_pos (by omega), hk0]; rfl
        rw [hE0] at HSt
        have HEq := (show Hid (EE k = (decide (n.nn = 0) || EE j0)) from by show EE k = _; rw [HSt.out]; unfold nuD; rw [if_neg (by omega), if_neg (by omega), if_neg (by omega), if_neg (by omega), if_neg (by omega), if_pos (by omega)])
        generalize EE j0 = x0 at *
        by_cases hz : n.nn = 0
        · have tz : (n.nn == 0) = true := by rw [hz]; rfl
          have HEk := (show Hid (EE k = true) from by show EE k = _; rw [HEq.out, decide_eq_true hz]; rfl)
          clear ho c15 HSt hE0 hk0 HEq hz ha
          clear HG HR HP HCl HRt HKd hlt
          go_wp2_with (at_builtin; refine U.wpList_app1 rfl _ _ 82 rfl (.bool false) 1 Tryz.underlying82 Tryz.info4 rfl N k _ _ rfl rfl (HOa.out w3 (Below.refl _ _)) rfl (by omega) (by decide) (HNs.out w3 (Below.refl _ _)) ?_; intro g5 cap5 w5 ho5 hg5 hat5 hl5; have HV5 := HPu.out w3 (Below.refl _ _) (true) HEk.out g5 cap5 w5 ho5 hg5; clear ho5 hg5 hat5 hl5 HPu HOa HNs n0 n1 n2 kc0 vc0 tz t1 t9 t11 t12 t13 t16 t17 t2 t3 t4 t5 t6 t7 t8 t14 t15)
          go_roundw
          case rel => exact ⟨k + 1, some ⟨g5, 0, none⟩, cap5, by omega, by go_num, rfl, HV5⟩
          case measure => simp [intOf]; omega
        · have tz : (n.nn == 0) = false := by rw [beq_eq_false_iff_ne]; exact hz
          have HEk := (show Hid (EE k = x0) from by show EE k = _; rw [HEq.out, decide_eq_false hz]; rfl)
          clear ho c15 HSt hE0 hk0 HEq hz ha
          clear HG HR HP HCl HRt HKd hlt
          go_wp2_with (at_builtin; refine U.wpList_app1 rfl _ _ 82 rfl (.bool false) 1 Tryz.underlying82 Tryz.info4 rfl N k _ _ rfl rfl (HOa.out w3 (Below.refl _ _)) rfl (by omega) (by decide) (HNs.out w3 (Below.refl _ _)) ?_; intro g5 cap5 w5 ho5 hg5 hat5 hl5; have HV5 := HPu.out w3 (Below.refl _ _) (x0) HEk.out g5 cap5 w5 ho5 hg5; clear ho5 hg5 hat5 hl5 HPu HOa HNs n0 n1 n2 kc0 vc0 tz t1 t9 t11 t12 t13 t16 t17 t2 t3 t4 t5 t6 t7 t8 t14 t15)
          go_roundw
          case rel => exact ⟨k + 1, some ⟨g5, 0, none⟩, cap5, by omega, by go_num, rfl, HV5⟩
          case measure => simp [intOf]; omega
      have ha := arN_1 hop (by omega) (by omega)
      rw [ha] at HKm
      obtain rfl := HKm.out
      have t1 : (n.op == 1) = false := by rw [beq_eq_false_iff_ne]; exact c1
      have t9 : (n.op == 9) = false := by rw [beq_eq_false_iff_ne]; exact c9
      have t11 : (n.op == 11) = false := by rw [beq_eq_false_iff_ne]; exact c11
      have t12 : (n.op == 12) = false := by rw [beq_eq_false_iff_ne]; exact c12
      have t13 : (n.op == 13) = false := by rw [beq_eq_false_iff_ne]; exact c13
      have t16 : (n.op == 16) = false := by rw [beq_eq_false_iff_ne]; exact c16
      have t17 : (n.op == 17) = false := by rw [beq_eq_false_iff_ne]; exact c17
      have t2 : (n.op == 2) = false := by rw [beq_eq_false_iff_ne]; exact c2
      have t3 : (n.op == 3) = false := by rw [beq_eq_false_iff_ne]; exact c3
      have t4 : (n.op == 4) = false := by rw [beq_eq_false_iff_ne]; exact c4
      have t5 : (n.op == 5) = false := by rw [beq_eq_false_iff_ne]; exact c5
      have t6 : (n.op == 6) = false := by rw [beq_eq_false_iff_ne]; exact c6
      have t7 : (n.op == 7) = false := by rw [beq_eq_false_iff_ne]; exact c7
      have t8 : (n.op == 8) = false := by rw [beq_eq_false_iff_ne]; exact c8
      have t14 : (n.op == 14) = false := by rw [beq_eq_false_iff_ne]; exact c14
      have t15 : (n.op == 15) = false := by rw [beq_eq_false_iff_ne]; exact c15
      obtain ⟨j0, gK, gV, hk0, hj0, rfl, rfl, hc0⟩ := HKd.out 0 (by omega)
      obtain ⟨kc0, vc0⟩ := hc0
      have u0 : (0 : Int) ≤ (j0 : Int) := by omega
      have u1 : (j0 : Int) < (k : Int) := by omega
      have hE0 : (if 0 < arN n.op then EE (((kdR L k)[0]?).getD k) else false) = EE j0 := by rw [if_pos (by omega), hk0]; rfl
      rw [hE0] at HSt
      have HEk := (show Hid (EE k = EE j0) from by show EE k = _; rw [HSt.out]; unfold nuD; rw [if_neg (by omega), if_neg (by omega), if_neg (by omega), if_neg (by omega), if_neg (by omega), if_neg (by omega)])
      generalize EE j0 = x0 at *
      clear c1 c9 c11 c12 c13 c16 c17 c2 c3 c4 c5 c6 c7 c8 c14 c15 HSt hE0 hk0 ha
      clear HG HR HP HCl HRt HKd hlt
      go_wp2_with (at_builtin; refine U.wpList_app1 rfl _ _ 82 rfl (.bool false) 1 Tryz.underlying82 Tryz.info4 rfl N k _ _ rfl rfl (HOa.out w3 (Below.refl _ _)) rfl (by omega) (by decide) (HNs.out w3 (Below.refl _ _)) ?_; intro g5 cap5 w5 ho5 hg5 hat5 hl5; have HV5 := HPu.out w3 (Below.refl _ _) (x0) HEk.out g5 cap5 w5 ho5 hg5; clear ho5 hg5 hat5 hl5 HPu HOa HNs n0 n1 n2 kc0 vc0 t1 t9 t11 t12 t13 t16 t17 t2 t3 t4 t5 t6 t7 t8 t14 t15)
      go_roundw
      case rel => exact ⟨k + 1, some ⟨g5, 0, none⟩, cap5, by omega, by go_num, rfl, HV5⟩
      case measure => simp [intOf]; omega
    · obtain rfl : k = L.length := by omega
      have HO := (show Hid (wr.ownsRow w.heap.size 4 1 (.slice A2 L.length c2) L.length ((List.range L.length).map fun j => Value.bool (EE j))) from U.own_base HW.out.o (by have := HW.out.n.1; omega))
      have HB := (show Hid (Below w.heap.size w wr) from HW.out.b)
      clear HW HG HP HRt HR HCl HSt0
      go_wp2_with fail
      go_ret
      exact ⟨⟨_, rfl, HO.out⟩, HB.out⟩
end Go.Proofs.YtbipjdgholdhcabGreat.N

namespace Go.Proofs.YtbipjdgholdhcabGreat.N
open Go.RowKit Go.Maps
open Go.Proofs.YtbipjdgholdhcabGreat.T

open U (own_get own_slice below_grown info_split)
/-- The document's row of what may match nothing, while it is reckoned. -/
structure NoS (w wr : World) (u : Value) (gs : GL) (gO : Nat) (out : List Bool) : Prop where
  b : Below w.heap.size w wr
  x : GX wr w.heap.size u
  o : wr.ownsRow (w.heap.size + 1) 4 1 (.slice (some ⟨gO, 0, none⟩) gs.length gs.length) gs.length (out.map Value.bool)
  l : out.length = gs.length
theorem NoS.later {w wr w2 : World} {u : Value} {gs : GL} {gO : Nat} {out : List Bool} (h : NoS w wr u gs gO out) (hb : Below wr.heap.size wr w2) : NoS w w2 u gs gO out := ⟨h.b.trans (hb.mono h.b.size), h.x.below hb, U.own_below h.o hb, h.l⟩
theorem NoS.bit {w wr : World} {u : Value} {gs : GL} {gO : Nat} {out : List Bool} (h : NoS w wr u gs gO out) (r : Nat) (v : Bool) : NoS w (wr.setCell ⟨gO, r, none⟩ (.bool v)) u gs gO (out.set r v) := by
  obtain ⟨s1, s2⟩ := h.o.stored r (.bool v)
  have hlt := (h.o.lt gO rfl).1
  refine ⟨below_grown h.b s2 (fun k e => by cases e; omega), h.x.same (s2.block _ h.x.lt (fun e => by cases e; omega)), ?_, by rw [List.length_set]; exact h.l⟩
  rw [List.map_set]
  exact s1
theorem NoS.rd {w wr : World} {u : Value} {gs : GL} {gO : Nat} {out : List Bool} (h : NoS w wr u gs gO out) : RdB wr gO out := fun j b hj => by
  obtain ⟨g', c', e, _, _, x, _⟩ := own_get h.o (j := j) (x := .bool b) (by rw [List.getElem?_map, hj]; rfl)
  have e1 : gO = g' := by injection e with e1; injection e1 with e1; injection e1
  subst e1
  exact x
/-- One round of the document: c0 are those that were not marked at its start. -/
structure NuR (gs : GL) (now : List Em) (out : List Bool) (mo : Bool) (i c0 : Nat) : Prop where
  n : NuI gs now out
  f : mo = false → out.count false = c0 ∧ ∀ (j : Nat) g, j < i → gs[j]? = some g → nuLa (kdR g.2) (lkB gs out) g.2 = true → out[j]? = some true
  t : mo = true → out.count false + 1 ≤ c0
theorem NuR.start {gs : GL} {now : List Em} {out : List Bool} (h : NuI gs now out) : NuR gs now out false 0 (out.count false) := ⟨h, fun _ => ⟨rfl, fun j g hj => by omega⟩, fun e => by cases e⟩
theorem NuR.keep {gs : GL} {now : List Em} {out : List Bool} {mo : Bool} {i c0 : Nat} (h : NuR gs now out mo i c0) {g : ByteArray × List Nd} (hg : gs[i]? = some g) (hk : nuLa (kdR g.2) (lkB gs out) g.2 = true → out[i]? = some true) : NuR gs now out mo (i + 1) c0 :=
  ⟨h.n, fun e => ⟨(h.f e).1, fun j g2 hj hg2 q => by
    by_cases e2 : j = i
    · subst e2
      rw [hg] at hg2
      cases hg2
      exact hk q
    · exact (h.f e).2 j g2 (by omega) hg2 q⟩, h.t⟩
theorem no_count : ∀ {l : List Bool} {i : Nat}, l[i]? = some false → (l.set i true).count false + 1 = l.count false := by
  intro l
  induction l with
  | nil => intro i h; cases h
  | cons a l ih =>
    intro i h
    cases i with
    | zero => cases h; simp
    | succ i =>
      have := ih (i := i) (by simpa using h)
      simp only [List.set_cons_succ, List.count_cons]
      omega
theorem NuR.mark {gs : GL} {now : List Em} {out : List Bool} {mo : Bool} {i c0 : Nat} (hk : KnF gs now) (h : NuR gs now out mo i c0) {g : ByteArray × List Nd} (hg : gs[i]? = some g) (hb : out[i]? = some false) (ht : nuLa (kdR g.2) (lkB gs out) g.2 = true) : NuR gs now (out.set i true) true (i + 1) c0 :=
  ⟨h.n.step hk hg ht, (fun e => by cases e), fun _ => by
    rw [no_count hb]
    cases mo with
    | false => have := (h.f rfl).1; omega
    | true => have := h.t rfl; omega⟩
theorem NuI.first (gs : GL) (now : List Em) : NuI gs now (List.replicate gs.length false) := ⟨List.length_replicate, fun i h => by
  rw [List.getElem?_replicate] at h
  split at h <;> cases h⟩
set_option maxRecDepth 100000 in
set_option maxHeartbeats 16000000 in
/-- The document: which rules may match nothing. -/
theorem nullableD_any {gs : GL} (hR : RtG gs) {now : List Em} (hk : KnF gs now) (hnl : now.length = gs.length) (A : Option Addr) (c : Nat) (w : World) (hp : GI w A gs) :
    Calls Tryz.prog 50 #[.agg #[.slice A gs.length c]] w fun e w' => (∃ v, e = .returned v ∧ w'.ownsRow w.heap.size 4 1 v gs.length ((now.map Em.nu).map Value.bool)) ∧ Below w.heap.size w w' := by
  have hn := hR.n2
  obtain ⟨w1, hw1⟩ : ∃ w1, w1 = w.alloc (.cells #[.slice A gs.length c] 24) := ⟨_, rfl⟩
  have HE1 := (show Hid (w.alloc (.cells #[.slice A gs.length c] 24) = w1) from hw1.symm)
  have hs1 : w1.heap.size = w.heap.size + 1 := by rw [hw1, World.size_alloc]
  have hg1 : GX w1 w.heap.size (.slice A gs.length c) := by rw [hw1]; exact GX.mk (heap_alloc_new w _)
  have hb1 : Below w.heap.size w w1 := by rw [hw1]; exact below_box _ _
  have q1 := hg1.cl
  obtain ⟨i0, hinf, hz0, hz1, hz2⟩ := info_split Tryz.info4
  obtain ⟨w3, hmk3, ho3, hg3⟩ := run_make_full (P := Tryz.prog) w1 (w.heap.size + 1) 82 4 i0 (.bool false) 1 Tryz.underlying82 hinf hz0 hz1 .i64 .i64 gs.length (by rw [hz2]; omega) (by unfold maxLen; omega) (by omega)
  have ho3' : w3.ownsRow (w.heap.size + 1) 4 1 (.slice (some ⟨w1.heap.size, 0, none⟩) gs.length gs.length) gs.length (List.replicate gs.length (.bool false)) := by
    have e : (madeCells (Value.cells (.bool false)) (gs.length * 1)).toList = List.replicate gs.length (Value.bool false) := by rw [Nat.mul_one]; exact toList_madeCells_one _ _
    rw [e] at ho3
    exact ho3
  have hb13 : Below w1.heap.size w1 w3 := below_grown (Below.refl _ _) hg3 (fun k e => by cases e)
  have HS := (show Hid (NoS w w3 (.slice A gs.length c) gs w1.heap.size (List.replicate gs.length false)) from
    ⟨hb1.trans (hb13.mono hb1.size), hg1.below hb13, by rw [List.map_replicate]; exact ho3', List.length_replicate⟩)
  have HNi := (show Hid (NuI gs now (List.replicate gs.length false)) from NuI.first gs now)
  have HP := (show Hid (GI w A gs) from hp)
  have HR := (show Hid (RtG gs) from hR)
  have HK := (show Hid (KnF gs now ∧ now.length = gs.length) from ⟨hk, hnl⟩)
  clear hR hk hnl hp hw1 hg1 hb1 hs1 hb13 hinf hz0 hz1 hz2 i0 ho3 ho3' hg3
  go_enter Tryz.func50, Tryz.ntmps50
  go_wp2_with (rw [HE1.out])
  clear hmk3 HE1 q1
  generalize w1.heap.size = gO at *
  go_loopg [4] ((List.replicate gs.length false).count false + 1) (fun gk m wr => ∃ (mo : Bool) (out : List Bool), m = .bool mo ∧ Hid (out.count false + (if mo then 1 else 0) = gk) ∧ Hid (NoS w wr (.slice A gs.length c) gs gO out) ∧ Hid (NuI gs now out) ∧ Hid (mo = false → ∀ (i : Nat) g, gs[i]? = some g → nuLa (kdR g.2) (lkB gs out) g.2 = true → out[i]? = some true))
  case atStart => exact ⟨true, _, rfl, rfl, HS, HNi, fun e => by cases e⟩
  case round =>
    obtain ⟨mo, out, rfl, HM, HW, HN, HF⟩ := hrel
    clear HS HNi
    cases mo with
    | false =>
      have HEq := (show Hid (out = now.map Em.nu) from NuI.done HK.out.1 HK.out.2 HN.out (HF.out rfl))
      have HO := (show Hid (wr.ownsRow w.heap.size 4 1 (.slice (some ⟨gO, 0, none⟩) gs.length gs.length) gs.length ((now.map Em.nu).map Value.bool)) from by show World.ownsRow _ _ _ _ _ _ _; rw [← HEq.out]; exact T.own_base HW.out.o (Nat.le_succ _))
      have HB := (show Hid (Below w.heap.size w wr) from HW.out.b)
      clear HW HN HF HM HEq HP HR HK
      go_wp2_with fail
      go_ret
      exact ⟨⟨_, rfl, HO.out⟩, HB.out⟩
    | true =>
      have HS0 := (show Hid (NuR gs now out false 0 (out.count false)) from NuR.start HN.out)
      have HM2 := (show Hid (out.count false + 1 = gk) from HM.out)
      obtain ⟨c0, hc0⟩ : ∃ c0, c0 = out.count false := ⟨_, rfl⟩
      rw [← hc0] at HS0 HM2
      clear HM HN HF hc0
      go_wp2_with fail
      go_loopw [4, 5] (fun s t wr => ∃ (mo : Bool) (k : Nat) (ou : List Bool), k ≤ gs.length ∧ t = .int .i64 (k : Int) ∧ s = .bool mo ∧ Hid (NoS w wr (.slice A gs.length c) gs gO ou) ∧ Hid (NuR gs now ou mo k c0)) (fun _ t _ => gs.length - (intOf t).toNat)
      case atStart => exact ⟨false, 0, out, by omega, by go_num, rfl, HW, HS0⟩
      case round =>
        obtain ⟨mo, k, ou, hk, rfl, rfl, HW2, HR2⟩ := hrel
        clear HW HS0
        by_cases hlt : k < gs.length
        · obtain ⟨g, hg⟩ : ∃ g, gs[k]? = some g := ⟨_, List.getElem?_eq_getElem hlt⟩
          have hm := List.mem_of_getElem? hg
          obtain ⟨b, o, A3, c3, rfl, lb, _, x1, r2⟩ := HP.out.d k g hg
          have x1' := (HW2.out.b.cell (p := ⟨b, o + k * 2 + 1, none⟩) lb).trans x1
          have q1 := HW2.out.x.cl
          have hpos := body_pos HR.out hm
          obtain ⟨j, hj⟩ : ∃ j, g.2.length = j + 1 := ⟨g.2.length - 1, by omega⟩
          obtain ⟨tb, htb⟩ : ∃ tb, tb = nuLa (kdR g.2) (lkB gs ou) g.2 := ⟨_, rfl⟩
          have HTb := (show Hid (tb = nuLa (kdR g.2) (lkB gs ou) g.2) from htb)
          have HPd := (show Hid (∀ _ : Unit, Calls Tryz.prog 61 #[.agg #[.slice (some ⟨b, o, none⟩) gs.length c], .slice A3 g.2.length c3, .slice (some ⟨gO, 0, none⟩) gs.length gs.length] wr fun e w' => (∃ gP cP, e = .returned (.slice (some ⟨gP, 0, none⟩) g.2.length cP) ∧ w'.cell? ⟨gP, j, none⟩ = some (.bool tb)) ∧ Below wr.heap.size wr w') from fun _ => by
            have h := nothing10_any (rt_of (HR.out.ck g hm)) (HP.out.t g hm).2.2 (fun n hn h6 => HR.out.dn.c g hm n hn h6) ou HW2.out.l (some ⟨b, o, none⟩) A3 c c3 gO gs.length wr (HP.out.later HW2.out.b) (r2.below HW2.out.b (Nat.le_refl _)) HW2.out.rd
            refine h.mono ?_
            rintro e w' ⟨⟨v, rfl, ho⟩, bb⟩
            obtain ⟨gP, cP, rfl, _, _, x, _⟩ := own_get ho (j := j) (x := .bool (nuA (kdR g.2) (lkB gs ou) g.2 j)) (by rw [List.getElem?_map, List.getElem?_range (by omega)]; rfl)
            refine ⟨⟨gP, cP, rfl, ?_⟩, bb⟩
            rw [htb, nuA_last, show g.2.length - 1 = j from by omega]
            exact x)
          have hgl : g.2.length ≤ 140737488355328 := (HP.out.t g hm).2.1
          have hsub : (g.2.length : Int) - 1 = (j : Int) := by omega
          have z0 : (0 : Int) ≤ (k : Int) := by omega
          have z1 : (k : Int) < (gs.length : Int) := by omega
          have z2 : (0 : Int) ≤ (j : Int) := by omega
          have z3 : (j : Int) < (g.2.length : Int) := by omega
          obtain ⟨ob, hob⟩ : ∃ ob, ou[k]? = some ob := ⟨_, List.getElem?_eq_getElem (by rw [HW2.out.l]; exact hlt)⟩
          have HOb := (show Hid (ou[k]? = some ob ∧ gs[k]? = some g ∧ KnF gs now) from ⟨hob, hg, HK.out.1⟩)
          have xo := HW2.out.rd k ob hob
          clear hg hm x1 r2 hpos hj htb lb hob HP HR HK
          cases ob with
          | true =>
            have HR3 := (show Hid (NuR gs now ou mo (k + 1) c0) from HR2.out.keep HOb.out.2.1 (fun _ => HOb.out.1))
            clear HPd HTb HR2 HOb HM2
            go_wp2_with fail
            go_roundw
            case rel => exact ⟨mo, k + 1, ou, by omega, by go_num, rfl, HW2, HR3⟩
            case measure => simp [intOf]; omega
          | false =>
            clear HM2
            go_wp2_with fail
            refine (HPd.out ()).mono ?_
            rintro e w4 ⟨⟨gP, cP, rfl, xp⟩, b4⟩
            have HW4 := (show Hid (NoS w w4 (.slice (some ⟨b, o, none⟩) gs.length c) gs gO ou) from HW2.out.later b4)
            obtain ⟨gm, cm, em2, _, _, xm4, fm⟩ := own_get HW4.out.o (j := k) (x := .bool false) (by rw [List.getElem?_map, HOb.out.1]; rfl)
            have emg : gO = gm := by injection em2 with e1; injection e1 with e1; injection e1
            clear em2
            subst emg
            cases tb with
            | true =>
              have HR3 := (show Hid (NuR gs now (ou.set k true) true (k + 1) c0) from HR2.out.mark HOb.out.2.2 HOb.out.2.1 HOb.out.1 HTb.out.symm)
              have HW5 := (show Hid (NoS w (w4.setCell ⟨gO, k, none⟩ (.bool true)) (.slice (some ⟨b, o, none⟩) gs.length c) gs gO (ou.set k true)) from HW4.out.bit k true)
              clear HPd HTb HR2 HOb HW4 HW2 b4 xo x1' q1
              go_wp2_with fail
              go_roundw
              case rel => exact ⟨true, k + 1, ou.set k true, by omega, by go_num, rfl, HW5, HR3⟩
              case measure => simp [intOf]; omega
            | false =>
              have HR3 := (show Hid (NuR gs now ou mo (k + 1) c0) from HR2.out.keep HOb.out.2.1 (fun q => by rw [← HTb.out] at q; cases q))
              clear HPd HTb HR2 HOb HW2 b4 xo x1' q1
              go_wp2_with fail
              go_roundw
              case rel => exact ⟨mo, k + 1, ou, by omega, by go_num, rfl, HW4, HR3⟩
              case measure => simp [intOf]; omega
        · obtain rfl : k = gs.length := by omega
          have HN2 := (show Hid (NuI gs now ou) from HR2.out.n)
          have HF2 := (show Hid (mo = false → ∀ (i : Nat) g, gs[i]? = some g → nuLa (kdR g.2) (lkB gs ou) g.2 = true → ou[i]? = some true) from fun e i g hg q => (HR2.out.f e).2 i g (List.getElem?_eq_some_iff.1 hg).1 hg q)
          have HLs := (show Hid (ou.count false + (if mo then 1 else 0) < c0 + 1) from by
            show _ < _
            cases mo with
            | false => have := (HR2.out.f rfl).1; simp; omega
            | true => have := HR2.out.t rfl; simp; omega)
          have q1 := HW2.out.x.cl
          clear HR2
          go_wp2_with fail
          go_roundg (ou.count false + (if mo then 1 else 0))
          case measure => have := HM2.out; have := HLs.out; omega
          case rel => exact ⟨mo, ou, rfl, rfl, HW2, HN2, HF2⟩
end Go.Proofs.YtbipjdgholdhcabGreat.N

namespace Go.Proofs.YtbipjdgholdhcabGreat.N
open Go.RowKit Go.Maps
open Go.Proofs.YtbipjdgholdhcabGreat.T

open U (own_get own_slice below_grown info_split)
/-- The document's rows while it looks for a rule's heads. -/
structure HeS (w wr : World) (u : Value) (gs : GL) (L : List Nd) (may : Nat → Bool) (gM gB gO gT B : Nat) (want out : List Bool) : Prop where
  b : Below w.heap.size w wr
  x : GX wr w.heap.size u
  m : ∀ i, i < L.length → wr.cell? ⟨gM, i, none⟩ = some (.bool (may i))
  r : ∀ i, i < L.length → wr.cell? ⟨gB, i, none⟩ = some (.int .i64 (pt L i).1)
  o : wr.ownsRow B 4 1 (.slice (some ⟨gO, 0, none⟩) gs.length gs.length) gs.length (out.map Value.bool)
  t : wr.ownsRow B 4 1 (.slice (some ⟨gT, 0, none⟩) L.length L.length) L.length (want.map Value.bool)
  lw : want.length = L.length
  lo : out.length = gs.length
  n : gM < B ∧ gB < B ∧ gO ≠ gT ∧ w.heap.size + 1 ≤ B ∧ B ≤ wr.heap.size
theorem HeS.later {w wr w2 : World} {u : Value} {gs : GL} {L : List Nd} {may : Nat → Bool} {gM gB gO gT B : Nat} {want out : List Bool} (h : HeS w wr u gs L may gM gB gO gT B want out) (hb : Below wr.heap.size wr w2) : HeS w w2 u gs L may gM gB gO gT B want out := by
  have hn := h.n
  exact ⟨h.b.trans (hb.mono h.b.size), h.x.below hb, fun i hi => (hb.cell (p := ⟨gM, i, none⟩) (Nat.lt_of_lt_of_le hn.1 hn.2.2.2.2)).trans (h.m i hi), fun i hi => (hb.cell (p := ⟨gB, i, none⟩) (Nat.lt_of_lt_of_le hn.2.1 hn.2.2.2.2)).trans (h.r i hi), U.own_below h.o hb, U.own_below h.t hb, h.lw, h.lo, hn.1, hn.2.1, hn.2.2.1, hn.2.2.2.1, Nat.le_trans hn.2.2.2.2 hb.size⟩
theorem HeS.want {w wr : World} {u : Value} {gs : GL} {L : List Nd} {may : Nat → Bool} {gM gB gO gT B : Nat} {want out : List Bool} (h : HeS w wr u gs L may gM gB gO gT B want out) (r : Nat) (v : Bool) : HeS w (wr.setCell ⟨gT, r, none⟩ (.bool v)) u gs L may gM gB gO gT B (want.set r v) out := by
  obtain ⟨s1, s2⟩ := h.t.stored r (.bool v)
  have hlt := (h.t.lt gT rfl).1
  have hn := h.n
  refine ⟨below_grown h.b s2 (fun k e => by cases e; omega), h.x.same (s2.block _ h.x.lt (fun e => by cases e; omega)), fun i hi => ?_, fun i hi => ?_, U.own_kept h.o s2 (fun k e q => by cases e; cases q; exact hn.2.2.1 rfl), ?_, by rw [List.length_set]; exact h.lw, h.lo, hn.1, hn.2.1, hn.2.2.1, hn.2.2.2.1, Nat.le_trans hn.2.2.2.2 s2.size⟩
  · rw [World.cell?_of_block (a := ⟨gM, i, none⟩) (s2.block gM (by omega) (fun e => by cases e; omega))]
    exact h.m i hi
  · rw [World.cell?_of_block (a := ⟨gB, i, none⟩) (s2.block gB (by omega) (fun e => by cases e; omega))]
    exact h.r i hi
  · rw [List.map_set]
    exact s1
theorem HeS.outs {w wr : World} {u : Value} {gs : GL} {L : List Nd} {may : Nat → Bool} {gM gB gO gT B : Nat} {want out : List Bool} (h : HeS w wr u gs L may gM gB gO gT B want out) (r : Nat) (v : Bool) : HeS w (wr.setCell ⟨gO, r, none⟩ (.bool v)) u gs L may gM gB gO gT B want (out.set r v) := by
  obtain ⟨s1, s2⟩ := h.o.stored r (.bool v)
  have hlt := (h.o.lt gO rfl).1
  have hn := h.n
  refine ⟨below_grown h.b s2 (fun k e => by cases e; omega), h.x.same (s2.block _ h.x.lt (fun e => by cases e; omega)), fun i hi => ?_, fun i hi => ?_, ?_, U.own_kept h.t s2 (fun k e q => by cases e; cases q; exact hn.2.2.1 rfl), h.lw, by rw [List.length_set]; exact h.lo, hn.1, hn.2.1, hn.2.2.1, hn.2.2.2.1, Nat.le_trans hn.2.2.2.2 s2.size⟩
  · rw [World.cell?_of_block (a := ⟨gM, i, none⟩) (s2.block gM (by omega) (fun e => by cases e; omega))]
    exact h.m i hi
  · rw [World.cell?_of_block (a := ⟨gB, i, none⟩) (s2.block gB (by omega) (fun e => by cases e; omega))]
    exact h.r i hi
  · rw [List.map_set]
    exact s1
/-- Besides: the row of a node's parts, and the node's own box. -/
structure HfS (w wr : World) (u : Value) (gs : GL) (L : List Nd) (may : Nat → Bool) (gM gB gO gT B : Nat) (want out : List Bool) (A4 : Option Addr) (hb i : Nat) (n : Nd) : Prop where
  s : HeS w wr u gs L may gM gB gO gT B want out
  k : ∀ (t j : Nat), (kdR L i)[t]? = some j → ∃ gK, A4 = some ⟨gK, 0, none⟩ ∧ gK < wr.heap.size ∧ gK ≠ gT ∧ wr.cell? ⟨gK, t, none⟩ = some (.int .i64 (j : Int))
  n0 : wr.cell? ⟨hb, 0, none⟩ = some (.int .i64 n.op)
  l : hb < wr.heap.size ∧ hb ≠ gT
theorem HfS.row {w wr : World} {u : Value} {gs : GL} {L : List Nd} {may : Nat → Bool} {gM gB gO gT B hb i t j : Nat} {want out : List Bool} {A4 : Option Addr} {n : Nd} (h : HfS w wr u gs L may gM gB gO gT B want out A4 hb i n) (hj : (kdR L i)[t]? = some j) : ∃ gK, A4 = some ⟨gK, 0, none⟩ ∧ wr.cell? ⟨gK, t, none⟩ = some (.int .i64 (j : Int)) := by
  obtain ⟨gK, h1, _, _, h2⟩ := h.k t j hj
  exact ⟨gK, h1, h2⟩
theorem HfS.later {w wr w2 : World} {u : Value} {gs : GL} {L : List Nd} {may : Nat → Bool} {gM gB gO gT B hb i : Nat} {want out : List Bool} {A4 : Option Addr} {n : Nd} (h : HfS w wr u gs L may gM gB gO gT B want out A4 hb i n) (hbl : Below wr.heap.size wr w2) : HfS w w2 u gs L may gM gB gO gT B want out A4 hb i n :=
  ⟨h.s.later hbl, fun t j hj => by
    obtain ⟨gK, h1, h2, h3, h4⟩ := h.k t j hj
    exact ⟨gK, h1, Nat.lt_of_lt_of_le h2 hbl.size, h3, (hbl.cell (p := ⟨gK, t, none⟩) h2).trans h4⟩, (hbl.cell (p := ⟨hb, 0, none⟩) h.l.1).trans h.n0, Nat.lt_of_lt_of_le h.l.1 hbl.size, h.l.2⟩
theorem HfS.drew {w wr : World} {u : Value} {gs : GL} {L : List Nd} {may : Nat → Bool} {gM gB gO gT B hb i : Nat} {want out : List Bool} {A4 : Option Addr} {n : Nd} (h : HfS w wr u gs L may gM gB gO gT B want out A4 hb i n) : HfS w wr.drew u gs L may gM gB gO gT B want out A4 hb i n := h.later (Below.refl _ _).drew
theorem HfS.bit {w wr : World} {u : Value} {gs : GL} {L : List Nd} {may : Nat → Bool} {gM gB gO gT B hb i : Nat} {want out : List Bool} {A4 : Option Addr} {n : Nd} (h : HfS w wr u gs L may gM gB gO gT B want out A4 hb i n) (r : Nat) (v : Bool) : HfS w (wr.setCell ⟨gT, r, none⟩ (.bool v)) u gs L may gM gB gO gT B (want.set r v) out A4 hb i n := by
  obtain ⟨s1, s2⟩ := h.s.t.stored r (.bool v)
  refine ⟨h.s.want r v, fun t j hj => ?_, ?_, Nat.lt_of_lt_of_le h.l.1 s2.size, h.l.2⟩
  · obtain ⟨gK, h1, h2, h3, h4⟩ := h.k t j hj
    refine ⟨gK, h1, Nat.lt_of_lt_of_le h2 s2.size, h3, ?_⟩
    rw [World.cell?_of_block (a := ⟨gK, t, none⟩) (s2.block gK h2 (fun e => by cases e; exact h3 rfl))]
    exact h4
  · rw [World.cell?_of_block (a := ⟨hb, 0, none⟩) (s2.block hb h.l.1 (fun e => by cases e; exact h.l.2 rfl))]
    exact h.n0
end Go.Proofs.YtbipjdgholdhcabGreat.N
