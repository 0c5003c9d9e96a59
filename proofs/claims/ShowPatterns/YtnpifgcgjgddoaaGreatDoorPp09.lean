/- DERIVED. Plain mathematics and walks, laid together (9). -/
import Derived.Deep.AppendLies
import Derived.WalkSpells
import Derived.Test.YtnpifgcgjgddoaaGreatDoorPp08
namespace Go.Proofs.YtnpifgcgjgddoaaGreatDoor.T
open Go.RowKit
theorem Tryz.info3 : (Tryz.prog.info? 3).map (fun i => (i.zero, i.size, i.bytes)) = some (some (.int .i64 0), 1, 8) := by kernel_rfl
def bgc (L : List Nd) (k : Nat) : List Value := (List.range k).map fun j => .int .i64 (pt L j).1
def hic (L : List Nd) (k : Nat) : List Value := (List.range k).map fun j => .int .i64 (pt L j).2.2
theorem bgc_succ (L : List Nd) (k : Nat) : bgc L (k + 1) = bgc L k ++ [.int .i64 (pt L k).1] := by unfold bgc; rw [List.range_succ, List.map_append]; rfl
theorem hic_succ (L : List Nd) (k : Nat) : hic L (k + 1) = hic L k ++ [.int .i64 (pt L k).2.2] := by unfold hic; rw [List.range_succ, List.map_append]; rfl
theorem bgc_get {L : List Nd} {k j : Nat} (h : j < k) : (bgc L k)[j]? = some (.int .i64 (pt L j).1) := by unfold bgc; rw [List.getElem?_map, List.getElem?_range h]; rfl
theorem hic_get {L : List Nd} {k j : Nat} (h : j < k) : (hic L k)[j]? = some (.int .i64 (pt L j).2.2) := by unfold hic; rw [List.getElem?_map, List.getElem?_range h]; rfl

structure AtF (L : List Nd) (w wr : World) (k : Nat) (v1 v2 : Value) : Prop where
  o1 : wr.ownsRow w.heap.size 3 1 v1 k (bgc L k)
  o2 : wr.ownsRow w.heap.size 3 1 v2 k (hic L k)
  ne : ∀ g, v1.ownBlock = some g → v2.ownBlock ≠ some g
  b : Below w.heap.size w wr
  e : ∀ j, j < k → er L j = 0
theorem AtF.below {L : List Nd} {w wr w2 : World} {k : Nat} {v1 v2 : Value} (h : AtF L w wr k v1 v2) (hb : Below wr.heap.size wr w2) : AtF L w w2 k v1 v2 :=
  ⟨own_below h.o1 hb, own_below h.o2 hb, h.ne, h.b.trans (hb.mono h.b.size), h.e⟩
theorem AtF.form {L : List Nd} {w wr : World} {k : Nat} {v1 v2 : Value} (h : AtF L w wr k v1 v2) : ∃ A1 c1 A2 c2, v1 = .slice A1 k c1 ∧ v2 = .slice A2 k c2 ∧ (0 < k → ∃ g1 g2, A1 = some ⟨g1, 0, none⟩ ∧ A2 = some ⟨g2, 0, none⟩) := by
  obtain ⟨A1, c1, e1, q1⟩ : ∃ A1 c1, v1 = .slice A1 k c1 ∧ (0 < k → ∃ g, A1 = some ⟨g, 0, none⟩) := by
    rcases h.o1.2 with ⟨a, b⟩ | ⟨g, cap, cur, a, _⟩
    · exact ⟨none, 0, by rw [a, b], fun q => by omega⟩
    · exact ⟨_, cap, a, fun _ => ⟨g, rfl⟩⟩
  obtain ⟨A2, c2, e2, q2⟩ : ∃ A2 c2, v2 = .slice A2 k c2 ∧ (0 < k → ∃ g, A2 = some ⟨g, 0, none⟩) := by
    rcases h.o2.2 with ⟨a, b⟩ | ⟨g, cap, cur, a, _⟩
    · exact ⟨none, 0, by rw [a, b], fun q => by omega⟩
    · exact ⟨_, cap, a, fun _ => ⟨g, rfl⟩⟩
  exact ⟨A1, c1, A2, c2, e1, e2, fun q => by
    obtain ⟨g1, h1⟩ := q1 q
    obtain ⟨g2, h2⟩ := q2 q
    exact ⟨g1, g2, h1, h2⟩⟩
/-- What from answers. -/
def FrV (w w' : World) (L : List Nd) (e : Ending) : Prop :=
  (∃ k, k < L.length ∧ (∀ j, j < k → er L j = 0) ∧ er L k ≠ 0 ∧ e = .returned (.tuple #[.slice none 0 0, .slice none 0 0, .int .i64 k, .int .i64 (er L k)])) ∨
  ((∀ j, j < L.length → er L j = 0) ∧ ∃ v1 v2, e = .returned (.tuple #[v1, v2, .int .i64 0, .int .i64 0]) ∧ AtF L w w' L.length v1 v2)
theorem FrV.bad {w w' : World} {L : List Nd} {k : Nat} {c : Int} (hk : k < L.length) (h : ∀ j, j < k → er L j = 0) (he : er L k = c) (hc : c ≠ 0) : FrV w w' L (.returned (.tuple #[.slice none 0 0, .slice none 0 0, .int .i64 k, .int .i64 c])) :=
  .inl ⟨k, hk, h, by rw [he]; exact hc, by rw [he]⟩
structure AtG (L : List Nd) (w wr : World) (k : Nat) (v1 v2 : Value) (B : Nat) (n : Nd) (gp op : Nat) : Prop where
  f : AtF L w wr k v1 v2
  x : NB wr B 0 n
  p : NdL wr gp op L
  lp : gp < w.heap.size
theorem AtG.below {L : List Nd} {w wr w2 : World} {k : Nat} {v1 v2 : Value} {B : Nat} {n : Nd} {gp op : Nat} (h : AtG L w wr k v1 v2 B n gp op) (hb : Below wr.heap.size wr w2) : AtG L w w2 k v1 v2 B n gp op :=
  ⟨h.f.below hb, h.x.below hb, h.p.same (hb.block _ (Nat.lt_of_lt_of_le h.lp h.f.b.size)), h.lp⟩

set_option maxRecDepth 100000 in
set_option maxHeartbeats 16000000 in
theorem from_any (L : List Nd) (Ap : Option Addr) (cp : Nat) (hL : L.length ≤ 2048) (hT : ∀ n ∈ L, n.tx.size ≤ 140737488355328) (w : World) (hp : RdN w Ap L) :
    Calls Tryz.prog 52 #[.slice Ap L.length cp] w fun e w' => FrV w w' L e ∧ Below w.heap.size w w' := by
  have HP := (show Hid (RdN w Ap L) from hp)
  have HA := (show Hid (AtF L w w 0 (.slice none 0 0) (.slice none 0 0)) from ⟨World.ownsRow_nil _ _ _ _, World.ownsRow_nil _ _ _ _, fun g q => by simp [Value.ownBlock] at q, Below.refl _ _, fun j q => by omega⟩)
  have HG := (show Hid (∀ k, k < L.length → ∃ n, L[k]? = some n ∧ n.tx.size ≤ 140737488355328 ∧ L ≠ []) from fun k hk => ⟨_, List.getElem?_eq_getElem hk, hT _ (List.getElem_mem hk), by rintro rfl; simp at hk⟩)
  clear hT hp
  obtain ⟨i0, hinf, hz0, hz1, hz2⟩ := info_parts Tryz.info3
  go_enter Tryz.func52, Tryz.ntmps52
  go_wp2_with fail
  go_loopw [6, 7, 8] (fun v1 v2 t wr => ∃ k : Nat, k ≤ L.length ∧ t = .int .i64 k ∧ Hid (AtF L w wr k v1 v2)) (fun _ _ t _ => L.length - (intOf t).toNat)
  case atStart => exact ⟨0, by omega, by go_num, HA⟩
  case round =>
    obtain ⟨k, hk, rfl, HW⟩ := hrel
    clear HA
    by_cases hlt : k < L.length
    · obtain ⟨n, hn, htx, hne⟩ := HG.out k hlt
      obtain ⟨gp, op, rfl, lp, cl⟩ := HP.out hne
      have HNn := (show Hid (L[k]? = some n) from hn)
      have HFd : Hid (∀ w, Calls Tryz.prog 75 #[ndG n] w fun e w' => e = .returned (.bool (fdF n)) ∧ Below w.heap.size w w') := fun w => fieldR n htx w
      have HAr : Hid (∀ w, Calls Tryz.prog 74 #[.int .i64 n.op] w fun e w' => e = .returned (.int .i64 (ar n.op)) ∧ w' = w) := fun w => arityR_any n.op w
      obtain ⟨c0, c1, c2, c3, c4, c5, c6⟩ := (cl.same (HW.out.b.block gp lp)) k n hn
      have z0 : (0 : Int) ≤ (k : Int) := by omega
      have z1 : (k : Int) < (L.length : Int) := by omega
      have HW2 := (show Hid (AtG L w (wr.alloc (ndO n)) k _ _ wr.heap.size n gp op) from ⟨HW.out.below (below_box wr (ndO n)), nb_new wr n, (cl.same (HW.out.b.block gp lp)).same ((below_box wr (ndO n)).block gp (Nat.lt_of_lt_of_le lp HW.out.b.size)), lp⟩)
      have HEr := (show Hid (er L k = if alE n ≠ 0 then alE n else if (run L k).length < arN n.op then 42 else if 60 < (pt L k).2.2 then 4 else 0) from er_of hn)
      clear hn hne cl HG HW HP
      by_cases ha : ar n.op < 0
      · have HE := (show Hid (er L k = 40) from by
          show er L k = _
          have : alE n = 40 := by unfold alE; rw [if_pos ha]
          rw [HEr.out, this]; rfl)
        clear HEr HFd HNn
        go_wp2_with fail
        refine (HAr.out _).mono ?_
        rintro e w2 ⟨rfl, rfl⟩
        clear HAr c0 c1 c2 c3 c4 c5 c6
        have za : decide (ar n.op < 0) = true := decide_eq_true ha
        clear ha
        generalize ar n.op = aa at *
        go_wp2_with fail
        refine bodyPost_ret (v := .tuple #[.slice none 0 0, .slice none 0 0, .int .i64 k, .int .i64 40]) (by simp [results, Tryz.results52, go_sem]) rfl ⟨FrV.bad hlt HW2.out.f.e HE.out (by decide), HW2.out.f.b⟩
      · have za : decide (ar n.op < 0) = false := decide_eq_false ha
        cases hf : fdF n with
        | false =>
          have HE := (show Hid (er L k = 41) from by
            show er L k = _
            have : alE n = 41 := by unfold alE; rw [if_neg ha, hf]; rfl
            rw [HEr.out, this]; rfl)
          clear HEr HNn ha
          go_wp2_with fail
          refine (HAr.out _).mono ?_
          rintro e w2 ⟨rfl, rfl⟩
          clear HAr c0 c1 c2 c3 c4 c5 c6
          generalize ar n.op = aa at *
          go_wp2_with fail
          refine (HFd.out _).mono ?_
          rintro e w3 ⟨rfl, b3⟩
          have HW3 := (show Hid _ from HW2.out.below b3)
          clear HW2 HFd b3
          rw [hf]
          go_wp2_with fail
          refine bodyPost_ret (v := .tuple #[.slice none 0 0, .slice none 0 0, .int .i64 k, .int .i64 41]) (by simp [results, Tryz.results52, go_sem]) rfl ⟨FrV.bad hlt HW3.out.f.e HE.out (by decide), HW3.out.f.b⟩
        | true =>
          have hal : alE n = 0 := by unfold alE; rw [if_neg ha, hf]; rfl
          have HE2 := (show Hid (er L k = if (run L k).length < arN n.op then 42 else if 60 < (pt L k).2.2 then 4 else 0) from by show er L k = _; rw [HEr.out, if_neg (by rw [hal]; simp)])
          have hrn := arN_of hal
          have ha2 := arN_le n.op
          clear HEr ha
          rw [← hrn] at HAr za
          go_wp2_with fail
          refine (HAr.out _).mono ?_
          rintro e w2 ⟨rfl, rfl⟩
          clear HAr c0 c1 c2 c3 c4 c5 c6 hrn hal
          have HOp := (show Hid (opAt L k = n.op) from op_of HNn.out)
          generalize haa : arN n.op = aa at *
          have HAa := (show Hid (arN n.op = aa) from haa)
          clear haa
          go_wp2_with fail
          refine (HFd.out _).mono ?_
          rintro e w3 ⟨rfl, b3⟩
          have HW3 := (show Hid (AtG L w w3 k u6 u7 wr.heap.size n gp op) from HW2.out.below b3)
          clear HW2 HFd b3
          rw [hf]
          clear hf
          obtain ⟨A1, k1, A2, k2, rfl, rfl, hfo⟩ := HW3.out.f.form
          have HFo := (show Hid (0 < k → ∃ g1 g2, A1 = some ⟨g1, 0, none⟩ ∧ A2 = some ⟨g2, 0, none⟩) from hfo)
          have HCh := (show Hid (Chn L k (run L k)) from chn_run L k hk HW3.out.f.e)
          have HPo := (show Hid (∀ x ∈ run L k, 1 ≤ x.2.2 ∧ x.2.2 ≤ 60 ∧ x.2.1 < k ∧ x = pt L x.2.1) from fun x hx => ⟨run_pos hk HW3.out.f.e x hx, (run_bd hk HW3.out.f.e x hx).2.2.1, (run_bd hk HW3.out.f.e x hx).2.1, (run_bd hk HW3.out.f.e x hx).2.2.2⟩)
          have HHb := (show Hid (∀ i, hI L n.op aa (run L k) i ≤ 60) from hI_bd L n.op aa (run L k) (fun x hx => (HPo.out x hx).2.1))
          clear hfo
          generalize hBz : wr.heap.size = Bz at *
          clear hBz
          go_wp2_with fail
          go_loopw [11, 12, 13] (fun t u v wq => ∃ i c : Nat, c + i = aa ∧ t = .int .i64 (atI k (run L k) i) ∧ u = .int .i64 (hI L n.op aa (run L k) i) ∧ v = .int .i64 c ∧ Hid (i ≤ (run L k).length) ∧ Hid (AtG L w wq k (.slice A1 k k1) (.slice A2 k k2) Bz n gp op)) (fun _ _ v _ => (intOf v).toNat)
          case atStart => exact ⟨0, aa, by omega, rfl, rfl, rfl, Nat.zero_le _, HW3⟩
          case round =>
            obtain ⟨i, c, hc, rfl, rfl, rfl, HI, HW4⟩ := hrel
            clear HW3
            by_cases hc0 : 0 < c
            · have zc : (0 : Int) < (c : Int) := by omega
              cases hst : (run L k).drop i with
              | nil =>
                have hat : atI k (run L k) i = 0 := by
                  have h := chn_at L k (run L k) HCh.out i HI.out
                  rw [hst] at h
                  exact h
                have hlen : (run L k).length < aa := by
                  have := List.drop_eq_nil_iff.1 hst
                  omega
                have HE := (show Hid (er L k = 42) from by show er L k = _; rw [HE2.out, if_pos hlen])
                have zt : (((atI k (run L k) i : Nat) : Int) == 0) = true := by rw [hat]; rfl
                clear hst hat hlen HE2 HCh HPo HHb HFo HAa HOp HNn HI
                generalize atI k (run L k) i = ai at *
                generalize hI L n.op aa (run L k) i = hi at *
                go_wp2_with fail
                refine bodyPost_ret (v := .tuple #[.slice none 0 0, .slice none 0 0, .int .i64 k, .int .i64 42]) (by simp [results, Tryz.results52, go_sem]) rfl ⟨FrV.bad hlt HW4.out.f.e HE.out (by decide), HW4.out.f.b⟩
              | cons x r =>
                have hch := chn_at L k (run L k) HCh.out i HI.out
                rw [hst] at hch
                obtain ⟨q1, q2, q3, _⟩ := hch
                have hi2 : i < (run L k).length := by
                  have := congrArg List.length hst
                  rw [List.length_drop, List.length_cons] at this
                  omega
                have hxi : (run L k)[i]? = some x := by
                  have := List.getElem?_drop (xs := run L k) (i := i) (j := 0)
                  rw [hst] at this
                  simpa using this.symm
                obtain ⟨p1, p2, p3, hpx⟩ := HPo.out x (List.mem_of_getElem? hxi)
                have hk0 : 0 < k := by omega
                obtain ⟨g1, g2, rfl, rfl⟩ := HFo.out hk0
                have ha1 : atI k (run L k) (i + 1) = x.1 := by rw [atI, hxi]
                have hh1 : hI L n.op aa (run L k) (i + 1) = max (hI L n.op aa (run L k) i) (if i + 1 = aa ∧ aa = 2 ∧ opAt L x.2.1 = n.op then x.2.2 - 1 else x.2.2) := by rw [hI, hxi]
                have hbh := HHb.out i
                have e1 := HW4.out.f.o1.cells (g := g1) rfl x.2.1 _ (bgc_get p3)
                have e2 := HW4.out.f.o2.cells (g := g2) rfl x.2.1 _ (hic_get p3)
                rw [Addr.add_lit, Nat.zero_add, ← q2] at e1 e2
                have hy : L[x.2.1]? = some L[x.2.1] := List.getElem?_eq_getElem (by omega)
                have e3 := (HW4.out.p x.2.1 _ hy).c0
                rw [← op_of hy] at e3
                have e4 := HW4.out.x.c0
                have zt : (((atI k (run L k) i : Nat) : Int) == 0) = false := beq_eq_false_iff_ne.2 (by omega)
                have hsub : ((atI k (run L k) i : Nat) : Int) - 1 = (x.2.1 : Int) := by omega
                have zx : (0 : Int) ≤ (x.2.1 : Int) := by omega
                have zk : (x.2.1 : Int) < (k : Int) := by omega
                have zl : (x.2.1 : Int) < (L.length : Int) := by omega
                have HI2 := (show Hid (i + 1 ≤ (run L k).length) from hi2)
                have HA1 := (show Hid _ from ha1)
                have HH1 := (show Hid _ from hh1)
                clear hst q1 q2 q3 hxi hy ha1 hh1 HE2 HCh HPo HHb HFo HAa HOp HNn HI hi2
                generalize hat : atI k (run L k) i = ai at *
                generalize hhi : hI L n.op aa (run L k) i = hi at *
                clear hat hhi
                obtain ⟨x1, x2, x3⟩ := x
                simp only at p1 p2 p3 e1 e2 e3 hsub zx zk zl HA1 HH1 hpx
                generalize hox : opAt L x2 = ox at *
                clear hox
                have HX1 := (show Hid ((pt L x2).1 = x1) from by show (pt L x2).1 = x1; rw [← hpx])
                clear hpx e1
                by_cases hg : c = 1 ∧ aa = 2
                · have t1 : ((c : Int) == 1) = true := beq_iff_eq.2 (by omega)
                  have t2 : ((aa : Int) == 2) = true := beq_iff_eq.2 (by omega)
                  by_cases ho : ox = n.op
                  · have HZ := (show Hid (hI L n.op aa (run L k) (i + 1) = max hi (x3 - 1)) from by show hI L n.op aa (run L k) (i + 1) = _; rw [HH1.out, if_pos ⟨by omega, hg.2, ho⟩])
                    have t3 : (ox == n.op) = true := beq_iff_eq.2 ho
                    have hx3 : ((x3 : Int) - 1) = ((x3 - 1 : Nat) : Int) := by omega
                    clear ho hg HH1
                    go_wp2_with fail
                    go_quiet (fail)
                    have HW5 := (show Hid (AtG L w (wr.drewN nq) k (.slice (some ⟨g1, 0, none⟩) k k1) (.slice (some ⟨g2, 0, none⟩) k k2) Bz n gp op) from HW4.out.below (below_drewN (Below.refl _ _) _))
                    clear HW4 e2 e3 e4
                    have e1 := HW5.out.f.o1.cells (g := g1) rfl x2 _ (bgc_get p3)
                    rw [Addr.add_lit, Nat.zero_add, HX1.out] at e1
                    generalize wr.drewN nq = w5 at *
                    go_wp2_with fail
                    go_roundw
                    case rel =>
                      refine ⟨i + 1, c - 1, by omega, by rw [HA1.out], ?_, by rw [show ((c : Int) - 1) = ((c - 1 : Nat) : Int) from by omega], HI2, HW5⟩
                      rw [HZ.out]
                      first | (rw [← max_i]; done) | rw [← max_int]
                    case measure => simp [intOf]; omega
                  · have HZ := (show Hid (hI L n.op aa (run L k) (i + 1) = max hi (x3)) from by show hI L n.op aa (run L k) (i + 1) = _; rw [HH1.out, if_neg (fun q => ho q.2.2)])
                    have t3 : (ox == n.op) = false := beq_eq_false_iff_ne.2 ho
                    clear ho hg HH1
                    go_wp2_with fail
                    go_quiet (fail)
                    have HW5 := (show Hid (AtG L w (wr.drewN nq) k (.slice (some ⟨g1, 0, none⟩) k k1) (.slice (some ⟨g2, 0, none⟩) k k2) Bz n gp op) from HW4.out.below (below_drewN (Below.refl _ _) _))
                    clear HW4 e2 e3 e4
                    have e1 := HW5.out.f.o1.cells (g := g1) rfl x2 _ (bgc_get p3)
                    rw [Addr.add_lit, Nat.zero_add, HX1.out] at e1
                    generalize wr.drewN nq = w5 at *
                    go_wp2_with fail
                    go_roundw
                    case rel =>
                      refine ⟨i + 1, c - 1, by omega, by rw [HA1.out], ?_, by rw [show ((c : Int) - 1) = ((c - 1 : Nat) : Int) from by omega], HI2, HW5⟩
                      rw [HZ.out]
                      first | (rw [← max_i]; done) | rw [← max_int]
                    case measure => simp [intOf]; omega
                · by_cases hc1 : c = 1
                  · have t1 : ((c : Int) == 1) = true := beq_iff_eq.2 (by omega)
                    have t2 : ((aa : Int) == 2) = false := beq_eq_false_iff_ne.2 (fun q => hg ⟨hc1, by omega⟩)
                    have HZ := (show Hid (hI L n.op aa (run L k) (i + 1) = max hi (x3)) from by show hI L n.op aa (run L k) (i + 1) = _; rw [HH1.out, if_neg (fun q => hg ⟨hc1, q.2.1⟩)])
                    clear hg HH1 hc1
                    go_wp2_with fail
                    go_quiet (fail)
                    have HW5 := (show Hid (AtG L w (wr.drewN nq) k (.slice (some ⟨g1, 0, none⟩) k k1) (.slice (some ⟨g2, 0, none⟩) k k2) Bz n gp op) from HW4.out.below (below_drewN (Below.refl _ _) _))
                    clear HW4 e2 e3 e4
                    have e1 := HW5.out.f.o1.cells (g := g1) rfl x2 _ (bgc_get p3)
                    rw [Addr.add_lit, Nat.zero_add, HX1.out] at e1
                    generalize wr.drewN nq = w5 at *
                    go_wp2_with fail
                    go_roundw
                    case rel =>
                      refine ⟨i + 1, c - 1, by omega, by rw [HA1.out], ?_, by rw [show ((c : Int) - 1) = ((c - 1 : Nat) : Int) from by omega], HI2, HW5⟩
                      rw [HZ.out]
                      first | (rw [← max_i]; done) | rw [← max_int]
                    case measure => simp [intOf]; omega
                  · have t1 : ((c : Int) == 1) = false := beq_eq_false_iff_ne.2 (by omega)
                    have HZ := (show Hid (hI L n.op aa (run L k) (i + 1) = max hi (x3)) from by show hI L n.op aa (run L k) (i + 1) = _; rw [HH1.out, if_neg (fun q => hc1 (by have := q.1; omega))])
                    clear hg HH1 hc1
                    go_wp2_with fail
                    go_quiet (fail)
                    have HW5 := (show Hid (AtG L w (wr.drewN nq) k (.slice (some ⟨g1, 0, none⟩) k k1) (.slice (some ⟨g2, 0, none⟩) k k2) Bz n gp op) from HW4.out.below (below_drewN (Below.refl _ _) _))
                    clear HW4 e2 e3 e4
                    have e1 := HW5.out.f.o1.cells (g := g1) rfl x2 _ (bgc_get p3)
                    rw [Addr.add_lit, Nat.zero_add, HX1.out] at e1
                    generalize wr.drewN nq = w5 at *
                    go_wp2_with fail
                    go_roundw
                    case rel =>
                      refine ⟨i + 1, c - 1, by omega, by rw [HA1.out], ?_, by rw [show ((c : Int) - 1) = ((c - 1 : Nat) : Int) from by omega], HI2, HW5⟩
                      rw [HZ.out]
                      first | (rw [← max_i]; done) | rw [← max_int]
                    case measure => simp [intOf]; omega
            · obtain rfl : c = 0 := by omega
              obtain rfl : i = aa := by omega
              have HPt := (show Hid (pt L k = (atI k (run L k) i, k, hI L n.op i (run L k) i + 1)) from by
                show pt L k = _
                have h := pt_at L k n.op (run L k) (by rw [HAa.out]; exact HI.out) (fun x hx => (HPo.out x hx).1)
                rw [HAa.out] at h
                rw [← h]
                unfold pt
                rw [HOp.out])
              have HE3 := (show Hid (er L k = if 60 < hI L n.op i (run L k) i + 1 then 4 else 0) from by
                show er L k = _
                rw [HE2.out, if_neg (by have := HI.out; omega), HPt.out])
              have hbh := HHb.out i
              have hab : atI k (run L k) i ≤ k := by
                have h := chn_at L k (run L k) HCh.out i HI.out
                cases hd : (run L k).drop i with
                | nil => rw [hd] at h; have e : atI k (run L k) i = 0 := h; omega
                | cons y r => rw [hd] at h; have := (HPo.out y (List.mem_of_mem_drop (by rw [hd]; simp))).2.2.1; have := h.1; omega
              clear HE2 HCh HPo HHb HFo HAa HOp HNn HI
              generalize atI k (run L k) i = ai at *
              generalize hI L n.op i (run L k) i = hi at *
              by_cases hd : 60 < hi + 1
              · have HE := (show Hid (er L k = 4) from by show er L k = _; rw [HE3.out, if_pos hd])
                have zd : (60 : Int) < (hi : Int) + 1 := by omega
                clear HE3 HPt hd
                go_wp2_with fail
                refine bodyPost_ret (v := .tuple #[.slice none 0 0, .slice none 0 0, .int .i64 k, .int .i64 4]) (by simp [results, Tryz.results52, go_sem]) rfl ⟨FrV.bad hlt HW4.out.f.e HE.out (by decide), HW4.out.f.b⟩
              · have HE := (show Hid (∀ j, j < k + 1 → er L j = 0) from fun j hj => by
                  by_cases q : j < k
                  · exact HW4.out.f.e j q
                  · obtain rfl : j = k := by omega
                    rw [HE3.out, if_neg hd])
                have zd : ¬ (60 : Int) < (hi : Int) + 1 := by omega
                clear HE3 hd
                have HF := (show Hid (AtF L w wr k (.slice A1 k k1) (.slice A2 k k2)) from HW4.out.f)
                have hO1 := HW4.out.f.o1
                have hbs := HW4.out.f.b.size
                clear HW4
                go_wp2_with (at_builtin; refine wpList_append_lies _ rfl _ _ 67 rfl w.heap.size 3 i0 (.int .i64 0) 1 8 Tryz.underlying67 hinf hz0 hz1 hz2 rfl (by decide) _ _ _ rfl (hO1.alloc _) ⟨wr.heap.size, 0, none⟩ 1 1 [.int .i64 ai] rfl rfl (cell_one_new _ _ _) ?c2 (by decide) ?c3 ?c4 ?c5 (wr.heap.size + 1) (by simp) ?_)
                case c2 => first | rfl | (intro u hu; simp at hu; subst hu; rfl)
                case c3 => unfold maxLen; omega
                case c4 => omega
                case c5 => first | omega | (simp; omega)
                intro g cap w6 hown1 hgrow1 hat1 hlt1
                have hO2 : w6.ownsRow w.heap.size 3 1 (.slice A2 k k2) k (hic L k) := (HF.out.o2.alloc _).kept hgrow1 (by
                  cases hv : (Value.slice A2 k k2).ownBlock with
                  | none => exact .inl rfl
                  | some g2 => exact .inr (fun e => HF.out.ne g2 e.symm hv))
                have HB6 := (show Hid (Below w.heap.size w w6) from (HF.out.b.alloc hbs _).grown hgrow1 (by simp; omega) (fun j e => (HF.out.o1.lt j e).1))
                have hb6 := HB6.out.size
                have hs6 : wr.heap.size + 1 ≤ w6.heap.size := by have := hgrow1.size; rw [World.size_alloc] at this; exact this
                have HO1 := (show Hid (w6.ownsRow w.heap.size 3 1 (.slice (some ⟨g, 0, none⟩) (k + 1) cap) (k + 1) (bgc L (k + 1))) from by rw [bgc_succ, HPt.out]; exact hown1)
                have HX1 := (show Hid (∀ j, (Value.slice A2 k k2).ownBlock = some j → j ≠ g ∧ j < w6.heap.size) from fun j hj => by
                  have hlt := (HF.out.o2.lt j hj).2
                  refine ⟨?_, by omega⟩
                  rcases hat1 with q | q
                  · rintro rfl
                    exact HF.out.ne _ q hj
                  · omega)
                have HG6 := (show Hid (g < w6.heap.size) from hlt1)
                clear hown1 hgrow1 hat1 hlt1 hO1 HF
                go_wp2_with (at_builtin; refine wpList_append_lies _ rfl _ _ 67 rfl w.heap.size 3 i0 (.int .i64 0) 1 8 Tryz.underlying67 hinf hz0 hz1 hz2 rfl (by decide) _ _ _ rfl (hO2.alloc _) ⟨w6.heap.size, 0, none⟩ 1 1 [.int .i64 ((hi : Int) + 1)] rfl rfl (cell_one_new _ _ _) ?c2 (by decide) ?c3 ?c4 ?c5 (w6.heap.size + 1) (by simp) ?_)
                case c2 => first | rfl | (intro u hu; simp at hu; subst hu; rfl)
                case c3 => unfold maxLen; omega
                case c4 => omega
                case c5 => first | omega | (simp; omega)
                intro g' cap' w7 hown2 hgrow2 hat2 hlt2
                have HW7 := (show Hid (AtF L w w7 (k + 1) (.slice (some ⟨g, 0, none⟩) (k + 1) cap) (.slice (some ⟨g', 0, none⟩) (k + 1) cap')) from by
                  refine ⟨(HO1.out.alloc _).kept hgrow2 (.inr ?_), ?_, ?_, (HB6.out.alloc hb6 _).grown hgrow2 (by simp; omega) (fun j e => (hO2.lt j e).1), HE.out⟩
                  · intro e
                    exact (HX1.out g e.symm).1 rfl
                  · rw [hic_succ, HPt.out]
                    have hcst : (((hi + 1 : Nat) : Nat) : Int) = (hi : Int) + 1 := by omega
                    show w7.ownsRow _ _ _ _ _ (hic L k ++ [.int .i64 ((hi + 1 : Nat) : Int)])
                    rw [hcst]
                    exact hown2
                  · intro j e1 e2
                    have q1 : g = j := Option.some.inj e1
                    have q2 : g' = j := Option.some.inj e2
                    rcases hat2 with q | q
                    · exact (HX1.out g' q).1 (by rw [q1, q2])
                    · have := HG6.out; omega)
                clear hown2 hgrow2 hat2 hlt2 hO2 HX1 HG6 HO1 HB6 HPt HE
                go_wp2_with fail
                go_roundw
                case rel => exact ⟨k + 1, by omega, by go_num, HW7⟩
                case measure => simp [intOf]; omega
    · obtain rfl : k = L.length := by omega
      clear HG HP
      go_wp2_with fail
      refine bodyPost_ret (v := .tuple #[u6, u7, .int .i64 0, .int .i64 0]) (by simp [results, Tryz.results52, go_sem]) rfl ⟨.inr ⟨HW.out.e, _, _, rfl, HW.out⟩, HW.out.b⟩
end Go.Proofs.YtnpifgcgjgddoaaGreatDoor.T

namespace Go.Proofs.YtnpifgcgjgddoaaGreatDoor.T
open Go.RowKit
theorem one_iff {L : List Nd} {m : Nat} (hm : L.length = m + 1) (h : ∀ j, j < L.length → er L j = 0) : (run L L.length).length = 1 ↔ (pt L m).1 = 0 := by
  have hc := chn_run L L.length (Nat.le_refl _) h
  rw [hm] at hc ⊢
  rw [run_succ] at hc ⊢
  have h2 := hc.2.2.2
  cases hd : (run L m).drop (arN (opAt L m)) with
  | nil => rw [hd] at h2; exact ⟨fun _ => h2, fun _ => rfl⟩
  | cons x r =>
    rw [hd] at h2
    have := h2.1
    constructor
    · intro e; simp at e
    · intro e; omega

set_option maxRecDepth 100000 in
set_option maxHeartbeats 4000000 in
theorem checkR_any (L : List Nd) (Ap : Option Addr) (cp : Nat) (hL : L.length ≤ 140737488355328) (hT : ∀ n ∈ L, n.tx.size ≤ 140737488355328) (w : World) (hp : RdN w Ap L) :
    Calls Tryz.prog 30 #[.slice Ap L.length cp] w fun e w' => e = .returned (.tuple #[.int .i64 (ck L).1, .int .i64 (ck L).2]) ∧ Below w.heap.size w w' := by
  by_cases hlong : 2048 < L.length
  · have HE := (show Hid (ck L = (0, 2)) from ck_long hlong)
    have z : (2048 : Int) < (L.length : Int) := by omega
    clear hT hp
    go_enter Tryz.func30, Tryz.ntmps30
    go_wp2_with fail
    go_ret2
    exact ⟨by rw [HE.out]; rfl, Below.refl _ _⟩
  have z : ¬ (2048 : Int) < (L.length : Int) := by omega
  have HF : Hid (∀ _ : Unit, Calls Tryz.prog 52 #[.slice Ap L.length cp] w fun e w' => FrV w w' L e ∧ Below w.heap.size w w') := fun _ => from_any L Ap cp (by omega) hT w hp
  clear hT hp
  have HN := (show Hid (¬ 2048 < L.length) from hlong)
  clear hlong
  go_enter Tryz.func30, Tryz.ntmps30
  go_wp2_with fail
  refine (HF.out ()).mono ?_
  rintro e w2 ⟨hv, b2⟩
  have HB := (show Hid (Below w.heap.size w w2) from b2)
  clear HF b2
  rcases hv with ⟨k, hk, h1, h2, rfl⟩ | ⟨h1, v1, v2, rfl, h2⟩
  · have HE := (show Hid (ck L = (k, er L k)) from ck_bad HN.out hk h1 h2)
    have t1 : (er L k != 0) = true := by rw [bne, beq_eq_false_iff_ne.2 h2]; rfl
    clear h1 h2 HN
    generalize er L k = ek at *
    go_wp2_with fail
    go_ret2
    exact ⟨by rw [HE.out]; rfl, HB.out⟩
  · have HE := (show Hid (ck L = if (run L L.length).length = 1 then (0, 0) else (L.length, 42)) from ck_end HN.out h1)
    obtain ⟨A1, c1, A2, c2, rfl, rfl, hf⟩ := h2.form
    by_cases h0 : L.length = 0
    · have HE2 := (show Hid (ck L = (L.length, 42)) from by
        show ck L = _
        rw [HE.out, if_neg]
        rw [List.eq_nil_of_length_eq_zero h0]
        simp [run])
      have t0 : ((L.length : Int) == 0) = true := beq_iff_eq.2 (by omega)
      clear h1 h2 hf h0 HE HN
      go_wp2_with fail
      go_ret2
      exact ⟨by rw [HE2.out]; rfl, HB.out⟩
    · obtain ⟨m, hm⟩ : ∃ m, L.length = m + 1 := ⟨L.length - 1, by omega⟩
      obtain ⟨g1, g2, rfl, rfl⟩ := hf (by omega)
      have hone := one_iff hm h1
      have e1 := h2.o1.cells (g := g1) rfl m _ (bgc_get (by omega))
      rw [Addr.add_lit, Nat.zero_add] at e1
      have t0 : ((L.length : Int) == 0) = false := beq_eq_false_iff_ne.2 (by omega)
      have hs : (L.length : Int) - 1 = (m : Int) := by omega
      have zm : (0 : Int) ≤ (m : Int) := by omega
      have zl : (m : Int) < (L.length : Int) := by omega
      by_cases hp0 : (pt L m).1 = 0
      · have HE2 := (show Hid (ck L = (0, 0)) from by show ck L = _; rw [HE.out, if_pos (hone.2 hp0)])
        have t2 : (((pt L m).1 : Int) != 0) = false := by rw [hp0]; rfl
        clear h1 h2 hf h0 HE HN hm hone hp0
        generalize (pt L m).1 = q at *
        go_wp2_with fail
        go_ret2
        exact ⟨by rw [HE2.out]; rfl, HB.out⟩
      · have HE2 := (show Hid (ck L = (L.length, 42)) from by show ck L = _; rw [HE.out, if_neg (fun q => hp0 (hone.1 q))])
        have t2 : (((pt L m).1 : Int) != 0) = true := by rw [bne, beq_eq_false_iff_ne.2 (by omega)]; rfl
        clear h1 h2 hf h0 HE HN hm hone hp0
        generalize (pt L m).1 = q at *
        go_wp2_with fail
        go_ret2
        exact ⟨by rw [HE2.out]; rfl, HB.out⟩
end Go.Proofs.YtnpifgcgjgddoaaGreatDoor.T

namespace Go.Proofs.YtnpifgcgjgddoaaGreatDoor.T
open Go.RowKit
def lastc (xs : List Pt) : List Value := xs.map fun x => .int .i64 x.2.1
end Go.Proofs.YtnpifgcgjgddoaaGreatDoor.T

namespace Go.Proofs.YtnpifgcgjgddoaaGreatDoor.T
open Go.RowKit
theorem own_ints (w : World) (xs : List Int) (_h0 : xs ≠ []) (hl : xs.length ≤ 2) : (w.alloc (.cells (xs.map fun x => Value.int .i64 x).toArray 3)).ownsRow w.heap.size 3 1 (.slice (some ⟨w.heap.size, 0, none⟩) xs.length xs.length) xs.length (xs.map fun x => .int .i64 x) :=
  ⟨by simp, .inr ⟨w.heap.size, xs.length, _, rfl, Nat.le_refl _, heap_alloc_new w _, Nat.le_refl _, by unfold maxLen; omega, by simp, by rw [Nat.mul_one]; exact List.take_of_length_le (by simp)⟩⟩
set_option maxRecDepth 100000 in
set_option maxHeartbeats 4000000 in
theorem kids_any (L : List Nd) (gp op cp g1 c1 : Nat) (j : Nat) (hL : L.length ≤ 2048) (hj : j < L.length) (he : ∀ i, i < L.length → er L i = 0) (w : World) (hp : NdL w gp op L) (lp : gp < w.heap.size) (hb : ∀ i, i < L.length → w.cell? ⟨g1, i, none⟩ = some (.int .i64 (pt L i).1)) :
    Calls Tryz.prog 57 #[.slice (some ⟨gp, op, none⟩) L.length cp, .slice (some ⟨g1, 0, none⟩) L.length c1, .int .i64 j] w fun e w' => (∃ v, e = .returned v ∧ w'.ownsRow w.heap.size 3 1 v (arN (opAt L j)) (lastc ((run L j).take (arN (opAt L j))).reverse)) ∧ Below w.heap.size w w' := by
  obtain ⟨n, hn⟩ : ∃ n, L[j]? = some n := ⟨_, List.getElem?_eq_getElem hj⟩
  have hok := er_ok hn (he j hj)
  have HA : Hid (∀ w, Calls Tryz.prog 74 #[.int .i64 n.op] w fun e w' => e = .returned (.int .i64 (ar n.op)) ∧ w' = w) := fun w => arityR_any n.op w
  have e1 := (hp j n hn).c0
  have hop := op_of hn
  have hch := chn_run L j (by omega) (fun i hi => he i (by omega))
  have har := arN_of hok.al
  have ha2 := arN_le n.op
  have hal := hok.ar
  have z0 : (0 : Int) ≤ (j : Int) := by omega
  have z1 : (j : Int) < (L.length : Int) := by omega
  rw [hop]
  clear hok hp hn he hop
  rw [← har] at HA
  clear har
  by_cases a0 : arN n.op = 0
  · rw [a0] at HA ⊢
    clear a0 hal ha2 hch hb
    go_enter Tryz.func57, Tryz.ntmps57
    go_wp2_with fail
    refine (HA.out _).mono ?_
    rintro e w2 ⟨rfl, rfl⟩
    clear HA e1
    go_wp2_with fail
    go_ret
    exact ⟨⟨_, rfl, World.ownsRow_nil _ _ _ _⟩, Below.refl _ _⟩
  · cases hst : run L j with
    | nil => rw [hst] at hal; simp at hal; omega
    | cons y r =>
      rw [hst] at hch hal
      obtain ⟨q1, q2, q3, q4⟩ := hch
      by_cases a1 : arN n.op = 1
      · rw [a1] at HA ⊢
        have hR : lastc ((y :: r).take 1).reverse = [(.int .i64 ((j : Int) - 1) : Value)] := by
          show [Value.int .i64 (y.2.1 : Int)] = _
          rw [show (y.2.1 : Int) = (j : Int) - 1 from by omega]
        have HO := (show Hid ((w.alloc (.cells #[.int .i64 ((j : Int) - 1)] 3)).ownsRow w.heap.size 3 1 (.slice (some ⟨w.heap.size, 0, none⟩) 1 1) 1 (lastc ((y :: r).take 1).reverse)) from by rw [hR]; exact own_ints w [(j : Int) - 1] (by simp) (by simp))
        clear a0 a1 hal ha2 hb q1 q2 q3 q4 hst hR
        go_enter Tryz.func57, Tryz.ntmps57
        go_wp2_with fail
        refine (HA.out _).mono ?_
        rintro e w2 ⟨rfl, rfl⟩
        clear HA e1
        go_wp2_with fail
        go_ret
        exact ⟨⟨_, rfl, HO.out⟩, below_box _ _⟩
      · have a2 : arN n.op = 2 := by omega
        rw [a2] at HA hal ⊢
        cases hr : r with
        | nil => rw [hr] at hal; simp at hal
        | cons x r2 =>
          rw [hr] at q4
          obtain ⟨p1, p2, p3, p4⟩ := q4
          have e2 := hb y.2.1 (by omega)
          rw [← q2] at e2
          have hR : lastc ((y :: x :: r2).take 2).reverse = [(.int .i64 ((y.1 : Int) - 1) : Value), .int .i64 ((j : Int) - 1)] := by
            show [Value.int .i64 (x.2.1 : Int), .int .i64 (y.2.1 : Int)] = _
            rw [show (y.2.1 : Int) = (j : Int) - 1 from by omega, show (x.2.1 : Int) = (y.1 : Int) - 1 from by omega]
          have HO := (show Hid ((w.alloc (.cells #[.int .i64 ((y.1 : Int) - 1), .int .i64 ((j : Int) - 1)] 3)).ownsRow w.heap.size 3 1 (.slice (some ⟨w.heap.size, 0, none⟩) 2 2) 2 (lastc ((y :: x :: r2).take 2).reverse)) from by rw [hR]; exact own_ints w [(y.1 : Int) - 1, (j : Int) - 1] (by simp) (by simp))
          have hsub : (j : Int) - 1 = (y.2.1 : Int) := by omega
          have z4 : (0 : Int) ≤ (y.2.1 : Int) := by omega
          have z5 : (y.2.1 : Int) < (L.length : Int) := by omega
          have zy : y.1 ≤ 2048 := by omega
          rw [hsub] at HO
          clear a0 a1 a2 hal ha2 hb q1 q2 q3 p1 p2 p3 p4 hst hR hr
          obtain ⟨y1, y2, y3⟩ := y
          simp only at e2 hsub z4 z5 zy HO
          go_enter Tryz.func57, Tryz.ntmps57
          go_wp2_with fail
          refine (HA.out _).mono ?_
          rintro e w2 ⟨rfl, rfl⟩
          clear HA e1
          go_wp2_with fail
          go_ret
          exact ⟨⟨_, rfl, HO.out⟩, below_box _ _⟩
end Go.Proofs.YtnpifgcgjgddoaaGreatDoor.T

namespace Go.Proofs.YtnpifgcgjgddoaaGreatDoor.N
open Go.RowKit
/-- A slice of numbers in a row of its own. -/
def KdE (W : World) (B : Nat) (own : Option Nat) (u : Value) (ks : List Nat) : Prop := ∃ A c, u = .slice A ks.length c ∧ (ks ≠ [] → ∃ g cur, A = some ⟨g, 0, none⟩ ∧ B ≤ g ∧ own ≠ some g ∧ W.heap[g]? = some (.cells cur 3 (0, 0)) ∧ ∀ (i j : Nat), ks[i]? = some j → cur[i]? = some (.int .i64 j))
theorem KdE.keep {W W' : World} {B : Nat} {own own' : Option Nat} {u : Value} {ks : List Nat} (h : KdE W B own u ks) (hb : ∀ g, B ≤ g → g < W.heap.size → own ≠ some g → W'.heap[g]? = W.heap[g]? ∧ own' ≠ some g) : KdE W' B own' u ks := by
  obtain ⟨A, c, e, h⟩ := h
  refine ⟨A, c, e, fun hne => ?_⟩
  obtain ⟨g, cur, h1, h2, h3, h4, h5⟩ := h hne
  obtain ⟨q1, q2⟩ := hb g h2 (Array.getElem?_eq_some_iff.1 h4).1 h3
  exact ⟨g, cur, h1, h2, q2, q1.trans h4, h5⟩
theorem KdE.mono {W : World} {B B' : Nat} {own : Option Nat} {u : Value} {ks : List Nat} (h : KdE W B none u ks) (hB : B' ≤ B) (ho : ∀ g, B ≤ g → own ≠ some g) : KdE W B' own u ks := by
  obtain ⟨A, c, e, h⟩ := h
  refine ⟨A, c, e, fun hne => ?_⟩
  obtain ⟨g, cur, h1, h2, h3, h4, h5⟩ := h hne
  exact ⟨g, cur, h1, by omega, ho g h2, h4, h5⟩
/-- The rows of parts. -/
def PtR (W : World) (B g : Nat) (L : List Nd) : Prop := B ≤ g ∧ ∃ cur, W.heap[g]? = some (.cells cur 67 (0, 0)) ∧ ∀ j, j < L.length → ∃ u, cur[j]? = some u ∧ KdE W B none u (kds L j)
theorem PtR.later {W W' : World} {B g : Nat} {L : List Nd} (h : PtR W B g L) (hb : Below W.heap.size W W') : PtR W' B g L := by
  obtain ⟨h1, cur, h2, h3⟩ := h
  refine ⟨h1, cur, (hb.block g (Array.getElem?_eq_some_iff.1 h2).1).trans h2, fun j hj => ?_⟩
  obtain ⟨u, q1, q2⟩ := h3 j hj
  exact ⟨u, q1, q2.keep fun g _ hl _ => ⟨hb.block g hl, by simp⟩⟩
structure AtP (L : List Nd) (w wr : World) (k m g : Nat) (v : Value) : Prop where
  o : wr.ownsRow w.heap.size 3 1 v (T.run L k).length (T.lastc (T.run L k).reverse)
  p : ∃ cur, wr.heap[g]? = some (.cells cur 67 (0, 0)) ∧ cur.size = L.length ∧ ∀ j, j < m → ∃ u, cur[j]? = some u ∧ KdE wr w.heap.size v.ownBlock u (kds L j)
  n : v.ownBlock ≠ some g
  gg : w.heap.size ≤ g
  b : Below w.heap.size w wr
theorem AtP.later {L : List Nd} {w wr w2 : World} {k m g : Nat} {v : Value} (h : AtP L w wr k m g v) (hb : Below wr.heap.size wr w2) : AtP L w w2 k m g v := by
  obtain ⟨ho, ⟨cur, h2, h3, h4⟩, hn, hg, hbb⟩ := h
  refine ⟨T.own_below ho hb, ⟨cur, (hb.block g (Array.getElem?_eq_some_iff.1 h2).1).trans h2, h3, fun j hj => ?_⟩, hn, hg, hbb.trans (hb.mono hbb.size)⟩
  obtain ⟨u, q1, q2⟩ := h4 j hj
  exact ⟨u, q1, q2.keep fun g _ hl ho => ⟨hb.block g hl, ho⟩⟩
theorem AtP.lt {L : List Nd} {w wr : World} {k m g : Nat} {v : Value} (h : AtP L w wr k m g v) : g < wr.heap.size := by
  obtain ⟨cur, h2, _⟩ := h.p
  exact (Array.getElem?_eq_some_iff.1 h2).1
/-- One entry more. -/
theorem AtP.put {L : List Nd} {w wr : World} {k g : Nat} {v u : Value} (h : AtP L w wr k k g v) (hk : k < L.length) (hu : KdE wr w.heap.size v.ownBlock u (kds L k)) (hug : KdE wr w.heap.size (some g) u (kds L k)) : AtP L w (wr.setCell ⟨g, k, none⟩ u) k (k + 1) g v := by
  have hlt := h.lt
  obtain ⟨ho, ⟨cur, h2, h3, h4⟩, hn, hg, hbb⟩ := h
  have hblk : ∀ b, b ≠ g → (wr.setCell ⟨g, k, none⟩ u).heap[b]? = wr.heap[b]? := fun b hb => Below.heap_setCell _ _ _ _ hb
  refine ⟨?_, ⟨cur.setIfInBounds k u, by rw [heap_setCell_same _ g k _ 67 u h2], by rw [Array.size_setIfInBounds]; exact h3, fun j hj => ?_⟩, hn, hg, hbb.setCell (p := ⟨g, k, none⟩) hg _⟩
  · refine ho.kept (row := some g) ⟨rfl, rfl, rfl, by simp [World.setCell], fun b _ hb => hblk b (fun e => hb (by rw [e]))⟩ (.inr hn)
  · by_cases q : j = k
    · subst q
      refine ⟨u, by rw [Array.getElem?_setIfInBounds, if_pos rfl, if_pos (by omega)], ?_⟩
      obtain ⟨A, c, e, f1⟩ := hu
      obtain ⟨A', c', e', f2⟩ := hug
      refine ⟨A, c, e, fun hne => ?_⟩
      obtain ⟨g1, cur1, p1, p2, p3, p4, p5⟩ := f1 hne
      obtain ⟨g2, cur2, r1, r2, r3, r4, r5⟩ := f2 hne
      rw [e] at e'
      injection e' with e1
      rw [p1, r1] at e1
      have e3 : g1 = g2 := by injection e1 with e1; injection e1
      subst e3
      exact ⟨g1, cur1, p1, p2, p3, (hblk g1 (fun e => r3 (by rw [e]))).trans p4, p5⟩
    · obtain ⟨u', q1, q2⟩ := h4 j (by omega)
      refine ⟨u', by rw [Array.getElem?_setIfInBounds, if_neg (by omega)]; exact q1, ?_⟩
      obtain ⟨A, c, e, f1⟩ := q2
      refine ⟨A, c, e, fun hne => ?_⟩
      obtain ⟨g1, cur1, p1, p2, p3, p4, p5⟩ := f1 hne
      refine ⟨g1, cur1, p1, p2, p3, (hblk g1 ?_).trans p4, p5⟩
      rintro rfl
      rw [h2] at p4
      cases p4
theorem Tryz.info67 : (Tryz.prog.info? 67).map (fun i => (i.zero, i.size, i.bytes)) = some (some (.slice none 0 0), 1, 24) := by kernel_rfl
theorem make90 (n : Nat) (hn : n ≤ 2048) (w : World) : (Instr.makeSlice 90 (.int .i64 n) (.int .i64 n)).run Tryz.prog w = .ok (.slice (some ⟨w.heap.size, 0, none⟩) n n) (w.alloc (.cells (madeCells #[.slice none 0 0] n) 67)) := by
  obtain ⟨i0, hinf, hz0, hz1, hz2⟩ := T.info_parts Tryz.info67
  rw [run_make w 90 67 i0 (.slice none 0 0) Tryz.underlying90 hinf hz0 .i64 .i64 n n (by omega) (by omega) (by rw [hz2]; omega) (by omega), hz1]
  rw [Int.toNat_natCast, Nat.mul_one]
  rfl
theorem own_empty3 (w : World) : (w.alloc (.cells #[] 3)).ownsRow w.heap.size 3 1 (.slice (some ⟨w.heap.size, 0, none⟩) 0 0) 0 [] :=
  ⟨rfl, .inr ⟨w.heap.size, 0, _, rfl, Nat.le_refl _, heap_alloc_new w _, Nat.le_refl _, by unfold maxLen; omega, rfl, rfl⟩⟩
/-- Numbers that are read. -/
def RdI (W : World) (A : Option Addr) (xs : List Nat) : Prop := xs ≠ [] → ∃ g o, A = some ⟨g, o, none⟩ ∧ g < W.heap.size ∧ ∀ (j x : Nat), xs[j]? = some x → W.cell? ⟨g, o + j, none⟩ = some (.int .i64 x)
theorem own_kde {W : World} {B : Nat} {v : Value} {ks : List Nat} (h : W.ownsRow B 3 1 v ks.length (ks.map fun (x : Nat) => Value.int .i64 x)) : KdE W B none v ks := by
  rcases h.2 with ⟨q1, q2⟩ | ⟨g, cap, cur, q1, q2, q3, q4, q5, q6, q7⟩
  · have : ks = [] := List.eq_nil_of_length_eq_zero q2
    subst this
    exact ⟨none, 0, q1, fun h => absurd rfl h⟩
  · refine ⟨_, cap, q1, fun _ => ⟨g, cur, rfl, q2, by simp, q3, fun i j hij => ?_⟩⟩
    have hi : i < ks.length := (List.getElem?_eq_some_iff.1 hij).1
    have : (cur.toList.take (ks.length * 1))[i]? = (ks.map fun (x : Nat) => Value.int .i64 x)[i]? := by rw [q7]
    rw [List.getElem?_take, if_pos (by omega), List.getElem?_map, hij] at this
    simpa using this
set_option maxRecDepth 100000 in
set_option maxHeartbeats 4000000 in
theorem clone_some (ad : Addr) (c : Nat) (ks : List Nat) (hl : ks.length ≤ 2) (w : World) (hc : ∀ (j : Nat) u, (ks.map fun (x : Nat) => Value.int .i64 x)[j]? = some u → w.cell? (ad.add j) = some u) :
    Calls Tryz.prog 70 #[.slice (some ad) ks.length c] w fun e w' => (∃ u, e = .returned u ∧ KdE w' w.heap.size none u ks) ∧ Below w.heap.size w w' := by
  obtain ⟨i0, hinf, hz0, hz1, hz2⟩ := T.info_parts T.Tryz.info3
  have hO := own_empty3 w
  have HB := (show Hid (Below w.heap.size w (w.alloc (.cells #[] 3))) from below_box _ _)
  have HC := (show Hid (∀ (j : Nat) u, (ks.map fun (x : Nat) => Value.int .i64 x)[j]? = some u → (w.alloc (.cells #[] 3)).cell? (ad.add j) = some u) from fun j u hj => by
    have h1 := hc j u hj
    have h2 := World.block_lt_of_cell? w _ h1
    exact ((below_box w (.cells #[] 3)).cell (p := ad.add j) h2).trans h1)
  have HI := (show Hid ((ks.map fun (x : Nat) => Value.int .i64 x).length = ks.length * 1 ∧ ∀ u ∈ (ks.map fun (x : Nat) => Value.int .i64 x), u.oneCell' = true) from ⟨by simp, fun u hu => by
    obtain ⟨x, _, rfl⟩ := List.mem_map.1 hu
    rfl⟩)
  have HK := (show Hid (∀ W v, W.ownsRow w.heap.size 3 1 v ks.length (ks.map fun (x : Nat) => Value.int .i64 x) → KdE W w.heap.size none v ks) from fun W v h => own_kde h)
  clear hc
  generalize (ks.map fun (x : Nat) => Value.int .i64 x) = xs at *
  generalize hn : ks.length = n at *
  have hnl : ∀ w : World, (binOp .eql 67 (.slice (some ad) n c) (.slice none 0 0)).run Tryz.prog w = .ok (.bool false) w := fun w => run_eql_nil_slice w 67 3 (some ad) n c 0 0 Tryz.underlying67
  go_enter Tryz.func70, Tryz.ntmps70
  go_wp2_with (at_builtin; refine wpList_append_own _ rfl _ _ 67 rfl w.heap.size 3 i0 (.int .i64 0) 1 8 Tryz.underlying67 hinf hz0 hz1 hz2 rfl (by decide) _ _ _ rfl hO ad n c xs rfl HI.out.1 HC.out HI.out.2 ?c3 ?c4 ?c5 ?_)
  case c3 => unfold maxLen; omega
  case c4 => omega
  case c5 => simp
  intro v1 w1 hown hgrow _
  have HB1 := (show Hid (Below w.heap.size w w1) from HB.out.grown hgrow (by simp) (fun k e => (hO.lt k e).1))
  have HKv := (show Hid (KdE w1 w.heap.size none v1 ks) from HK.out _ _ hown)
  clear hgrow hO HB hown HK HC HI
  go_wp2_with fail
  go_ret
  exact ⟨⟨_, rfl, HKv.out⟩, HB1.out⟩
set_option maxRecDepth 100000 in
set_option maxHeartbeats 4000000 in
theorem clone_nil (c : Nat) (w : World) : Calls Tryz.prog 70 #[.slice none 0 c] w fun e w' => (∃ u, e = .returned u ∧ KdE w' w.heap.size none u []) ∧ Below w.heap.size w w' := by
  have hnl : ∀ w : World, (binOp .eql 67 (.slice none 0 c) (.slice none 0 0)).run Tryz.prog w = .ok (.bool true) w := fun w => run_eql_nil_slice w 67 3 none 0 c 0 0 Tryz.underlying67
  go_enter Tryz.func70, Tryz.ntmps70
  go_wp2_with fail
  go_ret
  exact ⟨⟨_, rfl, none, 0, rfl, fun h => absurd rfl h⟩, Below.refl _ _⟩
theorem clone_any (A : Option Addr) (c : Nat) (ks : List Nat) (hl : ks.length ≤ 2) (w : World) (h : RdI w A ks) : Calls Tryz.prog 70 #[.slice A ks.length c] w fun e w' => (∃ u, e = .returned u ∧ KdE w' w.heap.size none u ks) ∧ Below w.heap.size w w' := by
  cases A with
  | none =>
    by_cases hk : ks = []
    · subst hk
      exact clone_nil c w
    · obtain ⟨g, o, e, _⟩ := h hk
      cases e
  | some ad =>
    refine clone_some ad c ks hl w fun j u hj => ?_
    have hlt : j < ks.length := by have := (List.getElem?_eq_some_iff.1 hj).1; simpa using this
    obtain ⟨g, o, e, _, h2⟩ := h (by rintro rfl; simp at hlt)
    cases e
    rw [List.getElem?_map, List.getElem?_eq_getElem hlt] at hj
    cases hj
    rw [Addr.add_lit]
    exact h2 j _ (List.getElem?_eq_getElem hlt)
set_option maxRecDepth 100000 in
set_option maxHeartbeats 16000000 in
theorem parts_any (L : List Nd) (gp op cp : Nat) (hL : L.length ≤ 2048) (he : ∀ j, j < L.length → T.er L j = 0) (w : World) (hp : T.NdL w gp op L) (lp : gp < w.heap.size) :
    Calls Tryz.prog 47 #[.slice (some ⟨gp, op, none⟩) L.length cp] w fun e w' => (∃ g, e = .returned (.slice (some ⟨g, 0, none⟩) L.length L.length) ∧ PtR w' w.heap.size g L) ∧ Below w.heap.size w w' := by
  obtain ⟨i0, hinf, hz0, hz1, hz2⟩ := T.info_parts T.Tryz.info3
  have hmk := make90 L.length hL
  have HP := (show Hid (T.NdL w gp op L) from hp)
  have HA := (show Hid (AtP L w (w.alloc (.cells (madeCells #[.slice none 0 0] L.length) 67)) 0 0 w.heap.size (.slice none 0 0)) from ⟨World.ownsRow_nil _ _ _ _, ⟨_, heap_alloc_new w _, size_madeCells _ _, fun j q => by omega⟩, by simp [Value.ownBlock], Nat.le_refl _, below_box _ _⟩)
  have HG := (show Hid (∀ k, k < L.length → ∃ n, L[k]? = some n ∧ T.ErOk L k n) from fun k hk => ⟨_, List.getElem?_eq_getElem hk, T.er_ok (List.getElem?_eq_getElem hk) (he k hk)⟩)
  have HE := (show Hid (∀ j, j < L.length → T.er L j = 0) from he)
  clear hp he
  go_enter Tryz.func47, Tryz.ntmps47
  go_wp2_with fail
  clear hmk
  go_loopw [4, 13] (fun v t wr => ∃ k : Nat, k ≤ L.length ∧ t = .int .i64 k ∧ Hid (AtP L w wr k k w.heap.size v)) (fun _ t _ => L.length - (intOf t).toNat)
  case atStart => exact ⟨0, by omega, by go_num, HA⟩
  case round =>
    obtain ⟨k, hk, rfl, HW⟩ := hrel
    clear HA
    by_cases hlt : k < L.length
    · obtain ⟨n, hn, hok⟩ := HG.out k hlt
      have HN := (show Hid (L[k]? = some n) from hn)
      have HAr : Hid (∀ w, Calls Tryz.prog 68 #[.int .i64 n.op] w fun e w' => e = .returned (.int .i64 (T.arN n.op)) ∧ w' = w) := fun w => by rw [T.arN_of hok.al]; exact T.arity_any n.op w
      have har := hok.ar
      have h2 := T.arN_le n.op
      obtain ⟨c0, c1, c2, c3, c4, c5, c6⟩ := (HP.out.same (HW.out.b.block gp lp)) k n hn
      have z0 : (0 : Int) ≤ (k : Int) := by omega
      have z1 : (k : Int) < (L.length : Int) := by omega
      have HW1 := (show Hid (AtP L w (wr.alloc (T.ndO n)) k k w.heap.size _) from HW.out.later (below_box wr (T.ndO n)))
      have HBox := (show Hid (T.NB (wr.alloc (T.ndO n)) wr.heap.size 0 n) from T.nb_new wr n)
      have hKd := kds_run hn (fun j hj => HE.out j (by omega))
      have hop := T.op_of hn
      have hrun := T.run_succ L k
      rw [hop] at hrun
      have hrl := T.run_len L k
      obtain ⟨A, cA, hv, hAo⟩ : ∃ A c, u4 = .slice A (T.run L k).length c ∧ (A = none ∧ T.run L k = [] ∧ c = 0 ∨ ∃ g, A = some ⟨g, 0, none⟩ ∧ g < wr.heap.size ∧ w.heap.size ≤ g ∧ (T.run L k).length ≤ c) := by
        rcases HW.out.o.2 with ⟨q1, q2⟩ | ⟨g, cap, cur, q1, q2, q3, q4, _⟩
        · exact ⟨none, 0, by rw [q1, q2], .inl ⟨rfl, List.eq_nil_of_length_eq_zero q2, rfl⟩⟩
        · exact ⟨_, cap, q1, .inr ⟨g, rfl, (Array.getElem?_eq_some_iff.1 q3).1, q2, q4⟩⟩
      subst hv
      clear hn hok HW HG
      go_wp2_with fail
      refine (HAr.out _).mono ?_
      rintro e w1 ⟨rfl, rfl⟩
      clear HAr c0 c1 c2 c3 c4 c5 c6
      obtain ⟨r, hr⟩ : ∃ r, r + T.arN n.op = (T.run L k).length := ⟨_, Nat.sub_add_cancel har⟩
      have hsub : ((T.run L k).length : Int) - (T.arN n.op : Int) = (r : Int) := by omega
      have hmr : (T.run L k).length - r = T.arN n.op := by omega
      have zr : (r : Int) ≤ ((T.run L k).length : Int) := by omega
      have hR2 : RdI (wr.alloc (T.ndO n)) (if cA = r then A else Option.map (fun x => x.add r) A) (kds L k) := by
        intro hx0
        have ha0 : 0 < T.arN n.op := by
          have := kds_len L k
          rw [hop] at this
          rw [← this]
          exact List.length_pos_iff.2 hx0
        rcases hAo with ⟨q1, q2, q3⟩ | ⟨g, q1, q2, q3, q4⟩
        · rw [q2] at hr; simp at hr; omega
        · rw [if_neg (by omega), q1]
          refine ⟨g, r, by rw [Option.map_some, Addr.add_lit, Nat.zero_add], Nat.lt_of_lt_of_le q2 (below_box _ _).size, fun j x hj => ?_⟩
          have hcl := HW1.out.o.cells (g := g) (by rw [q1]; rfl)
          have := hcl (r + j) (.int .i64 x) (by
            unfold T.lastc
            rw [hKd, List.getElem?_map] at hj
            have e := T.rev_drop (T.run L k) (T.arN n.op) har
            rw [show (T.run L k).length - T.arN n.op = r from by omega] at e
            rw [← e, List.getElem?_drop] at hj
            rw [List.getElem?_map]
            cases hz : (T.run L k).reverse[r + j]? with
            | none => rw [hz] at hj; cases hj
            | some p =>
              rw [hz] at hj
              simp only [Option.map_some, Option.some.injEq] at hj
              rw [Option.map_some, hj])
          rwa [Addr.add_lit, Nat.zero_add] at this
      obtain ⟨A2, hA2⟩ : ∃ A2, (if cA = r then A else Option.map (fun x => x.add r) A) = A2 := ⟨_, rfl⟩
      rw [hA2] at hR2
      have HCl : Hid (∀ _ : Unit, Calls Tryz.prog 70 #[.slice A2 (T.arN n.op) (cA - r)] (wr.alloc (T.ndO n)) fun e w' => (∃ u, e = .returned u ∧ KdE w' (wr.alloc (T.ndO n)).heap.size none u (kds L k)) ∧ Below (wr.alloc (T.ndO n)).heap.size (wr.alloc (T.ndO n)) w') := fun _ => by
        have h := clone_any A2 (cA - r) (kds L k) (by rw [kds_len, hop]; exact h2) _ hR2
        rw [kds_len, hop] at h
        exact h
      clear hR2
      have HAo := (show Hid _ from hAo)
      have HRl := (show Hid ((T.run L k).length ≤ 2048 ∧ r + T.arN n.op = (T.run L k).length) from ⟨by omega, hr⟩)
      have HRu := (show Hid (T.run L (k + 1) = T.pt L k :: (T.run L k).drop (T.arN n.op)) from hrun)
      have hm2 : (T.run L k).length ≤ 2048 := by omega
      have hr2 : r ≤ 2048 := by omega
      have HPt := (show Hid ((T.pt L k).2.1 = k) from T.mk_last _ _ _ _)
      clear hAo hr har hKd hop hrun hrl
      generalize (T.run L k).length = m at *
      go_wp2_with fail
      refine (HCl.out ()).mono ?_
      rintro e w2 ⟨⟨u, rfl, hu⟩, b2⟩
      clear HCl hA2
      obtain ⟨A3, k3, c3, hu3⟩ : ∃ A m c, u = .slice A m c := by obtain ⟨A, c, e, _⟩ := hu; exact ⟨A, _, c, e⟩
      subst hu3
      have HW2 := (show Hid (AtP L w w2 k k w.heap.size (.slice A m cA)) from HW1.out.later b2)
      have hfar : ∀ g, (Value.slice A m cA).ownBlock = some g → g < wr.heap.size := fun g hg => by
        rcases HAo.out with ⟨q1, q2, q3⟩ | ⟨g', q1, q2, q3, q4⟩
        · rw [q1] at hg; cases hg
        · rw [q1] at hg; cases hg; exact q2
      have hsz1 : wr.heap.size ≤ (wr.alloc (T.ndO n)).heap.size := (below_box _ _).size
      have hwl := HW1.out.b.size
      have HW3 := (show Hid (AtP L w (w2.setCell ⟨w.heap.size, k, none⟩ (.slice A3 k3 c3)) k (k + 1) w.heap.size (.slice A m cA)) from HW2.out.put hlt
        (hu.mono hwl fun g hg e => by have := hfar g e; omega)
        (hu.mono hwl fun g hg e => by have e2 : w.heap.size = g := Option.some.inj e; have := HW1.out.lt; omega))
      obtain ⟨cur, d1, d2, _⟩ := HW2.out.p
      obtain ⟨x, hx⟩ : ∃ x, cur[k]? = some x := ⟨_, Array.getElem?_eq_getElem (by omega)⟩
      have e0 : w2.cell? ⟨w.heap.size, k, none⟩ = some x := (Lib.cell_of_heap d1 k).trans hx
      have e1 : w2.frozen? ⟨w.heap.size, k, none⟩ = false := Lib.frozen_of_heap d1 k
      have hs2 := HW2.out.b.size
      clear HW1 HW2 hu b2 hfar hsz1 hwl d1 d2 hx HBox
      have zc : (r : Int) ≤ (cA : Int) := by
        have := HRl.out
        rcases HAo.out with ⟨q1, q2, q3⟩ | ⟨g, q1, q2, q3, q4⟩
        · have h3 := HW3.out.o.1
          rcases HW3.out.o.2 with ⟨p1, p2⟩ | ⟨g, cap, cur, p1, _⟩
          · injection p1 with p1 p3 p4; omega
          · rw [q1] at p1; injection p1 with p1; cases p1
        · omega
      have HOc : Hid ((w2.setCell ⟨w.heap.size, k, none⟩ (.slice A3 k3 c3)).ownsRow w.heap.size 3 1 (.slice A r cA) r (T.lastc ((T.run L k).drop (T.arN n.op)).reverse)) := by
        show (w2.setCell ⟨w.heap.size, k, none⟩ (.slice A3 k3 c3)).ownsRow _ _ _ _ _ _
        have ho := HW3.out.o
        have hrl := HRl.out
        have hml : (T.run L k).length = m := by
          rcases ho.2 with ⟨p1, p2⟩ | ⟨g, cap, cur, p1, _⟩
          · injection p1 with _ p1; omega
          · injection p1 with _ p1; exact p1.symm
        rw [hml] at ho
        have hre := T.rev_take (T.run L k) (T.arN n.op) (by omega)
        rw [hml, show m - T.arN n.op = r from by omega] at hre
        rcases HAo.out with ⟨q1, q2, q3⟩ | ⟨g, q1, q2, q3, q4⟩
        · have hm0 : m = 0 := by rw [q2] at hml; simpa using hml.symm
          have hr0 : r = 0 := by omega
          rw [q1, q2, q3, hr0]
          exact ⟨by simp [T.lastc], .inl ⟨rfl, rfl⟩⟩
        · rw [q1] at ho ⊢
          have := T.own_cut ho (m := r) (by omega)
          rw [Nat.mul_one] at this
          unfold T.lastc at this
          rw [← List.map_take, hre] at this
          exact this
      have hO := HOc.out
      have hra : (if cA = 0 then A else Option.map (fun x => x.add 0) A) = A := by
        rcases HAo.out with ⟨q1, q2, q3⟩ | ⟨g, q1, q2, q3, q4⟩
        · rw [q1]; split <;> rfl
        · rw [q1]; split
          · rfl
          · rw [Option.map_some, Addr.add_lit]
      have hsS : (w2.setCell ⟨w.heap.size, k, none⟩ (.slice A3 k3 c3)).heap.size = w2.heap.size := World.size_setCell _ _ _
      go_wp2_with (at_builtin; refine wpList_append_lies _ rfl _ _ 67 rfl w.heap.size 3 i0 (.int .i64 0) 1 8 Tryz.underlying67 hinf hz0 hz1 hz2 rfl (by decide) _ _ _ rfl (hO.alloc _) ⟨w2.heap.size, 0, none⟩ 1 1 [.int .i64 k] rfl rfl ?c1 (fun u hu => by simp only [List.mem_singleton] at hu; subst hu; rfl) (by decide) ?c3 ?c4 ?c5 (w2.heap.size + 1) (by rw [World.size_alloc, hsS]) ?_)
      case c1 =>
        have h := heap_alloc_new (w2.setCell ⟨w.heap.size, k, none⟩ (.slice A3 k3 c3)) (.cells #[.int .i64 k] 3)
        rw [hsS] at h
        exact World.news_of_block (cs := #[.int .i64 k]) (t := 3) (fr := (0, 0)) h
      case c3 => unfold maxLen; omega
      case c4 => omega
      case c5 => rw [World.size_alloc, hsS]; omega
      intro g cap w5 hown1 hgrow hat hltg
      have HW5 := (show Hid (AtP L w w5 (k + 1) (k + 1) w.heap.size (.slice (some ⟨g, 0, none⟩) (r + 1) cap)) from by
        have hob : (Value.slice A r cA).ownBlock = (Value.slice A m cA).ownBlock := by cases A <;> rfl
        rw [hob] at hgrow hat
        have hrl := HRl.out
        have hw3 := HW3.out
        have hown3 : ∀ j, (Value.slice A m cA).ownBlock = some j → w.heap.size ≤ j ∧ j < w2.heap.size := fun j e => by have := hw3.o.lt j e; rw [hsS] at this; exact this
        have hblk : ∀ b, b < w2.heap.size → (Value.slice A m cA).ownBlock ≠ some b → w5.heap[b]? = (w2.setCell ⟨w.heap.size, k, none⟩ (.slice A3 k3 c3)).heap[b]? := fun b hb hne => by
          rw [hgrow.block b (by rw [World.size_alloc, hsS]; omega) (fun e => hne e.symm)]
          exact (below_box _ _).block b (by rw [hsS]; exact hb)
        obtain ⟨cur, h2, h3, h4⟩ := hw3.p
        have hgl := hw3.lt
        rw [hsS] at hgl
        have hml : (T.run L k).length = m := by
          rcases hw3.o.2 with ⟨p1, p2⟩ | ⟨g, cap, cur, p1, _⟩
          · injection p1 with _ p1; omega
          · injection p1 with _ p1; exact p1.symm
        refine ⟨?_, ⟨cur, (hblk _ hgl hw3.n).trans h2, h3, fun j hj => ?_⟩, ?_, Nat.le_refl _, ?_⟩
        · have e1 : (T.run L (k + 1)).length = r + 1 := by rw [HRu.out, List.length_cons, List.length_drop]; omega
          have e2 : T.lastc (T.run L (k + 1)).reverse = T.lastc ((T.run L k).drop (T.arN n.op)).reverse ++ [.int .i64 k] := by
            rw [HRu.out, List.reverse_cons]
            unfold T.lastc
            rw [List.map_append]
            simp [HPt.out]
          rw [e1, e2]
          exact hown1
        · obtain ⟨u, p1, p2⟩ := h4 j hj
          refine ⟨u, p1, p2.keep fun b _ hbl hne => ⟨hblk b (by rw [hsS] at hbl; exact hbl) hne, fun e => ?_⟩⟩
          have e2 : g = b := Option.some.inj e
          subst e2
          rcases hat with q | q
          · exact hne q
          · rw [hsS] at hbl; omega
        · intro e
          have e2 : g = w.heap.size := Option.some.inj e
          subst e2
          rcases hat with q | q
          · exact hw3.n q
          · omega
        · exact (hw3.b.alloc hw3.b.size _).grown hgrow (by rw [World.size_alloc]; have := hw3.b.size; omega) (fun j e => (hown3 j e).1))
      clear hown1 hgrow hat hltg hO hra HOc HW3 HAo HRl HRu HPt e0 e1 zc
      go_wp2_with fail
      go_roundw
      case rel => exact ⟨k + 1, by omega, by go_num, HW5⟩
      case measure => simp [intOf]; omega
    · obtain rfl : k = L.length := by omega
      clear HG
      have HQ := (show Hid (PtR wr w.heap.size w.heap.size L ∧ Below w.heap.size w wr) from by
        obtain ⟨_, ⟨cur, h2, h3, h4⟩, _, _, hb⟩ := HW.out
        refine ⟨⟨Nat.le_refl _, cur, h2, fun j hj => ?_⟩, hb⟩
        obtain ⟨u, q1, q2⟩ := h4 j hj
        exact ⟨u, q1, q2.keep fun g _ _ _ => ⟨rfl, by simp⟩⟩)
      clear HW HP HE
      go_wp2_with fail
      go_ret
      exact ⟨⟨_, rfl, HQ.out.1⟩, HQ.out.2⟩
end Go.Proofs.YtnpifgcgjgddoaaGreatDoor.N

namespace Go.Proofs.YtnpifgcgjgddoaaGreatDoor.N
open Go.RowKit
set_option maxRecDepth 100000 in
set_option maxHeartbeats 2000000 in
theorem holds_any (op : Int) (w : World) : Calls Tryz.prog 72 #[.int .i64 op] w fun e w' => e = .returned (.int .i64 (hld op)) ∧ w' = w := by
  by_cases h8 : op = 8
  · subst h8
    go_enter Tryz.func72, Tryz.ntmps72
    go_wp2
    go_ret
    exact ⟨rfl, rfl⟩
  by_cases h7 : op = 7
  · subst h7
    go_enter Tryz.func72, Tryz.ntmps72
    go_wp2
    go_ret
    exact ⟨rfl, rfl⟩
  by_cases h12 : op = 12
  · subst h12
    go_enter Tryz.func72, Tryz.ntmps72
    go_wp2
    go_ret
    exact ⟨rfl, rfl⟩
  by_cases h13 : op = 13
  · subst h13
    go_enter Tryz.func72, Tryz.ntmps72
    go_wp2
    go_ret
    exact ⟨rfl, rfl⟩
  by_cases h9 : op = 9
  · subst h9
    go_enter Tryz.func72, Tryz.ntmps72
    go_wp2
    go_ret
    exact ⟨rfl, rfl⟩
  by_cases h10 : op = 10
  · subst h10
    go_enter Tryz.func72, Tryz.ntmps72
    go_wp2
    go_ret
    exact ⟨rfl, rfl⟩
  by_cases h11 : op = 11
  · subst h11
    go_enter Tryz.func72, Tryz.ntmps72
    go_wp2
    go_ret
    exact ⟨rfl, rfl⟩
  by_cases h14 : op = 14
  · subst h14
    go_enter Tryz.func72, Tryz.ntmps72
    go_wp2
    go_ret
    exact ⟨rfl, rfl⟩
  by_cases h15 : op = 15
  · subst h15
    go_enter Tryz.func72, Tryz.ntmps72
    go_wp2
    go_ret
    exact ⟨rfl, rfl⟩
  by_cases h16 : op = 16
  · subst h16
    go_enter Tryz.func72, Tryz.ntmps72
    go_wp2
    go_ret
    exact ⟨rfl, rfl⟩
  by_cases h22 : op = 22
  · subst h22
    go_enter Tryz.func72, Tryz.ntmps72
    go_wp2
    go_ret
    exact ⟨rfl, rfl⟩
  by_cases h23 : op = 23
  · subst h23
    go_enter Tryz.func72, Tryz.ntmps72
    go_wp2
    go_ret
    exact ⟨rfl, rfl⟩
  have t8 : (op == 8) = false := beq_eq_false_iff_ne.2 h8
  have t7 : (op == 7) = false := beq_eq_false_iff_ne.2 h7
  have t12 : (op == 12) = false := beq_eq_false_iff_ne.2 h12
  have t13 : (op == 13) = false := beq_eq_false_iff_ne.2 h13
  have t9 : (op == 9) = false := beq_eq_false_iff_ne.2 h9
  have t10 : (op == 10) = false := beq_eq_false_iff_ne.2 h10
  have t11 : (op == 11) = false := beq_eq_false_iff_ne.2 h11
  have t14 : (op == 14) = false := beq_eq_false_iff_ne.2 h14
  have t15 : (op == 15) = false := beq_eq_false_iff_ne.2 h15
  have t16 : (op == 16) = false := beq_eq_false_iff_ne.2 h16
  have t22 : (op == 22) = false := beq_eq_false_iff_ne.2 h22
  have t23 : (op == 23) = false := beq_eq_false_iff_ne.2 h23
  have HE : Hid (((hld op : Nat) : Int) = 4) := by
    show ((hld op : Nat) : Int) = 4
    unfold hld
    rw [if_neg h8, if_neg h7, if_neg (by rintro (q | q); exact h12 q; exact h13 q), if_neg (by rintro (q | q | q | q | q | q | q | q); exact h9 q; exact h10 q; exact h11 q; exact h14 q; exact h15 q; exact h16 q; exact h22 q; exact h23 q)]
    rfl
  clear h8 h7 h12 h13 h9 h10 h11 h14 h15 h16 h22 h23
  go_enter Tryz.func72, Tryz.ntmps72
  go_wp2
  go_ret
  exact ⟨by rw [HE.out]; rfl, rfl⟩
theorem hld_le (op : Int) : hld op ≤ 4 := by
  unfold hld
  split
  · omega
  split
  · omega
  split
  · omega
  split <;> omega
set_option maxRecDepth 100000 in
set_option maxHeartbeats 2000000 in
theorem asks_any (op : Int) (i : Nat) (hi : i ≤ 2) (w : World) : Calls Tryz.prog 96 #[.int .i64 op, .int .i64 i] w fun e w' => e = .returned (.int .i64 (asK op i)) ∧ w' = w := by
  have HH : Hid (∀ w, Calls Tryz.prog 72 #[.int .i64 op] w fun e w' => e = .returned (.int .i64 (hld op)) ∧ w' = w) := fun w => holds_any op w
  have hle := hld_le op
  by_cases h : hld op = 4
  · have t : (((hld op : Nat) : Int) == 4) = true := beq_iff_eq.2 (by omega)
    have HE : Hid (asK op i = 0) := by show asK op i = 0; unfold asK; rw [if_pos h]
    clear h hle
    go_enter Tryz.func96, Tryz.ntmps96
    go_wp2_with fail
    refine (HH.out _).mono ?_
    rintro e w1 ⟨rfl, rfl⟩
    go_wp2_with fail
    go_ret
    exact ⟨by rw [HE.out]; rfl, rfl⟩
  · have t : (((hld op : Nat) : Int) == 4) = false := beq_eq_false_iff_ne.2 (by omega)
    have HE : Hid (asK op i = hld op + i) := by show asK op i = _; unfold asK; rw [if_neg h]
    clear h
    generalize hld op = m at *
    go_enter Tryz.func96, Tryz.ntmps96
    go_wp2_with fail
    refine (HH.out _).mono ?_
    rintro e w1 ⟨rfl, rfl⟩
    go_wp2_with fail
    refine (HH.out _).mono ?_
    rintro e w1 ⟨rfl, rfl⟩
    go_wp2_with fail
    go_ret
    exact ⟨by rw [HE.out]; go_num, rfl⟩
set_option maxRecDepth 100000 in
set_option maxHeartbeats 2000000 in
theorem fo_4 (nn : Int) (tx : ByteArray) (a b c d : Int) (hs : tx.size ≤ 255) (w : World) : Calls Tryz.prog 78 #[(.agg #[.int .i64 4, .int .i64 nn, .string tx, .int .u64 a, .int .u64 b, .int .u64 c, .int .u64 d])] w fun e w' => e = .returned (.string (Q.asText (Q.qT tx))) ∧ Below w.heap.size w w' := by
  have HQ : Hid (∀ w, Calls Tryz.prog 100 #[.string tx] w fun e w' => e = .returned (.tuple #[.string (Q.asText (Q.qT tx)), .int .i64 0]) ∧ Below w.heap.size w w') := fun w => by
    have h := Q.quote_any tx w
    rw [Q.quV_fits (by have := qT_len tx; omega)] at h
    exact h
  have HB := (show Hid _ from (below_box w (.cells #[.int .i64 4, .int .i64 nn, .string tx, .int .u64 a, .int .u64 b, .int .u64 c, .int .u64 d] 51)))
  clear hs
  go_enter Tryz.func78, Tryz.ntmps78
  go_wp2_with fail
  refine (HQ.out _).mono ?_
  rintro e w1 ⟨rfl, b1⟩
  have HB2 := (show Hid _ from HB.out.trans (b1.mono HB.out.size))
  clear b1 HB
  go_wp2_with fail
  go_ret
  exact ⟨rfl, HB2.out⟩
set_option maxRecDepth 100000 in
set_option maxHeartbeats 2000000 in
theorem fo_22 (nn : Int) (tx : ByteArray) (a b c d : Int) (hs : tx.size ≤ 255) (w : World) : Calls Tryz.prog 78 #[(.agg #[.int .i64 22, .int .i64 nn, .string tx, .int .u64 a, .int .u64 b, .int .u64 c, .int .u64 d])] w fun e w' => e = .returned (.string (Q.asText (Q.qT tx))) ∧ Below w.heap.size w w' := by
  have HQ : Hid (∀ w, Calls Tryz.prog 100 #[.string tx] w fun e w' => e = .returned (.tuple #[.string (Q.asText (Q.qT tx)), .int .i64 0]) ∧ Below w.heap.size w w') := fun w => by
    have h := Q.quote_any tx w
    rw [Q.quV_fits (by have := qT_len tx; omega)] at h
    exact h
  have HB := (show Hid _ from (below_box w (.cells #[.int .i64 22, .int .i64 nn, .string tx, .int .u64 a, .int .u64 b, .int .u64 c, .int .u64 d] 51)))
  clear hs
  go_enter Tryz.func78, Tryz.ntmps78
  go_wp2_with fail
  refine (HQ.out _).mono ?_
  rintro e w1 ⟨rfl, b1⟩
  have HB2 := (show Hid _ from HB.out.trans (b1.mono HB.out.size))
  clear b1 HB
  go_wp2_with fail
  go_ret
  exact ⟨rfl, HB2.out⟩
set_option maxRecDepth 100000 in
set_option maxHeartbeats 2000000 in
theorem fo_5 (nn : Int) (tx : ByteArray) (a b c d : Int) (ha : 0 ≤ a ∧ a < 18446744073709551616) (hb : 0 ≤ b ∧ b < 18446744073709551616) (hc : 0 ≤ c ∧ c < 18446744073709551616) (hd : 0 ≤ d ∧ d < 18446744073709551616) (w : World) : Calls Tryz.prog 78 #[(.agg #[.int .i64 5, .int .i64 nn, .string tx, .int .u64 a, .int .u64 b, .int .u64 c, .int .u64 d])] w fun e w' => e = .returned (.string (txO (shT (mkS a b c d)))) ∧ Below w.heap.size w w' := by
  have HQ : Hid (∀ w, Calls Tryz.prog 101 #[.agg #[.int .u64 a, .int .u64 b, .int .u64 c, .int .u64 d]] w fun e w' => e = .returned (.string (txO (shT (mkS a b c d)))) ∧ Below w.heap.size w w') := fun w => by
    have h := show_any (mkS a b c d) w
    obtain ⟨e0, e1, e2, e3⟩ := mkS_wd a b c d ha hb hc hd
    unfold sv at h
    rw [e0, e1, e2, e3] at h
    exact h
  have HB := (show Hid _ from (below_box w (.cells #[.int .i64 5, .int .i64 nn, .string tx, .int .u64 a, .int .u64 b, .int .u64 c, .int .u64 d] 51)))
  clear ha hb hc hd
  go_enter Tryz.func78, Tryz.ntmps78
  go_wp2_with fail
  refine (HQ.out _).mono ?_
  rintro e w1 ⟨rfl, b1⟩
  have HB2 := (show Hid _ from HB.out.trans (b1.mono HB.out.size))
  clear b1 HB
  go_wp2_with fail
  go_ret
  exact ⟨rfl, HB2.out⟩
set_option maxRecDepth 100000 in
set_option maxHeartbeats 2000000 in
theorem fo_6 (nn : Int) (tx : ByteArray) (a b c d : Int) (w : World) : Calls Tryz.prog 78 #[(.agg #[.int .i64 6, .int .i64 nn, .string tx, .int .u64 a, .int .u64 b, .int .u64 c, .int .u64 d])] w fun e w' => e = .returned (.string tx) ∧ Below w.heap.size w w' := by
  have HB := (show Hid _ from (below_box w (.cells #[.int .i64 6, .int .i64 nn, .string tx, .int .u64 a, .int .u64 b, .int .u64 c, .int .u64 d] 51)))
  go_enter Tryz.func78, Tryz.ntmps78
  go_wp2_with fail
  go_ret
  exact ⟨rfl, HB.out⟩
set_option maxRecDepth 100000 in
set_option maxHeartbeats 2000000 in
theorem fo_19 (nn : Int) (tx : ByteArray) (a b c d : Int) (w : World) : Calls Tryz.prog 78 #[(.agg #[.int .i64 19, .int .i64 nn, .string tx, .int .u64 a, .int .u64 b, .int .u64 c, .int .u64 d])] w fun e w' => e = .returned (.string tx) ∧ Below w.heap.size w w' := by
  have HB := (show Hid _ from (below_box w (.cells #[.int .i64 19, .int .i64 nn, .string tx, .int .u64 a, .int .u64 b, .int .u64 c, .int .u64 d] 51)))
  go_enter Tryz.func78, Tryz.ntmps78
  go_wp2_with fail
  go_ret
  exact ⟨rfl, HB.out⟩
theorem dec_dg : ∀ n : Nat, n < 100 → (⟨(Lib.decDigits n).toArray⟩ : ByteArray) = txO (dgT 10 n) := by
  intro n hn
  have : ∀ k : Fin 100, Lib.decDigits k.val = dgT 10 k.val := by decide +kernel
  show (⟨(Lib.decDigits n).toArray⟩ : ByteArray) = ⟨(dgT 10 n).toArray⟩
  rw [this ⟨n, hn⟩]
set_option maxRecDepth 100000 in
set_option maxHeartbeats 2000000 in
theorem fo_14 (nn : Nat) (tx : ByteArray) (a b c d : Int) (hn : nn < 100) (w : World) : Calls Tryz.prog 78 #[(.agg #[.int .i64 14, .int .i64 nn, .string tx, .int .u64 a, .int .u64 b, .int .u64 c, .int .u64 d])] w fun e w' => e = .returned (.string (txO (dgT 10 nn))) ∧ Below w.heap.size w w' := by
  have HQ : Hid (∀ w, Calls Tryz.prog 102 #[.int .i64 nn] w fun e w' => e = .returned (.string (txO (dgT 10 nn))) ∧ w' = w) := fun w => by
    have h := Tryz.strconv_Itoa_small nn hn w
    rw [dec_dg nn hn] at h
    exact h
  have HB := (show Hid _ from (below_box w (.cells #[.int .i64 14, .int .i64 nn, .string tx, .int .u64 a, .int .u64 b, .int .u64 c, .int .u64 d] 51)))
  clear hn
  go_enter Tryz.func78, Tryz.ntmps78
  go_wp2_with fail
  refine (HQ.out _).mono ?_
  rintro e w1 ⟨rfl, rfl⟩
  go_wp2_with fail
  go_ret
  exact ⟨rfl, HB.out⟩
set_option maxRecDepth 100000 in
set_option maxHeartbeats 2000000 in
theorem fo_15 (nn : Nat) (tx : ByteArray) (a b c d : Int) (hn : nn < 100) (w : World) : Calls Tryz.prog 78 #[(.agg #[.int .i64 15, .int .i64 nn, .string tx, .int .u64 a, .int .u64 b, .int .u64 c, .int .u64 d])] w fun e w' => e = .returned (.string (txO (dgT 10 nn))) ∧ Below w.heap.size w w' := by
  have HQ : Hid (∀ w, Calls Tryz.prog 102 #[.int .i64 nn] w fun e w' => e = .returned (.string (txO (dgT 10 nn))) ∧ w' = w) := fun w => by
    have h := Tryz.strconv_Itoa_small nn hn w
    rw [dec_dg nn hn] at h
    exact h
  have HB := (show Hid _ from (below_box w (.cells #[.int .i64 15, .int .i64 nn, .string tx, .int .u64 a, .int .u64 b, .int .u64 c, .int .u64 d] 51)))
  clear hn
  go_enter Tryz.func78, Tryz.ntmps78
  go_wp2_with fail
  refine (HQ.out _).mono ?_
  rintro e w1 ⟨rfl, rfl⟩
  go_wp2_with fail
  go_ret
  exact ⟨rfl, HB.out⟩
set_option maxRecDepth 100000 in
set_option maxHeartbeats 2000000 in
theorem fo_16 (nn : Nat) (tx : ByteArray) (a b c d : Int) (hn : nn < 100) (w : World) : Calls Tryz.prog 78 #[(.agg #[.int .i64 16, .int .i64 nn, .string tx, .int .u64 a, .int .u64 b, .int .u64 c, .int .u64 d])] w fun e w' => e = .returned (.string (txO (dgT 10 nn))) ∧ Below w.heap.size w w' := by
  have HQ : Hid (∀ w, Calls Tryz.prog 102 #[.int .i64 nn] w fun e w' => e = .returned (.string (txO (dgT 10 nn))) ∧ w' = w) := fun w => by
    have h := Tryz.strconv_Itoa_small nn hn w
    rw [dec_dg nn hn] at h
    exact h
  have HB := (show Hid _ from (below_box w (.cells #[.int .i64 16, .int .i64 nn, .string tx, .int .u64 a, .int .u64 b, .int .u64 c, .int .u64 d] 51)))
  clear hn
  go_enter Tryz.func78, Tryz.ntmps78
  go_wp2_with fail
  refine (HQ.out _).mono ?_
  rintro e w1 ⟨rfl, rfl⟩
  go_wp2_with fail
  go_ret
  exact ⟨rfl, HB.out⟩
set_option maxRecDepth 100000 in
set_option maxHeartbeats 2000000 in
theorem fo_23 (nn : Nat) (tx : ByteArray) (a b c d : Int) (hn : nn < 100) (w : World) : Calls Tryz.prog 78 #[(.agg #[.int .i64 23, .int .i64 nn, .string tx, .int .u64 a, .int .u64 b, .int .u64 c, .int .u64 d])] w fun e w' => e = .returned (.string (txO (dgT 10 nn))) ∧ Below w.heap.size w w' := by
  have HQ : Hid (∀ w, Calls Tryz.prog 102 #[.int .i64 nn] w fun e w' => e = .returned (.string (txO (dgT 10 nn))) ∧ w' = w) := fun w => by
    have h := Tryz.strconv_Itoa_small nn hn w
    rw [dec_dg nn hn] at h
    exact h
  have HB := (show Hid _ from (below_box w (.cells #[.int .i64 23, .int .i64 nn, .string tx, .int .u64 a, .int .u64 b, .int .u64 c, .int .u64 d] 51)))
  clear hn
  go_enter Tryz.func78, Tryz.ntmps78
  go_wp2_with fail
  refine (HQ.out _).mono ?_
  rintro e w1 ⟨rfl, rfl⟩
  go_wp2_with fail
  go_ret
  exact ⟨rfl, HB.out⟩
set_option maxRecDepth 100000 in
set_option maxHeartbeats 2000000 in
theorem fo_no (op nn : Int) (tx : ByteArray) (a b c d : Int) (h4 : ¬ op = 4) (h22 : ¬ op = 22) (h5 : ¬ op = 5) (h6 : ¬ op = 6) (h19 : ¬ op = 19) (h14 : ¬ op = 14) (h15 : ¬ op = 15) (h16 : ¬ op = 16) (h23 : ¬ op = 23) (w : World) : Calls Tryz.prog 78 #[(.agg #[.int .i64 op, .int .i64 nn, .string tx, .int .u64 a, .int .u64 b, .int .u64 c, .int .u64 d])] w fun e w' => e = .returned (.string ⟨#[]⟩) ∧ Below w.heap.size w w' := by
  have t4 : (op == 4) = false := beq_eq_false_iff_ne.2 h4
  have t22 : (op == 22) = false := beq_eq_false_iff_ne.2 h22
  have t5 : (op == 5) = false := beq_eq_false_iff_ne.2 h5
  have t6 : (op == 6) = false := beq_eq_false_iff_ne.2 h6
  have t19 : (op == 19) = false := beq_eq_false_iff_ne.2 h19
  have t14 : (op == 14) = false := beq_eq_false_iff_ne.2 h14
  have t15 : (op == 15) = false := beq_eq_false_iff_ne.2 h15
  have t16 : (op == 16) = false := beq_eq_false_iff_ne.2 h16
  have t23 : (op == 23) = false := beq_eq_false_iff_ne.2 h23
  have HB := (show Hid _ from (below_box w (.cells #[.int .i64 op, .int .i64 nn, .string tx, .int .u64 a, .int .u64 b, .int .u64 c, .int .u64 d] 51)))
  clear h4 h22 h5 h6 h19 h14 h15 h16 h23
  go_enter Tryz.func78, Tryz.ntmps78
  go_wp2_with fail
  go_ret
  exact ⟨rfl, HB.out⟩
theorem nu_of {n : Nd} (h : T.alE n = 0) (ho : n.op = 14 ∨ n.op = 15 ∨ n.op = 16 ∨ n.op = 23) : 0 ≤ n.nn ∧ n.nn ≤ 50 := by
  have := (al_fd h).2.2.1
  unfold T.nuF at this
  rw [if_pos ho] at this
  exact of_decide_eq_true this
theorem field_any (n : Nd) (ha : T.alE n = 0) (hw : NdW n) (w : World) : Calls Tryz.prog 78 #[T.ndG n] w fun e w' => e = .returned (.string (fldX n)) ∧ Below w.heap.size w w' := by
  by_cases o4 : n.op = 4
  · have hs : n.tx.size ≤ 255 := (tx4 ha o4).2
    rw [fdx4 o4]
    have h := fo_4 n.nn n.tx n.s0 n.s1 n.s2 n.s3 hs w
    rw [← o4] at h
    exact h
  by_cases o22 : n.op = 22
  · have hs : n.tx.size ≤ 255 := tx22 ha o22
    rw [fdx22 o22]
    have h := fo_22 n.nn n.tx n.s0 n.s1 n.s2 n.s3 hs w
    rw [← o22] at h
    exact h
  by_cases o5 : n.op = 5
  · rw [fdx5 o5]
    have h := fo_5 n.nn n.tx n.s0 n.s1 n.s2 n.s3 hw.a hw.b hw.c hw.d w
    rw [← o5] at h
    exact h
  by_cases o6 : n.op = 6
  · rw [fdx6 o6]
    have h := fo_6 n.nn n.tx n.s0 n.s1 n.s2 n.s3 w
    rw [← o6] at h
    exact h
  by_cases o19 : n.op = 19
  · rw [fdx19 o19]
    have h := fo_19 n.nn n.tx n.s0 n.s1 n.s2 n.s3 w
    rw [← o19] at h
    exact h
  by_cases o14 : n.op = 14
  · rw [fdx14 o14]
    have hn := nu_of ha (by omega)
    have h := fo_14 n.nn.toNat n.tx n.s0 n.s1 n.s2 n.s3 (by omega) w
    rw [← o14, show ((n.nn.toNat : Nat) : Int) = n.nn from by omega] at h
    exact h
  by_cases o15 : n.op = 15
  · rw [fdx15 o15]
    have hn := nu_of ha (by omega)
    have h := fo_15 n.nn.toNat n.tx n.s0 n.s1 n.s2 n.s3 (by omega) w
    rw [← o15, show ((n.nn.toNat : Nat) : Int) = n.nn from by omega] at h
    exact h
  by_cases o16 : n.op = 16
  · rw [fdx16 o16]
    have hn := nu_of ha (by omega)
    have h := fo_16 n.nn.toNat n.tx n.s0 n.s1 n.s2 n.s3 (by omega) w
    rw [← o16, show ((n.nn.toNat : Nat) : Int) = n.nn from by omega] at h
    exact h
  by_cases o23 : n.op = 23
  · rw [fdx23 o23]
    have hn := nu_of ha (by omega)
    have h := fo_23 n.nn.toNat n.tx n.s0 n.s1 n.s2 n.s3 (by omega) w
    rw [← o23, show ((n.nn.toNat : Nat) : Int) = n.nn from by omega] at h
    exact h
  · have e : fldX n = ⟨#[]⟩ := by
      have : agT n = none := by
        unfold agT
        rw [if_neg (by omega), if_neg o5, if_neg o6, if_neg o19, if_neg (by omega)]
      unfold fldX
      rw [this]
    rw [e]
    exact fo_no n.op n.nn n.tx n.s0 n.s1 n.s2 n.s3 o4 o22 o5 o6 o19 o14 o15 o16 o23 w
end Go.Proofs.YtnpifgcgjgddoaaGreatDoor.N
