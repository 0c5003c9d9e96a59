/- DERIVED. Walks: from, by the document: where each part begins, and how high it is. -/
import Derived.Test.YtfomodpjdaclgabPlD
import Derived.Test.YtfomodpjdaclgabWkE
import Derived.Test.YtfomodpjdaclgabLvA
namespace Go.Proofs.Ytfomodpjdaclgab
open Go.RowKit

theorem Try.info3 : (Try.prog.info? 3).map (fun i => (i.zero, i.size, i.bytes)) = some (some (.int .i64 0), 1, 8) := by kernel_rfl
def bgc (L : List Nd) (k : Nat) : List Value := (List.range k).map fun j => .int .i64 (pt L j).1
def hic (L : List Nd) (k : Nat) : List Value := (List.range k).map fun j => .int .i64 (pt L j).2.2
theorem bgc_succ (L : List Nd) (k : Nat) : bgc L (k + 1) = bgc L k ++ [.int .i64 (pt L k).1] := by unfold bgc; rw [List.range_succ, List.map_append]; rfl
theorem hic_succ (L : List Nd) (k : Nat) : hic L (k + 1) = hic L k ++ [.int .i64 (pt L k).2.2] := by unfold hic; rw [List.range_succ, List.map_append]; rfl
theorem bgc_get {L : List Nd} {k j : Nat} (h : j < k) : (bgc L k)[j]? = some (.int .i64 (pt L j).1) := by unfold bgc; rw [List.getElem?_map, List.getElem?_range h]; rfl
theorem hic_get {L : List Nd} {k j : Nat} (h : j < k) : (hic L k)[j]? = some (.int .i64 (pt L j).2.2) := by unfold hic; rw [List.getElem?_map, List.getElem?_range h]; rfl

structure AtF (L : List Nd) (w wr : World) (k : Nat) (v1 v2 : Value) : Prop where
  o1 : wr.ownsRow w.heap.size 3 1 v1 k (bgc L k)
  o2 : wr.ownsRow w.heap.size 3 1 v2 k (hic L k)
  ne : ∀ g, v1.ownBlock = some g → v2.ownBlock ≠ some g
  b : Below w.heap.size w wr
  e : ∀ j, j < k → er L j = 0
theorem AtF.below {L : List Nd} {w wr w2 : World} {k : Nat} {v1 v2 : Value} (h : AtF L w wr k v1 v2) (hb : Below wr.heap.size wr w2) : AtF L w w2 k v1 v2 :=
  ⟨own_below h.o1 hb, own_below h.o2 hb, h.ne, h.b.trans (hb.mono h.b.size), h.e⟩
theorem AtF.form {L : List Nd} {w wr : World} {k : Nat} {v1 v2 : Value} (h : AtF L w wr k v1 v2) : ∃ A1 c1 A2 c2, v1 = .slice A1 k c1 ∧ v2 = .slice A2 k c2 ∧ (0 < k → ∃ g1 g2, A1 = some ⟨g1, 0, none⟩ ∧ A2 = some ⟨g2, 0, none⟩) := by
  obtain ⟨A1, c1, e1, q1⟩ : ∃ A1 c1, v1 = .slice A1 k c1 ∧ (0 < k → ∃ g, A1 = some ⟨g, 0, none⟩) := by
    rcases h.o1.2 with ⟨a, b⟩ | ⟨g, cap, cur, a, _⟩
    · exact ⟨none, 0, by rw [a, b], fun q => by omega⟩
    · exact ⟨_, cap, a, fun _ => ⟨g, rfl⟩⟩
  obtain ⟨A2, c2, e2, q2⟩ : ∃ A2 c2, v2 = .slice A2 k c2 ∧ (0 < k → ∃ g, A2 = some ⟨g, 0, none⟩) := by
    rcases h.o2.2 with ⟨a, b⟩ | ⟨g, cap, cur, a, _⟩
    · exact ⟨none, 0, by rw [a, b], fun q => by omega⟩
    · exact ⟨_, cap, a, fun _ => ⟨g, rfl⟩⟩
  exact ⟨A1, c1, A2, c2, e1, e2, fun q => by
    obtain ⟨g1, h1⟩ := q1 q
    obtain ⟨g2, h2⟩ := q2 q
    exact ⟨g1, g2, h1, h2⟩⟩
/-- What from answers. -/
def FrV (w w' : World) (L : List Nd) (e : Ending) : Prop :=
  (∃ k, k < L.length ∧ (∀ j, j < k → er L j = 0) ∧ er L k ≠ 0 ∧ e = .returned (.tuple #[.slice none 0 0, .slice none 0 0, .int .i64 k, .int .i64 (er L k)])) ∨
  ((∀ j, j < L.length → er L j = 0) ∧ ∃ v1 v2, e = .returned (.tuple #[v1, v2, .int .i64 0, .int .i64 0]) ∧ AtF L w w' L.length v1 v2)
theorem FrV.bad {w w' : World} {L : List Nd} {k : Nat} {c : Int} (hk : k < L.length) (h : ∀ j, j < k → er L j = 0) (he : er L k = c) (hc : c ≠ 0) : FrV w w' L (.returned (.tuple #[.slice none 0 0, .slice none 0 0, .int .i64 k, .int .i64 c])) :=
  .inl ⟨k, hk, h, by rw [he]; exact hc, by rw [he]⟩
structure AtG (L : List Nd) (w wr : World) (k : Nat) (v1 v2 : Value) (B : Nat) (n : Nd) (gp op : Nat) : Prop where
  f : AtF L w wr k v1 v2
  x : NB wr B 0 n
  p : NdL wr gp op L
  lp : gp < w.heap.size
theorem AtG.below {L : List Nd} {w wr w2 : World} {k : Nat} {v1 v2 : Value} {B : Nat} {n : Nd} {gp op : Nat} (h : AtG L w wr k v1 v2 B n gp op) (hb : Below wr.heap.size wr w2) : AtG L w w2 k v1 v2 B n gp op :=
  ⟨h.f.below hb, h.x.below hb, h.p.same (hb.block _ (Nat.lt_of_lt_of_le h.lp h.f.b.size)), h.lp⟩

set_option maxRecDepth 100000 in
set_option maxHeartbeats 16000000 in
theorem from_any (L : List Nd) (Ap : Option Addr) (cp : Nat) (hL : L.length ≤ 2048) (hT : ∀ n ∈ L, n.tx.size ≤ 140737488355328) (w : World) (hp : RdN w Ap L) :
    Calls Try.prog 42 #[.slice Ap L.length cp] w fun e w' => FrV w w' L e ∧ Below w.heap.size w w' := by
  have HP := (show Hid (RdN w Ap L) from hp)
  have HA := (show Hid (AtF L w w 0 (.slice none 0 0) (.slice none 0 0)) from ⟨World.ownsRow_nil _ _ _ _, World.ownsRow_nil _ _ _ _, fun g q => by simp [Value.ownBlock] at q, Below.refl _ _, fun j q => by omega⟩)
  have HG := (show Hid (∀ k, k < L.length → ∃ n, L[k]? = some n ∧ n.tx.size ≤ 140737488355328 ∧ L ≠ []) from fun k hk => ⟨_, List.getElem?_eq_getElem hk, hT _ (List.getElem_mem hk), by rintro rfl; simp at hk⟩)
  clear hT hp
  obtain ⟨i0, hinf, hz0, hz1, hz2⟩ := info_parts Try.info3
  go_enter Try.func42, Try.ntmps42
  go_wp2_with fail
  go_loopw [6, 7, 8] (fun v1 v2 t wr => ∃ k : Nat, k ≤ L.length ∧ t = .int .i64 k ∧ Hid (AtF L w wr k v1 v2)) (fun _ _ t _ => L.length - (intOf t).toNat)
  case atStart => exact ⟨0, by omega, by go_num, HA⟩
  case round =>
    obtain ⟨k, hk, rfl, HW⟩ := hrel
    clear HA
    by_cases hlt : k < L.length
    · obtain ⟨n, hn, htx, hne⟩ := HG.out k hlt
      obtain ⟨gp, op, rfl, lp, cl⟩ := HP.out hne
      have HNn := (show Hid (L[k]? = some n) from hn)
      have HFd : Hid (∀ w, Calls Try.prog 35 #[ndG n] w fun e w' => e = .returned (.bool (fdF n)) ∧ Below w.heap.size w w') := fun w => fieldR n htx w
      have HAr : Hid (∀ w, Calls Try.prog 34 #[.int .i64 n.op] w fun e w' => e = .returned (.int .i64 (ar n.op)) ∧ w' = w) := fun w => arityR_any n.op w
      obtain ⟨c0, c1, c2, c3, c4, c5, c6⟩ := (cl.same (HW.out.b.block gp lp)) k n hn
      have z0 : (0 : Int) ≤ (k : Int) := by omega
      have z1 : (k : Int) < (L.length : Int) := by omega
      have HW2 := (show Hid (AtG L w (wr.alloc (ndO n)) k _ _ wr.heap.size n gp op) from ⟨HW.out.below (below_box wr (ndO n)), nb_new wr n, (cl.same (HW.out.b.block gp lp)).same ((below_box wr (ndO n)).block gp (Nat.lt_of_lt_of_le lp HW.out.b.size)), lp⟩)
      have HEr := (show Hid (er L k = if alE n ≠ 0 then alE n else if (run L k).length < arN n.op then 42 else if 60 < (pt L k).2.2 then 4 else 0) from er_of hn)
      clear hn hne cl HG HW HP
      by_cases ha : ar n.op < 0
      · have HE := (show Hid (er L k = 40) from by
          show er L k = _
          have : alE n = 40 := by unfold alE; rw [if_pos ha]
          rw [HEr.out, this]; rfl)
        clear HEr HFd HNn
        go_wp2_with fail
        refine (HAr.out _).mono ?_
        rintro e w2 ⟨rfl, rfl⟩
        clear HAr c0 c1 c2 c3 c4 c5 c6
        have za : decide (ar n.op < 0) = true := decide_eq_true ha
        clear ha
        generalize ar n.op = aa at *
        go_wp2_with fail
        refine bodyPost_ret (v := .tuple #[.slice none 0 0, .slice none 0 0, .int .i64 k, .int .i64 40]) (by simp [results, Try.results42, go_sem]) rfl ⟨FrV.bad hlt HW2.out.f.e HE.out (by decide), HW2.out.f.b⟩
      · have za : decide (ar n.op < 0) = false := decide_eq_false ha
        cases hf : fdF n with
        | false =>
          have HE := (show Hid (er L k = 41) from by
            show er L k = _
            have : alE n = 41 := by unfold alE; rw [if_neg ha, hf]; rfl
            rw [HEr.out, this]; rfl)
          clear HEr HNn ha
          go_wp2_with fail
          refine (HAr.out _).mono ?_
          rintro e w2 ⟨rfl, rfl⟩
          clear HAr c0 c1 c2 c3 c4 c5 c6
          generalize ar n.op = aa at *
          go_wp2_with fail
          refine (HFd.out _).mono ?_
          rintro e w3 ⟨rfl, b3⟩
          have HW3 := (show Hid _ from HW2.out.below b3)
          clear HW2 HFd b3
          rw [hf]
          go_wp2_with fail
          refine bodyPost_ret (v := .tuple #[.slice none 0 0, .slice none 0 0, .int .i64 k, .int .i64 41]) (by simp [results, Try.results42, go_sem]) rfl ⟨FrV.bad hlt HW3.out.f.e HE.out (by decide), HW3.out.f.b⟩
        | true =>
          have hal : alE n = 0 := by unfold alE; rw [if_neg ha, hf]; rfl
          have HE2 := (show Hid (er L k = if (run L k).length < arN n.op then 42 else if 60 < (pt L k).2.2 then 4 else 0) from by show er L k = _; rw [HEr.out, if_neg (by rw [hal]; simp)])
          have hrn := arN_of hal
          have ha2 := arN_le n.op
          clear HEr ha
          rw [← hrn] at HAr za
          go_wp2_with fail
          refine (HAr.out _).mono ?_
          rintro e w2 ⟨rfl, rfl⟩
          clear HAr c0 c1 c2 c3 c4 c5 c6 hrn hal
          have HOp := (show Hid (opAt L k = n.op) from op_of HNn.out)
          generalize haa : arN n.op = aa at *
          have HAa := (show Hid (arN n.op = aa) from haa)
          clear haa
          go_wp2_with fail
          refine (HFd.out _).mono ?_
          rintro e w3 ⟨rfl, b3⟩
          have HW3 := (show Hid (AtG L w w3 k u6 u7 wr.heap.size n gp op) from HW2.out.below b3)
          clear HW2 HFd b3
          rw [hf]
          clear hf
          obtain ⟨A1, k1, A2, k2, rfl, rfl, hfo⟩ := HW3.out.f.form
          have HFo := (show Hid (0 < k → ∃ g1 g2, A1 = some ⟨g1, 0, none⟩ ∧ A2 = some ⟨g2, 0, none⟩) from hfo)
          have HCh := (show Hid (Chn L k (run L k)) from chn_run L k hk HW3.out.f.e)
          have HPo := (show Hid (∀ x ∈ run L k, 1 ≤ x.2.2 ∧ x.2.2 ≤ 60 ∧ x.2.1 < k ∧ x = pt L x.2.1) from fun x hx => ⟨run_pos hk HW3.out.f.e x hx, (run_bd hk HW3.out.f.e x hx).2.2.1, (run_bd hk HW3.out.f.e x hx).2.1, (run_bd hk HW3.out.f.e x hx).2.2.2⟩)
          have HHb := (show Hid (∀ i, hI L n.op aa (run L k) i ≤ 60) from hI_bd L n.op aa (run L k) (fun x hx => (HPo.out x hx).2.1))
          clear hfo
          generalize hBz : wr.heap.size = Bz at *
          clear hBz
          go_wp2_with fail
          go_loopw [11, 12, 13] (fun t u v wq => ∃ i c : Nat, c + i = aa ∧ t = .int .i64 (atI k (run L k) i) ∧ u = .int .i64 (hI L n.op aa (run L k) i) ∧ v = .int .i64 c ∧ Hid (i ≤ (run L k).length) ∧ Hid (AtG L w wq k (.slice A1 k k1) (.slice A2 k k2) Bz n gp op)) (fun _ _ v _ => (intOf v).toNat)
          case atStart => exact ⟨0, aa, by omega, rfl, rfl, rfl, Nat.zero_le _, HW3⟩
          case round =>
            obtain ⟨i, c, hc, rfl, rfl, rfl, HI, HW4⟩ := hrel
            clear HW3
            by_cases hc0 : 0 < c
            · have zc : (0 : Int) < (c : Int) := by omega
              cases hst : (run L k).drop i with
              | nil =>
                have hat : atI k (run L k) i = 0 := by
                  have h := chn_at L k (run L k) HCh.out i HI.out
                  rw [hst] at h
                  exact h
                have hlen : (run L k).length < aa := by
                  have := List.drop_eq_nil_iff.1 hst
                  omega
                have HE := (show Hid (er L k = 42) from by show er L k = _; rw [HE2.out, if_pos hlen])
                have zt : (((atI k (run L k) i : Nat) : Int) == 0) = true := by rw [hat]; rfl
                clear hst hat hlen HE2 HCh HPo HHb HFo HAa HOp HNn HI
                generalize atI k (run L k) i = ai at *
                generalize hI L n.op aa (run L k) i = hi at *
                go_wp2_with fail
                refine bodyPost_ret (v := .tuple #[.slice none 0 0, .slice none 0 0, .int .i64 k, .int .i64 42]) (by simp [results, Try.results42, go_sem]) rfl ⟨FrV.bad hlt HW4.out.f.e HE.out (by decide), HW4.out.f.b⟩
              | cons x r =>
                have hch := chn_at L k (run L k) HCh.out i HI.out
                rw [hst] at hch
                obtain ⟨q1, q2, q3, _⟩ := hch
                have hi2 : i < (run L k).length := by
                  have := congrArg List.length hst
                  rw [List.length_drop, List.length_cons] at this
                  omega
                have hxi : (run L k)[i]? = some x := by
                  have := List.getElem?_drop (xs := run L k) (i := i) (j := 0)
                  rw [hst] at this
                  simpa using this.symm
                obtain ⟨p1, p2, p3, hpx⟩ := HPo.out x (List.mem_of_getElem? hxi)
                have hk0 : 0 < k := by omega
                obtain ⟨g1, g2, rfl, rfl⟩ := HFo.out hk0
                have ha1 : atI k (run L k) (i + 1) = x.1 := by rw [atI, hxi]
                have hh1 : hI L n.op aa (run L k) (i + 1) = max (hI L n.op aa (run L k) i) (if i + 1 = aa ∧ aa = 2 ∧ opAt L x.2.1 = n.op then x.2.2 - 1 else x.2.2) := by rw [hI, hxi]
                have hbh := HHb.out i
                have e1 := HW4.out.f.o1.cells (g := g1) rfl x.2.1 _ (bgc_get p3)
                have e2 := HW4.out.f.o2.cells (g := g2) rfl x.2.1 _ (hic_get p3)
                rw [Addr.add_lit, Nat.zero_add, ← q2] at e1 e2
                have hy : L[x.2.1]? = some L[x.2.1] := List.getElem?_eq_getElem (by omega)
                have e3 := (HW4.out.p x.2.1 _ hy).c0
                rw [← op_of hy] at e3
                have e4 := HW4.out.x.c0
                have zt : (((atI k (run L k) i : Nat) : Int) == 0) = false := beq_eq_false_iff_ne.2 (by omega)
                have hsub : ((atI k (run L k) i : Nat) : Int) - 1 = (x.2.1 : Int) := by omega
                have zx : (0 : Int) ≤ (x.2.1 : Int) := by omega
                have zk : (x.2.1 : Int) < (k : Int) := by omega
                have zl : (x.2.1 : Int) < (L.length : Int) := by omega
                have HI2 := (show Hid (i + 1 ≤ (run L k).length) from hi2)
                have HA1 := (show Hid _ from ha1)
                have HH1 := (show Hid _ from hh1)
                clear hst q1 q2 q3 hxi hy ha1 hh1 HE2 HCh HPo HHb HFo HAa HOp HNn HI hi2
                generalize hat : atI k (run L k) i = ai at *
                generalize hhi : hI L n.op aa (run L k) i = hi at *
                clear hat hhi
                obtain ⟨x1, x2, x3⟩ := x
                simp only at p1 p2 p3 e1 e2 e3 hsub zx zk zl HA1 HH1 hpx
                generalize hox : opAt L x2 = ox at *
                clear hox
                have HX1 := (show Hid ((pt L x2).1 = x1) from by show (pt L x2).1 = x1; rw [← hpx])
                clear hpx e1
                by_cases hg : c = 1 ∧ aa = 2
                · have t1 : ((c : Int) == 1) = true := beq_iff_eq.2 (by omega)
                  have t2 : ((aa : Int) == 2) = true := beq_iff_eq.2 (by omega)
                  by_cases ho : ox = n.op
                  · have HZ := (show Hid (hI L n.op aa (run L k) (i + 1) = max hi (x3 - 1)) from by show hI L n.op aa (run L k) (i + 1) = _; rw [HH1.out, if_pos ⟨by omega, hg.2, ho⟩])
                    have t3 : (ox == n.op) = true := beq_iff_eq.2 ho
                    have hx3 : ((x3 : Int) - 1) = ((x3 - 1 : Nat) : Int) := by omega
                    clear ho hg HH1
                    go_wp2_with fail
                    go_quiet (fail)
                    have HW5 := (show Hid (AtG L w (wr.drewN nq) k (.slice (some ⟨g1, 0, none⟩) k k1) (.slice (some ⟨g2, 0, none⟩) k k2) Bz n gp op) from HW4.out.below (below_drewN (Below.refl _ _) _))
                    clear HW4 e2 e3 e4
                    have e1 := HW5.out.f.o1.cells (g := g1) rfl x2 _ (bgc_get p3)
                    rw [Addr.add_lit, Nat.zero_add, HX1.out] at e1
                    generalize wr.drewN nq = w5 at *
                    go_wp2_with fail
                    go_roundw
                    case rel =>
                      refine ⟨i + 1, c - 1, by omega, by rw [HA1.out], ?_, by rw [show ((c : Int) - 1) = ((c - 1 : Nat) : Int) from by omega], HI2, HW5⟩
                      rw [HZ.out]
                      rw [← max_int]
                    case measure => simp [intOf]; omega
                  · have HZ := (show Hid (hI L n.op aa (run L k) (i + 1) = max hi (x3)) from by show hI L n.op aa (run L k) (i + 1) = _; rw [HH1.out, if_neg (fun q => ho q.2.2)])
                    have t3 : (ox == n.op) = false := beq_eq_false_iff_ne.2 ho
                    clear ho hg HH1
                    go_wp2_with fail
                    go_quiet (fail)
                    have HW5 := (show Hid (AtG L w (wr.drewN nq) k (.slice (some ⟨g1, 0, none⟩) k k1) (.slice (some ⟨g2, 0, none⟩) k k2) Bz n gp op) from HW4.out.below (below_drewN (Below.refl _ _) _))
                    clear HW4 e2 e3 e4
                    have e1 := HW5.out.f.o1.cells (g := g1) rfl x2 _ (bgc_get p3)
                    rw [Addr.add_lit, Nat.zero_add, HX1.out] at e1
                    generalize wr.drewN nq = w5 at *
                    go_wp2_with fail
                    go_roundw
                    case rel =>
                      refine ⟨i + 1, c - 1, by omega, by rw [HA1.out], ?_, by rw [show ((c : Int) - 1) = ((c - 1 : Nat) : Int) from by omega], HI2, HW5⟩
                      rw [HZ.out]
                      rw [← max_int]
                    case measure => simp [intOf]; omega
                · by_cases hc1 : c = 1
                  · have t1 : ((c : Int) == 1) = true := beq_iff_eq.2 (by omega)
                    have t2 : ((aa : Int) == 2) = false := beq_eq_false_iff_ne.2 (fun q => hg ⟨hc1, by omega⟩)
                    have HZ := (show Hid (hI L n.op aa (run L k) (i + 1) = max hi (x3)) from by show hI L n.op aa (run L k) (i + 1) = _; rw [HH1.out, if_neg (fun q => hg ⟨hc1, q.2.1⟩)])
                    clear hg HH1 hc1
                    go_wp2_with fail
                    go_quiet (fail)
                    have HW5 := (show Hid (AtG L w (wr.drewN nq) k (.slice (some ⟨g1, 0, none⟩) k k1) (.slice (some ⟨g2, 0, none⟩) k k2) Bz n gp op) from HW4.out.below (below_drewN (Below.refl _ _) _))
                    clear HW4 e2 e3 e4
                    have e1 := HW5.out.f.o1.cells (g := g1) rfl x2 _ (bgc_get p3)
                    rw [Addr.add_lit, Nat.zero_add, HX1.out] at e1
                    generalize wr.drewN nq = w5 at *
                    go_wp2_with fail
                    go_roundw
                    case rel =>
                      refine ⟨i + 1, c - 1, by omega, by rw [HA1.out], ?_, by rw [show ((c : Int) - 1) = ((c - 1 : Nat) : Int) from by omega], HI2, HW5⟩
                      rw [HZ.out]
                      rw [← max_int]
                    case measure => simp [intOf]; omega
                  · have t1 : ((c : Int) == 1) = false := beq_eq_false_iff_ne.2 (by omega)
                    have HZ := (show Hid (hI L n.op aa (run L k) (i + 1) = max hi (x3)) from by show hI L n.op aa (run L k) (i + 1) = _; rw [HH1.out, if_neg (fun q => hc1 (by have := q.1; omega))])
                    clear hg HH1 hc1
                    go_wp2_with fail
                    go_quiet (fail)
                    have HW5 := (show Hid (AtG L w (wr.drewN nq) k (.slice (some ⟨g1, 0, none⟩) k k1) (.slice (some ⟨g2, 0, none⟩) k k2) Bz n gp op) from HW4.out.below (below_drewN (Below.refl _ _) _))
                    clear HW4 e2 e3 e4
                    have e1 := HW5.out.f.o1.cells (g := g1) rfl x2 _ (bgc_get p3)
                    rw [Addr.add_lit, Nat.zero_add, HX1.out] at e1
                    generalize wr.drewN nq = w5 at *
                    go_wp2_with fail
                    go_roundw
                    case rel =>
                      refine ⟨i + 1, c - 1, by omega, by rw [HA1.out], ?_, by rw [show ((c : Int) - 1) = ((c - 1 : Nat) : Int) from by omega], HI2, HW5⟩
                      rw [HZ.out]
                      rw [← max_int]
                    case measure => simp [intOf]; omega
            · obtain rfl : c = 0 := by omega
              obtain rfl : i = aa := by omega
              have HPt := (show Hid (pt L k = (atI k (run L k) i, k, hI L n.op i (run L k) i + 1)) from by
                show pt L k = _
                have h := pt_at L k n.op (run L k) (by rw [HAa.out]; exact HI.out) (fun x hx => (HPo.out x hx).1)
                rw [HAa.out] at h
                rw [← h]
                unfold pt
                rw [HOp.out])
              have HE3 := (show Hid (er L k = if 60 < hI L n.op i (run L k) i + 1 then 4 else 0) from by
                show er L k = _
                rw [HE2.out, if_neg (by have := HI.out; omega), HPt.out])
              have hbh := HHb.out i
              have hab : atI k (run L k) i ≤ k := by
                have h := chn_at L k (run L k) HCh.out i HI.out
                cases hd : (run L k).drop i with
                | nil => rw [hd] at h; have e : atI k (run L k) i = 0 := h; omega
                | cons y r => rw [hd] at h; have := (HPo.out y (List.mem_of_mem_drop (by rw [hd]; simp))).2.2.1; have := h.1; omega
              clear HE2 HCh HPo HHb HFo HAa HOp HNn HI
              generalize atI k (run L k) i = ai at *
              generalize hI L n.op i (run L k) i = hi at *
              by_cases hd : 60 < hi + 1
              · have HE := (show Hid (er L k = 4) from by show er L k = _; rw [HE3.out, if_pos hd])
                have zd : (60 : Int) < (hi : Int) + 1 := by omega
                clear HE3 HPt hd
                go_wp2_with fail
                refine bodyPost_ret (v := .tuple #[.slice none 0 0, .slice none 0 0, .int .i64 k, .int .i64 4]) (by simp [results, Try.results42, go_sem]) rfl ⟨FrV.bad hlt HW4.out.f.e HE.out (by decide), HW4.out.f.b⟩
              · have HE := (show Hid (∀ j, j < k + 1 → er L j = 0) from fun j hj => by
                  by_cases q : j < k
                  · exact HW4.out.f.e j q
                  · obtain rfl : j = k := by omega
                    rw [HE3.out, if_neg hd])
                have zd : ¬ (60 : Int) < (hi : Int) + 1 := by omega
                clear HE3 hd
                have HF := (show Hid (AtF L w wr k (.slice A1 k k1) (.slice A2 k k2)) from HW4.out.f)
                have hO1 := HW4.out.f.o1
                have hbs := HW4.out.f.b.size
                clear HW4
                go_wp2_with (at_builtin; refine wpList_append_lies _ rfl _ _ 24 rfl w.heap.size 3 i0 (.int .i64 0) 1 8 Try.underlying24 hinf hz0 hz1 hz2 rfl (by decide) _ _ _ rfl (hO1.alloc _) ⟨wr.heap.size, 0, none⟩ 1 1 [.int .i64 ai] rfl rfl (cell_one_new _ _ _) ?c2 (by decide) ?c3 ?c4 ?c5 (wr.heap.size + 1) (by simp) ?_)
                case c2 => first | rfl | (intro u hu; simp at hu; subst hu; rfl)
                case c3 => unfold maxLen; omega
                case c4 => omega
                case c5 => first | omega | (simp; omega)
                intro g cap w6 hown1 hgrow1 hat1 hlt1
                have hO2 : w6.ownsRow w.heap.size 3 1 (.slice A2 k k2) k (hic L k) := (HF.out.o2.alloc _).kept hgrow1 (by
                  cases hv : (Value.slice A2 k k2).ownBlock with
                  | none => exact .inl rfl
                  | some g2 => exact .inr (fun e => HF.out.ne g2 e.symm hv))
                have HB6 := (show Hid (Below w.heap.size w w6) from (HF.out.b.alloc hbs _).grown hgrow1 (by simp; omega) (fun j e => (HF.out.o1.lt j e).1))
                have hb6 := HB6.out.size
                have hs6 : wr.heap.size + 1 ≤ w6.heap.size := by have := hgrow1.size; rw [World.size_alloc] at this; exact this
                have HO1 := (show Hid (w6.ownsRow w.heap.size 3 1 (.slice (some ⟨g, 0, none⟩) (k + 1) cap) (k + 1) (bgc L (k + 1))) from by rw [bgc_succ, HPt.out]; exact hown1)
                have HX1 := (show Hid (∀ j, (Value.slice A2 k k2).ownBlock = some j → j ≠ g ∧ j < w6.heap.size) from fun j hj => by
                  have hlt := (HF.out.o2.lt j hj).2
                  refine ⟨?_, by omega⟩
                  rcases hat1 with q | q
                  · rintro rfl
                    exact HF.out.ne _ q hj
                  · omega)
                have HG6 := (show Hid (g < w6.heap.size) from hlt1)
                clear hown1 hgrow1 hat1 hlt1 hO1 HF
                go_wp2_with (at_builtin; refine wpList_append_lies _ rfl _ _ 24 rfl w.heap.size 3 i0 (.int .i64 0) 1 8 Try.underlying24 hinf hz0 hz1 hz2 rfl (by decide) _ _ _ rfl (hO2.alloc _) ⟨w6.heap.size, 0, none⟩ 1 1 [.int .i64 ((hi : Int) + 1)] rfl rfl (cell_one_new _ _ _) ?c2 (by decide) ?c3 ?c4 ?c5 (w6.heap.size + 1) (by simp) ?_)
                case c2 => first | rfl | (intro u hu; simp at hu; subst hu; rfl)
                case c3 => unfold maxLen; omega
                case c4 => omega
                case c5 => first | omega | (simp; omega)
                intro g' cap' w7 hown2 hgrow2 hat2 hlt2
                have HW7 := (show Hid (AtF L w w7 (k + 1) (.slice (some ⟨g, 0, none⟩) (k + 1) cap) (.slice (some ⟨g', 0, none⟩) (k + 1) cap')) from by
                  refine ⟨(HO1.out.alloc _).kept hgrow2 (.inr ?_), ?_, ?_, (HB6.out.alloc hb6 _).grown hgrow2 (by simp; omega) (fun j e => (hO2.lt j e).1), HE.out⟩
                  · intro e
                    exact (HX1.out g e.symm).1 rfl
                  · rw [hic_succ, HPt.out]
                    have hcst : (((hi + 1 : Nat) : Nat) : Int) = (hi : Int) + 1 := by omega
                    show w7.ownsRow _ _ _ _ _ (hic L k ++ [.int .i64 ((hi + 1 : Nat) : Int)])
                    rw [hcst]
                    exact hown2
                  · intro j e1 e2
                    have q1 : g = j := Option.some.inj e1
                    have q2 : g' = j := Option.some.inj e2
                    rcases hat2 with q | q
                    · exact (HX1.out g' q).1 (by rw [q1, q2])
                    · have := HG6.out; omega)
                clear hown2 hgrow2 hat2 hlt2 hO2 HX1 HG6 HO1 HB6 HPt HE
                go_wp2_with fail
                go_roundw
                case rel => exact ⟨k + 1, by omega, by go_num, HW7⟩
                case measure => simp [intOf]; omega
    · obtain rfl : k = L.length := by omega
      clear HG HP
      go_wp2_with fail
      refine bodyPost_ret (v := .tuple #[u6, u7, .int .i64 0, .int .i64 0]) (by simp [results, Try.results42, go_sem]) rfl ⟨.inr ⟨HW.out.e, _, _, rfl, HW.out⟩, HW.out.b⟩
end Go.Proofs.Ytfomodpjdaclgab
