/- DERIVED. Plain mathematics and walks, laid together (4). -/
import Derived.Laws.AppendOwnNone
import Derived.Maps.OwnSet
import Derived.Maps.OwnOps
import Derived.Maps.Range
import Derived.Test.YtppggnmlbcdegaaRg03
namespace Go.Proofs.Ytppggnmlbcdegaa.T
open Go.RowKit
theorem Try.info3 : (Try.prog.info? 3).map (fun i => (i.zero, i.size, i.bytes)) = some (some (.int .i64 0), 1, 8) := by kernel_rfl
def bgc (L : List Nd) (k : Nat) : List Value := (List.range k).map fun j => .int .i64 (pt L j).1
def hic (L : List Nd) (k : Nat) : List Value := (List.range k).map fun j => .int .i64 (pt L j).2.2
theorem bgc_succ (L : List Nd) (k : Nat) : bgc L (k + 1) = bgc L k ++ [.int .i64 (pt L k).1] := by unfold bgc; rw [List.range_succ, List.map_append]; rfl
theorem hic_succ (L : List Nd) (k : Nat) : hic L (k + 1) = hic L k ++ [.int .i64 (pt L k).2.2] := by unfold hic; rw [List.range_succ, List.map_append]; rfl
theorem bgc_get {L : List Nd} {k j : Nat} (h : j < k) : (bgc L k)[j]? = some (.int .i64 (pt L j).1) := by unfold bgc; rw [List.getElem?_map, List.getElem?_range h]; rfl
theorem hic_get {L : List Nd} {k j : Nat} (h : j < k) : (hic L k)[j]? = some (.int .i64 (pt L j).2.2) := by unfold hic; rw [List.getElem?_map, List.getElem?_range h]; rfl

structure AtF (L : List Nd) (w wr : World) (k : Nat) (v1 v2 : Value) : Prop where
  o1 : wr.ownsRow w.heap.size 3 1 v1 k (bgc L k)
  o2 : wr.ownsRow w.heap.size 3 1 v2 k (hic L k)
  ne : ∀ g, v1.ownBlock = some g → v2.ownBlock ≠ some g
  b : Below w.heap.size w wr
  e : ∀ j, j < k → er L j = 0
theorem AtF.below {L : List Nd} {w wr w2 : World} {k : Nat} {v1 v2 : Value} (h : AtF L w wr k v1 v2) (hb : Below wr.heap.size wr w2) : AtF L w w2 k v1 v2 :=
  ⟨own_below h.o1 hb, own_below h.o2 hb, h.ne, h.b.trans (hb.mono h.b.size), h.e⟩
theorem AtF.form {L : List Nd} {w wr : World} {k : Nat} {v1 v2 : Value} (h : AtF L w wr k v1 v2) : ∃ A1 c1 A2 c2, v1 = .slice A1 k c1 ∧ v2 = .slice A2 k c2 ∧ (0 < k → ∃ g1 g2, A1 = some ⟨g1, 0, none⟩ ∧ A2 = some ⟨g2, 0, none⟩) := by
  obtain ⟨A1, c1, e1, q1⟩ : ∃ A1 c1, v1 = .slice A1 k c1 ∧ (0 < k → ∃ g, A1 = some ⟨g, 0, none⟩) := by
    rcases h.o1.2 with ⟨a, b⟩ | ⟨g, cap, cur, a, _⟩
    · exact ⟨none, 0, by rw [a, b], fun q => by omega⟩
    · exact ⟨_, cap, a, fun _ => ⟨g, rfl⟩⟩
  obtain ⟨A2, c2, e2, q2⟩ : ∃ A2 c2, v2 = .slice A2 k c2 ∧ (0 < k → ∃ g, A2 = some ⟨g, 0, none⟩) := by
    rcases h.o2.2 with ⟨a, b⟩ | ⟨g, cap, cur, a, _⟩
    · exact ⟨none, 0, by rw [a, b], fun q => by omega⟩
    · exact ⟨_, cap, a, fun _ => ⟨g, rfl⟩⟩
  exact ⟨A1, c1, A2, c2, e1, e2, fun q => by
    obtain ⟨g1, h1⟩ := q1 q
    obtain ⟨g2, h2⟩ := q2 q
    exact ⟨g1, g2, h1, h2⟩⟩
/-- What from answers. -/
def FrV (w w' : World) (L : List Nd) (e : Ending) : Prop :=
  (∃ k, k < L.length ∧ (∀ j, j < k → er L j = 0) ∧ er L k ≠ 0 ∧ e = .returned (.tuple #[.slice none 0 0, .slice none 0 0, .int .i64 k, .int .i64 (er L k)])) ∨
  ((∀ j, j < L.length → er L j = 0) ∧ ∃ v1 v2, e = .returned (.tuple #[v1, v2, .int .i64 0, .int .i64 0]) ∧ AtF L w w' L.length v1 v2)
theorem FrV.bad {w w' : World} {L : List Nd} {k : Nat} {c : Int} (hk : k < L.length) (h : ∀ j, j < k → er L j = 0) (he : er L k = c) (hc : c ≠ 0) : FrV w w' L (.returned (.tuple #[.slice none 0 0, .slice none 0 0, .int .i64 k, .int .i64 c])) :=
  .inl ⟨k, hk, h, by rw [he]; exact hc, by rw [he]⟩
structure AtG (L : List Nd) (w wr : World) (k : Nat) (v1 v2 : Value) (B : Nat) (n : Nd) (gp op : Nat) : Prop where
  f : AtF L w wr k v1 v2
  x : NB wr B 0 n
  p : NdL wr gp op L
  lp : gp < w.heap.size
theorem AtG.below {L : List Nd} {w wr w2 : World} {k : Nat} {v1 v2 : Value} {B : Nat} {n : Nd} {gp op : Nat} (h : AtG L w wr k v1 v2 B n gp op) (hb : Below wr.heap.size wr w2) : AtG L w w2 k v1 v2 B n gp op :=
  ⟨h.f.below hb, h.x.below hb, h.p.same (hb.block _ (Nat.lt_of_lt_of_le h.lp h.f.b.size)), h.lp⟩

set_option maxRecDepth 100000 in
set_option maxHeartbeats 16000000 in
theorem from_any (L : List Nd) (Ap : Option Addr) (cp : Nat) (hL : L.length ≤ 2048) (hT : ∀ n ∈ L, n.tx.size ≤ 140737488355328) (w : World) (hp : RdN w Ap L) :
    Calls Try.prog 59 #[.slice Ap L.length cp] w fun e w' => FrV w w' L e ∧ Below w.heap.size w w' := by
  have HP := (show Hid (RdN w Ap L) from hp)
  have HA := (show Hid (AtF L w w 0 (.slice none 0 0) (.slice none 0 0)) from ⟨World.ownsRow_nil _ _ _ _, World.ownsRow_nil _ _ _ _, fun g q => by simp [Value.ownBlock] at q, Below.refl _ _, fun j q => by omega⟩)
  have HG := (show Hid (∀ k, k < L.length → ∃ n, L[k]? = some n ∧ n.tx.size ≤ 140737488355328 ∧ L ≠ []) from fun k hk => ⟨_, List.getElem?_eq_getElem hk, hT _ (List.getElem_mem hk), by rintro rfl; simp at hk⟩)
  clear hT hp
  obtain ⟨i0, hinf, hz0, hz1, hz2⟩ := info_parts Try.info3
  go_enter Try.func59, Try.ntmps59
  go_wp2_with fail
  go_loopw [6, 7, 8] (fun v1 v2 t wr => ∃ k : Nat, k ≤ L.length ∧ t = .int .i64 k ∧ Hid (AtF L w wr k v1 v2)) (fun _ _ t _ => L.length - (intOf t).toNat)
  case atStart => exact ⟨0, by omega, by go_num, HA⟩
  case round =>
    obtain ⟨k, hk, rfl, HW⟩ := hrel
    clear HA
    by_cases hlt : k < L.length
    · obtain ⟨n, hn, htx, hne⟩ := HG.out k hlt
      obtain ⟨gp, op, rfl, lp, cl⟩ := HP.out hne
      have HNn := (show Hid (L[k]? = some n) from hn)
      have HFd : Hid (∀ w, Calls Try.prog 70 #[ndG n] w fun e w' => e = .returned (.bool (fdF n)) ∧ Below w.heap.size w w') := fun w => fieldR n htx w
      have HAr : Hid (∀ w, Calls Try.prog 69 #[.int .i64 n.op] w fun e w' => e = .returned (.int .i64 (ar n.op)) ∧ w' = w) := fun w => arityR_any n.op w
      obtain ⟨c0, c1, c2, c3, c4, c5, c6⟩ := (cl.same (HW.out.b.block gp lp)) k n hn
      have z0 : (0 : Int) ≤ (k : Int) := by omega
      have z1 : (k : Int) < (L.length : Int) := by omega
      have HW2 := (show Hid (AtG L w (wr.alloc (ndO n)) k _ _ wr.heap.size n gp op) from ⟨HW.out.below (below_box wr (ndO n)), nb_new wr n, (cl.same (HW.out.b.block gp lp)).same ((below_box wr (ndO n)).block gp (Nat.lt_of_lt_of_le lp HW.out.b.size)), lp⟩)
      have HEr := (show Hid (er L k = if alE n ≠ 0 then alE n else if (run L k).length < arN n.op then 42 else if 60 < (pt L k).2.2 then 4 else 0) from er_of hn)
      clear hn hne cl HG HW HP
      by_cases ha : ar n.op < 0
      · have HE := (show Hid (er L k = 40) from by
          show er L k = _
          have : alE n = 40 := by unfold alE; rw [if_pos ha]
          rw [HEr.out, this]; rfl)
        clear HEr HFd HNn
        go_wp2_with fail
        refine (HAr.out _).mono ?_
        rintro e w2 ⟨rfl, rfl⟩
        clear HAr c0 c1 c2 c3 c4 c5 c6
        have za : decide (ar n.op < 0) = true := decide_eq_true ha
        clear ha
        generalize ar n.op = aa at *
        go_wp2_with fail
        refine bodyPost_ret (v := .tuple #[.slice none 0 0, .slice none 0 0, .int .i64 k, .int .i64 40]) (by simp [results, Try.results59, go_sem]) rfl ⟨FrV.bad hlt HW2.out.f.e HE.out (by decide), HW2.out.f.b⟩
      · have za : decide (ar n.op < 0) = false := decide_eq_false ha
        cases hf : fdF n with
        | false =>
          have HE := (show Hid (er L k = 41) from by
            show er L k = _
            have : alE n = 41 := by unfold alE; rw [if_neg ha, hf]; rfl
            rw [HEr.out, this]; rfl)
          clear HEr HNn ha
          go_wp2_with fail
          refine (HAr.out _).mono ?_
          rintro e w2 ⟨rfl, rfl⟩
          clear HAr c0 c1 c2 c3 c4 c5 c6
          generalize ar n.op = aa at *
          go_wp2_with fail
          refine (HFd.out _).mono ?_
          rintro e w3 ⟨rfl, b3⟩
          have HW3 := (show Hid _ from HW2.out.below b3)
          clear HW2 HFd b3
          rw [hf]
          go_wp2_with fail
          refine bodyPost_ret (v := .tuple #[.slice none 0 0, .slice none 0 0, .int .i64 k, .int .i64 41]) (by simp [results, Try.results59, go_sem]) rfl ⟨FrV.bad hlt HW3.out.f.e HE.out (by decide), HW3.out.f.b⟩
        | true =>
          have hal : alE n = 0 := by unfold alE; rw [if_neg ha, hf]; rfl
          have HE2 := (show Hid (er L k = if (run L k).length < arN n.op then 42 else if 60 < (pt L k).2.2 then 4 else 0) from by show er L k = _; rw [HEr.out, if_neg (by rw [hal]; simp)])
          have hrn := arN_of hal
          have ha2 := arN_le n.op
          clear HEr ha
          rw [← hrn] at HAr za
          go_wp2_with fail
          refine (HAr.out _).mono ?_
          rintro e w2 ⟨rfl, rfl⟩
          clear HAr c0 c1 c2 c3 c4 c5 c6 hrn hal
          have HOp := (show Hid (opAt L k = n.op) from op_of HNn.out)
          generalize haa : arN n.op = aa at *
          have HAa := (show Hid (arN n.op = aa) from haa)
          clear haa
          go_wp2_with fail
          refine (HFd.out _).mono ?_
          rintro e w3 ⟨rfl, b3⟩
          have HW3 := (show Hid (AtG L w w3 k u6 u7 wr.heap.size n gp op) from HW2.out.below b3)
          clear HW2 HFd b3
          rw [hf]
          clear hf
          obtain ⟨A1, k1, A2, k2, rfl, rfl, hfo⟩ := HW3.out.f.form
          have HFo := (show Hid (0 < k → ∃ g1 g2, A1 = some ⟨g1, 0, none⟩ ∧ A2 = some ⟨g2, 0, none⟩) from hfo)
          have HCh := (show Hid (Chn L k (run L k)) from chn_run L k hk HW3.out.f.e)
          have HPo := (show Hid (∀ x ∈ run L k, 1 ≤ x.2.2 ∧ x.2.2 ≤ 60 ∧ x.2.1 < k ∧ x = pt L x.2.1) from fun x hx => ⟨run_pos hk HW3.out.f.e x hx, (run_bd hk HW3.out.f.e x hx).2.2.1, (run_bd hk HW3.out.f.e x hx).2.1, (run_bd hk HW3.out.f.e x hx).2.2.2⟩)
          have HHb := (show Hid (∀ i, hI L n.op aa (run L k) i ≤ 60) from hI_bd L n.op aa (run L k) (fun x hx => (HPo.out x hx).2.1))
          clear hfo
          generalize hBz : wr.heap.size = Bz at *
          clear hBz
          go_wp2_with fail
          go_loopw [11, 12, 13] (fun t u v wq => ∃ i c : Nat, c + i = aa ∧ t = .int .i64 (atI k (run L k) i) ∧ u = .int .i64 (hI L n.op aa (run L k) i) ∧ v = .int .i64 c ∧ Hid (i ≤ (run L k).length) ∧ Hid (AtG L w wq k (.slice A1 k k1) (.slice A2 k k2) Bz n gp op)) (fun _ _ v _ => (intOf v).toNat)
          case atStart => exact ⟨0, aa, by omega, rfl, rfl, rfl, Nat.zero_le _, HW3⟩
          case round =>
            obtain ⟨i, c, hc, rfl, rfl, rfl, HI, HW4⟩ := hrel
            clear HW3
            by_cases hc0 : 0 < c
            · have zc : (0 : Int) < (c : Int) := by omega
              cases hst : (run L k).drop i with
              | nil =>
                have hat : atI k (run L k) i = 0 := by
                  have h := chn_at L k (run L k) HCh.out i HI.out
                  rw [hst] at h
                  exact h
                have hlen : (run L k).length < aa := by
                  have := List.drop_eq_nil_iff.1 hst
                  omega
                have HE := (show Hid (er L k = 42) from by show er L k = _; rw [HE2.out, if_pos hlen])
                have zt : (((atI k (run L k) i : Nat) : Int) == 0) = true := by rw [hat]; rfl
                clear hst hat hlen HE2 HCh HPo HHb HFo HAa HOp HNn HI
                generalize atI k (run L k) i = ai at *
                generalize hI L n.op aa (run L k) i = hi at *
                go_wp2_with fail
                refine bodyPost_ret (v := .tuple #[.slice none 0 0, .slice none 0 0, .int .i64 k, .int .i64 42]) (by simp [results, Try.results59, go_sem]) rfl ⟨FrV.bad hlt HW4.out.f.e HE.out (by decide), HW4.out.f.b⟩
              | cons x r =>
                have hch := chn_at L k (run L k) HCh.out i HI.out
                rw [hst] at hch
                obtain ⟨q1, q2, q3, _⟩ := hch
                have hi2 : i < (run L k).length := by
                  have := congrArg List.length hst
                  rw [List.length_drop, List.length_cons] at this
                  omega
                have hxi : (run L k)[i]? = some x := by
                  have := List.getElem?_drop (xs := run L k) (i := i) (j := 0)
                  rw [hst] at this
                  simpa using this.symm
                obtain ⟨p1, p2, p3, hpx⟩ := HPo.out x (List.mem_of_getElem? hxi)
                have hk0 : 0 < k := by omega
                obtain ⟨g1, g2, rfl, rfl⟩ := HFo.out hk0
                have ha1 : atI k (run L k) (i + 1) = x.1 := by rw [atI, hxi]
                have hh1 : hI L n.op aa (run L k) (i + 1) = max (hI L n.op aa (run L k) i) (if i + 1 = aa ∧ aa = 2 ∧ opAt L x.2.1 = n.op then x.2.2 - 1 else x.2.2) := by rw [hI, hxi]
                have hbh := HHb.out i
                have e1 := HW4.out.f.o1.cells (g := g1) rfl x.2.1 _ (bgc_get p3)
                have e2 := HW4.out.f.o2.cells (g := g2) rfl x.2.1 _ (hic_get p3)
                rw [Addr.add_lit, Nat.zero_add, ← q2] at e1 e2
                have hy : L[x.2.1]? = some L[x.2.1] := List.getElem?_eq_getElem (by omega)
                have e3 := (HW4.out.p x.2.1 _ hy).c0
                rw [← op_of hy] at e3
                have e4 := HW4.out.x.c0
                have zt : (((atI k (run L k) i : Nat) : Int) == 0) = false := beq_eq_false_iff_ne.2 (by omega)
                have hsub : ((atI k (run L k) i : Nat) : Int) - 1 = (x.2.1 : Int) := by omega
                have zx : (0 : Int) ≤ (x.2.1 : Int) := by omega
                have zk : (x.2.1 : Int) < (k : Int) := by omega
                have zl : (x.2.1 : Int) < (L.length : Int) := by omega
                have HI2 := (show Hid (i + 1 ≤ (run L k).length) from hi2)
                have HA1 := (show Hid _ from ha1)
                have HH1 := (show Hid _ from hh1)
                clear hst q1 q2 q3 hxi hy ha1 hh1 HE2 HCh HPo HHb HFo HAa HOp HNn HI hi2
                generalize hat : atI k (run L k) i = ai at *
                generalize hhi : hI L n.op aa (run L k) i = hi at *
                clear hat hhi
                obtain ⟨x1, x2, x3⟩ := x
                simp only at p1 p2 p3 e1 e2 e3 hsub zx zk zl HA1 HH1 hpx
                generalize hox : opAt L x2 = ox at *
                clear hox
                have HX1 := (show Hid ((pt L x2).1 = x1) from by show (pt L x2).1 = x1; rw [← hpx])
                clear hpx e1
                by_cases hg : c = 1 ∧ aa = 2
                · have t1 : ((c : Int) == 1) = true := beq_iff_eq.2 (by omega)
                  have t2 : ((aa : Int) == 2) = true := beq_iff_eq.2 (by omega)
                  by_cases ho : ox = n.op
                  · have HZ := (show Hid (hI L n.op aa (run L k) (i + 1) = max hi (x3 - 1)) from by show hI L n.op aa (run L k) (i + 1) = _; rw [HH1.out, if_pos ⟨by omega, hg.2, ho⟩])
                    have t3 : (ox == n.op) = true := beq_iff_eq.2 ho
                    have hx3 : ((x3 : Int) - 1) = ((x3 - 1 : Nat) : Int) := by omega
                    clear ho hg HH1
                    go_wp2_with fail
                    go_quiet (fail)
                    have HW5 := (show Hid (AtG L w (wr.drewN nq) k (.slice (some ⟨g1, 0, none⟩) k k1) (.slice (some ⟨g2, 0, none⟩) k k2) Bz n gp op) from HW4.out.below (below_drewN (Below.refl _ _) _))
                    clear HW4 e2 e3 e4
                    have e1 := HW5.out.f.o1.cells (g := g1) rfl x2 _ (bgc_get p3)
                    rw [Addr.add_lit, Nat.zero_add, HX1.out] at e1
                    generalize wr.drewN nq = w5 at *
                    go_wp2_with fail
                    go_roundw
                    case rel =>
                      refine ⟨i + 1, c - 1, by omega, by rw [HA1.out], ?_, by rw [show ((c : Int) - 1) = ((c - 1 : Nat) : Int) from by omega], HI2, HW5⟩
                      rw [HZ.out]
                      rw [← max_int]
                    case measure => simp [intOf]; omega
                  · have HZ := (show Hid (hI L n.op aa (run L k) (i + 1) = max hi (x3)) from by show hI L n.op aa (run L k) (i + 1) = _; rw [HH1.out, if_neg (fun q => ho q.2.2)])
                    have t3 : (ox == n.op) = false := beq_eq_false_iff_ne.2 ho
                    clear ho hg HH1
                    go_wp2_with fail
                    go_quiet (fail)
                    have HW5 := (show Hid (AtG L w (wr.drewN nq) k (.slice (some ⟨g1, 0, none⟩) k k1) (.slice (some ⟨g2, 0, none⟩) k k2) Bz n gp op) from HW4.out.below (below_drewN (Below.refl _ _) _))
                    clear HW4 e2 e3 e4
                    have e1 := HW5.out.f.o1.cells (g := g1) rfl x2 _ (bgc_get p3)
                    rw [Addr.add_lit, Nat.zero_add, HX1.out] at e1
                    generalize wr.drewN nq = w5 at *
                    go_wp2_with fail
                    go_roundw
                    case rel =>
                      refine ⟨i + 1, c - 1, by omega, by rw [HA1.out], ?_, by rw [show ((c : Int) - 1) = ((c - 1 : Nat) : Int) from by omega], HI2, HW5⟩
                      rw [HZ.out]
                      rw [← max_int]
                    case measure => simp [intOf]; omega
                · by_cases hc1 : c = 1
                  · have t1 : ((c : Int) == 1) = true := beq_iff_eq.2 (by omega)
                    have t2 : ((aa : Int) == 2) = false := beq_eq_false_iff_ne.2 (fun q => hg ⟨hc1, by omega⟩)
                    have HZ := (show Hid (hI L n.op aa (run L k) (i + 1) = max hi (x3)) from by show hI L n.op aa (run L k) (i + 1) = _; rw [HH1.out, if_neg (fun q => hg ⟨hc1, q.2.1⟩)])
                    clear hg HH1 hc1
                    go_wp2_with fail
                    go_quiet (fail)
                    have HW5 := (show Hid (AtG L w (wr.drewN nq) k (.slice (some ⟨g1, 0, none⟩) k k1) (.slice (some ⟨g2, 0, none⟩) k k2) Bz n gp op) from HW4.out.below (below_drewN (Below.refl _ _) _))
                    clear HW4 e2 e3 e4
                    have e1 := HW5.out.f.o1.cells (g := g1) rfl x2 _ (bgc_get p3)
                    rw [Addr.add_lit, Nat.zero_add, HX1.out] at e1
                    generalize wr.drewN nq = w5 at *
                    go_wp2_with fail
                    go_roundw
                    case rel =>
                      refine ⟨i + 1, c - 1, by omega, by rw [HA1.out], ?_, by rw [show ((c : Int) - 1) = ((c - 1 : Nat) : Int) from by omega], HI2, HW5⟩
                      rw [HZ.out]
                      rw [← max_int]
                    case measure => simp [intOf]; omega
                  · have t1 : ((c : Int) == 1) = false := beq_eq_false_iff_ne.2 (by omega)
                    have HZ := (show Hid (hI L n.op aa (run L k) (i + 1) = max hi (x3)) from by show hI L n.op aa (run L k) (i + 1) = _; rw [HH1.out, if_neg (fun q => hc1 (by have := q.1; omega))])
                    clear hg HH1 hc1
                    go_wp2_with fail
                    go_quiet (fail)
                    have HW5 := (show Hid (AtG L w (wr.drewN nq) k (.slice (some ⟨g1, 0, none⟩) k k1) (.slice (some ⟨g2, 0, none⟩) k k2) Bz n gp op) from HW4.out.below (below_drewN (Below.refl _ _) _))
                    clear HW4 e2 e3 e4
                    have e1 := HW5.out.f.o1.cells (g := g1) rfl x2 _ (bgc_get p3)
                    rw [Addr.add_lit, Nat.zero_add, HX1.out] at e1
                    generalize wr.drewN nq = w5 at *
                    go_wp2_with fail
                    go_roundw
                    case rel =>
                      refine ⟨i + 1, c - 1, by omega, by rw [HA1.out], ?_, by rw [show ((c : Int) - 1) = ((c - 1 : Nat) : Int) from by omega], HI2, HW5⟩
                      rw [HZ.out]
                      rw [← max_int]
                    case measure => simp [intOf]; omega
            · obtain rfl : c = 0 := by omega
              obtain rfl : i = aa := by omega
              have HPt := (show Hid (pt L k = (atI k (run L k) i, k, hI L n.op i (run L k) i + 1)) from by
                show pt L k = _
                have h := pt_at L k n.op (run L k) (by rw [HAa.out]; exact HI.out) (fun x hx => (HPo.out x hx).1)
                rw [HAa.out] at h
                rw [← h]
                unfold pt
                rw [HOp.out])
              have HE3 := (show Hid (er L k = if 60 < hI L n.op i (run L k) i + 1 then 4 else 0) from by
                show er L k = _
                rw [HE2.out, if_neg (by have := HI.out; omega), HPt.out])
              have hbh := HHb.out i
              have hab : atI k (run L k) i ≤ k := by
                have h := chn_at L k (run L k) HCh.out i HI.out
                cases hd : (run L k).drop i with
                | nil => rw [hd] at h; have e : atI k (run L k) i = 0 := h; omega
                | cons y r => rw [hd] at h; have := (HPo.out y (List.mem_of_mem_drop (by rw [hd]; simp))).2.2.1; have := h.1; omega
              clear HE2 HCh HPo HHb HFo HAa HOp HNn HI
              generalize atI k (run L k) i = ai at *
              generalize hI L n.op i (run L k) i = hi at *
              by_cases hd : 60 < hi + 1
              · have HE := (show Hid (er L k = 4) from by show er L k = _; rw [HE3.out, if_pos hd])
                have zd : (60 : Int) < (hi : Int) + 1 := by omega
                clear HE3 HPt hd
                go_wp2_with fail
                refine bodyPost_ret (v := .tuple #[.slice none 0 0, .slice none 0 0, .int .i64 k, .int .i64 4]) (by simp [results, Try.results59, go_sem]) rfl ⟨FrV.bad hlt HW4.out.f.e HE.out (by decide), HW4.out.f.b⟩
              · have HE := (show Hid (∀ j, j < k + 1 → er L j = 0) from fun j hj => by
                  by_cases q : j < k
                  · exact HW4.out.f.e j q
                  · obtain rfl : j = k := by omega
                    rw [HE3.out, if_neg hd])
                have zd : ¬ (60 : Int) < (hi : Int) + 1 := by omega
                clear HE3 hd
                have HF := (show Hid (AtF L w wr k (.slice A1 k k1) (.slice A2 k k2)) from HW4.out.f)
                have hO1 := HW4.out.f.o1
                have hbs := HW4.out.f.b.size
                clear HW4
                go_wp2_with (at_builtin; refine wpList_append_lies _ rfl _ _ 37 rfl w.heap.size 3 i0 (.int .i64 0) 1 8 Try.underlying37 hinf hz0 hz1 hz2 rfl (by decide) _ _ _ rfl (hO1.alloc _) ⟨wr.heap.size, 0, none⟩ 1 1 [.int .i64 ai] rfl rfl (cell_one_new _ _ _) ?c2 (by decide) ?c3 ?c4 ?c5 (wr.heap.size + 1) (by simp) ?_)
                case c2 => first | rfl | (intro u hu; simp at hu; subst hu; rfl)
                case c3 => unfold maxLen; omega
                case c4 => omega
                case c5 => first | omega | (simp; omega)
                intro g cap w6 hown1 hgrow1 hat1 hlt1
                have hO2 : w6.ownsRow w.heap.size 3 1 (.slice A2 k k2) k (hic L k) := (HF.out.o2.alloc _).kept hgrow1 (by
                  cases hv : (Value.slice A2 k k2).ownBlock with
                  | none => exact .inl rfl
                  | some g2 => exact .inr (fun e => HF.out.ne g2 e.symm hv))
                have HB6 := (show Hid (Below w.heap.size w w6) from (HF.out.b.alloc hbs _).grown hgrow1 (by simp; omega) (fun j e => (HF.out.o1.lt j e).1))
                have hb6 := HB6.out.size
                have hs6 : wr.heap.size + 1 ≤ w6.heap.size := by have := hgrow1.size; rw [World.size_alloc] at this; exact this
                have HO1 := (show Hid (w6.ownsRow w.heap.size 3 1 (.slice (some ⟨g, 0, none⟩) (k + 1) cap) (k + 1) (bgc L (k + 1))) from by rw [bgc_succ, HPt.out]; exact hown1)
                have HX1 := (show Hid (∀ j, (Value.slice A2 k k2).ownBlock = some j → j ≠ g ∧ j < w6.heap.size) from fun j hj => by
                  have hlt := (HF.out.o2.lt j hj).2
                  refine ⟨?_, by omega⟩
                  rcases hat1 with q | q
                  · rintro rfl
                    exact HF.out.ne _ q hj
                  · omega)
                have HG6 := (show Hid (g < w6.heap.size) from hlt1)
                clear hown1 hgrow1 hat1 hlt1 hO1 HF
                go_wp2_with (at_builtin; refine wpList_append_lies _ rfl _ _ 37 rfl w.heap.size 3 i0 (.int .i64 0) 1 8 Try.underlying37 hinf hz0 hz1 hz2 rfl (by decide) _ _ _ rfl (hO2.alloc _) ⟨w6.heap.size, 0, none⟩ 1 1 [.int .i64 ((hi : Int) + 1)] rfl rfl (cell_one_new _ _ _) ?c2 (by decide) ?c3 ?c4 ?c5 (w6.heap.size + 1) (by simp) ?_)
                case c2 => first | rfl | (intro u hu; simp at hu; subst hu; rfl)
                case c3 => unfold maxLen; omega
                case c4 => omega
                case c5 => first | omega | (simp; omega)
                intro g' cap' w7 hown2 hgrow2 hat2 hlt2
                have HW7 := (show Hid (AtF L w w7 (k + 1) (.slice (some ⟨g, 0, none⟩) (k + 1) cap) (.slice (some ⟨g', 0, none⟩) (k + 1) cap')) from by
                  refine ⟨(HO1.out.alloc _).kept hgrow2 (.inr ?_), ?_, ?_, (HB6.out.alloc hb6 _).grown hgrow2 (by simp; omega) (fun j e => (hO2.lt j e).1), HE.out⟩
                  · intro e
                    exact (HX1.out g e.symm).1 rfl
                  · rw [hic_succ, HPt.out]
                    have hcst : (((hi + 1 : Nat) : Nat) : Int) = (hi : Int) + 1 := by omega
                    show w7.ownsRow _ _ _ _ _ (hic L k ++ [.int .i64 ((hi + 1 : Nat) : Int)])
                    rw [hcst]
                    exact hown2
                  · intro j e1 e2
                    have q1 : g = j := Option.some.inj e1
                    have q2 : g' = j := Option.some.inj e2
                    rcases hat2 with q | q
                    · exact (HX1.out g' q).1 (by rw [q1, q2])
                    · have := HG6.out; omega)
                clear hown2 hgrow2 hat2 hlt2 hO2 HX1 HG6 HO1 HB6 HPt HE
                go_wp2_with fail
                go_roundw
                case rel => exact ⟨k + 1, by omega, by go_num, HW7⟩
                case measure => simp [intOf]; omega
    · obtain rfl : k = L.length := by omega
      clear HG HP
      go_wp2_with fail
      refine bodyPost_ret (v := .tuple #[u6, u7, .int .i64 0, .int .i64 0]) (by simp [results, Try.results59, go_sem]) rfl ⟨.inr ⟨HW.out.e, _, _, rfl, HW.out⟩, HW.out.b⟩
end Go.Proofs.Ytppggnmlbcdegaa.T

namespace Go.Proofs.Ytppggnmlbcdegaa.T
open Go.RowKit
theorem Try.info43 : (Try.prog.info? 68).map (fun i => (i.zero, i.size, i.bytes)) = some (some (.agg #[.int .i64 0, .int .i64 0, .string ⟨#[]⟩, .int .u64 0, .int .u64 0, .int .u64 0, .int .u64 0]), 7, 64) := by kernel_rfl
abbrev zA : Value := .agg #[.int .i64 0, .int .i64 0, .string ⟨#[]⟩, .int .u64 0, .int .u64 0, .int .u64 0, .int .u64 0]
theorem own_empty (w : World) : (w.alloc (.cells #[] 68)).ownsRow w.heap.size 68 7 (.slice (some ⟨w.heap.size, 0, none⟩) 0 0) 0 [] :=
  ⟨rfl, .inr ⟨w.heap.size, 0, #[], rfl, Nat.le_refl _, heap_alloc_new w _, Nat.le_refl _, Nat.zero_le _, rfl, rfl⟩⟩
theorem own_cap {W : World} {B e size n : Nat} {g cap : Nat} {xs : List Value} (h : W.ownsRow B e size (.slice (some ⟨g, 0, none⟩) n cap) n xs) : n ≤ cap := by
  rcases h.2 with ⟨q, _⟩ | ⟨g2, c2, cur, q, _, _, h3, _⟩
  · cases q
  · cases q; exact h3
theorem ndc_get (L : List Nd) (j : Nat) (n : Nd) (h : L[j]? = some n) : ∀ i, i < 7 → (ndc L)[j * 7 + i]? = (ndV n)[i]? := by
  induction L generalizing j with
  | nil => cases h
  | cons a L ih =>
    intro i hi
    have e : ndc (a :: L) = ndV a ++ ndc L := rfl
    rw [e]
    cases j with
    | zero =>
      cases h
      rw [Nat.zero_mul, Nat.zero_add, List.getElem?_append_left (by show i < 7; exact hi)]
    | succ j =>
      have h2 : L[j]? = some n := by simpa using h
      have e7 : (ndV a).length = 7 := rfl
      rw [List.getElem?_append_right (by rw [e7]; omega), e7, show (j + 1) * 7 + i - 7 = j * 7 + i from by omega]
      exact ih j h2 i hi
theorem nd_one (n : Nd) : ∀ u ∈ ndV n, u.oneCell' = true := fun u hu => by
  simp only [ndV, List.mem_cons, List.not_mem_nil, or_false] at hu
  rcases hu with rfl | rfl | rfl | rfl | rfl | rfl | rfl <;> rfl
theorem ndc_cell (L : List Nd) : ∀ u ∈ ndc L, u.oneCell' = true := fun u hu => by
  obtain ⟨n, _, hn⟩ := List.mem_flatMap.1 hu
  exact nd_one n u hn
theorem own_ndl {W : World} {B g n cap : Nat} {L : List Nd} {xs : List Value} (h : W.ownsRow B 68 7 (.slice (some ⟨g, 0, none⟩) n cap) n (ndc L ++ xs)) : NdL W g 0 L := fun j nd hj => by
  have hc := h.cells (g := g) rfl
  have hjl : j < L.length := by
    by_cases q : j < L.length
    · exact q
    · rw [List.getElem?_eq_none (by omega)] at hj; cases hj
  have key : ∀ i u, i < 7 → (ndV nd)[i]? = some u → W.cell? ⟨g, 0 + j * 7 + i, none⟩ = some u := fun i u hi hu => by
    have := hc (j * 7 + i) u (by rw [List.getElem?_append_left (by rw [ndc_len]; omega), ndc_get L j nd hj i hi]; exact hu)
    rw [Addr.add_lit] at this
    rw [Nat.add_assoc]
    exact this
  exact ⟨key 0 _ (by omega) rfl, key 1 _ (by omega) rfl, key 2 _ (by omega) rfl, key 3 _ (by omega) rfl, key 4 _ (by omega) rfl, key 5 _ (by omega) rfl, key 6 _ (by omega) rfl⟩
/-- What comes in. -/
def InP (W : World) (A : Option Addr) (c : Nat) (L : List Nd) : Prop := RdN W A L ∧ (A = none → c = 0 ∧ L = [])
theorem in_cells {W : World} {ad : Addr} {L : List Nd} (h : RdN W (some ad) L) : ∀ (j : Nat) u, (ndc L)[j]? = some u → W.cell? (ad.add j) = some u := fun j u hj => by
  have hlt : j < L.length * 7 := by
    by_cases q : j < L.length * 7
    · exact q
    · rw [List.getElem?_eq_none (by rw [ndc_len]; omega)] at hj; cases hj
  obtain ⟨g, o, e, _, hc⟩ := h (by rintro rfl; simp at hlt)
  cases e
  have hd : j = j / 7 * 7 + j % 7 := by omega
  obtain ⟨nd, hn⟩ : ∃ nd, L[j / 7]? = some nd := ⟨_, List.getElem?_eq_getElem (by omega)⟩
  rw [hd, ndc_get L _ _ hn _ (by omega)] at hj
  obtain ⟨c0, c1, c2, c3, c4, c5, c6⟩ := hc _ _ hn
  rw [Addr.add_lit]
  generalize j / 7 = a at *
  have h7 : j % 7 < 7 := by omega
  generalize j % 7 = b at *
  subst hd
  rw [← Nat.add_assoc]
  match b, h7, hj with
  | 0, _, hj => cases hj; exact c0
  | 1, _, hj => cases hj; exact c1
  | 2, _, hj => cases hj; exact c2
  | 3, _, hj => cases hj; exact c3
  | 4, _, hj => cases hj; exact c4
  | 5, _, hj => cases hj; exact c5
  | 6, _, hj => cases hj; exact c6

/-- What was lent. -/
def Lent (w w' : World) (L : List Nd) (e : Ending) : Prop := ∃ g cap, e = .returned (.slice (some ⟨g, 0, none⟩) L.length cap) ∧ w'.ownsRow w.heap.size 68 7 (.slice (some ⟨g, 0, none⟩) (L.length + 1) cap) (L.length + 1) (ndc L ++ ndV (zN (-77)))
set_option maxRecDepth 100000 in
set_option maxHeartbeats 4000000 in
theorem lend_some (ad : Addr) (c : Nat) (L : List Nd) (w : World) (hl : L.length * 64 ≤ 140737488351232) (hc : ∀ (j : Nat) u, (ndc L)[j]? = some u → w.cell? (ad.add j) = some u) :
    Calls Try.prog 33 #[.slice (some ad) L.length c] w fun e w' => Lent w w' L e ∧ Below w.heap.size w w' := by
  obtain ⟨i0, hinf, hz0, hz1, hz2⟩ := info_parts Try.info43
  have hO := own_empty w
  have HB := (show Hid (Below w.heap.size w (w.alloc (.cells #[] 68))) from below_box _ _)
  have HC := (show Hid (∀ (j : Nat) u, (ndc L)[j]? = some u → (w.alloc (.cells #[] 68)).cell? (ad.add j) = some u) from fun j u hj => by
    have h1 := hc j u hj
    have h2 := World.block_lt_of_cell? w _ h1
    exact ((below_box w (.cells #[] 68)).cell (p := ad.add j) h2).trans h1)
  have HI := (show Hid ((ndc L).length = L.length * 7 ∧ ∀ u ∈ ndc L, u.oneCell' = true) from ⟨ndc_len L, ndc_cell L⟩)
  clear hc
  go_enter Try.func33, Try.ntmps33
  go_wp2_with (at_builtin; refine wpList_append_own _ rfl _ _ 55 rfl w.heap.size 68 i0 zA 7 64 Try.underlying55 hinf hz0 hz1 hz2 rfl (by decide) _ _ _ rfl hO ad L.length c (ndc L) rfl HI.out.1 HC.out HI.out.2 ?c3 ?c4 ?c5 ?_)
  case c3 => unfold maxLen; omega
  case c4 => omega
  case c5 => simp
  intro v1 w1 hown hgrow _
  have HB1 := (show Hid (Below w.heap.size w w1) from HB.out.grown hgrow (by simp) (fun k e => (hO.lt k e).1))
  have hsz := HB1.out.size
  clear hgrow hO HB
  go_wp2_with (at_builtin; refine wpList_append_lies _ rfl _ _ 55 rfl w.heap.size 68 i0 zA 7 64 Try.underlying55 hinf hz0 hz1 hz2 rfl (by decide) _ _ _ rfl (hown.alloc _) ⟨w1.heap.size, 0, none⟩ 1 1 (ndV (zN (-77))) rfl rfl ?c1 (nd_one _) (by decide) ?c3 ?c4 ?c5 (w1.heap.size + 1) (by simp) ?_)
  case c1 => exact World.news_of_block (cs := #[.int .i64 (-77), .int .i64 0, .string ⟨#[]⟩, .int .u64 0, .int .u64 0, .int .u64 0, .int .u64 0]) (t := 68) (fr := (0, 0)) (heap_alloc_new w1 _)
  case c3 => unfold maxLen; omega
  case c4 => omega
  case c5 => simp; omega
  intro g cap w2 hown2 hgrow2 hat hlt
  have HB2 := (show Hid (Below w.heap.size w w2) from (HB1.out.alloc hsz _).grown hgrow2 (by simp; omega) (fun k e => (hown.lt k e).1))
  have HO2 := (show Hid (w2.ownsRow w.heap.size 68 7 (.slice (some ⟨g, 0, none⟩) (L.length + 1) cap) (L.length + 1) (ndc L ++ ndV (zN (-77)))) from hown2)
  have hcap := own_cap hown2
  have z0 : (0 : Int) ≤ (L.length : Int) := by omega
  have z1 : (L.length : Int) ≤ (cap : Int) := by omega
  clear hown hown2 hgrow2 HB1 hat hlt HC HI
  go_wp2_with fail
  go_ret
  exact ⟨⟨g, cap, rfl, HO2.out⟩, HB2.out⟩

set_option maxRecDepth 100000 in
set_option maxHeartbeats 4000000 in
theorem lend_nil (w : World) : Calls Try.prog 33 #[.slice none 0 0] w fun e w' => Lent w w' [] e ∧ Below w.heap.size w w' := by
  obtain ⟨i0, hinf, hz0, hz1, hz2⟩ := info_parts Try.info43
  have hO := own_empty w
  have HB := (show Hid (Below w.heap.size w (w.alloc (.cells #[] 68))) from below_box _ _)
  go_enter Try.func33, Try.ntmps33
  go_wp2_with (at_builtin; first | refine wpList_append_own_none rfl _ _ 23 rfl w.heap.size 68 i0 7 Try.underlying55 hinf _ _ _ rfl hO rfl ?_ | refine wpList_append_lies _ rfl _ _ 55 rfl w.heap.size 68 i0 zA 7 64 Try.underlying55 hinf hz0 hz1 hz2 rfl (by decide) _ _ _ rfl (hO.alloc _) ⟨w.heap.size + 1, 0, none⟩ 1 1 (ndV (zN (-77))) rfl rfl ?c1 (nd_one _) (by decide) ?c3 ?c4 ?c5 (w.heap.size + 1 + 1) (by simp) ?_)
  case c1 =>
    have h := heap_alloc_new (w.alloc (.cells #[] 68)) (.cells #[.int .i64 (-77), .int .i64 0, .string ⟨#[]⟩, .int .u64 0, .int .u64 0, .int .u64 0, .int .u64 0] 68)
    rw [World.size_alloc] at h
    exact World.news_of_block (cs := #[.int .i64 (-77), .int .i64 0, .string ⟨#[]⟩, .int .u64 0, .int .u64 0, .int .u64 0, .int .u64 0]) (t := 68) (fr := (0, 0)) h
  case c3 => unfold maxLen; omega
  case c4 => omega
  case c5 => simp; omega
  intro g cap w2 hown2 hgrow2 hat hlt
  have HB2 := (show Hid (Below w.heap.size w w2) from (HB.out.alloc (by simp) _).grown hgrow2 (by simp; omega) (fun k e => (hO.lt k e).1))
  have HO2 := (show Hid (w2.ownsRow w.heap.size 68 7 (.slice (some ⟨g, 0, none⟩) (0 + 1) cap) (0 + 1) (ndc [] ++ ndV (zN (-77)))) from hown2)
  have z1 : (0 : Int) ≤ (cap : Int) := by omega
  clear hown2 hgrow2 HB hat hlt hO
  go_wp2_with fail
  go_ret
  exact ⟨⟨g, cap, rfl, HO2.out⟩, HB2.out⟩
theorem lend_any (A : Option Addr) (c : Nat) (L : List Nd) (w : World) (hl : L.length * 64 ≤ 140737488351232) (h : InP w A c L) : Calls Try.prog 33 #[.slice A L.length c] w fun e w' => Lent w w' L e ∧ Below w.heap.size w w' := by
  cases A with
  | none =>
    obtain ⟨rfl, rfl⟩ := h.2 rfl
    exact lend_nil w
  | some ad => exact lend_some ad c L w hl (in_cells h.1)
/-- A row that was lent, and is as it was. -/
def LentR (W : World) (B g cap : Nat) (L : List Nd) : Prop := W.ownsRow B 68 7 (.slice (some ⟨g, 0, none⟩) (L.length + 1) cap) (L.length + 1) (ndc L ++ ndV (zN (-77)))
theorem LentR.below {W W' : World} {B g cap : Nat} {L : List Nd} (h : LentR W B g cap L) (hb : Below W.heap.size W W') : LentR W' B g cap L := own_below h hb
theorem LentR.rd {W : World} {B g cap : Nat} {L : List Nd} (h : LentR W B g cap L) : RdN W (some ⟨g, 0, none⟩) L := fun _ => ⟨g, 0, rfl, (h.lt g rfl).2, own_ndl h⟩
theorem LentR.last {W : World} {B g cap : Nat} {L : List Nd} (h : LentR W B g cap L) : NB W g (L.length * 7) (zN (-77)) := by
  have hc := h.cells (g := g) rfl
  have key : ∀ i u, i < 7 → (ndV (zN (-77)))[i]? = some u → W.cell? ⟨g, L.length * 7 + i, none⟩ = some u := fun i u hi hu => by
    have := hc (L.length * 7 + i) u (by rw [List.getElem?_append_right (by rw [ndc_len]; omega), ndc_len, show L.length * 7 + i - L.length * 7 = i from by omega]; exact hu)
    rw [Addr.add_lit, Nat.zero_add] at this
    exact this
  exact ⟨key 0 _ (by omega) rfl, key 1 _ (by omega) rfl, key 2 _ (by omega) rfl, key 3 _ (by omega) rfl, key 4 _ (by omega) rfl, key 5 _ (by omega) rfl, key 6 _ (by omega) rfl⟩
end Go.Proofs.Ytppggnmlbcdegaa.T

namespace Go.Proofs.Ytppggnmlbcdegaa.T
open Go.RowKit
theorem one_iff {L : List Nd} {m : Nat} (hm : L.length = m + 1) (h : ∀ j, j < L.length → er L j = 0) : (run L L.length).length = 1 ↔ (pt L m).1 = 0 := by
  have hc := chn_run L L.length (Nat.le_refl _) h
  rw [hm] at hc ⊢
  rw [run_succ] at hc ⊢
  have h2 := hc.2.2.2
  cases hd : (run L m).drop (arN (opAt L m)) with
  | nil => rw [hd] at h2; exact ⟨fun _ => h2, fun _ => rfl⟩
  | cons x r =>
    rw [hd] at h2
    have := h2.1
    constructor
    · intro e; simp at e
    · intro e; omega

set_option maxRecDepth 100000 in
set_option maxHeartbeats 4000000 in
theorem checkR_any (L : List Nd) (Ap : Option Addr) (cp : Nat) (hL : L.length ≤ 140737488355328) (hT : ∀ n ∈ L, n.tx.size ≤ 140737488355328) (w : World) (hp : RdN w Ap L) :
    Calls Try.prog 36 #[.slice Ap L.length cp] w fun e w' => e = .returned (.tuple #[.int .i64 (ck L).1, .int .i64 (ck L).2]) ∧ Below w.heap.size w w' := by
  by_cases hlong : 2048 < L.length
  · have HE := (show Hid (ck L = (0, 2)) from ck_long hlong)
    have z : (2048 : Int) < (L.length : Int) := by omega
    clear hT hp
    go_enter Try.func36, Try.ntmps36
    go_wp2_with fail
    go_ret2
    exact ⟨by rw [HE.out]; rfl, Below.refl _ _⟩
  have z : ¬ (2048 : Int) < (L.length : Int) := by omega
  have HF : Hid (∀ _ : Unit, Calls Try.prog 59 #[.slice Ap L.length cp] w fun e w' => FrV w w' L e ∧ Below w.heap.size w w') := fun _ => from_any L Ap cp (by omega) hT w hp
  clear hT hp
  have HN := (show Hid (¬ 2048 < L.length) from hlong)
  clear hlong
  go_enter Try.func36, Try.ntmps36
  go_wp2_with fail
  refine (HF.out ()).mono ?_
  rintro e w2 ⟨hv, b2⟩
  have HB := (show Hid (Below w.heap.size w w2) from b2)
  clear HF b2
  rcases hv with ⟨k, hk, h1, h2, rfl⟩ | ⟨h1, v1, v2, rfl, h2⟩
  · have HE := (show Hid (ck L = (k, er L k)) from ck_bad HN.out hk h1 h2)
    have t1 : (er L k != 0) = true := by rw [bne, beq_eq_false_iff_ne.2 h2]; rfl
    clear h1 h2 HN
    generalize er L k = ek at *
    go_wp2_with fail
    go_ret2
    exact ⟨by rw [HE.out]; rfl, HB.out⟩
  · have HE := (show Hid (ck L = if (run L L.length).length = 1 then (0, 0) else (L.length, 42)) from ck_end HN.out h1)
    obtain ⟨A1, c1, A2, c2, rfl, rfl, hf⟩ := h2.form
    by_cases h0 : L.length = 0
    · have HE2 := (show Hid (ck L = (L.length, 42)) from by
        show ck L = _
        rw [HE.out, if_neg]
        rw [List.eq_nil_of_length_eq_zero h0]
        simp [run])
      have t0 : ((L.length : Int) == 0) = true := beq_iff_eq.2 (by omega)
      clear h1 h2 hf h0 HE HN
      go_wp2_with fail
      go_ret2
      exact ⟨by rw [HE2.out]; rfl, HB.out⟩
    · obtain ⟨m, hm⟩ : ∃ m, L.length = m + 1 := ⟨L.length - 1, by omega⟩
      obtain ⟨g1, g2, rfl, rfl⟩ := hf (by omega)
      have hone := one_iff hm h1
      have e1 := h2.o1.cells (g := g1) rfl m _ (bgc_get (by omega))
      rw [Addr.add_lit, Nat.zero_add] at e1
      have t0 : ((L.length : Int) == 0) = false := beq_eq_false_iff_ne.2 (by omega)
      have hs : (L.length : Int) - 1 = (m : Int) := by omega
      have zm : (0 : Int) ≤ (m : Int) := by omega
      have zl : (m : Int) < (L.length : Int) := by omega
      by_cases hp0 : (pt L m).1 = 0
      · have HE2 := (show Hid (ck L = (0, 0)) from by show ck L = _; rw [HE.out, if_pos (hone.2 hp0)])
        have t2 : (((pt L m).1 : Int) != 0) = false := by rw [hp0]; rfl
        clear h1 h2 hf h0 HE HN hm hone hp0
        generalize (pt L m).1 = q at *
        go_wp2_with fail
        go_ret2
        exact ⟨by rw [HE2.out]; rfl, HB.out⟩
      · have HE2 := (show Hid (ck L = (L.length, 42)) from by show ck L = _; rw [HE.out, if_neg (fun q => hp0 (hone.1 q))])
        have t2 : (((pt L m).1 : Int) != 0) = true := by rw [bne, beq_eq_false_iff_ne.2 (by omega)]; rfl
        clear h1 h2 hf h0 HE HN hm hone hp0
        generalize (pt L m).1 = q at *
        go_wp2_with fail
        go_ret2
        exact ⟨by rw [HE2.out]; rfl, HB.out⟩
end Go.Proofs.Ytppggnmlbcdegaa.T

namespace Go.Proofs.Ytppggnmlbcdegaa.T
open Go.RowKit
def stc (l : List ByteArray) : List Value := l.map Value.string
def inB (s : ByteArray) (l : List ByteArray) : Bool := l.any fun x => s.toList == x.toList
theorem inB_t {s : ByteArray} {l : List ByteArray} {k : Nat} {x : ByteArray} (h : l[k]? = some x) (e : (s.toList == x.toList) = true) : inB s l = true := by
  unfold inB
  exact List.any_eq_true.2 ⟨x, List.mem_of_getElem? h, e⟩
theorem inB_f {s : ByteArray} {l : List ByteArray} (h : ∀ (k : Nat) x, l[k]? = some x → (s.toList == x.toList) = false) : inB s l = false := by
  unfold inB
  rw [List.any_eq_false]
  intro x hx
  obtain ⟨k, hk⟩ := List.getElem?_of_mem hx
  rw [h k x hk]
  exact Bool.false_ne_true
/-- A list of texts that can be read. -/
def RdT (W : World) (v : Value) (l : List ByteArray) : Prop := ∃ A c, v = .slice A l.length c ∧ (l ≠ [] → ∃ g, A = some ⟨g, 0, none⟩ ∧ g < W.heap.size ∧ ∀ (k : Nat) x, l[k]? = some x → W.cell? ⟨g, k, none⟩ = some (.string x))
theorem own_rdt {W : World} {B n : Nat} {v : Value} {l : List ByteArray} (h : W.ownsRow B 9 1 v n (stc l)) (hn : n = l.length) : RdT W v l := by
  subst hn
  have hc := h
  rcases h.2 with ⟨rfl, h0⟩ | ⟨g, cap, cur, rfl, _⟩
  · exact ⟨none, 0, by rw [h0], fun hl => absurd (List.eq_nil_of_length_eq_zero h0) hl⟩
  · refine ⟨_, cap, rfl, fun _ => ⟨g, rfl, (hc.lt g rfl).2, fun k x hk => ?_⟩⟩
    have := hc.cells (g := g) rfl k (.string x) (by unfold stc; rw [List.getElem?_map, hk]; rfl)
    rwa [Addr.add_lit, Nat.zero_add] at this

set_option maxRecDepth 100000 in
set_option maxHeartbeats 4000000 in
theorem index_any (v : Value) (s : ByteArray) (l : List ByteArray) (hl : l.length ≤ 4096) (w : World) (h : RdT w v l) :
    Calls Try.prog 92 #[v, .string s] w fun e w' => (∃ r : Int, e = .returned (.int .i64 r) ∧ decide (0 ≤ r) = inB s l) ∧ w' = w := by
  obtain ⟨A, c, rfl, h⟩ := h
  have H := (show Hid _ from h)
  have HG := (show Hid (∀ k, k < l.length → ∃ x, l[k]? = some x ∧ l ≠ []) from fun k hk => ⟨_, List.getElem?_eq_getElem hk, by rintro rfl; simp at hk⟩)
  have HT := (show Hid (∀ (k : Nat) x, l[k]? = some x → (s.toList == x.toList) = true → inB s l = true) from fun k x hk e => inB_t hk e)
  have HF := (show Hid ((∀ (k : Nat) x, k < l.length → l[k]? = some x → (s.toList == x.toList) = false) → inB s l = false) from fun h => inB_f (fun k x hk => by
    refine h k x ?_ hk
    by_cases q : k < l.length
    · exact q
    · rw [List.getElem?_eq_none (by omega)] at hk; cases hk))
  clear h
  go_enter Try.func92, Try.ntmps92
  go_wp2_with fail
  go_loopw [8] (fun t wr => ∃ k : Nat, k ≤ l.length ∧ t = .int .i64 k ∧ wr = w ∧ Hid (∀ (j : Nat) x, j < k → l[j]? = some x → (s.toList == x.toList) = false)) (fun t _ => l.length - (intOf t).toNat)
  case atStart => exact ⟨0, by omega, by go_num, rfl, fun j x q => by omega⟩
  case round =>
    obtain ⟨k, hk, rfl, rfl, HI⟩ := hrel
    by_cases hlt : k < l.length
    · obtain ⟨x, hx, hne⟩ := HG.out k hlt
      obtain ⟨g, rfl, lg, q⟩ := H.out hne
      have e1 := q k x hx
      have z0 : (0 : Int) ≤ (k : Int) := by omega
      have z1 : (k : Int) < (l.length : Int) := by omega
      cases he : (s.toList == x.toList) with
      | true =>
        have HE := (show Hid (inB s l = true) from HT.out k x hx he)
        clear HG H q hx hne HT HF HI
        go_wp2_with fail
        go_ret
        exact ⟨⟨_, rfl, by rw [HE.out]; exact decide_eq_true z0⟩, rfl⟩
      | false =>
        have HI2 := (show Hid (∀ (j : Nat) y, j < k + 1 → l[j]? = some y → (s.toList == y.toList) = false) from fun j y hj hy => by
          by_cases q : j < k
          · exact HI.out j y q hy
          · obtain rfl : j = k := by omega
            rw [hx] at hy
            cases hy
            exact he)
        clear HG H q hx hne HT HF HI
        go_wp2_with fail
        go_roundw
        case rel => exact ⟨k + 1, by omega, by go_num, trivial, HI2⟩
        case measure => simp [intOf]; omega
    · obtain rfl : k = l.length := by omega
      have HE := (show Hid (inB s l = false) from HF.out (fun j x hj hx => HI.out j x hj hx))
      clear HG H HT HF HI
      go_wp2_with fail
      go_ret
      exact ⟨⟨_, rfl, by rw [HE.out]; rfl⟩, rfl⟩
set_option maxRecDepth 100000 in
set_option maxHeartbeats 1000000 in
theorem contains_any (v : Value) (s : ByteArray) (l : List ByteArray) (hl : l.length ≤ 4096) (w : World) (h : RdT w v l) :
    Calls Try.prog 86 #[v, .string s] w fun e w' => e = .returned (.bool (inB s l)) ∧ w' = w := by
  have H : Hid (∀ _ : Unit, Calls Try.prog 92 #[v, .string s] w fun e w' => (∃ r : Int, e = .returned (.int .i64 r) ∧ decide (0 ≤ r) = inB s l) ∧ w' = w) := fun _ => index_any v s l hl w h
  clear h
  go_enter Try.func86, Try.ntmps86
  go_wp2_with fail
  refine (H.out ()).mono ?_
  rintro e w2 ⟨⟨r, rfl, hr⟩, rfl⟩
  have HR := (show Hid (decide (0 ≤ r) = inB s l) from hr)
  clear H hr
  go_wp2_with fail
  go_ret
  exact ⟨by rw [← HR.out]; rfl, rfl⟩
end Go.Proofs.Ytppggnmlbcdegaa.T

namespace Go.Proofs.Ytppggnmlbcdegaa.T
open Go.RowKit
theorem Try.info9 : (Try.prog.info? 9).map (fun i => (i.zero, i.size, i.bytes)) = some (some (.string ⟨#[]⟩), 1, 16) := by kernel_rfl
def nmL (L : List Nd) : Nat → List ByteArray
  | 0 => []
  | k + 1 => match L[k]? with
    | some n => if n.op = 6 ∧ inB n.tx (nmL L k) = false then nmL L k ++ [n.tx] else nmL L k
    | none => nmL L k
theorem nmL_succ {L : List Nd} {k : Nat} {n : Nd} (h : L[k]? = some n) : nmL L (k + 1) = if n.op = 6 ∧ inB n.tx (nmL L k) = false then nmL L k ++ [n.tx] else nmL L k := by rw [nmL, h]
theorem nmL_len (L : List Nd) (k : Nat) : (nmL L k).length ≤ k := by
  induction k with
  | zero => exact Nat.le_refl _
  | succ k ih =>
    rw [nmL]
    split
    · split
      · rw [List.length_append]; show _ + 1 ≤ _; omega
      · omega
    · omega
def nmE (L : List Nd) : List ByteArray := if (ck L).2 = 0 then nmL L L.length else []
/-- A list of texts that is an answer. -/
def NmV (w w' : World) (L : List Nd) (e : Ending) : Prop := ∃ v, e = .returned (.tuple #[v, .int .i64 (ck L).2]) ∧ w'.ownsRow w.heap.size 9 1 v (nmE L).length (stc (nmE L))
end Go.Proofs.Ytppggnmlbcdegaa.T

namespace Go.Proofs.Ytppggnmlbcdegaa.T
open Go.RowKit
/-- The rules that a rule calls, rising. -/
def cL (gs : GL) (i : Nat) : List Nat := (List.range gs.length).filter fun j => cG gs i j
theorem cL_mem {gs : GL} {i j : Nat} : j ∈ cL gs i ↔ j < gs.length ∧ cG gs i j = true := by unfold cL; rw [List.mem_filter, List.mem_range]
theorem cL_rise (gs : GL) (i : Nat) : (cL gs i).Pairwise (· < ·) := List.Pairwise.filter _ List.pairwise_lt_range
theorem cL_len (gs : GL) (i : Nat) : (cL gs i).length ≤ gs.length := by
  have := List.length_filter_le (fun j => cG gs i j) (List.range gs.length)
  rw [List.length_range] at this
  exact this
/-- Lists that rise and have the same numbers are one. -/
theorem rise_ext : ∀ {a b : List Nat}, a.Pairwise (· < ·) → b.Pairwise (· < ·) → (∀ x, x ∈ a ↔ x ∈ b) → a = b := by
  intro a
  induction a with
  | nil =>
    intro b _ _ h
    cases b with
    | nil => rfl
    | cons y b => exact absurd ((h y).2 (List.mem_cons_self ..)) (by simp)
  | cons x a ih =>
    intro b ha hb h
    cases b with
    | nil => exact absurd ((h x).1 (List.mem_cons_self ..)) (by simp)
    | cons y b =>
      rw [List.pairwise_cons] at ha hb
      have hxy : x = y := by
        rcases List.mem_cons.1 ((h x).1 (List.mem_cons_self ..)) with e | e
        · exact e
        · rcases List.mem_cons.1 ((h y).2 (List.mem_cons_self ..)) with f | f
          · exact f.symm
          · have := hb.1 x e; have := ha.1 y f; omega
      subst hxy
      congr 1
      refine ih ha.2 hb.2 fun z => ?_
      constructor
      · intro hz
        rcases List.mem_cons.1 ((h z).1 (List.mem_cons_of_mem _ hz)) with e | e
        · have := ha.1 z hz; omega
        · exact e
      · intro hz
        rcases List.mem_cons.1 ((h z).2 (List.mem_cons_of_mem _ hz)) with e | e
        · have := hb.1 z hz; omega
        · exact e
/-- Numbers, each once, sorted: the list that rises. -/
theorem sort_is {l r : List Nat} (hl : l.Nodup) (hr : r.Pairwise (· < ·)) (h : ∀ x, x ∈ l ↔ x ∈ r) : (l.map fun (x : Nat) => (x : Int)).mergeSort (fun x y => decide (x ≤ y)) = r.map fun (x : Nat) => (x : Int) := by
  have e1 : (l.map fun (x : Nat) => (x : Int)).mergeSort (fun x y => decide (x ≤ y)) = (l.mergeSort (fun x y => decide (x ≤ y))).map fun (x : Nat) => (x : Int) := by
    rw [List.map_mergeSort]
    intro a _ b _
    simp
  rw [e1]
  congr 1
  have tr : ∀ a b c : Nat, decide (a ≤ b) = true → decide (b ≤ c) = true → decide (a ≤ c) = true := fun a b c h1 h2 => by
    rw [decide_eq_true_eq] at *; omega
  have to : ∀ a b : Nat, (decide (a ≤ b) || decide (b ≤ a)) = true := fun a b => by
    rw [Bool.or_eq_true, decide_eq_true_eq, decide_eq_true_eq]; omega
  have hp := List.pairwise_mergeSort (le := fun x y : Nat => decide (x ≤ y)) tr to l
  have hm := List.mergeSort_perm l (fun x y : Nat => decide (x ≤ y))
  have hn : (l.mergeSort (fun x y => decide (x ≤ y))).Nodup := hm.nodup_iff.2 hl
  refine rise_ext ?_ hr fun x => by rw [hm.mem_iff]; exact h x
  refine (hp.and hn).imp fun {a b} q => ?_
  have := q.1
  rw [decide_eq_true_eq] at this
  have := q.2
  omega
/-- The names that a pattern calls. -/
theorem inB_mem {s : ByteArray} {l : List ByteArray} : inB s l = true ↔ s ∈ l := by
  unfold inB
  rw [List.any_eq_true]
  constructor
  · rintro ⟨x, hx, e⟩
    have e2 : s.toList = x.toList := by simpa using e
    have : s = x := tx_ext e2
    rw [this]; exact hx
  · intro h
    exact ⟨s, h, by simp⟩
theorem nmL_nodup (L : List Nd) : ∀ k, (nmL L k).Nodup := by
  intro k
  induction k with
  | zero => exact List.nodup_nil
  | succ k ih =>
    rw [nmL]
    cases L[k]? with
    | none => exact ih
    | some n =>
      simp only
      split
      · rename_i h
        rw [List.nodup_append]
        refine ⟨ih, List.nodup_cons.2 ⟨by simp, List.nodup_nil⟩, fun a ha b hb e => ?_⟩
        rw [List.mem_singleton] at hb
        subst hb e
        rw [inB_mem.2 ha] at h
        exact absurd h.2 (by simp)
      · exact ih
theorem nmL_mem (L : List Nd) : ∀ k, k ≤ L.length → ∀ s, s ∈ nmL L k ↔ ∃ n ∈ L.take k, n.op = 6 ∧ n.tx = s := by
  intro k
  induction k with
  | zero => intro _ s; simp [nmL]
  | succ k ih =>
    intro hk s
    have hn : L[k]? = some L[k] := List.getElem?_eq_getElem (by omega)
    rw [nmL_succ hn, List.take_add_one, hn]
    have := ih (by omega) s
    simp only [Option.toList_some, List.mem_append, List.mem_singleton]
    constructor
    · intro h
      split at h
      · rename_i q
        rcases List.mem_append.1 h with h | h
        · obtain ⟨n, h1, h2⟩ := this.1 h
          exact ⟨n, .inl h1, h2⟩
        · rw [List.mem_singleton] at h
          exact ⟨_, .inr rfl, q.1, h.symm⟩
      · obtain ⟨n, h1, h2⟩ := this.1 h
        exact ⟨n, .inl h1, h2⟩
    · rintro ⟨n, h1 | rfl, h2, h3⟩
      · have := this.2 ⟨n, h1, h2, h3⟩
        split
        · exact List.mem_append_left _ this
        · exact this
      · split
        · exact List.mem_append_right _ (List.mem_singleton.2 h3.symm)
        · rename_i q
          cases e : inB (L[k]).tx (nmL L k)
          · exact absurd ⟨h2, e⟩ q
          · rw [← h3]; exact inB_mem.1 e
theorem nmL_all {L : List Nd} {s : ByteArray} : s ∈ nmL L L.length ↔ ∃ n ∈ L, n.op = 6 ∧ n.tx = s := by
  have := nmL_mem L L.length (Nat.le_refl _) s
  rwa [List.take_length] at this
/-- The numbers of the names that a rule calls. -/
theorem called_sort {gs : GL} (_h : RtG gs) {i : Nat} {g : ByteArray × List Nd} (hg : gs[i]? = some g) {l : List Nat} (hl : l.length = (nmL g.2 g.2.length).length) (hx : ∀ (k : Nat) s, (nmL g.2 g.2.length)[k]? = some s → ∃ j, l[k]? = some j ∧ fdG gs s = some j) :
    (l.map fun (x : Nat) => (x : Int)).mergeSort (fun x y => decide (x ≤ y)) = (cL gs i).map fun (x : Nat) => (x : Int) := by
  have back : ∀ (k : Nat) j, l[k]? = some j → ∃ s, (nmL g.2 g.2.length)[k]? = some s ∧ fdG gs s = some j := fun k j hj => by
    have hk := (List.getElem?_eq_some_iff.1 hj).1
    obtain ⟨j', h1, h2⟩ := hx k _ (List.getElem?_eq_getElem (by omega))
    rw [hj] at h1
    cases h1
    exact ⟨_, List.getElem?_eq_getElem (by omega), h2⟩
  refine sort_is ?_ (cL_rise gs i) fun j => ?_
  · refine List.pairwise_iff_getElem.2 fun a b ha hb hab e => ?_
    obtain ⟨s, s1, s2⟩ := back a _ (List.getElem?_eq_getElem ha)
    obtain ⟨t, t1, t2⟩ := back b _ (List.getElem?_eq_getElem hb)
    rw [e] at s2
    obtain ⟨x, x1, x2, _⟩ := fdG_some s2
    obtain ⟨y, y1, y2, _⟩ := fdG_some t2
    rw [x1] at y1
    cases y1
    have est : s = t := by rw [← x2, ← y2]
    subst est
    have hn := List.pairwise_iff_getElem.1 (nmL_nodup g.2 g.2.length) a b (by omega) (by omega) hab
    obtain ⟨p1, p2⟩ := List.getElem?_eq_some_iff.1 s1
    obtain ⟨q1, q2⟩ := List.getElem?_eq_some_iff.1 t1
    exact hn (by rw [p2, q2])
  · rw [cL_mem]
    unfold cG
    rw [hg]
    simp only [List.any_eq_true, Bool.and_eq_true, decide_eq_true_eq]
    constructor
    · intro hj
      obtain ⟨k, hk, rfl⟩ := List.mem_iff_getElem.1 hj
      obtain ⟨s, s1, s2⟩ := back k _ (List.getElem?_eq_getElem hk)
      obtain ⟨n, n1, n2, n3⟩ := nmL_all.1 (List.mem_of_getElem? s1)
      exact ⟨fdG_lt s2, n, n1, n2, by rw [n3]; exact s2⟩
    · rintro ⟨_, n, n1, n2, n3⟩
      obtain ⟨k, hk, e⟩ := List.mem_iff_getElem.1 (nmL_all.2 ⟨n, n1, n2, rfl⟩)
      obtain ⟨j', h1, h2⟩ := hx k n.tx (by rw [List.getElem?_eq_getElem hk, e])
      rw [n3] at h2
      cases h2
      exact List.mem_of_getElem? h1
end Go.Proofs.Ytppggnmlbcdegaa.T

namespace Go.Proofs.Ytppggnmlbcdegaa.T
open Go.RowKit
theorem own_base {w : World} {a b e size : Nat} {v : Value} {n : Nat} {xs : List Value} (h : w.ownsRow b e size v n xs) (hab : a ≤ b) : w.ownsRow a e size v n xs := by
  obtain ⟨h1, h2⟩ := h
  refine ⟨h1, ?_⟩
  rcases h2 with h2 | ⟨g, cap, cur, h3, h4, h5⟩
  · exact .inl h2
  · exact .inr ⟨g, cap, cur, h3, Nat.le_trans hab h4, h5⟩
end Go.Proofs.Ytppggnmlbcdegaa.T

namespace Go.Proofs.Ytppggnmlbcdegaa.N
open Go.ChangeShapes Go.WideShapes Go.ChangeAt Go.RowKit
abbrev Nd := T.Nd
theorem own_same {W W' : World} {B e s n : Nat} {v : Value} {xs : List Value} (h : W.ownsRow B e s v n xs) (hk : ∀ k, v.ownBlock = some k → W'.heap[k]? = W.heap[k]?) : W'.ownsRow B e s v n xs := by
  refine ⟨h.1, ?_⟩
  rcases h.2 with hn | ⟨g, cap, cur, rfl, hB, hg, rest⟩
  · exact .inl hn
  · exact .inr ⟨g, cap, cur, rfl, hB, (hk g rfl).trans hg, rest⟩
theorem own_ty {W : World} {B e s n : Nat} {v : Value} {xs : List Value} (h : W.ownsRow B e s v n xs) {k : Nat} (hk : v.ownBlock = some k) : ∃ cur, W.heap[k]? = some (.cells cur e (0, 0)) := by
  rcases h.2 with ⟨rfl, _⟩ | ⟨g, cap, cur, rfl, _, hg, _⟩
  · cases hk
  · cases hk; exact ⟨cur, hg⟩
/-- The words of a node's set are words. -/
theorem own_apart {W : World} {B e s n B2 e2 s2 n2 : Nat} {v v2 : Value} {xs xs2 : List Value} (h : W.ownsRow B e s v n xs) (h2 : W.ownsRow B2 e2 s2 v2 n2 xs2) (hne : e ≠ e2) {k : Nat} (hk : v.ownBlock = some k) : v2.ownBlock ≠ some k := fun q => by
  obtain ⟨c1, h1⟩ := own_ty h hk
  obtain ⟨c2, h3⟩ := own_ty h2 q
  rw [h1] at h3
  injection h3 with h4
  injection h4 with _ h5
  exact hne h5
theorem Try.info41 : (Try.prog.info? 57).map (fun i => (i.zero, i.size, i.bytes)) = some (some (.agg #[.string ⟨#[]⟩, .slice none 0 0]), 2, 40) := by kernel_rfl
structure NdW (n : Nd) : Prop where
  a : 0 ≤ n.s0 ∧ n.s0 < 18446744073709551616
  b : 0 ≤ n.s1 ∧ n.s1 < 18446744073709551616
  c : 0 ≤ n.s2 ∧ n.s2 < 18446744073709551616
  d : 0 ≤ n.s3 ∧ n.s3 < 18446744073709551616

/-- A grammar in a box of its own. -/
structure GX (W : World) (k : Nat) (a : Value) : Prop where
  heap : W.heap[k]? = some (.cells #[a] 24 (0, 0))
theorem GX.lt {W : World} {k : Nat} {a : Value} (h : GX W k a) : k < W.heap.size := (Array.getElem?_eq_some_iff.1 h.heap).1
theorem GX.same {W W' : World} {k : Nat} {a : Value} (h : GX W k a) (hb : W'.heap[k]? = W.heap[k]?) : GX W' k a := ⟨hb.trans h.heap⟩
theorem GX.below {W W' : World} {k : Nat} {a : Value} (h : GX W k a) (hb : Below W.heap.size W W') : GX W' k a := h.same (hb.block k h.lt)
theorem GX.cl {W : World} {k : Nat} {a : Value} (h : GX W k a) : W.cell? ⟨k, 0, none⟩ = some a := by
  rw [cell_of_row W k 0 _ 24 (0, 0) h.heap]; rfl
theorem GX.fz {W : World} {k : Nat} {a : Value} (h : GX W k a) : W.frozen? ⟨k, 0, none⟩ = false := frozen_of_row W k 0 _ 24 h.heap
theorem GX.set {W : World} {k : Nat} {a : Value} (h : GX W k a) (u : Value) : GX (W.setCell ⟨k, 0, none⟩ u) k u := ⟨by
  rw [heap_setCell_same _ k 0 _ 24 u h.heap]; simp⟩
theorem GX.ne {W : World} {k B e s n : Nat} {u a : Value} {xs : List Value} (h : GX W k a) (ho : W.ownsRow B e s u n xs) (he : e ≠ 24) {j : Nat} (hj : u.ownBlock = some j) : j ≠ k := fun q => by
  subst q
  obtain ⟨cs, hc⟩ := own_ty ho hj
  rw [h.heap] at hc
  injection hc with h4
  injection h4 with _ h5
  exact he h5.symm
/-- A slice of rules, read. -/
def GrD (W : World) (A : Option Addr) (gs : List (ByteArray × List Nd)) : Prop := ∀ (k : Nat) g, gs[k]? = some g → ∃ b o A2 c2, A = some ⟨b, o, none⟩ ∧ b < W.heap.size ∧ W.cell? ⟨b, o + k * 2, none⟩ = some (.string g.1) ∧ W.cell? ⟨b, o + k * 2 + 1, none⟩ = some (.slice A2 g.2.length c2) ∧ T.RdN W A2 g.2
theorem GrD.later {W W' : World} {A : Option Addr} {gs : List (ByteArray × List Nd)} (h : GrD W A gs) (hb : Below W.heap.size W W') : GrD W' A gs := fun k g hg => by
  obtain ⟨b, o, A2, c2, h1, h2, h3, h4, h5⟩ := h k g hg
  exact ⟨b, o, A2, c2, h1, Nat.lt_of_lt_of_le h2 hb.size, (hb.cell (p := ⟨b, o + k * 2, none⟩) h2).trans h3, (hb.cell (p := ⟨b, o + k * 2 + 1, none⟩) h2).trans h4, h5.below hb (Nat.le_refl _)⟩

theorem nw_of {n : Nd} (h : T.SeW n) : NdW n := ⟨h.1, h.2.1, h.2.2.1, h.2.2.2⟩
theorem Try.cells57 : Try.prog.cellsOf 57 = 2 := by kernel_rfl
theorem Try.cells24 : Try.prog.cellsOf 24 = 1 := by kernel_rfl
theorem Try.cells22 : Try.prog.cellsOf 22 = 1 := by kernel_rfl
theorem Try.cells55 : Try.prog.cellsOf 55 = 1 := by kernel_rfl
theorem Try.bytes57 : Try.prog.bytesOf 57 = 40 := by kernel_rfl
/-- What a rule that came in holds. -/
def RlIn (W : World) (g : ByteArray × List Nd) (A : Option Addr) (c : Nat) : Prop := T.RdN W A g.2 ∧ (A = none → c = 0 ∧ g.2 = []) ∧ g.1.size ≤ 140737488351232 ∧ g.2.length * 64 ≤ 140737488351232 ∧ (∀ n ∈ g.2, n.tx.size ≤ 140737488351232) ∧ ∀ n ∈ g.2, NdW n
/-- A grammar that came in. -/
structure GrIn (W : World) (A : Option Addr) (c : Nat) (gs : List (ByteArray × List Nd)) : Prop where
  d : GrD W A gs
  z : A = none → c = 0 ∧ gs = []
  len : gs.length * 40 ≤ 140737488351232
  each : ∀ (k : Nat) g, gs[k]? = some g → ∃ A2 c2, RlIn W g A2 c2 ∧ ∀ b o, A = some ⟨b, o, none⟩ → W.cell? ⟨b, o + k * 2 + 1, none⟩ = some (.slice A2 g.2.length c2)
set_option maxRecDepth 100000 in
theorem rule_in {H : Type} {enc : TypeId × Value → H} {W : World} {held : Bool} {n : Nat} {cs : List Value} {x : DataW H × List MemPlace} (h : DataW.trod enc Try.prog W 0 (fun _ => true) held n 57 cs = some x) (hs : ∀ m ∈ x.1.weights Try.prog 57, m ≤ reachBytes) :
    ∃ (s : ByteArray) (A : Option Addr) (c : Nat) (L : List Nd), cs = [.string s, .slice A L.length c] ∧ RlIn W (s, L) A c := by
  have hr : reachBytes = 140737488351232 := by decide
  obtain ⟨y0, y1, k, hx, hl, h0, h1⟩ := trod_struct2 Try.underlying57 h
  rw [Try.cells57] at hl
  match cs, hl with
  | [a, b], _ =>
    simp only [T.Try.cells9, Try.cells55, List.drop_zero, List.take_succ_cons, List.take_zero, List.drop_succ_cons] at h0 h1
    obtain ⟨s, e0, e1, _⟩ := DataW.trod_string Try.underlying9 h0
    have hd : x.1 = .agg [y0.1, y1.1] := congrArg Prod.fst hx
    rw [hd] at hs
    simp only [DataW.weights, Try.underlying57] at hs
    simp only [DataW.weightsEach, List.map_cons, List.map_nil, List.mem_append] at hs
    have hb : ∃ a l c, b = .slice a l c := by
      rcases Go.Deep.open_slice Try.underlying55 h1 with ⟨hc, _⟩ | ⟨a, len, cap, m, _, D, Pl, hc, _⟩
      · cases hc; exact ⟨_, _, _, rfl⟩
      · cases hc; exact ⟨_, _, _, rfl⟩
    have ht : DataW.Trod enc Try.prog W 0 (fun _ => true) held 55 b y1.1 y1.2 := by
      obtain ⟨a', l', c', rfl⟩ := hb
      exact ⟨k, h1⟩
    obtain ⟨A, c, L, rfl, r, nl, sz, sw⟩ := T.open_pat ht hb
    obtain ⟨s0, s1⟩ := sz (fun m hm => hs m (.inr (.inl hm)))
    have e0' : [a] = [Value.string s] := e0
    cases e0'
    refine ⟨s, A, c, L, rfl, r, nl, ?_, s0, s1, fun n hn => nw_of (sw n hn)⟩
    have := hs s.size (.inl (by rw [e1]; simp only [DataW.weights, List.mem_singleton]; rw [Array.length_toList]; rfl))
    rw [hr] at this
    exact this
set_option maxRecDepth 100000 in
theorem open_gram {H : Type} {enc : TypeId × Value → H} {W : World} {base : Nat} {held : Bool} {v : Value} {d : DataW H} {p : List MemPlace} (h : DataW.Trod enc Try.prog W 0 (fun _ => true) held 24 v d p) (hv : Value.okWide Try.prog W .any base 24 v) (hs : ∀ n ∈ d.weights Try.prog 24, n ≤ reachBytes) :
    ∃ A c gs, v = .agg #[.slice A (List.length (α := ByteArray × List Nd) gs) c] ∧ GrIn W A c gs := by
  have hr : reachBytes = 140737488351232 := by decide
  obtain ⟨cs, rfl, hcs⟩ := okWide_struct Try.underlying24 hv
  rw [Try.cells24] at hcs
  obtain ⟨l⟩ := cs
  match l, hcs with
  | [u], _ =>
    obtain ⟨fuel, hf⟩ := h
    have hf2 : DataW.trod enc Try.prog W 0 (fun _ => true) held fuel 24 [u] = some (d, p) := hf
    obtain ⟨y0, k, hx, _, h0⟩ := trod_struct1 Try.underlying24 hf2
    simp only [Try.cells22, List.drop_zero, List.take_succ_cons, List.take_zero] at h0
    have hd : d = .agg [y0.1] := congrArg Prod.fst hx
    rw [hd] at hs
    simp only [DataW.weights, Try.underlying24] at hs
    simp only [DataW.weightsEach, List.map_cons, List.map_nil, List.append_nil] at hs
    rcases Go.Deep.open_slice Try.underlying22 h0 with ⟨hc, hx⟩ | ⟨a, len, cap, m, n, D, Pl, hc, _, hl, hm, hmm, hx, hall⟩
    · have hc : [u] = [.slice none 0 0] := hc
      cases hc
      exact ⟨none, 0, [], rfl, ⟨(fun k g hg => by cases hg), fun _ => ⟨rfl, rfl⟩, (by simp), (fun k g hg => by cases hg)⟩⟩
    · have hc : [u] = [.slice (some a) len cap] := hc
      cases hc
      simp only [if_true] at hmm
      subst hmm
      have hd2 : y0.1 = .slice ((List.range len).map D) ((List.range (m - len)).map fun j => D (len + j)) := congrArg Prod.fst hx
      rw [hd2] at hs
      simp only [DataW.weights, Try.underlying22] at hs
      have each : ∀ i, i < len → ∃ q : (ByteArray × List Nd) × Option Addr × Nat, W.cell? (a.add (i * 2)) = some (.string q.1.1) ∧ W.cell? (a.add (i * 2 + 1)) = some (.slice q.2.1 q.1.2.length q.2.2) ∧ RlIn W q.1 q.2.1 q.2.2 := by
        intro i hi
        obtain ⟨cs', h1, h2⟩ := hall i (by omega)
        rw [Try.cells57] at h1
        obtain ⟨_, hlen, hcell⟩ := World.cells?_some h1
        obtain ⟨s, A, c, L, rfl, hri⟩ := rule_in h2 (fun k hk => hs k (List.mem_cons_of_mem _ (List.mem_append_left _ (T.weights_all _ 57 _ (D i) (List.mem_map.2 ⟨i, List.mem_range.2 hi, rfl⟩) _ hk))))
        refine ⟨((s, L), A, c), ?_, ?_, hri⟩
        · have e := hcell 0 (by show 0 < 2; omega)
          rw [Go.Deep.add_add] at e
          exact e
        · have e := hcell 1 (by show 1 < 2; omega)
          rw [Go.Deep.add_add] at e
          exact e
      obtain ⟨F, hF⟩ : ∃ F : Nat → (ByteArray × List Nd) × Option Addr × Nat, ∀ i, i < len → W.cell? (a.add (i * 2)) = some (.string (F i).1.1) ∧ W.cell? (a.add (i * 2 + 1)) = some (.slice (F i).2.1 (F i).1.2.length (F i).2.2) ∧ RlIn W (F i).1 (F i).2.1 (F i).2.2 :=
        ⟨fun i => if h : i < len then Classical.choose (each i h) else ((⟨#[]⟩, []), none, 0), fun i h => by simp only [dif_pos h]; exact Classical.choose_spec (each i h)⟩
      have get : ∀ (k : Nat) g, ((List.range len).map fun i => (F i).1)[k]? = some g → k < len ∧ g = (F k).1 := fun k g hg => by
        rw [List.getElem?_map] at hg
        have hk : k < len := by
          by_cases q : k < len
          · exact q
          · rw [List.getElem?_eq_none (by simp; omega)] at hg; cases hg
        rw [List.getElem?_range hk] at hg
        cases hg
        exact ⟨hk, rfl⟩
      refine ⟨some a, m, (List.range len).map fun i => (F i).1, by simp, ⟨fun k g hg => ?_, (fun q => by cases q), ?_, fun k g hg => ?_⟩⟩
      · obtain ⟨hk, rfl⟩ := get k g hg
        obtain ⟨q0, q1, q2⟩ := hF k hk
        obtain ⟨gb, off, spot⟩ := a
        have hspot : spot = none := by simpa [Addr.add] using World.cell?_spot (hF 0 (by omega)).1
        subst hspot
        rw [Addr.add_lit] at q0 q1
        exact ⟨gb, off, (F k).2.1, (F k).2.2, rfl, World.block_lt_of_cell? W _ q0, q0, by rw [Nat.add_assoc]; exact q1, q2.1⟩
      · have := hs _ (List.mem_cons_self ..)
        rw [Try.bytes57, hr] at this
        simp only [List.length_map, List.length_range] at this ⊢
        omega
      · obtain ⟨hk, rfl⟩ := get k g hg
        obtain ⟨q0, q1, q2⟩ := hF k hk
        refine ⟨(F k).2.1, (F k).2.2, q2, fun b o e => ?_⟩
        cases e
        rw [Addr.add_lit] at q1
        rw [Nat.add_assoc]
        exact q1
theorem GrIn.tx {W : World} {A : Option Addr} {c : Nat} {gs : List (ByteArray × List Nd)} (h : GrIn W A c gs) : ∀ g ∈ gs, g.1.size ≤ 140737488355328 ∧ g.2.length ≤ 140737488355328 ∧ ∀ n ∈ g.2, n.tx.size ≤ 140737488355328 := fun g hg => by
  obtain ⟨k, hk, rfl⟩ := List.mem_iff_getElem.1 hg
  obtain ⟨A2, c2, ⟨h1, h2, h3, h4, h5, h6⟩, _⟩ := h.each k _ (List.getElem?_eq_getElem hk)
  exact ⟨by omega, by omega, fun n hn => by have := h5 n hn; omega⟩
theorem GrIn.later {W W' : World} {A : Option Addr} {c : Nat} {gs : List (ByteArray × List Nd)} (h : GrIn W A c gs) (hb : Below W.heap.size W W') : GrIn W' A c gs :=
  ⟨h.d.later hb, h.z, h.len, fun k g hg => by
    obtain ⟨A2, c2, ⟨r1, r2⟩, r3⟩ := h.each k g hg
    exact ⟨A2, c2, ⟨r1.below hb (Nat.le_refl _), r2⟩, fun b o e => by
      have h1 := r3 b o e
      exact (hb.cell (p := ⟨b, o + k * 2 + 1, none⟩) (World.block_lt_of_cell? W _ h1)).trans h1⟩⟩
end Go.Proofs.Ytppggnmlbcdegaa.N

namespace Go.Proofs.Ytppggnmlbcdegaa.N
open Go.RowKit Go.Maps
open Go.Proofs.Ytppggnmlbcdegaa.T
theorem fdG_snoc : ∀ (l : GL) (g : ByteArray × List Nd) (s : ByteArray), fdG (l ++ [g]) s = match fdG l s with
    | some i => some i
    | none => if g.1 = s then some l.length else none := by
  intro l
  induction l with
  | nil => intro g s; rfl
  | cons x l ih =>
    intro g s
    rw [List.cons_append, fdG, fdG, ih g s]
    by_cases h : x.1 = s
    · rw [if_pos h, if_pos h]
    · rw [if_neg h, if_neg h]
      cases fdG l s with
      | some i => rfl
      | none =>
        simp only [Option.map_none]
        by_cases e : g.1 = s
        · rw [if_pos e, if_pos e]; rfl
        · rw [if_neg e, if_neg e]; rfl
theorem fdG_app : ∀ (l m : GL) (s : ByteArray) (i : Nat), fdG l s = some i → fdG (l ++ m) s = some i := by
  intro l
  induction l with
  | nil => intro m s i h; cases h
  | cons x l ih =>
    intro m s i h
    rw [List.cons_append, fdG] at *
    by_cases e : x.1 = s
    · rw [if_pos e] at *; exact h
    · rw [if_neg e] at *
      cases q : fdG l s with
      | none => rw [q] at h; cases h
      | some j => rw [ih m s j q]; rw [q] at h; exact h
/-- A name stands ahead just if it is among the first. -/
theorem tw_take (gs : GL) (s : ByteArray) (k : Nat) (hk : k ≤ gs.length) : tw gs s k = (fdG (gs.take k) s).isSome := by
  unfold tw
  cases h : fdG (gs.take k) s with
  | some i =>
    have := fdG_app _ (gs.drop k) s i h
    rw [List.take_append_drop] at this
    rw [this]
    have := fdG_lt h
    rw [List.length_take] at this
    exact decide_eq_true (by omega)
  | none =>
    cases q : fdG gs s with
    | none => rfl
    | some j =>
      refine decide_eq_false fun hj => ?_
      obtain ⟨g, g1, g2, _⟩ := fdG_some q
      refine fdG_none.1 h g ?_ g2
      exact List.mem_of_getElem? (i := j) (by rw [List.getElem?_take, if_pos hj]; exact g1)
theorem str_ne {a b : ByteArray} (h : a ≠ b) : Lit.string a.data.toList ≠ Lit.string b.data.toList := fun e => h (by injection e with e; exact ByteArray.ext (Array.ext' e))
theorem keyed : Keyed Try.prog 9 := string_keyed Try.underlying9
theorem zero3 (w : World) : (zeroValue 3).run Try.prog w = .ok (.int .i64 0) w := by kernel_rfl
theorem key_of {s : ByteArray} (hs : s.size ≤ 140737488355328) : keyOf Try.prog 9 (.string s) = some (.string s.data.toList) := WideMaps.keyOf_string_mk Try.underlying9 (by unfold maxLen; omega)
/-- What a datum says of names. -/
def NmD (D : DataW Unit) (gs : GL) : Prop := ∀ s : ByteArray, Maps.has D (.string s.data.toList) = (fdG gs s).isSome ∧ ∀ i, fdG gs s = some i → ∀ z, D.atKey (.string s.data.toList) z = .lit (.int .i64 i)
theorem NmD.nil : NmD (.map []) [] := fun s => ⟨rfl, fun i h => by cases h⟩
theorem NmD.put {D : DataW Unit} {gs : GL} (hm : Maps.IsMap D) (h : NmD D gs) (g : ByteArray × List Nd) (hg : fdG gs g.1 = none) : NmD (D.put (.string g.1.data.toList) (.lit (.int .i64 gs.length))) (gs ++ [g]) := fun s => by
  rw [fdG_snoc]
  by_cases e : g.1 = s
  · subst e
    rw [hg]
    simp only [if_true]
    exact ⟨has_put_same hm (show WideAt.IsKeyLit (.string _) from trivial) _, fun i hi z => by cases hi; exact atKey_put_same hm (show WideAt.IsKeyLit (.string _) from trivial) _ _⟩
  · have e2 : Lit.string s.data.toList ≠ Lit.string g.1.data.toList := str_ne (Ne.symm e)
    obtain ⟨h1, h2⟩ := h s
    rw [has_put_other e2, if_neg e]
    cases q : fdG gs s with
    | none => rw [q] at h1; exact ⟨h1, fun i hi => by cases hi⟩
    | some j =>
      rw [q] at h1
      exact ⟨h1, fun i hi z => by rw [atKey_put_other e2]; exact h2 i (by rw [q]; exact hi) z⟩
/-- Block B is the map of the names of some rules. -/
structure NmM (W : World) (B : Nat) (gs : GL) : Prop where
  ex : ∃ (D : DataW Unit), W.ownsMap Try.prog 9 (plainElem Try.prog 3) B gs.length D ∧ NmD D gs
theorem NmM.lt {W : World} {B : Nat} {gs : GL} (h : NmM W B gs) : B < W.heap.size := by
  obtain ⟨D, h1, _⟩ := h.ex
  exact h1.lt
theorem NmM.same {W W' : World} {B : Nat} {gs : GL} (h : NmM W B gs) (hb : W'.heap[B]? = W.heap[B]?) : NmM W' B gs := by
  obtain ⟨D, ⟨es, clock, h1, h2⟩, h3⟩ := h.ex
  exact ⟨D, ⟨es, clock, hb.trans h1, h2⟩, h3⟩
theorem NmM.later {W W' : World} {B : Nat} {gs : GL} (h : NmM W B gs) (hb : Below W.heap.size W W') : NmM W' B gs := h.same (hb.block B h.lt)
theorem NmM.nil (w : World) : NmM (w.alloc (.map #[] 0)) w.heap.size [] := ⟨⟨.map [], World.ownsMap_made w _ _ _, NmD.nil⟩⟩
set_option maxRecDepth 100000 in
/-- A look at a name. -/
theorem NmM.look {W : World} {B : Nat} {gs : GL} (h : NmM W B gs) (s : ByteArray) (hs : s.size ≤ 140737488355328) : ∃ c : Int, (Instr.lookup 59 (.map (some B)) (.string s) true).run Try.prog W = .ok (.tuple #[.int .i64 c, .bool (fdG gs s).isSome]) W ∧ ∀ i, fdG gs s = some i → c = i := by
  obtain ⟨D, h1, h2⟩ := h.ex
  obtain ⟨v, ps, hrun, hv⟩ := h1.look_ok keyed Try.underlying59 (zero3 W) (plainElem_int Try.underlying3 (by decide)) (key_of hs)
  obtain ⟨c, rfl, hc, _⟩ := plainElem_int_inv Try.underlying3 hv
  rw [(h2 s).1] at hrun
  refine ⟨c, hrun, fun i hi => ?_⟩
  have e := congrArg Prod.fst hc
  simp only [(h2 s).2 i hi] at e
  injection e with e
  injection e with _ e
  exact e.symm
set_option maxRecDepth 100000 in
theorem NmM.look0 {W : World} {B : Nat} {gs : GL} (h : NmM W B gs) {s : ByteArray} (hs : s.size ≤ 140737488355328) {i : Nat} (hi : fdG gs s = some i) : (Instr.lookup 59 (.map (some B)) (.string s) false).run Try.prog W = .ok (.int .i64 i) W := by
  obtain ⟨D, h1, h2⟩ := h.ex
  obtain ⟨c, hrun, hat, _⟩ := h1.lookup_int keyed Try.underlying59 Try.underlying3 (zero3 W) (key_of hs)
  rw [(h2 s).2 i hi] at hat
  injection hat with hat
  injection hat with _ hat
  rw [hrun, hat]

/-- A node that calls. -/
def cN (s : ByteArray) : Nd := ⟨6, 0, s, 0, 0, 0, 0⟩
theorem ck_cN (s : ByteArray) : ((ck [cN s]).2 == 0) = nmB s := by
  have hf : fdF (cN s) = nmB s := by
    unfold fdF cN
    have e1 : nuF 6 0 = true := by decide
    have e2 : seF 6 0 0 0 0 = true := by decide
    simp only [e1, e2, Bool.and_true]
    unfold txF
    simp
  have ha : alE (cN s) = if nmB s then 0 else 41 := by
    unfold alE
    rw [if_neg (show ¬ ar (cN s).op < 0 from (show ¬ ar 6 < 0 by decide)), hf]
  have he : er [cN s] 0 = if nmB s then 0 else 41 := by
    rw [er_of (n := cN s) rfl, ha]
    have e1 : ¬ (run [cN s] 0).length < arN (cN s).op := (show ¬ 0 < arN 6 by decide)
    have e2 : ¬ 60 < (pt [cN s] 0).2.2 := (show ¬ 60 < (mk [cN s] 0 6 []).2.2 by unfold mk; rw [if_pos (show arN 6 = 0 by decide)]; decide)
    cases nmB s
    · rfl
    · simp only [if_true]
      rw [if_neg (by decide), if_neg e1, if_neg e2]
  cases h : nmB s
  · rw [h] at he
    rw [ck_bad (L := [cN s]) (k := 0) (show ¬ 2048 < 1 by decide) (show 0 < 1 by decide) (fun j hj => by omega) (by rw [he]; decide), he]
    rfl
  · rw [h] at he
    have : ck [cN s] = (0, 0) := by
      refine (Rt.ck ⟨show ¬ 2048 < 1 by decide, fun j hj => ?_, ?_⟩)
      · have : j = 0 := by simp at hj; omega
        rw [this]
        exact he
      · simp [run, cN]
    rw [this]
    rfl
set_option maxRecDepth 100000 in
set_option maxHeartbeats 4000000 in
theorem nameP_any (s : ByteArray) (hs : s.size ≤ 140737488355328) (w : World) : Calls Try.prog 13 #[.string s] w fun e w' => e = .returned (.bool (nmB s)) ∧ Below w.heap.size w w' := by
  have HC := (show Hid (∀ _ : Unit, Calls Try.prog 37 #[.slice (some ⟨w.heap.size, 0, none⟩) 1 1] (w.alloc (ndO (cN s))) fun e w' => e = .returned (.tuple #[.int .i64 (ck [cN s]).1, .int .i64 (ck [cN s]).2]) ∧ Below (w.alloc (ndO (cN s))).heap.size (w.alloc (ndO (cN s))) w') from fun _ =>
    check_any [cN s] (some ⟨w.heap.size, 0, none⟩) 1 (one_len _) (fun n hn => by rw [List.mem_singleton.1 hn]; exact hs) (w.alloc (ndO (cN s))) (rd_one w (cN s)))
  have HE := (show Hid (((ck [cN s]).2 == 0) = nmB s) from ck_cN s)
  have HB := (show Hid (Below w.heap.size w (w.alloc (ndO (cN s)))) from below_box _ _)
  clear hs
  go_enter Try.func13, Try.ntmps13
  go_wp2_with fail
  refine (HC.out ()).mono ?_
  rintro e w3 ⟨rfl, b3⟩
  have HB3 := (show Hid (Below w.heap.size w w3) from HB.out.trans (b3.mono HB.out.size))
  clear HC HB b3
  generalize (ck [cN s]).2 = c2 at *
  generalize (ck [cN s]).1 = c1 at *
  go_wp2_with fail
  go_ret
  exact ⟨by rw [← HE.out]; rfl, HB3.out⟩
end Go.Proofs.Ytppggnmlbcdegaa.N
