/- DERIVED. Walks: Names, by the document. -/
import Derived.Test.YtfomodpjdaclgaaNmA
namespace Go.Proofs.Ytfomodpjdaclgaa
open Go.RowKit

theorem Try.info9 : (Try.prog.info? 9).map (fun i => (i.zero, i.size, i.bytes)) = some (some (.string ⟨#[]⟩), 1, 16) := by kernel_rfl
def nmL (L : List Nd) : Nat → List ByteArray
  | 0 => []
  | k + 1 => match L[k]? with
    | some n => if n.op = 6 ∧ inB n.tx (nmL L k) = false then nmL L k ++ [n.tx] else nmL L k
    | none => nmL L k
theorem nmL_succ {L : List Nd} {k : Nat} {n : Nd} (h : L[k]? = some n) : nmL L (k + 1) = if n.op = 6 ∧ inB n.tx (nmL L k) = false then nmL L k ++ [n.tx] else nmL L k := by rw [nmL, h]
theorem nmL_len (L : List Nd) (k : Nat) : (nmL L k).length ≤ k := by
  induction k with
  | zero => exact Nat.le_refl _
  | succ k ih =>
    rw [nmL]
    split
    · split
      · rw [List.length_append]; show _ + 1 ≤ _; omega
      · omega
    · omega
def nmE (L : List Nd) : List ByteArray := if (ck L).2 = 0 then nmL L L.length else []
def upB (s : ByteArray) (l : List ByteArray) (k : Nat) : Bool := inB s (l.take k)
theorem upB_succ {s : ByteArray} {l : List ByteArray} {k : Nat} {x : ByteArray} (h : l[k]? = some x) : upB s l (k + 1) = (upB s l k || (x.toList == s.toList)) := by
  unfold upB inB
  rw [List.take_add_one, h, List.any_append]
  have e : (s.toList == x.toList) = (x.toList == s.toList) := by
    cases q : (x.toList == s.toList) with
    | true => rw [beq_iff_eq] at q ⊢; exact q.symm
    | false => rw [beq_eq_false_iff_ne] at q ⊢; exact fun r => q r.symm
  simp [e]
structure AtN (L : List Nd) (w wr : World) (v : Value) (l : List ByteArray) : Prop where
  o : wr.ownsRow w.heap.size 9 1 v l.length (stc l)
  b : Below w.heap.size w wr
/-- A list of texts that is an answer. -/
def NmV (w w' : World) (L : List Nd) (e : Ending) : Prop := ∃ v, e = .returned (.tuple #[v, .int .i64 (ck L).2]) ∧ w'.ownsRow w.heap.size 9 1 v (nmE L).length (stc (nmE L))

set_option maxRecDepth 100000 in
set_option maxHeartbeats 8000000 in
theorem namesR_any (L : List Nd) (Ap : Option Addr) (cp : Nat) (hL : L.length ≤ 140737488355328) (hT : ∀ n ∈ L, n.tx.size ≤ 140737488355328) (w : World) (hp : RdN w Ap L) :
    Calls Try.prog 32 #[.slice Ap L.length cp] w fun e w' => NmV w w' L e ∧ Below w.heap.size w w' := by
  have HC : Hid (∀ _ : Unit, Calls Try.prog 11 #[.slice Ap L.length cp] w fun e w' => e = .returned (.tuple #[.int .i64 (ck L).1, .int .i64 (ck L).2]) ∧ Below w.heap.size w w') := fun _ => checkR_any L Ap cp hL hT w hp
  have HP := (show Hid (RdN w Ap L) from hp)
  have HE : Hid (nmE L = if (ck L).2 = 0 then nmL L L.length else []) := rfl
  obtain ⟨i0, hinf, hz0, hz1, hz2⟩ := info_parts Try.info9
  clear hp hT
  go_enter Try.func32, Try.ntmps32
  go_wp2_with fail
  refine (HC.out ()).mono ?_
  rintro e w2 ⟨rfl, b2⟩
  have HB := (show Hid (Below w.heap.size w w2) from b2)
  clear HC b2
  by_cases hc : (ck L).2 = 0
  · have hr := rt_of hc
    have HI := (show Hid (nmE L = nmL L L.length ∧ (ck L).2 = 0) from ⟨by rw [HE.out, if_pos hc], hc⟩)
    have t1 : ((ck L).2 != 0) = false := by rw [hc]; rfl
    have hlen := hr.len
    have HG := (show Hid (∀ k, k < L.length → ∃ n, L[k]? = some n ∧ L ≠ [] ∧ nmL L (k + 1) = if n.op = 6 ∧ inB n.tx (nmL L k) = false then nmL L k ++ [n.tx] else nmL L k) from fun k hk => by
      have hn : L[k]? = some L[k] := List.getElem?_eq_getElem hk
      exact ⟨_, hn, by rintro rfl; simp at hk, nmL_succ hn⟩)
    have HN := (show Hid (∀ k, (nmL L k).length ≤ k) from nmL_len L)
    have HA := (show Hid (AtN L w w2 (.slice none 0 0) (nmL L 0)) from ⟨World.ownsRow_nil _ _ _ _, HB.out⟩)
    clear hc HE hr HB
    go_wp2_with fail
    go_loopw [6, 7] (fun v t wr => ∃ k : Nat, k ≤ L.length ∧ t = .int .i64 k ∧ Hid (AtN L w wr v (nmL L k))) (fun _ t _ => L.length - (intOf t).toNat)
    case atStart => exact ⟨0, by omega, by go_num, HA⟩
    case round =>
      obtain ⟨k, hk, rfl, HW⟩ := hrel
      clear HA
      by_cases hlt : k < L.length
      · obtain ⟨n, hn, hne, hcn⟩ := HG.out k hlt
        obtain ⟨g, o, rfl, lg, cl⟩ := HP.out hne
        have z0 : (0 : Int) ≤ (k : Int) := by omega
        have z1 : (k : Int) < (L.length : Int) := by omega
        have hcb := HN.out k
        have HCn := (show Hid (nmL L (k + 1) = if n.op = 6 ∧ inB n.tx (nmL L k) = false then nmL L k ++ [n.tx] else nmL L k) from hcn)
        have HCl := (show Hid (∀ W, Below w.heap.size w W → NB W g (o + k * 7) n) from fun W hW => (cl.same (hW.block g lg)) k n hn)
        have e1 := (HCl.out wr HW.out.b).c0
        clear hn hne cl HG HP hcn HN
        by_cases h6 : n.op = 6
        · have t6 : (n.op != 6) = false := by rw [bne, beq_iff_eq.2 h6]; rfl
          obtain ⟨A, c, hv, hrd⟩ := own_rdt HW.out.o rfl
          subst hv
          have HRd := (show Hid _ from hrd)
          have HGl := (show Hid (∀ j, j < (nmL L k).length → ∃ x, (nmL L k)[j]? = some x ∧ nmL L k ≠ [] ∧ upB n.tx (nmL L k) (j + 1) = (upB n.tx (nmL L k) j || (x.toList == n.tx.toList))) from fun j hj => by
            have hx : (nmL L k)[j]? = some (nmL L k)[j] := List.getElem?_eq_getElem hj
            exact ⟨_, hx, fun q => by rw [q] at hj; simp at hj, upB_succ hx⟩)
          have HU0 := (show Hid (upB n.tx (nmL L k) 0 = false) from rfl)
          have HUl := (show Hid (upB n.tx (nmL L k) (nmL L k).length = inB n.tx (nmL L k)) from by show upB _ _ _ = _; unfold upB; rw [List.take_length])
          have HZ := (show Hid (nmL L (k + 1) = if inB n.tx (nmL L k) = false then nmL L k ++ [n.tx] else nmL L k) from by show nmL L (k + 1) = _; rw [HCn.out]; simp only [h6, true_and])
          clear hrd HCn h6
          generalize hl : nmL L k = l at *
          clear hl
          go_wp2_with fail
          obtain ⟨wO, hwO⟩ : ∃ W, W = wr := ⟨wr, rfl⟩
          rw [← hwO] at HW e1
          rw [← hwO] at HRd
          rw [← hwO]
          clear hwO e1
          go_loopw [8, 9] (fun u t wq => ∃ j : Nat, j ≤ l.length ∧ t = .int .i64 j ∧ u = .bool (upB n.tx l j) ∧ Hid (Below wO.heap.size wO wq)) (fun _ t _ => l.length - (intOf t).toNat)
          case atStart => exact ⟨0, by omega, by go_num, by rw [HU0.out], Below.refl _ _⟩
          case round =>
            obtain ⟨j, hj, rfl, rfl, HV⟩ := hrel
            have HWB := (show Hid (Below w.heap.size w wr) from HW.out.b.trans (HV.out.mono HW.out.b.size))
            by_cases hlt2 : j < l.length
            · obtain ⟨x, hx, hnel, hup⟩ := HGl.out j hlt2
              obtain ⟨gl, rfl, lgl, ql⟩ := HRd.out hnel
              have k1 := (HV.out.cell (p := ⟨gl, j, none⟩) lgl).trans (ql j x hx)
              have k2 := (HCl.out wr HWB.out).c2
              have y0 : (0 : Int) ≤ (j : Int) := by omega
              have y1 : (j : Int) < (l.length : Int) := by omega
              have HUp := (show Hid (upB n.tx l (j + 1) = (upB n.tx l j || (x.toList == n.tx.toList))) from hup)
              clear hx hnel hup ql HGl HRd HU0 HUl HZ HCl
              cases hu : upB n.tx l j with
              | true =>
                have HUq := (show Hid (upB n.tx l (j + 1) = true) from by show upB _ _ _ = _; rw [HUp.out, hu]; rfl)
                clear HUp hu
                go_wp2_with fail
                go_quiet (fail)
                have HV2 := (show Hid (Below wO.heap.size wO (wr.drewN nq)) from HV.out.trans (below_drewN (Below.refl _ _) _))
                generalize wr.drewN nq = w5 at *
                clear k1 k2 HV HWB
                go_wp2_with fail
                go_roundw
                case rel => exact ⟨j + 1, by omega, by go_num, by rw [HUq.out], HV2⟩
                case measure => simp [intOf]; omega
              | false =>
                have HUq := (show Hid (upB n.tx l (j + 1) = (x.toList == n.tx.toList)) from by show upB _ _ _ = _; rw [HUp.out, hu]; rfl)
                clear HUp hu
                go_wp2_with fail
                go_quiet (fail)
                have HV2 := (show Hid (Below wO.heap.size wO (wr.drewN nq)) from HV.out.trans (below_drewN (Below.refl _ _) _))
                generalize wr.drewN nq = w5 at *
                clear k1 k2 HV HWB
                go_wp2_with fail
                go_roundw
                case rel => exact ⟨j + 1, by omega, by go_num, by rw [HUq.out], HV2⟩
                case measure => simp [intOf]; omega
            · obtain rfl : j = l.length := by omega
              rw [HUl.out]
              have k2 := (HCl.out wr HWB.out).c2
              have hO : wr.ownsRow w.heap.size 9 1 (.slice A l.length c) l.length (stc l) := own_below HW.out.o HV.out
              have hsz := HWB.out.size
              clear HGl HRd HU0 HUl HCl HV HW
              cases hi : inB n.tx l with
              | true =>
                have HW6 := (show Hid (AtN L w wr (.slice A l.length c) (nmL L (k + 1))) from by rw [HZ.out, if_neg (by rw [hi]; simp)]; exact ⟨hO, HWB.out⟩)
                clear HZ hi hO HWB k2
                go_wp2_with fail
                go_roundw
                case rel => exact ⟨k + 1, by omega, by go_num, HW6⟩
                case measure => simp [intOf]; omega
              | false =>
                have HZ2 := (show Hid (nmL L (k + 1) = l ++ [n.tx]) from by show nmL L (k + 1) = _; rw [HZ.out, if_pos hi])
                clear HZ hi
                go_wp2_with (at_builtin; refine wpList_append_lies _ rfl _ _ 52 rfl w.heap.size 9 i0 (.string ⟨#[]⟩) 1 16 Try.underlying52 hinf hz0 hz1 hz2 rfl (by decide) _ _ _ rfl (hO.alloc _) ⟨wr.heap.size, 0, none⟩ 1 1 [.string n.tx] rfl rfl (cell_one_new _ _ _) ?c2 (by decide) ?c3 ?c4 ?c5 (wr.heap.size + 1) (by simp) ?_)
                case c2 => first | rfl | (intro u hu; simp at hu; subst hu; rfl)
                case c3 => unfold maxLen; omega
                case c4 => omega
                case c5 => first | omega | (simp; omega)
                intro g3 cap w6 hown hgrow _ _
                have HW6 := (show Hid (AtN L w w6 (.slice (some ⟨g3, 0, none⟩) (l.length + 1) cap) (nmL L (k + 1))) from by
                  rw [HZ2.out]
                  refine ⟨?_, (HWB.out.alloc hsz _).grown hgrow (by simp; omega) (fun j e => (hO.lt j e).1)⟩
                  rw [List.length_append]
                  unfold stc
                  rw [List.map_append]
                  exact hown)
                clear hown hgrow hO HWB HZ2 k2
                go_wp2_with fail
                go_roundw
                case rel => exact ⟨k + 1, by omega, by go_num, HW6⟩
                case measure => simp [intOf]; omega
        · have t6 : (n.op != 6) = true := by rw [bne, beq_eq_false_iff_ne.2 h6]; rfl
          have HZ := (show Hid (nmL L (k + 1) = nmL L k) from by show nmL L (k + 1) = _; rw [HCn.out, if_neg (fun q => h6 q.1)])
          clear HCn HCl h6
          go_wp2_with fail
          go_roundw
          case rel => exact ⟨k + 1, by omega, by go_num, by rw [HZ.out]; exact HW⟩
          case measure => simp [intOf]; omega
      · obtain rfl : k = L.length := by omega
        clear HG HP HN
        go_wp2_with fail
        go_ret2
        exact ⟨⟨_, by rw [HI.out.2]; rfl, by rw [HI.out.1]; exact HW.out.o⟩, HW.out.b⟩
  · have HI := (show Hid (nmE L = []) from by show nmE L = _; rw [HE.out, if_neg hc])
    have t1 : ((ck L).2 != 0) = true := by rw [bne, beq_eq_false_iff_ne.2 hc]; rfl
    clear hc HE HP
    go_wp2_with fail
    go_ret2
    exact ⟨⟨_, rfl, by rw [HI.out]; exact World.ownsRow_nil _ _ _ _⟩, HB.out⟩
end Go.Proofs.Ytfomodpjdaclgaa
