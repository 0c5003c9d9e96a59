/- DERIVED. Plain mathematics and walks, laid together (8). -/
import Derived.Deep.LoopGhost
import Derived.Test.YtppggnmlbcdegaaRk07
namespace Go.Proofs.Ytppggnmlbcdegaa.N
open Go.RowKit Go.Maps
open Go.Proofs.Ytppggnmlbcdegaa.T

open U (nI own_get own_slice wpList_app1 below_grown TT Out info_split)
theorem Try.info4 : (Try.prog.info? 4).map (fun i => (i.zero, i.size, i.bytes)) = some (some (.bool false), 1, 1) := by kernel_rfl
theorem own_take {W : World} {B e g n cap k : Nat} {xs : List Value} (h : W.ownsRow B e 1 (.slice (some ⟨g, 0, none⟩) n cap) n xs) (hk : k ≤ n) : W.ownsRow B e 1 (.slice (some ⟨g, 0, none⟩) k cap) k (xs.take k) := by
  have hl := h.1
  rcases h.2 with ⟨q, _⟩ | ⟨g', cap', cur, q, hb, hg, h1, h2, h3, h4⟩
  · cases q
  · cases q
    refine ⟨by rw [List.length_take]; omega, .inr ⟨g, cap, cur, rfl, hb, hg, by omega, h2, h3, ?_⟩⟩
    rw [← h4, List.take_take]
    congr 1
    omega
/-- While it is found out what a rule comes to. -/
structure CmS (w wr : World) (gs : GL) (r gb : Nat) (l : List Bool) (ah : List Nat) (x : Option Nat) (u : Value) : Prop where
  b : Below w.heap.size w wr
  m : wr.ownsRow w.heap.size 4 1 (.slice (some ⟨gb, 0, none⟩) gs.length gs.length) gs.length (l.map Value.bool)
  a : wr.ownsRow w.heap.size 3 1 u ah.length (ah.map nI)
  i : WlI gs.length (cG gs) r l ah x
theorem CmS.store {w wr : World} {gs : GL} {r gb : Nat} {l : List Bool} {ah : List Nat} {x : Option Nat} {u : Value} (h : CmS w wr gs r gb l ah x u) (j : Nat) : Below w.heap.size w (wr.setCell ⟨gb, j, none⟩ (.bool true)) ∧ (wr.setCell ⟨gb, j, none⟩ (.bool true)).ownsRow w.heap.size 4 1 (.slice (some ⟨gb, 0, none⟩) gs.length gs.length) gs.length ((l.set j true).map Value.bool) ∧ (wr.setCell ⟨gb, j, none⟩ (.bool true)).ownsRow w.heap.size 3 1 u ah.length (ah.map nI) := by
  obtain ⟨st1, st2⟩ := h.m.stored j (.bool true)
  refine ⟨below_grown h.b st2 (fun k e => by cases e; exact (h.m.lt gb rfl).1), ?_, U.own_kept h.a st2 (fun k e => by cases e; exact own_apart h.m h.a (by decide) rfl)⟩
  rw [List.map_set]
  exact st1
theorem CmS.mark {w wr w5 : World} {gs : GL} {r gb y j : Nat} {l : List Bool} {ah : List Nat} {u u' : Value} (h : CmS w wr gs r gb l ah (some y) u) (hy : y < gs.length ∧ (y = r ∨ l[y]? = some true)) (hc : cG gs y j = true) (hj : j < gs.length)
    (ho : w5.ownsRow w.heap.size 3 1 u' (ah.length + 1) (ah.map nI ++ [nI j])) (hg : (wr.setCell ⟨gb, j, none⟩ (.bool true)).grownBy w5 u.ownBlock) : CmS w w5 gs r gb (l.set j true) (ah ++ [j]) (some y) u' := by
  obtain ⟨s1, s2, s3⟩ := h.store j
  refine ⟨below_grown s1 hg (fun k e => (s3.lt k e).1), U.own_kept s2 hg (fun k e => own_apart s3 s2 (by decide) e), ?_, h.i.mark hy hc hj⟩
  rw [List.length_append, List.map_append]
  exact ho
theorem CmS.pop {w wr : World} {gs : GL} {r gb g cap k y : Nat} {l : List Bool} {ah : List Nat} (h : CmS w wr gs r gb l (ah ++ [y]) none (.slice (some ⟨g, 0, none⟩) (k + 1) cap)) (hk : ah.length = k) : CmS w wr gs r gb l ah (some y) (.slice (some ⟨g, 0, none⟩) k cap) ∧ y < gs.length ∧ (y = r ∨ l[y]? = some true) := by
  obtain ⟨i1, i2⟩ := h.i.pop
  refine ⟨⟨h.b, h.m, ?_, i1⟩, i2⟩
  have h1 := h.a
  rw [List.length_append, hk] at h1
  have h2 := own_take h1 (k := k) (by omega)
  rw [List.map_append, List.take_left' (by rw [List.length_map, hk])] at h2
  rw [hk]
  exact h2
theorem CmS.start {w w1 : World} {gs : GL} {r : Nat} (hr : r < gs.length) (ho : w1.ownsRow w.heap.size 4 1 (.slice (some ⟨w.heap.size, 0, none⟩) gs.length gs.length) gs.length (List.replicate gs.length (.bool false))) (hg : w.grownBy w1 none) :
    CmS w (w1.alloc (.cells #[.int .i64 (r : Int)] 3)) gs r w.heap.size (List.replicate gs.length false) [r] none (.slice (some ⟨w1.heap.size, 0, none⟩) 1 1) := by
  have hb : Below w.heap.size w w1 := below_grown (Below.refl _ _) hg (fun k e => by cases e)
  refine ⟨hb.alloc hb.size _, ?_, ?_, WlI.start hr⟩
  · rw [List.map_replicate]; exact ho.alloc _
  · exact World.ownsRow_lit w1 #[.int .i64 (r : Int)] 1 hb.size (by unfold maxLen; omega) rfl
/-- What comesTo answers. -/
def CmV (w w' : World) (gs : GL) (r : Nat) (e : Ending) : Prop := ∃ (u : Value) (l : List Bool), e = .returned u ∧ l.length = gs.length ∧ (∀ j, l[j]? = some true ↔ Rc gs.length (cG gs) r j) ∧ w'.ownsRow w.heap.size 4 1 u gs.length (l.map Value.bool) ∧ u.ownBlock = some w.heap.size
set_option maxRecDepth 100000 in
set_option maxHeartbeats 16000000 in
theorem comesTo_any {gs : GL} (hR : RtG gs) {N r : Nat} {v : Value} {xs : List Value} (hr : r < gs.length) (w : World) (hT : TT w N 37 3 v (ntM gs) xs) :
    Calls Try.prog 43 #[v, .int .i64 (r : Int)] w fun e w' => CmV w w' gs r e ∧ Below w.heap.size w w' := by
  have hn := hR.n2
  have hlx : xs.length = gs.length := hT.len.trans (ntM_len gs)
  obtain ⟨i0, hinf, hz0, hz1, hz2⟩ := info_split Try.info4
  obtain ⟨w1, hmk, ho1, hg1⟩ := run_make_full (P := Try.prog) w w.heap.size 45 4 i0 (.bool false) 1 Try.underlying45 hinf hz0 hz1 .i64 .i64 gs.length (by rw [hz2]; omega) (by unfold maxLen; omega) (Nat.le_refl _)
  have ho1' : w1.ownsRow w.heap.size 4 1 (.slice (some ⟨w.heap.size, 0, none⟩) gs.length gs.length) gs.length (List.replicate gs.length (.bool false)) := by
    have e : (madeCells (Value.cells (.bool false)) (gs.length * 1)).toList = List.replicate gs.length (Value.bool false) := by rw [Nat.mul_one]; exact toList_madeCells_one _ _
    rw [e] at ho1
    exact ho1
  have HS := (show Hid (CmS w (w1.alloc (.cells #[.int .i64 (r : Int)] 3)) gs r w.heap.size (List.replicate gs.length false) [r] none (.slice (some ⟨w1.heap.size, 0, none⟩) 1 1)) from CmS.start hr ho1' hg1)
  have HW0 := (show Hid (wlM (List.replicate gs.length false) [r] = 2 * gs.length + 1) from by show wlM _ _ = _; unfold wlM; rw [List.count_replicate_self]; rfl)
  have HT := (show Hid (TT w N 37 3 v (ntM gs) xs) from hT)
  have HR := (show Hid (RtG gs) from hR)
  obtain ⟨Av, cv, hv⟩ := own_slice hT.o
  rw [hlx] at hv
  subst hv
  have HNe := (show Hid (∀ (y : Nat) (wr : World), y < gs.length → Below w.heap.size w wr → ∃ g0 Ac cc, Av = some ⟨g0, 0, none⟩ ∧ wr.cell? ⟨g0, y, none⟩ = some (.slice Ac (cL gs y).length cc) ∧ ∀ (j z : Nat), (cL gs y)[j]? = some z → ∃ gc, Ac = some ⟨gc, 0, none⟩ ∧ gc < w.heap.size ∧ w.cell? ⟨gc, j, none⟩ = some (.int .i64 (z : Int))) from fun y wr hy hb => by
    obtain ⟨x, row, hx, hrow, hox⟩ := hT.at' (i := y) (by rw [ntM_len]; exact hy)
    rw [ntM_get hy] at hrow
    cases hrow
    rw [List.length_map] at hox
    obtain ⟨Ac, cc, rfl⟩ := own_slice hox
    obtain ⟨g0, cp, e, _, lt0, x0, _⟩ := own_get hT.o hx
    have e1 : Av = some ⟨g0, 0, none⟩ := by injection e
    clear e
    subst e1
    refine ⟨g0, Ac, cc, rfl, (hb.cell (p := ⟨g0, y, none⟩) lt0).trans x0, fun j z hz => ?_⟩
    obtain ⟨gc, cp2, e2, _, lt2, x2, _⟩ := own_get hox (j := j) (x := nI z) (by rw [List.getElem?_map, hz]; rfl)
    injection e2 with e3 _ _
    exact ⟨gc, e3, lt2, x2⟩)
  clear hT hR ho1 ho1' hg1 hinf hz0 hz1 hz2 i0 hlx HT
  go_enter Try.func43, Try.ntmps43
  go_wp2_with fail
  clear hmk
  generalize hwa : w1.alloc (.cells #[.int .i64 (r : Int)] 3) = wa at *
  generalize hka : w1.heap.size = ka at *
  clear hwa hka
  have HGb := (show Hid (w.heap.size = w.heap.size) from rfl)
  go_loopg [6] (2 * gs.length + 1) (fun gk u wr => ∃ (m : Nat) (ah : List Nat) (l : List Bool) (A2 : Option Addr) (c2 : Nat), u = .slice A2 m c2 ∧ m ≤ 401 ∧ Hid (ah.length = m ∧ wlM l ah = gk ∧ gk ≤ 401) ∧ Hid (CmS w wr gs r w.heap.size l ah none (.slice A2 m c2)))
  case atStart => exact ⟨1, [r], List.replicate gs.length false, some ⟨ka, 0, none⟩, 1, rfl, by omega, ⟨rfl, HW0.out, by omega⟩, HS⟩
  case round =>
    obtain ⟨m, ah, l, A2, c2, rfl, hm, HL, HW⟩ := hrel
    clear HS HW0
    cases m with
    | zero =>
      have hah : ah = [] := List.eq_nil_of_length_eq_zero HL.out.1
      subst hah
      have HD := (show Hid (∀ j, l[j]? = some true ↔ Rc gs.length (cG gs) r j) from fun j => HW.out.i.done j)
      have HLn := (show Hid (l.length = gs.length) from HW.out.i.ln)
      have HO := (show Hid (wr.ownsRow w.heap.size 4 1 (.slice (some ⟨w.heap.size, 0, none⟩) gs.length gs.length) gs.length (l.map Value.bool)) from HW.out.m)
      have HB := (show Hid (Below w.heap.size w wr) from HW.out.b)
      clear HW HL HNe HR
      go_wp2_with fail
      go_ret
      exact ⟨⟨_, l, rfl, HLn.out, HD.out, HO.out, rfl⟩, HB.out⟩
    | succ k =>
      obtain ⟨ah', y, rfl⟩ : ∃ ah' y, ah = ah' ++ [y] := by
        have hne : ah ≠ [] := fun q => by have := HL.out.1; rw [q] at this; cases this
        exact ⟨ah.dropLast, ah.getLast hne, (List.dropLast_concat_getLast hne).symm⟩
      have hak : ah'.length = k := by have := HL.out.1; rw [List.length_append] at this; simpa using this
      have HAk := (show Hid (ah'.length = k) from hak)
      obtain ⟨ga, ca, ea, _, _⟩ := HW.out.a.form (by rw [List.length_append, hak]; simp)
      obtain ⟨rfl, rfl⟩ : A2 = some ⟨ga, 0, none⟩ ∧ c2 = ca := by injection ea with ea1 ea0 ea2; exact ⟨ea1, ea2⟩
      clear ea
      obtain ⟨gx, cx, ex, _, _, xa, _⟩ := own_get HW.out.a (j := k) (x := nI y) (by rw [List.getElem?_map, List.getElem?_append_right (by omega), hak, Nat.sub_self]; rfl)
      have exg : ga = gx := by injection ex with ex1; injection ex1 with ex1; injection ex1
      clear ex
      subst exg
      have hc2 : k ≤ c2 := by
        rcases HW.out.a.2 with ⟨q, _⟩ | ⟨g', cap', cur, q, _, _, q1, _⟩
        · cases q
        · have e2 : c2 = cap' := by injection q
          rw [List.length_append, hak] at q1
          simp at q1
          omega
      have xa' : wr.cell? ⟨ga, k, none⟩ = some (.int .i64 (y : Int)) := xa
      obtain ⟨P1, P2, P3⟩ := HW.out.pop hak
      have HP1 := (show Hid (CmS w wr gs r w.heap.size l ah' (some y) (.slice (some ⟨ga, 0, none⟩) k c2)) from P1)
      have HP2 := (show Hid (y < gs.length ∧ (y = r ∨ l[y]? = some true)) from ⟨P2, P3⟩)
      have HM1 := (show Hid (wlM l ah' + 1 = gk ∧ gk ≤ 401) from ⟨by have h := HL.out.2.1; unfold wlM at h ⊢; rw [List.length_append] at h; simp at h; omega, HL.out.2.2⟩)
      obtain ⟨g0, Ac, cc, rfl, x0, hcs⟩ := HNe.out y wr P2 HW.out.b
      have HCs := (show Hid (∀ (j z : Nat), (cL gs y)[j]? = some z → ∃ gc, Ac = some ⟨gc, 0, none⟩ ∧ gc < w.heap.size ∧ w.cell? ⟨gc, j, none⟩ = some (.int .i64 (z : Int))) from hcs)
      have z0 : (0 : Int) ≤ (k : Int) := by omega
      have z1 : (0 : Int) ≤ (y : Int) := by omega
      have z2 : (y : Int) < (gs.length : Int) := by omega
      have hcl := cL_len gs y
      clear HW HL xa P1 P2 P3 hak hcs HNe
      go_wp2_with fail
      clear xa' x0
      go_loopw [6, 34] (fun u t wr => ∃ (j m : Nat) (ah : List Nat) (l : List Bool) (A2 : Option Addr) (c2 : Nat), j ≤ (cL gs y).length ∧ t = .int .i64 (j : Int) ∧ u = .slice A2 m c2 ∧ m ≤ 401 ∧ Hid (ah.length = m ∧ wlM l ah + 1 ≤ gk ∧ gk ≤ 401 ∧ (y = r ∨ l[y]? = some true)) ∧ Hid (∀ i z, i < j → (cL gs y)[i]? = some z → l[z]? = some true) ∧ Hid (CmS w wr gs r w.heap.size l ah (some y) (.slice A2 m c2))) (fun _ t _ => (cL gs y).length - (intOf t).toNat)
      case atStart => exact ⟨0, k, ah', l, some ⟨ga, 0, none⟩, c2, by omega, by go_num, rfl, by omega, ⟨HAk.out, by have := HM1.out.1; omega, HM1.out.2, HP2.out.2⟩, (fun i z hi => by omega), HP1⟩
      case round =>
        obtain ⟨j, m, ah, l, A2, c2, hj, rfl, rfl, hm, HL, HMk, HW⟩ := hrel
        have HP2y := (show Hid (y < gs.length) from HP2.out.1)
        clear HP1 HM1 HAk HP2
        by_cases hlt : j < (cL gs y).length
        · obtain ⟨z, hz⟩ : ∃ z, (cL gs y)[j]? = some z := ⟨_, List.getElem?_eq_getElem hlt⟩
          obtain ⟨gc, rfl, ltc, xc⟩ := HCs.out j z hz
          have xc' := (HW.out.b.cell (p := ⟨gc, j, none⟩) ltc).trans xc
          have hzm := cL_mem.1 (List.mem_of_getElem? hz)
          have hll := HW.out.i.ln
          obtain ⟨bz, hbz⟩ : ∃ bz, l[z]? = some bz := ⟨_, List.getElem?_eq_getElem (by omega)⟩
          obtain ⟨gm, cm, em, _, _, xm, fm⟩ := own_get HW.out.m (j := z) (x := .bool bz) (by rw [List.getElem?_map, hbz]; rfl)
          have emg : w.heap.size = gm := by injection em with e1; injection e1 with e1; injection e1
          clear em
          subst emg
          have y0 : (0 : Int) ≤ (j : Int) := by omega
          have y1 : (j : Int) < ((cL gs y).length : Int) := by omega
          have y2 : (0 : Int) ≤ (z : Int) := by omega
          have y3 : (z : Int) < (gs.length : Int) := by omega
          cases bz with
          | true =>
            have HMk2 := (show Hid (∀ i q, i < j + 1 → (cL gs y)[i]? = some q → l[q]? = some true) from fun i q hi hq => by
              by_cases e : i = j
              · subst e; rw [hz] at hq; cases hq; exact hbz
              · exact HMk.out i q (by omega) hq)
            clear HMk hz hzm hll hbz xc ltc HR fm
            go_wp2_with fail
            go_roundw
            case rel => exact ⟨j + 1, m, ah, l, A2, c2, by omega, by go_num, rfl, hm, HL, HMk2, HW⟩
            case measure => simp [intOf]; omega
          | false =>
            have HMk2 := (show Hid (∀ i q, i < j + 1 → (cL gs y)[i]? = some q → (l.set z true)[q]? = some true) from fun i q hi hq => get_set.2 (by
              by_cases e : i = j
              · subst e; rw [hz] at hq; cases hq; exact .inl ⟨rfl, by omega⟩
              · exact .inr (HMk.out i q (by omega) hq)))
            have hwl := wlM_mark (ah := ah) hbz
            have hm2 : m + 1 ≤ 401 := by
              have h1 := HL.out.2.1
              have h2 := HL.out.2.2.1
              have h3 := HL.out.1
              unfold wlM at hwl h1
              rw [List.length_append] at hwl
              simp at hwl
              omega
            have HL2 := (show Hid ((ah ++ [z]).length = m + 1 ∧ wlM (l.set z true) (ah ++ [z]) + 1 ≤ gk ∧ gk ≤ 401 ∧ (y = r ∨ (l.set z true)[y]? = some true)) from ⟨by rw [List.length_append, HL.out.1]; rfl, by have := HL.out.2.1; omega, HL.out.2.2.1, HL.out.2.2.2.imp id fun q => get_set.2 (.inr q)⟩)
            have HSt := (show Hid ((wr.setCell ⟨w.heap.size, z, none⟩ (.bool true)).ownsRow w.heap.size 3 1 (.slice A2 m c2) m (ah.map nI)) from by have h := (HW.out.store z).2.2; rw [HL.out.1] at h; exact h)
            have HSb := (show Hid (w.heap.size ≤ (wr.setCell ⟨w.heap.size, z, none⟩ (.bool true)).heap.size) from (HW.out.store z).1.size)
            have HSz := (show Hid ((wr.setCell ⟨w.heap.size, z, none⟩ (.bool true)).heap.size = wr.heap.size) from by show _ = _; simp)
            have HPu := (show Hid (∀ (u' : Value) (w5 : World), w5.ownsRow w.heap.size 3 1 u' (m + 1) (ah.map nI ++ [nI z]) → (wr.setCell ⟨w.heap.size, z, none⟩ (.bool true)).grownBy w5 (Value.slice A2 m c2).ownBlock → CmS w w5 gs r w.heap.size (l.set z true) (ah ++ [z]) (some y) u') from fun u' w5 h1 h2 => HW.out.mark ⟨HP2y.out, HL.out.2.2.2⟩ hzm.2 hzm.1 (by rw [HL.out.1]; exact h1) h2)
            clear HMk hz hzm hll hbz xc ltc HR HW HL hwl
            go_wp2_with (at_builtin; refine U.wpList_app1H wr.heap.size HSz.out rfl _ _ 37 rfl (.int .i64 0) 8 Try.underlying37 Try.info3 rfl w.heap.size m _ (ah.map nI) rfl rfl HSt.out rfl (by omega) (by decide) HSb.out ?_; intro g3 cap3 w5 ho5 hg5 hat5 hl5; have HW5 := (show Hid (CmS w w5 gs r w.heap.size (l.set z true) (ah ++ [z]) (some y) (.slice (some ⟨g3, 0, none⟩) (m + 1) cap3)) from HPu.out _ _ ho5 hg5); clear ho5 hg5 hat5 hl5 HPu HSt HSb HSz xm fm xc')
            go_roundw
            case rel => exact ⟨j + 1, m + 1, ah ++ [z], l.set z true, some ⟨g3, 0, none⟩, cap3, by omega, by go_num, rfl, hm2, HL2, HMk2, HW5⟩
            case measure => simp [intOf]; omega
        · obtain rfl : j = (cL gs y).length := by omega
          have HW2 := (show Hid (CmS w wr gs r w.heap.size l ah none (.slice A2 m c2)) from ⟨HW.out.b, HW.out.m, HW.out.a, HW.out.i.shut fun q hq => by
            have hlt2 : q < gs.length := by
              unfold cG at hq
              cases hg : gs[y]? with
              | none => rw [hg] at hq; cases hq
              | some g =>
                rw [hg] at hq
                simp only [List.any_eq_true, Bool.and_eq_true, decide_eq_true_eq] at hq
                obtain ⟨nd, _, _, h3⟩ := hq
                exact fdG_lt h3
            obtain ⟨i, hi, e⟩ := List.mem_iff_getElem.1 (cL_mem.2 ⟨hlt2, hq⟩)
            exact HMk.out i q hi (by rw [List.getElem?_eq_getElem hi, e])⟩)
          have HL2 := (show Hid (ah.length = m ∧ wlM l ah ≤ 401) from ⟨HL.out.1, by have := HL.out.2.1; have := HL.out.2.2.1; omega⟩)
          have HL3 := (show Hid (wlM l ah < gk) from by have := HL.out.2.1; show wlM l ah < gk; omega)
          clear HW HMk HL HCs HR HP2y
          go_wp2_with fail
          go_roundg (wlM l ah)
          case measure => exact HL3.out
          case rel => exact ⟨m, ah, l, A2, c2, rfl, hm, ⟨HL2.out.1, rfl, HL2.out.2⟩, HW2⟩
end Go.Proofs.Ytppggnmlbcdegaa.N

namespace Go.Proofs.Ytppggnmlbcdegaa.N
open Go.RowKit Go.Maps
open Go.Proofs.Ytppggnmlbcdegaa.T

open U (nI own_get own_slice wpList_app1 below_grown TT Out info_split)
theorem lsB_snoc (l : List Bool) (b : Bool) : lsB (l ++ [b]) = lsB l ++ (if b then [l.length] else []) := by
  unfold lsB
  rw [List.length_append, List.length_singleton, List.range_succ, List.filter_append]
  congr 1
  · refine List.filter_congr fun i hi => ?_
    rw [List.getElem?_append_left (List.mem_range.1 hi)]
  · rw [List.filter_cons, List.getElem?_append_right (Nat.le_refl _), Nat.sub_self]
    cases b <;> rfl
theorem lsB_take {l : List Bool} {k : Nat} {b : Bool} (h : l[k]? = some b) : lsB (l.take (k + 1)) = lsB (l.take k) ++ (if b then [k] else []) := by
  have hk := (List.getElem?_eq_some_iff.1 h).1
  rw [List.take_add_one, h]
  have := lsB_snoc (l.take k) b
  rw [List.length_take, Nat.min_eq_left (by omega)] at this
  exact this
theorem lsB_rise (l : List Bool) : (lsB l).Pairwise (· < ·) := List.Pairwise.filter _ List.pairwise_lt_range
/-- While numbers are listed. -/
structure LsS (w wr : World) (u : Value) (ls : List Nat) : Prop where
  b : Below w.heap.size w wr
  o : wr.ownsRow w.heap.size 3 1 u ls.length (ls.map nI)
theorem LsS.push {w wr w5 : World} {u u' : Value} {ls : List Nat} {k : Nat} (h : LsS w wr u ls) (ho : w5.ownsRow w.heap.size 3 1 u' (ls.length + 1) (ls.map nI ++ [nI k])) (hg : wr.grownBy w5 u.ownBlock) : LsS w w5 u' (ls ++ [k]) :=
  ⟨below_grown h.b hg (fun j e => (h.o.lt j e).1), by rw [List.length_append, List.map_append]; exact ho⟩
set_option maxRecDepth 100000 in
set_option maxHeartbeats 8000000 in
theorem marked_any (l : List Bool) (hl : l.length ≤ 200) {B4 : Nat} {v : Value} (w : World) (ho : w.ownsRow B4 4 1 v l.length (l.map Value.bool)) :
    Calls Try.prog 44 #[v] w fun e w' => (∃ u, e = .returned u ∧ w'.ownsRow w.heap.size 3 1 u (lsB l).length ((lsB l).map nI)) ∧ Below w.heap.size w w' := by
  obtain ⟨Av, cv, rfl⟩ := own_slice ho
  have HC := (show Hid (∀ (k : Nat) b, l[k]? = some b → ∃ g, Av = some ⟨g, 0, none⟩ ∧ g < w.heap.size ∧ w.cell? ⟨g, k, none⟩ = some (.bool b)) from fun k b hk => by
    obtain ⟨g, cp, e, _, lt, x, _⟩ := own_get ho (j := k) (x := .bool b) (by rw [List.getElem?_map, hk]; rfl)
    have e1 : Av = some ⟨g, 0, none⟩ := by injection e
    exact ⟨g, e1, lt, x⟩)
  have HS := (show Hid (LsS w w (.slice none 0 0) (lsB (l.take 0))) from ⟨Below.refl _ _, World.ownsRow_nil _ _ _ _⟩)
  clear ho
  go_enter Try.func44, Try.ntmps44
  go_wp2_with fail
  go_loopw [3, 8] (fun u t wr => ∃ (k m : Nat) (ls : List Nat) (A2 : Option Addr) (c2 : Nat), k ≤ l.length ∧ t = .int .i64 (k : Int) ∧ u = .slice A2 m c2 ∧ m ≤ k ∧ Hid (ls.length = m ∧ ls = lsB (l.take k)) ∧ Hid (LsS w wr (.slice A2 m c2) ls)) (fun _ t _ => l.length - (intOf t).toNat)
  case atStart => exact ⟨0, 0, lsB (l.take 0), none, 0, by omega, by go_num, rfl, by omega, ⟨rfl, rfl⟩, HS⟩
  case round =>
    obtain ⟨k, m, ls, A2, c2, hk, rfl, rfl, hm, HL, HW⟩ := hrel
    clear HS
    by_cases hlt : k < l.length
    · obtain ⟨b, hb⟩ : ∃ b, l[k]? = some b := ⟨_, List.getElem?_eq_getElem hlt⟩
      obtain ⟨g, rfl, ltg, xg⟩ := HC.out k b hb
      have xg' := (HW.out.b.cell (p := ⟨g, k, none⟩) ltg).trans xg
      have z0 : (0 : Int) ≤ (k : Int) := by omega
      have z1 : (k : Int) < (l.length : Int) := by omega
      have HT := (show Hid (lsB (l.take (k + 1)) = lsB (l.take k) ++ (if b then [k] else [])) from lsB_take hb)
      clear HC hb xg ltg
      cases b with
      | true =>
        have HL2 := (show Hid ((ls ++ [k]).length = m + 1 ∧ ls ++ [k] = lsB (l.take (k + 1))) from ⟨by rw [List.length_append, HL.out.1]; rfl, by rw [HT.out, ← HL.out.2]; rfl⟩)
        have HO := (show Hid (wr.ownsRow w.heap.size 3 1 (.slice A2 m c2) m (ls.map nI)) from by have h := HW.out.o; rw [HL.out.1] at h; exact h)
        have HBw := (show Hid (w.heap.size ≤ wr.heap.size) from HW.out.b.size)
        have HPu := (show Hid (∀ (u' : Value) (w5 : World), w5.ownsRow w.heap.size 3 1 u' (m + 1) (ls.map nI ++ [nI k]) → wr.grownBy w5 (Value.slice A2 m c2).ownBlock → LsS w w5 u' (ls ++ [k])) from fun u' w5 h1 h2 => HW.out.push (by rw [HL.out.1]; exact h1) h2)
        clear HT HL HW
        go_wp2_with (at_builtin; refine wpList_app1 rfl _ _ 37 rfl (.int .i64 0) 8 Try.underlying37 Try.info3 rfl w.heap.size m _ (ls.map nI) rfl rfl HO.out rfl (by omega) (by decide) HBw.out ?_; intro g3 cap3 w5 ho5 hg5 hat5 hl5; have HW5 := (show Hid (LsS w w5 (.slice (some ⟨g3, 0, none⟩) (m + 1) cap3) (ls ++ [k])) from HPu.out _ _ ho5 hg5); clear ho5 hg5 hat5 hl5 HPu HO HBw xg')
        go_roundw
        case rel => exact ⟨k + 1, m + 1, ls ++ [k], some ⟨g3, 0, none⟩, cap3, by omega, by go_num, rfl, by omega, HL2, HW5⟩
        case measure => simp [intOf]; omega
      | false =>
        have HL2 := (show Hid (ls.length = m ∧ ls = lsB (l.take (k + 1))) from ⟨HL.out.1, by rw [HT.out, ← HL.out.2]; exact (List.append_nil ls).symm⟩)
        clear HT HL
        go_wp2_with fail
        go_roundw
        case rel => exact ⟨k + 1, m, ls, A2, c2, by omega, by go_num, rfl, by omega, HL2, HW⟩
        case measure => simp [intOf]; omega
    · obtain rfl : k = l.length := by omega
      have HO := (show Hid (wr.ownsRow w.heap.size 3 1 (.slice A2 m c2) (lsB l).length ((lsB l).map nI)) from by
        show World.ownsRow _ _ _ _ _ _ _
        have h := HL.out.2
        rw [List.take_length] at h
        rw [← h]
        exact HW.out.o)
      have HB := (show Hid (Below w.heap.size w wr) from HW.out.b)
      clear HW HL HC
      go_wp2_with fail
      go_ret
      exact ⟨⟨_, rfl, HO.out⟩, HB.out⟩
set_option maxRecDepth 100000 in
set_option maxHeartbeats 8000000 in
theorem listed_any (l : List Bool) (hl : l.length ≤ 200) {B4 : Nat} {v : Value} (w : World) (ho : w.ownsRow B4 4 1 v l.length (l.map Value.bool)) :
    Calls Try.prog 41 #[v] w fun e w' => (∃ u, e = .returned u ∧ w'.ownsRow w.heap.size 3 1 u (lsB l).length ((lsB l).map nI)) ∧ Below w.heap.size w w' := by
  obtain ⟨Av, cv, rfl⟩ := own_slice ho
  have HC := (show Hid (∀ (k : Nat) b, l[k]? = some b → ∃ g, Av = some ⟨g, 0, none⟩ ∧ g < w.heap.size ∧ w.cell? ⟨g, k, none⟩ = some (.bool b)) from fun k b hk => by
    obtain ⟨g, cp, e, _, lt, x, _⟩ := own_get ho (j := k) (x := .bool b) (by rw [List.getElem?_map, hk]; rfl)
    have e1 : Av = some ⟨g, 0, none⟩ := by injection e
    exact ⟨g, e1, lt, x⟩)
  have HS := (show Hid (LsS w w (.slice none 0 0) (lsB (l.take 0))) from ⟨Below.refl _ _, World.ownsRow_nil _ _ _ _⟩)
  clear ho
  go_enter Try.func41, Try.ntmps41
  go_wp2_with fail
  go_loopw [3, 4] (fun u t wr => ∃ (k m : Nat) (ls : List Nat) (A2 : Option Addr) (c2 : Nat), k ≤ l.length ∧ t = .int .i64 (k : Int) ∧ u = .slice A2 m c2 ∧ m ≤ k ∧ Hid (ls.length = m ∧ ls = lsB (l.take k)) ∧ Hid (LsS w wr (.slice A2 m c2) ls)) (fun _ t _ => l.length - (intOf t).toNat)
  case atStart => exact ⟨0, 0, lsB (l.take 0), none, 0, by omega, by go_num, rfl, by omega, ⟨rfl, rfl⟩, HS⟩
  case round =>
    obtain ⟨k, m, ls, A2, c2, hk, rfl, rfl, hm, HL, HW⟩ := hrel
    clear HS
    by_cases hlt : k < l.length
    · obtain ⟨b, hb⟩ : ∃ b, l[k]? = some b := ⟨_, List.getElem?_eq_getElem hlt⟩
      obtain ⟨g, rfl, ltg, xg⟩ := HC.out k b hb
      have xg' := (HW.out.b.cell (p := ⟨g, k, none⟩) ltg).trans xg
      have z0 : (0 : Int) ≤ (k : Int) := by omega
      have z1 : (k : Int) < (l.length : Int) := by omega
      have HT := (show Hid (lsB (l.take (k + 1)) = lsB (l.take k) ++ (if b then [k] else [])) from lsB_take hb)
      clear HC hb xg ltg
      cases b with
      | true =>
        have HL2 := (show Hid ((ls ++ [k]).length = m + 1 ∧ ls ++ [k] = lsB (l.take (k + 1))) from ⟨by rw [List.length_append, HL.out.1]; rfl, by rw [HT.out, ← HL.out.2]; rfl⟩)
        have HO := (show Hid (wr.ownsRow w.heap.size 3 1 (.slice A2 m c2) m (ls.map nI)) from by have h := HW.out.o; rw [HL.out.1] at h; exact h)
        have HBw := (show Hid (w.heap.size ≤ wr.heap.size) from HW.out.b.size)
        have HPu := (show Hid (∀ (u' : Value) (w5 : World), w5.ownsRow w.heap.size 3 1 u' (m + 1) (ls.map nI ++ [nI k]) → wr.grownBy w5 (Value.slice A2 m c2).ownBlock → LsS w w5 u' (ls ++ [k])) from fun u' w5 h1 h2 => HW.out.push (by rw [HL.out.1]; exact h1) h2)
        clear HT HL HW
        go_wp2_with (at_builtin; refine wpList_app1 rfl _ _ 37 rfl (.int .i64 0) 8 Try.underlying37 Try.info3 rfl w.heap.size m _ (ls.map nI) rfl rfl HO.out rfl (by omega) (by decide) HBw.out ?_; intro g3 cap3 w5 ho5 hg5 hat5 hl5; have HW5 := (show Hid (LsS w w5 (.slice (some ⟨g3, 0, none⟩) (m + 1) cap3) (ls ++ [k])) from HPu.out _ _ ho5 hg5); clear ho5 hg5 hat5 hl5 HPu HO HBw xg')
        go_roundw
        case rel => exact ⟨k + 1, m + 1, ls ++ [k], some ⟨g3, 0, none⟩, cap3, by omega, by go_num, rfl, by omega, HL2, HW5⟩
        case measure => simp [intOf]; omega
      | false =>
        have HL2 := (show Hid (ls.length = m ∧ ls = lsB (l.take (k + 1))) from ⟨HL.out.1, by rw [HT.out, ← HL.out.2]; exact (List.append_nil ls).symm⟩)
        clear HT HL
        go_wp2_with fail
        go_roundw
        case rel => exact ⟨k + 1, m, ls, A2, c2, by omega, by go_num, rfl, by omega, HL2, HW⟩
        case measure => simp [intOf]; omega
    · obtain rfl : k = l.length := by omega
      have HO := (show Hid (wr.ownsRow w.heap.size 3 1 (.slice A2 m c2) (lsB l).length ((lsB l).map nI)) from by
        show World.ownsRow _ _ _ _ _ _ _
        have h := HL.out.2
        rw [List.take_length] at h
        rw [← h]
        exact HW.out.o)
      have HB := (show Hid (Below w.heap.size w wr) from HW.out.b)
      clear HW HL HC
      go_wp2_with fail
      go_ret
      exact ⟨⟨_, rfl, HO.out⟩, HB.out⟩
end Go.Proofs.Ytppggnmlbcdegaa.N

namespace Go.Proofs.Ytppggnmlbcdegaa.N
open Go.RowKit Go.Maps
open Go.Proofs.Ytppggnmlbcdegaa.T

open U (nI own_get own_slice wpList_app1 below_grown TT Out info_split)
/-- The rules that are reached, rising. -/
structure IsRh (gs : GL) (r : Nat) (l : List Nat) : Prop where
  u : l.Pairwise (· < ·)
  m : ∀ j, j ∈ l ↔ j < gs.length ∧ (j = r ∨ Rc gs.length (cG gs) r j)
def RhR (gs : GL) (r : Int) (l : List Nat) : Prop := (lkR gs r = 0 → IsRh gs r.toNat l) ∧ (lkR gs r ≠ 0 → l = [])
theorem RhR.same {gs : GL} {r : Int} {a b : List Nat} (h : RhR gs r a) (g : RhR gs r b) : a = b := by
  by_cases q : lkR gs r = 0
  · exact rise_ext (h.1 q).u (g.1 q).u fun x => by rw [(h.1 q).m, (g.1 q).m]
  · rw [h.2 q, g.2 q]
theorem IsRh.len {gs : GL} {r : Nat} {l : List Nat} (h : IsRh gs r l) : l.length ≤ gs.length := by
  refine few_below gs.length l (h.u.imp fun {a b} q => ?_) fun x hx => ((h.m x).1 hx).1
  omega
theorem isRh_of {gs : GL} {r : Nat} {l : List Bool} (hl : l.length = gs.length) (hr : r < gs.length) (h : ∀ j, l[j]? = some true ↔ Rc gs.length (cG gs) r j) : IsRh gs r (lsB (l.set r true)) := by
  refine ⟨lsB_rise _, fun j => ?_⟩
  rw [lsB_mem, get_set, ← h j]
  constructor
  · rintro (⟨rfl, _⟩ | q)
    · exact ⟨hr, .inl rfl⟩
    · exact ⟨by have := (List.getElem?_eq_some_iff.1 q).1; omega, .inr q⟩
  · rintro ⟨_, rfl | q⟩
    · exact .inl ⟨rfl, by omega⟩
    · exact .inr q
set_option maxRecDepth 100000 in
set_option maxHeartbeats 4000000 in
theorem reachP_any (gs : GL) (A : Option Addr) (c : Nat) (r : Int) (w : World) (hp : GI w A gs) :
    Calls Try.prog 20 #[.agg #[.slice A gs.length c], .int .i64 r] w fun e w' => (∃ v l, e = .returned (.tuple #[v, .int .i64 (lkR gs r)]) ∧ RhR gs r l ∧ w'.ownsRow w.heap.size 3 1 v l.length (l.map nI)) ∧ Below w.heap.size w w' := by
  obtain ⟨w1, hw1⟩ : ∃ w1, w1 = (w.alloc (.cells #[.slice A gs.length c] 24)) := ⟨_, rfl⟩
  have HB1 : Hid (Below w.heap.size w w1) := by show Below _ _ _; rw [hw1]; exact below_box _ _
  have HN := (show Hid (∀ _ : Unit, Calls Try.prog 39 #[.agg #[.slice A gs.length c], .int .i64 r] w1 fun e w' => NwV w1 w' gs (lkR gs r) e ∧ Below w1.heap.size w1 w') from fun _ => netWith_any gs A c r w1 (hp.later HB1.out))
  clear hp
  go_enter Try.func20, Try.ntmps20
  go_wp2_with fail
  rw [← hw1]
  refine (HN.out ()).mono ?_
  rintro e w3 ⟨⟨v, rfl, h1, h2⟩, b3⟩
  have HB := (show Hid (Below w.heap.size w w3) from HB1.out.trans (b3.mono HB1.out.size))
  by_cases hz : lkR gs r = 0
  · obtain ⟨xs, hT⟩ := h2 hz
    have tz : (lkR gs r != 0) = false := by rw [hz]; rfl
    obtain ⟨hR, r0, r1⟩ := lkR_zero hz
    obtain ⟨i, rfl⟩ : ∃ i : Nat, r = (i : Int) := ⟨r.toNat, by omega⟩
    have hi : i < gs.length := by omega
    have HI := (show Hid (i < gs.length) from hi)
    have H200 := (show Hid (gs.length ≤ 200) from hR.n2)
    have HZ := (show Hid (lkR gs i = 0) from hz)
    have HC := (show Hid (∀ _ : Unit, Calls Try.prog 43 #[v, .int .i64 (i : Int)] w3 fun e w' => CmV w3 w' gs i e ∧ Below w3.heap.size w3 w') from fun _ => comesTo_any hR hi w3 hT)
    clear h1 h2 HN b3 hw1 HB1 hT hz hR
    generalize hcd : lkR gs i = cd at *
    have HCD := (show Hid (lkR gs i = cd) from hcd)
    clear hcd
    go_wp2_with fail
    refine (HC.out ()).mono ?_
    rintro e w4 ⟨⟨u, l, rfl, hl, hm, ho, hub⟩, b4⟩
    obtain ⟨gu, cu, rfl, lb, lu, x0, f0⟩ := own_get ho (j := i) (x := .bool ((l[i]?).getD false)) (by rw [List.getElem?_map, List.getElem?_eq_getElem (by omega)]; rfl)
    obtain ⟨st1, st2⟩ := ho.stored i (.bool true)
    have HB4 := (show Hid (Below w.heap.size w w4) from HB.out.trans (b4.mono HB.out.size))
    have HW5 := (show Hid (Below w.heap.size w (w4.setCell ⟨gu, i, none⟩ (.bool true))) from below_grown HB4.out st2 (fun k e => by cases e; have := HB.out.size; omega))
    have HLs := (show Hid (IsRh gs i (lsB (l.set i true))) from isRh_of hl hi hm)
    have HMk := (show Hid (∀ _ : Unit, Calls Try.prog 44 #[.slice (some ⟨gu, 0, none⟩) gs.length cu] (w4.setCell ⟨gu, i, none⟩ (.bool true)) fun e w' => (∃ u, e = .returned u ∧ w'.ownsRow (w4.setCell ⟨gu, i, none⟩ (.bool true)).heap.size 3 1 u (lsB (l.set i true)).length ((lsB (l.set i true)).map nI)) ∧ Below (w4.setCell ⟨gu, i, none⟩ (.bool true)).heap.size (w4.setCell ⟨gu, i, none⟩ (.bool true)) w') from fun _ => by
      refine marked_any (l.set i true) (by rw [List.length_set, hl]; exact H200.out) (B4 := w3.heap.size) (w4.setCell ⟨gu, i, none⟩ (.bool true)) ?_
      rw [List.length_set, hl, List.map_set]
      exact st1)
    have z0 : (0 : Int) ≤ (i : Int) := by omega
    have z1 : (i : Int) < (gs.length : Int) := by omega
    clear HC hl hm ho hub b4 st1 st2 lb lu HB HB4
    go_wp2_with fail
    refine (HMk.out ()).mono ?_
    rintro e w6 ⟨⟨u6, rfl, ho6⟩, b6⟩
    have HB6 := (show Hid (Below w.heap.size w w6) from HW5.out.trans (b6.mono HW5.out.size))
    have HO6 := (show Hid (w6.ownsRow w.heap.size 3 1 u6 (lsB (l.set i true)).length ((lsB (l.set i true)).map nI)) from U.own_base ho6 HW5.out.size)
    clear ho6 b6 HMk HW5
    go_wp2_with fail
    refine bodyPost_ret (v := .tuple #[u6, .int .i64 0]) (by simp [results, Try.results20, go_sem]) rfl ⟨⟨u6, _, by rw [HCD.out, HZ.out], ⟨fun _ => HLs.out, fun q => absurd (HCD.out.trans HZ.out) q⟩, HO6.out⟩, HB6.out⟩
  · obtain rfl := h1 hz
    have tz : (lkR gs r != 0) = true := by rw [bne, beq_eq_false_iff_ne.2 hz]; rfl
    have HZ := (show Hid (lkR gs r ≠ 0) from hz)
    clear h1 h2 HN b3 hw1 HB1 hz
    generalize hcd : lkR gs r = cd at *
    have HCD := (show Hid (lkR gs r = cd) from hcd)
    clear hcd
    go_wp2_with fail
    refine bodyPost_ret (v := .tuple #[.slice none 0 0, .int .i64 cd]) (by simp [results, Try.results20, go_sem]) rfl ⟨⟨_, [], by rw [HCD.out], ⟨fun q => absurd (HCD.out.symm.trans q) HZ.out, fun _ => rfl⟩, World.ownsRow_nil _ _ _ _⟩, HB.out⟩
end Go.Proofs.Ytppggnmlbcdegaa.N

namespace Go.Proofs.Ytppggnmlbcdegaa.N
open Go.RowKit Go.Maps
open Go.Proofs.Ytppggnmlbcdegaa.T

open U (nI own_get own_slice wpList_app1 below_grown TT Out info_split)
/-- A table of truth values, as values. -/
def bM (M : List (List Bool)) : List (List Value) := M.map fun l => l.map Value.bool
theorem bM_len (M : List (List Bool)) : (bM M).length = M.length := by unfold bM; rw [List.length_map]
theorem bM_get {M : List (List Bool)} {i : Nat} {l : List Bool} (h : M[i]? = some l) : (bM M)[i]? = some (l.map Value.bool) := by unfold bM; rw [List.getElem?_map, h]; rfl
theorem bM_app (M : List (List Bool)) (l : List Bool) : bM (M ++ [l]) = bM M ++ [l.map Value.bool] := by unfold bM; rw [List.map_append]; rfl
/-- Which rule calls which, as a table. -/
def cM (gs : GL) : List (List Bool) := (List.range gs.length).map fun i => (List.range gs.length).map (cG gs i)
theorem cM_get {gs : GL} {i : Nat} (h : i < gs.length) : (cM gs)[i]? = some ((List.range gs.length).map (cG gs i)) := by
  unfold cM; rw [List.getElem?_map, List.getElem?_range h]; rfl
theorem cM_len (gs : GL) : (cM gs).length = gs.length := by unfold cM; rw [List.length_map, List.length_range]
theorem cM_take {gs : GL} {k : Nat} (h : k < gs.length) : (cM gs).take (k + 1) = (cM gs).take k ++ [(List.range gs.length).map (cG gs k)] := by
  rw [List.take_add_one, cM_get h]; rfl
/-- What the first nodes of a pattern call. -/
def rwC (gs : GL) (L : List Nd) (j : Nat) : List Bool := (List.range gs.length).map fun z => (L.take j).any fun n => decide (n.op = 6) && decide (fdG gs n.tx = some z)
theorem rwC_len (gs : GL) (L : List Nd) (j : Nat) : (rwC gs L j).length = gs.length := by unfold rwC; rw [List.length_map, List.length_range]
theorem rwC_zero (gs : GL) (L : List Nd) : rwC gs L 0 = List.replicate gs.length false := by
  unfold rwC
  rw [List.take_zero]
  apply List.ext_getElem?
  intro i
  rw [List.getElem?_map, List.getElem?_replicate]
  by_cases h : i < gs.length
  · rw [List.getElem?_range h, if_pos h]; rfl
  · rw [List.getElem?_eq_none (by rw [List.length_range]; omega), if_neg h]; rfl
theorem rwC_end {gs : GL} {i : Nat} {g : ByteArray × List Nd} (h : gs[i]? = some g) : rwC gs g.2 g.2.length = (List.range gs.length).map (cG gs i) := by
  unfold rwC
  rw [List.take_length]
  refine List.map_congr_left fun z _ => ?_
  unfold cG
  rw [h]
theorem rwC_no {gs : GL} {L : List Nd} {j : Nat} {n : Nd} (h : L[j]? = some n) (h6 : ¬ n.op = 6) : rwC gs L (j + 1) = rwC gs L j := by
  unfold rwC
  refine List.map_congr_left fun z _ => ?_
  rw [List.take_add_one, h, List.any_append]
  simp [h6]
theorem rwC_yes {gs : GL} {L : List Nd} {j i : Nat} {n : Nd} (h : L[j]? = some n) (h6 : n.op = 6) (hf : fdG gs n.tx = some i) : rwC gs L (j + 1) = (rwC gs L j).set i true := by
  have hi := fdG_lt hf
  apply List.ext_getElem?
  intro z
  by_cases hz : z < gs.length
  · by_cases e : z = i
    · subst e
      rw [List.getElem?_set_self (by rw [rwC_len]; exact hz)]
      unfold rwC
      rw [List.getElem?_map, List.getElem?_range hz, List.take_add_one, h]
      simp [List.any_append, h6, hf]
    · rw [List.getElem?_set_ne (Ne.symm e)]
      unfold rwC
      rw [List.getElem?_map, List.getElem?_map, List.getElem?_range hz, List.take_add_one, h]
      have : ¬ i = z := Ne.symm e
      simp [List.any_append, h6, hf, this]
  · rw [List.getElem?_eq_none (by rw [rwC_len]; omega), List.getElem?_eq_none (by rw [List.length_set, rwC_len]; omega)]
theorem Try.info45 : (Try.prog.info? 45).map (fun i => (i.zero, i.size, i.bytes)) = some (some (.slice none 0 0), 1, 24) := by kernel_rfl
/-- While the document's table of calls is made. -/
structure CaS (w wr : World) (gs : GL) (u v : Value) (k : Nat) (xs : List Value) : Prop where
  b : Below w.heap.size w wr
  x : GX wr w.heap.size u
  t : TT wr (w.heap.size + 1) 45 4 v (bM ((cM gs).take k)) xs
theorem CaS.later {w wr W' : World} {gs : GL} {u v : Value} {k : Nat} {xs : List Value} (h : CaS w wr gs u v k xs) (hb : Below wr.heap.size wr W') : CaS w W' gs u v k xs := ⟨h.b.trans (hb.mono h.b.size), h.x.below hb, h.t.below hb⟩
/-- .. and a row of it. -/
structure CrS (w wr : World) (gs : GL) (u v : Value) (k : Nat) (xs : List Value) (g : Nat) (l : List Bool) : Prop where
  c : CaS w wr gs u v k xs
  o : wr.ownsRow (w.heap.size + 1) 4 1 (.slice (some ⟨g, 0, none⟩) gs.length gs.length) gs.length (l.map Value.bool)
  q : Out v xs g
theorem CrS.later {w wr W' : World} {gs : GL} {u v : Value} {k g : Nat} {xs : List Value} {l : List Bool} (h : CrS w wr gs u v k xs g l) (hb : Below wr.heap.size wr W') : CrS w W' gs u v k xs g l := ⟨h.c.later hb, U.own_below h.o hb, h.q⟩
theorem CrS.set {w wr : World} {gs : GL} {u v : Value} {k g : Nat} {xs : List Value} {l : List Bool} (h : CrS w wr gs u v k xs g l) (i : Nat) : CrS w (wr.setCell ⟨g, i, none⟩ (.bool true)) gs u v k xs g (l.set i true) := by
  obtain ⟨st1, st2⟩ := h.o.stored i (.bool true)
  have hg := (h.o.lt g rfl).1
  refine ⟨⟨below_grown h.c.b st2 (fun k e => by cases e; omega), h.c.x.same (st2.block _ h.c.x.lt (fun e => by injection e with e; omega)), h.c.t.turn h.q st2⟩, by rw [List.map_set]; exact st1, h.q⟩
theorem CrS.push {w wr w5 : World} {gs : GL} {u v : Value} {k g g3 cap3 : Nat} {xs : List Value} {gr : ByteArray × List Nd} (h : CrS w wr gs u v k xs g (rwC gs gr.2 gr.2.length)) (hgr : gs[k]? = some gr) (hk : k < gs.length)
    (ho : w5.ownsRow (w.heap.size + 1) 45 1 (.slice (some ⟨g3, 0, none⟩) (xs.length + 1) cap3) (xs.length + 1) (xs ++ [.slice (some ⟨g, 0, none⟩) gs.length gs.length])) (hg : wr.grownBy w5 v.ownBlock) (hat : v.ownBlock = some g3 ∨ g3 = wr.heap.size + 1) :
    CaS w w5 gs u (.slice (some ⟨g3, 0, none⟩) (xs.length + 1) cap3) (k + 1) (xs ++ [.slice (some ⟨g, 0, none⟩) gs.length gs.length]) := by
  have hv : ∀ j, v.ownBlock = some j → w.heap.size + 1 ≤ j := fun j e => (h.c.t.o.lt j e).1
  refine ⟨below_grown h.c.b hg (fun j e => by have := hv j e; omega), h.c.x.same (hg.block _ h.c.x.lt (fun e => by have := hv _ e.symm; omega)), ?_⟩
  rw [cM_take hk, bM_app]
  refine h.c.t.push (y := .slice (some ⟨g, 0, none⟩) gs.length gs.length) ?_ (fun j e => by cases e; exact h.q) ho hg (fun j e => by
    have e : g3 = j := Option.some.inj e
    subst e
    rcases hat with q | q
    · exact .inl q
    · exact .inr (by omega))
  rw [← rwC_end hgr, List.length_map, rwC_len]
  exact h.o
set_option maxRecDepth 100000 in
set_option maxHeartbeats 16000000 in
theorem callsT_any {gs : GL} (hR : RtG gs) (A : Option Addr) (c : Nat) (w : World) (hp : GI w A gs) :
    Calls Try.prog 42 #[.agg #[.slice A gs.length c]] w fun e w' => (∃ v xs, e = .returned v ∧ TT w' (w.heap.size + 1) 45 4 v (bM (cM gs)) xs) ∧ Below w.heap.size w w' := by
  have hn := hR.n2
  obtain ⟨w1, hw1⟩ : ∃ w1, w1 = w.alloc (.cells #[.slice A gs.length c] 24) := ⟨_, rfl⟩
  have HE0 := (show Hid (w.alloc (.cells #[.slice A gs.length c] 24) = w1) from hw1.symm)
  have HS := (show Hid (CaS w w1 gs (.slice A gs.length c) (.slice none 0 0) 0 []) from by
    show CaS _ _ _ _ _ _ _
    rw [hw1]
    exact ⟨below_box _ _, GX.mk (heap_alloc_new w _), TT.nil _ _ _ _⟩)
  have HMk := (show Hid (∀ wr : World, Below w.heap.size w wr → w.heap.size + 1 ≤ wr.heap.size → ∃ w2, (Instr.makeSlice 45 (.int .i64 (gs.length : Int)) (.int .i64 (gs.length : Int))).run Try.prog wr = .ok (.slice (some ⟨wr.heap.size, 0, none⟩) gs.length gs.length) w2 ∧ w2.ownsRow (w.heap.size + 1) 4 1 (.slice (some ⟨wr.heap.size, 0, none⟩) gs.length gs.length) gs.length (List.replicate gs.length (.bool false)) ∧ wr.grownBy w2 none) from fun wr _ hb => by
    obtain ⟨i0, hinf, hz0, hz1, hz2⟩ := info_split Try.info4
    obtain ⟨w2, hmk, ho2, hg2⟩ := run_make_full (P := Try.prog) wr (w.heap.size + 1) 45 4 i0 (.bool false) 1 Try.underlying45 hinf hz0 hz1 .i64 .i64 gs.length (by rw [hz2]; omega) (by unfold maxLen; omega) hb
    have e : (madeCells (Value.cells (.bool false)) (gs.length * 1)).toList = List.replicate gs.length (Value.bool false) := by rw [Nat.mul_one]; exact toList_madeCells_one _ _
    rw [e] at ho2
    exact ⟨w2, hmk, ho2, hg2⟩)
  have HP := (show Hid (GI w A gs) from hp)
  have HR := (show Hid (RtG gs) from hR)
  clear hp hR hw1
  go_enter Try.func42, Try.ntmps42
  go_wp2_with (rw [HE0.out])
  clear HE0
  go_loopw [3, 4] (fun v t wr => ∃ (k : Nat) (xs : List Value) (A2 : Option Addr) (c2 : Nat), k ≤ gs.length ∧ t = .int .i64 (k : Int) ∧ v = .slice A2 k c2 ∧ Hid (xs.length = k) ∧ Hid (CaS w wr gs (.slice A gs.length c) (.slice A2 k c2) k xs)) (fun _ t _ => gs.length - (intOf t).toNat)
  case atStart => exact ⟨0, [], none, 0, by omega, by go_num, rfl, rfl, HS⟩
  case round =>
    obtain ⟨k, xs, A2, c2, hk, rfl, rfl, HL, HW⟩ := hrel
    clear HS
    have q1 := HW.out.x.cl
    by_cases hlt : k < gs.length
    · obtain ⟨g, hg⟩ : ∃ g, gs[k]? = some g := ⟨_, List.getElem?_eq_getElem hlt⟩
      obtain ⟨b, o, A3, c3, rfl, lb, _, x1, r2⟩ := HP.out.d k g hg
      obtain ⟨w2, hmk, ho2, hg2⟩ := HMk.out wr HW.out.b HW.out.x.lt
      have HS2 := (show Hid (CrS w w2 gs (.slice (some ⟨b, o, none⟩) gs.length c) (.slice A2 k c2) k xs wr.heap.size (rwC gs g.2 0)) from ⟨HW.out.later (below_grown (Below.refl _ _) hg2 (fun j e => by cases e)), by rw [rwC_zero, List.map_replicate]; exact ho2, HW.out.t.new (Nat.le_refl _)⟩)
      have z0 : (0 : Int) ≤ (k : Int) := by omega
      have z1 : (k : Int) < (gs.length : Int) := by omega
      have HLb := (show Hid (b < w.heap.size ∧ w.cell? ⟨b, o + k * 2 + 1, none⟩ = some (.slice A3 g.2.length c3)) from ⟨lb, x1⟩)
      have HR2 := (show Hid (RdN w A3 g.2) from r2)
      have HGk := (show Hid (gs[k]? = some g) from hg)
      have HN := (show Hid (∀ j, j < g.2.length → ∃ n, g.2[j]? = some n ∧ g.2 ≠ [] ∧ (n.op = 6 → ∃ i, fdG gs n.tx = some i)) from fun j hj => ⟨_, List.getElem?_eq_getElem hj, by (intro q; rw [q] at hj; simp at hj), fun h6 => HR.out.dn.c g (List.mem_of_getElem? hg) _ (List.getElem_mem hj) h6⟩)
      have hgl : g.2.length ≤ 140737488355328 := (HP.out.t g (List.mem_of_getElem? hg)).2.1
      clear hg r2 lb x1 HW ho2 hg2 HMk HR
      go_wp2_with fail
      clear hmk q1
      generalize wr.heap.size = g5 at *
      go_loopw [6] (fun t wr => ∃ j : Nat, j ≤ g.2.length ∧ t = .int .i64 (j : Int) ∧ Hid (CrS w wr gs (.slice (some ⟨b, o, none⟩) gs.length c) (.slice A2 k c2) k xs g5 (rwC gs g.2 j))) (fun t _ => g.2.length - (intOf t).toNat)
      case atStart => exact ⟨0, by omega, by go_num, HS2⟩
      case round =>
        obtain ⟨j, hj, rfl, HW⟩ := hrel
        clear HS2
        have q1 := HW.out.c.x.cl
        have x1' := (HW.out.c.b.cell (p := ⟨b, o + k * 2 + 1, none⟩) HLb.out.1).trans HLb.out.2
        by_cases hjl : j < g.2.length
        · obtain ⟨n, hn1, nl, h6f⟩ := HN.out j hjl
          obtain ⟨g1, o1, rfl, l1, q2⟩ := HR2.out nl
          obtain ⟨a0, a1, a2, a3, a4, a5, a6⟩ := (q2.same (HW.out.c.b.block g1 l1)) j n hn1
          have y0 : (0 : Int) ≤ (j : Int) := by omega
          have y1 : (j : Int) < (g.2.length : Int) := by omega
          have HW2 := (show Hid (CrS w (wr.alloc (ndO n)) gs (.slice (some ⟨b, o, none⟩) gs.length c) (.slice A2 k c2) k xs g5 (rwC gs g.2 j)) from HW.out.later (below_box _ _))
          have q3 := HW2.out.c.x.cl
          clear HN HR2 q2 HW nl
          by_cases h6 : n.op = 6
          · have t6 : (n.op == 6) = true := by rw [h6]; rfl
            obtain ⟨i, hf⟩ := h6f h6
            have hi := fdG_lt hf
            have HFi : Hid (∀ W, Below w.heap.size w W → Calls Try.prog 35 #[.agg #[.slice (some ⟨b, o, none⟩) gs.length c], .string n.tx] W fun e w' => e = .returned (.int .i64 (i : Int)) ∧ Below W.heap.size W w') := fun W hW => by
              have h := find_any gs (some ⟨b, o, none⟩) c n.tx W (HP.out.later hW)
              rw [fdN_some hf] at h
              exact h
            have HX := (show Hid (rwC gs g.2 (j + 1) = (rwC gs g.2 j).set i true) from rwC_yes hn1 h6 hf)
            have v0 : (0 : Int) ≤ (i : Int) := by omega
            have v1 : (i : Int) < (gs.length : Int) := by omega
            clear hn1 h6f h6 hf HP
            go_wp2_with fail
            refine (HFi.out _ HW2.out.c.b).mono ?_
            rintro e w4 ⟨rfl, b4⟩
            have HW4 := (show Hid (CrS w w4 gs (.slice (some ⟨b, o, none⟩) gs.length c) (.slice A2 k c2) k xs g5 (rwC gs g.2 j)) from HW2.out.later b4)
            obtain ⟨gm, cm, em, _, _, xm, fm⟩ := own_get HW4.out.o (j := i) (x := .bool (((rwC gs g.2 j)[i]?).getD false)) (by rw [List.getElem?_map, List.getElem?_eq_getElem (by rw [rwC_len]; exact hi)]; rfl)
            have emg : g5 = gm := by injection em with e1; injection e1 with e1; injection e1
            clear em
            subst emg
            have HW5 := (show Hid (CrS w (w4.setCell ⟨g5, i, none⟩ (.bool true)) gs (.slice (some ⟨b, o, none⟩) gs.length c) (.slice A2 k c2) k xs g5 (rwC gs g.2 (j + 1))) from by show CrS _ _ _ _ _ _ _ _ _; rw [HX.out]; exact HW4.out.set i)
            clear HFi b4 HW2 HW4 HX a0 a1 a2 a3 a4 a5 a6 q3 q1 x1' hi
            go_wp2_with fail
            go_roundw
            case rel => exact ⟨j + 1, by omega, by go_num, HW5⟩
            case measure => simp [intOf]; omega
          · have t6 : (n.op == 6) = false := beq_eq_false_iff_ne.2 h6
            have HW5 := (show Hid (CrS w (wr.alloc (ndO n)) gs (.slice (some ⟨b, o, none⟩) gs.length c) (.slice A2 k c2) k xs g5 (rwC gs g.2 (j + 1))) from by show CrS _ _ _ _ _ _ _ _ _; rw [rwC_no hn1 h6]; exact HW2.out)
            clear hn1 h6f h6 HP HW2
            go_wp2_with fail
            go_roundw
            case rel => exact ⟨j + 1, by omega, by go_num, HW5⟩
            case measure => simp [intOf]; omega
        · obtain rfl : j = g.2.length := by omega
          have HO := (show Hid (wr.ownsRow (w.heap.size + 1) 45 1 (.slice A2 k c2) k xs) from by have h := HW.out.c.t.o; rw [HL.out] at h; exact h)
          have HBw := (show Hid (w.heap.size + 1 ≤ wr.heap.size) from HW.out.c.x.lt)
          have HPu := (show Hid (∀ (g3 cap3 : Nat) (w5 : World), w5.ownsRow (w.heap.size + 1) 45 1 (.slice (some ⟨g3, 0, none⟩) (k + 1) cap3) (k + 1) (xs ++ [.slice (some ⟨g5, 0, none⟩) gs.length gs.length]) → wr.grownBy w5 (Value.slice A2 k c2).ownBlock → ((Value.slice A2 k c2).ownBlock = some g3 ∨ g3 = wr.heap.size + 1) → CaS w w5 gs (.slice (some ⟨b, o, none⟩) gs.length c) (.slice (some ⟨g3, 0, none⟩) (k + 1) cap3) (k + 1) (xs ++ [.slice (some ⟨g5, 0, none⟩) gs.length gs.length])) from fun g3 cap3 w5 h1 h2 h3 => by
            have h := HW.out.push (g3 := g3) (cap3 := cap3) HGk.out hlt (by rw [HL.out]; exact h1) h2 h3
            rw [HL.out] at h
            exact h)
          have HL2 := (show Hid ((xs ++ [Value.slice (some ⟨g5, 0, none⟩) gs.length gs.length]).length = k + 1) from by show _ = _; rw [List.length_append, HL.out]; rfl)
          clear HW HL HN HR2 HGk HP
          go_wp2_with (at_builtin; refine wpList_app1 rfl _ _ 76 rfl (.slice none 0 0) 24 Try.underlying76 Try.info45 rfl (w.heap.size + 1) k _ xs rfl rfl HO.out rfl (by omega) (by decide) HBw.out ?_; intro g3 cap3 w5 ho5 hg5 hat5 hl5; have HW5 := (show Hid (CaS w w5 gs (.slice (some ⟨b, o, none⟩) gs.length c) (.slice (some ⟨g3, 0, none⟩) (k + 1) cap3) (k + 1) (xs ++ [.slice (some ⟨g5, 0, none⟩) gs.length gs.length])) from HPu.out g3 cap3 w5 ho5 hg5 hat5); clear ho5 hg5 hat5 hl5 HPu HO HBw q1 x1')
          go_roundw
          case rel => exact ⟨k + 1, xs ++ [.slice (some ⟨g5, 0, none⟩) gs.length gs.length], some ⟨g3, 0, none⟩, cap3, by omega, by go_num, rfl, HL2, HW5⟩
          case measure => simp [intOf]; omega
    · obtain rfl : k = gs.length := by omega
      have HT := (show Hid (TT wr (w.heap.size + 1) 45 4 (.slice A2 gs.length c2) (bM (cM gs)) xs) from by
        show TT _ _ _ _ _ _ _
        have h := HW.out.t
        rw [show (cM gs).take gs.length = cM gs from List.take_of_length_le (by rw [cM_len]; omega)] at h
        exact h)
      have HB := (show Hid (Below w.heap.size w wr) from HW.out.b)
      clear HW HL HMk HP HR
      go_wp2_with fail
      go_ret
      exact ⟨⟨_, xs, rfl, HT.out⟩, HB.out⟩
end Go.Proofs.Ytppggnmlbcdegaa.N

namespace Go.Proofs.Ytppggnmlbcdegaa.N
open Go.RowKit Go.Maps
open Go.Proofs.Ytppggnmlbcdegaa.T

open U (nI own_get own_slice wpList_app1 below_grown TT Out info_split)
/-- A table of truth values that the call owns, between the calls and what is come to. -/
structure CoS (w wr : World) (gs : GL) (v : Value) (M : List (List Bool)) (xs : List Value) : Prop where
  b : Below w.heap.size w wr
  t : TT wr (w.heap.size + 1) 45 4 v (bM M) xs
  i : MI gs.length (cG gs) M
theorem CoS.get {w wr : World} {gs : GL} {g0 cv : Nat} {M : List (List Bool)} {xs : List Value} (h : CoS w wr gs (.slice (some ⟨g0, 0, none⟩) gs.length cv) M xs) {i k : Nat} (hi : i < gs.length) (hk : k < gs.length) : ∃ gi ci, xs[i]? = some (.slice (some ⟨gi, 0, none⟩) gs.length ci) ∧ wr.cell? ⟨g0, i, none⟩ = some (.slice (some ⟨gi, 0, none⟩) gs.length ci) ∧ wr.cell? ⟨gi, k, none⟩ = some (.bool (tb M i k)) ∧ wr.frozen? ⟨gi, k, none⟩ = false := by
  obtain ⟨l, hl, hll⟩ := h.i.t.at' hi
  obtain ⟨x, r, hx, hr, ho⟩ := h.t.at' (i := i) (by rw [bM_len, h.i.t.len]; exact hi)
  rw [bM_get hl] at hr
  cases hr
  rw [List.length_map, hll] at ho
  obtain ⟨g1, c1, e1, _, _, x1, f1⟩ := own_get ho (j := k) (x := .bool (tb M i k)) (by
    rw [List.getElem?_map, tb_of hl, List.getElem?_eq_getElem (by omega)]; rfl)
  subst e1
  have hlx : xs.length = gs.length := h.t.len.trans ((bM_len M).trans h.i.t.len)
  obtain ⟨g2, c2, e2, _, _, x2, _⟩ := own_get h.t.o hx
  have e3 : g0 = g2 := by injection e2 with e3; injection e3 with e3; injection e3
  subst e3
  exact ⟨g1, c1, hx, x2, x1, f1⟩
theorem bM_tbS {n : Nat} {M : List (List Bool)} (_h : Tb n M) {i j : Nat} {l : List Bool} (hl : M[i]? = some l) : (bM M).set i ((l.map Value.bool).set j (.bool true)) = bM (tbS M i j) := by
  rw [tbS_row hl]
  unfold bM
  rw [List.map_set, List.map_set]
theorem CoS.put {w wr : World} {gs : GL} {g0 cv gi ci : Nat} {M : List (List Bool)} {xs : List Value} (h : CoS w wr gs (.slice (some ⟨g0, 0, none⟩) gs.length cv) M xs) {i k j : Nat} (hx : xs[i]? = some (.slice (some ⟨gi, 0, none⟩) gs.length ci)) (h1 : tb M i k = true) (h2 : tb M k j = true) : CoS w (wr.setCell ⟨gi, j, none⟩ (.bool true)) gs (.slice (some ⟨g0, 0, none⟩) gs.length cv) (tbS M i j) xs := by
  obtain ⟨hi, _⟩ := tb_lt h.i.t h1
  obtain ⟨l, hl, _⟩ := h.i.t.at' hi
  obtain ⟨s1, s2⟩ := h.t.store (j := j) hx (bM_get hl) (.bool true)
  rw [bM_tbS h.i.t hl] at s1
  exact ⟨below_grown h.b s2 (fun q e => by cases e; have h9 : w.heap.size + 1 ≤ gi := (h.t.lt hx rfl).1; omega), s1, h.i.step h1 h2⟩
/-- How far it has been gone over, and what came of it. -/
structure ScI (M0 M : List (List Bool)) (more : Bool) (P : Nat → Nat → Nat → Prop) : Prop where
  a : more = false → M = M0 ∧ ∀ i k j, P i k j → tb M i k = true → tb M k j = true → tb M i j = true
  c : more = true → cnT M + 1 ≤ cnT M0
theorem ScI.mono {M0 M : List (List Bool)} {more : Bool} {P Q : Nat → Nat → Nat → Prop} (h : ScI M0 M more P) (hq : ∀ i k j, Q i k j → P i k j ∨ (tb M i k = true → tb M k j = true → tb M i j = true)) : ScI M0 M more Q :=
  ⟨fun e => ⟨(h.a e).1, fun i k j q h1 h2 => by
    rcases hq i k j q with p | p
    · exact (h.a e).2 i k j p h1 h2
    · exact p h1 h2⟩, h.c⟩
theorem ScI.less {n : Nat} {M0 M : List (List Bool)} {more : Bool} {P Q : Nat → Nat → Nat → Prop} (h : ScI M0 M more P) (ht : Tb n M) {i j : Nat} (hi : i < n) (hj : j < n) (q : tb M i j = false) : ScI M0 (tbS M i j) true Q := by
  have hc := cnT_less ht hi hj q
  refine ⟨(fun e => by cases e), fun _ => ?_⟩
  cases hm : more
  · rw [(h.a hm).1] at hc ⊢; omega
  · have := h.c hm; omega
def V2 (n i a b c : Nat) : Prop := a < i ∧ b < n ∧ c < n
def V3 (n i k a b c : Nat) : Prop := V2 n i a b c ∨ (a = i ∧ b < k ∧ c < n)
def V4 (n i k j a b c : Nat) : Prop := V3 n i k a b c ∨ (a = i ∧ b = k ∧ c < j)
/-- Behind a round of the whole: the table so far, closed where nothing was added. -/
structure CmR (n : Nat) (M : List (List Bool)) (more : Bool) (gk : Nat) : Prop where
  z : more = false → ∀ i k j, i < n → k < n → j < n → tb M i k = true → tb M k j = true → tb M i j = true
  m : cnT M + (if more then 1 else 0) ≤ gk
set_option maxRecDepth 100000 in
set_option maxHeartbeats 32000000 in
theorem comes_any {gs : GL} (hR : RtG gs) (A : Option Addr) (c : Nat) (w : World) (hp : GI w A gs) :
    Calls Try.prog 45 #[.agg #[.slice A gs.length c]] w fun e w' => (∃ v xs M, e = .returned v ∧ TT w' w.heap.size 45 4 v (bM M) xs ∧ Tb gs.length M ∧ IsR gs.length (cG gs) (tb M)) ∧ Below w.heap.size w w' := by
  have hn := hR.n2
  have hcG : ∀ i j, cG gs i j = true → i < gs.length ∧ j < gs.length := fun i j q => by
    unfold cG at q
    cases hg : gs[i]? with
    | none => rw [hg] at q; cases q
    | some g =>
      rw [hg] at q
      simp only [List.any_eq_true, Bool.and_eq_true, decide_eq_true_eq] at q
      obtain ⟨nd, _, _, h3⟩ := q
      exact ⟨(List.getElem?_eq_some_iff.1 hg).1, fdG_lt h3⟩
  have hMI : MI gs.length (cG gs) (cM gs) := by
    have htb : ∀ i j, i < gs.length → j < gs.length → tb (cM gs) i j = cG gs i j := fun i j hi hj => by
      rw [tb_of (cM_get hi), List.getElem?_map, List.getElem?_range hj]; rfl
    have hT : Tb gs.length (cM gs) := ⟨cM_len gs, fun l hl => by
      obtain ⟨i, hi, rfl⟩ := List.mem_iff_getElem.1 hl
      have h2 := cM_get (gs := gs) (i := i) (by rw [cM_len] at hi; exact hi)
      rw [List.getElem?_eq_getElem hi] at h2
      rw [Option.some.inj h2, List.length_map, List.length_range]⟩
    exact ⟨hT, fun i j q => by rw [htb i j (hcG i j q).1 (hcG i j q).2]; exact q, fun i j q => by
      obtain ⟨hi, hj⟩ := tb_lt hT q
      rw [htb i j hi hj] at q
      exact Rc.of q⟩
  obtain ⟨w1, hw1⟩ : ∃ w1, w1 = w.alloc (.cells #[.slice A gs.length c] 24) := ⟨_, rfl⟩
  have HE0 := (show Hid (w.alloc (.cells #[.slice A gs.length c] 24) = w1) from hw1.symm)
  have q1 : w1.cell? ⟨w.heap.size, 0, none⟩ = some (.slice A gs.length c) := by rw [hw1]; exact (GX.mk (heap_alloc_new w _)).cl
  have hb1 : Below w.heap.size w w1 := by rw [hw1]; exact below_box _ _
  have hs1 : w1.heap.size = w.heap.size + 1 := by rw [hw1, World.size_alloc]
  have HC := (show Hid (∀ _ : Unit, Calls Try.prog 42 #[.agg #[.slice A gs.length c]] w1 fun e w' => (∃ v xs, e = .returned v ∧ TT w' (w1.heap.size + 1) 45 4 v (bM (cM gs)) xs) ∧ Below w1.heap.size w1 w') from fun _ => callsT_any hR A c w1 (hp.later hb1))
  have HcG := (show Hid (∀ i j, cG gs i j = true → i < gs.length ∧ j < gs.length) from hcG)
  have HMI := (show Hid (MI gs.length (cG gs) (cM gs)) from hMI)
  have HB1 := (show Hid (Below w.heap.size w w1 ∧ w1.heap.size = w.heap.size + 1) from ⟨hb1, hs1⟩)
  have HN1 := (show Hid (1 ≤ gs.length) from hR.n1)
  clear hp hR hw1 hcG hMI hb1 hs1
  go_enter Try.func45, Try.ntmps45
  go_wp2_with (rw [HE0.out])
  refine (HC.out ()).mono ?_
  rintro e w2 ⟨⟨v, xs, rfl, hT⟩, b2⟩
  have HS : Hid (CoS w w2 gs v (cM gs) xs) := ⟨HB1.out.1.trans (b2.mono HB1.out.1.size), hT.base (by have := HB1.out.2; omega), HMI.out⟩
  have hlx : xs.length = gs.length := hT.len.trans ((bM_len _).trans (cM_len gs))
  obtain ⟨g0, cv, rfl, _, _⟩ := hT.o.form (by rw [hlx]; exact HN1.out)
  rw [hlx] at HS ⊢
  clear HC HE0 b2 hT hlx HMI HB1 HN1 q1
  go_wp2_with fail
  go_loopg [4] (cnT (cM gs) + 1) (fun gk mv wr => ∃ (more : Bool) (M : List (List Bool)), mv = .bool more ∧ Hid (CoS w wr gs (.slice (some ⟨g0, 0, none⟩) gs.length cv) M xs) ∧ Hid (CmR gs.length M more gk))
  case atStart => exact ⟨true, cM gs, rfl, HS, ⟨(fun q => by cases q), by simp⟩⟩
  case round =>
    obtain ⟨more, M0, rfl, HW, HG⟩ := hrel
    clear HS
    cases more with
    | false =>
      have HT := (show Hid (TT wr w.heap.size 45 4 (.slice (some ⟨g0, 0, none⟩) gs.length cv) (bM M0) xs) from HW.out.t.base (Nat.le_succ _))
      have HI := (show Hid (IsR gs.length (cG gs) (tb M0)) from HW.out.i.done HcG.out (fun i k j h1 h2 h3 => HG.out.z rfl i k j h1 h2 h3))
      have HTb := (show Hid (Tb gs.length M0) from HW.out.i.t)
      have HB := (show Hid (Below w.heap.size w wr) from HW.out.b)
      clear HW HG HcG
      go_wp2_with fail
      go_ret
      exact ⟨⟨_, xs, M0, rfl, HT.out, HTb.out, HI.out⟩, HB.out⟩
    | true =>
      have HGk := (show Hid (cnT M0 + 1 ≤ gk) from by show cnT M0 + 1 ≤ gk; have h := HG.out.m; simpa using h)
      have HSc := (show Hid (ScI M0 M0 false (V2 gs.length 0)) from ⟨(fun _ => ⟨rfl, fun i k j q => by have := q.1; omega⟩), (fun q => by cases q)⟩)
      clear HG
      go_wp2_with fail
      go_loopw [4, 5] (fun mv t wr => ∃ (more : Bool) (i : Nat) (M : List (List Bool)), i ≤ gs.length ∧ t = .int .i64 (i : Int) ∧ mv = .bool more ∧ Hid (CoS w wr gs (.slice (some ⟨g0, 0, none⟩) gs.length cv) M xs) ∧ Hid (ScI M0 M more (V2 gs.length i))) (fun _ t _ => gs.length - (intOf t).toNat)
      case atStart => exact ⟨false, 0, M0, by omega, by go_num, rfl, HW, HSc⟩
      case round =>
        obtain ⟨more, i, M, hi, rfl, rfl, HW, HX⟩ := hrel
        clear HSc
        by_cases hil : i < gs.length
        · have HSc := (show Hid (ScI M0 M more (V3 gs.length i 0)) from HX.out.mono (fun a b c q => by
            rcases q with q | ⟨_, q, _⟩
            · exact .inl q
            · omega))
          clear HX
          go_wp2_with fail
          go_loopw [4, 6] (fun mv t wr => ∃ (more : Bool) (k : Nat) (M : List (List Bool)), k ≤ gs.length ∧ t = .int .i64 (k : Int) ∧ mv = .bool more ∧ Hid (CoS w wr gs (.slice (some ⟨g0, 0, none⟩) gs.length cv) M xs) ∧ Hid (ScI M0 M more (V3 gs.length i k))) (fun _ t _ => gs.length - (intOf t).toNat)
          case atStart => exact ⟨more, 0, M, by omega, by go_num, rfl, HW, HSc⟩
          case round =>
            obtain ⟨more, k, M, hk, rfl, rfl, HW, HX⟩ := hrel
            clear HSc
            by_cases hkl : k < gs.length
            · have HSc := (show Hid (ScI M0 M more (V4 gs.length i k 0)) from HX.out.mono (fun a b c q => by
                rcases q with q | ⟨_, _, q⟩
                · exact .inl q
                · omega))
              clear HX
              go_wp2_with fail
              go_loopw [4, 7] (fun mv t wr => ∃ (more : Bool) (j : Nat) (M : List (List Bool)), j ≤ gs.length ∧ t = .int .i64 (j : Int) ∧ mv = .bool more ∧ Hid (CoS w wr gs (.slice (some ⟨g0, 0, none⟩) gs.length cv) M xs) ∧ Hid (ScI M0 M more (V4 gs.length i k j))) (fun _ t _ => gs.length - (intOf t).toNat)
              case atStart => exact ⟨more, 0, M, by omega, by go_num, rfl, HW, HSc⟩
              case round =>
                obtain ⟨more, j, M, hj, rfl, rfl, HW, HX⟩ := hrel
                clear HSc
                have z0 : (0 : Int) ≤ (i : Int) := by omega
                have z1 : (i : Int) < (gs.length : Int) := by omega
                have z2 : (0 : Int) ≤ (k : Int) := by omega
                have z3 : (k : Int) < (gs.length : Int) := by omega
                obtain ⟨gi, ci, hxi, c1, d1, _⟩ := HW.out.get hil hkl
                cases hik : tb M i k with
                | false =>
                  rw [hik] at d1
                  have HX2 := (show Hid (ScI M0 M more (V3 gs.length i (k + 1))) from HX.out.mono (fun a b c q => by
                    rcases q with q | ⟨rfl, q1, q2⟩
                    · exact .inl (.inl (.inl q))
                    · by_cases e : b = k
                      · subst e; exact .inr (fun h => by rw [hik] at h; cases h)
                      · exact .inl (.inl (.inr ⟨rfl, by omega, q2⟩))))
                  clear HX hxi hik
                  go_wp2_with fail
                  go_roundw
                  case rel => exact ⟨more, k + 1, M, by omega, by go_num, rfl, HW, HX2⟩
                  case measure => simp [intOf]; omega
                | true =>
                  rw [hik] at d1
                  by_cases hjl : j < gs.length
                  · have y0 : (0 : Int) ≤ (j : Int) := by omega
                    have y1 : (j : Int) < (gs.length : Int) := by omega
                    obtain ⟨gk2, ck2, _, c2, d2, _⟩ := HW.out.get hkl hjl
                    obtain ⟨gi', ci', hxi', c3, d3, f3⟩ := HW.out.get hil hjl
                    rw [hxi] at hxi'
                    obtain ⟨rfl, rfl⟩ : gi = gi' ∧ ci = ci' := by
                      have e := Option.some.inj hxi'
                      injection e with e1 _ e3
                      injection e1 with e1
                      injection e1 with e1
                      exact ⟨e1, e3⟩
                    clear c3 hxi'
                    cases hkj : tb M k j with
                    | false =>
                      rw [hkj] at d2
                      have HX2 := (show Hid (ScI M0 M more (V4 gs.length i k (j + 1))) from HX.out.mono (fun a b c q => by
                        rcases q with q | ⟨rfl, rfl, q⟩
                        · exact .inl (.inl q)
                        · by_cases e : c = j
                          · subst e; exact .inr (fun _ h => by rw [hkj] at h; cases h)
                          · exact .inl (.inr ⟨rfl, rfl, by omega⟩)))
                      clear HX hxi hik hkj
                      go_wp2_with fail
                      go_roundw
                      case rel => exact ⟨more, j + 1, M, by omega, by go_num, rfl, HW, HX2⟩
                      case measure => simp [intOf]; omega
                    | true =>
                      rw [hkj] at d2
                      cases hij : tb M i j with
                      | true =>
                        rw [hij] at d3
                        have HX2 := (show Hid (ScI M0 M more (V4 gs.length i k (j + 1))) from HX.out.mono (fun a b c q => by
                          rcases q with q | ⟨rfl, rfl, q⟩
                          · exact .inl (.inl q)
                          · by_cases e : c = j
                            · subst e; exact .inr (fun _ _ => hij)
                            · exact .inl (.inr ⟨rfl, rfl, by omega⟩)))
                        clear HX hxi hik hkj hij
                        go_wp2_with fail
                        go_roundw
                        case rel => exact ⟨more, j + 1, M, by omega, by go_num, rfl, HW, HX2⟩
                        case measure => simp [intOf]; omega
                      | false =>
                        rw [hij] at d3
                        have HX2 := (show Hid (ScI M0 (tbS M i j) true (V4 gs.length i k (j + 1))) from HX.out.less HW.out.i.t hil hjl hij)
                        have HW2 := (show Hid (CoS w (wr.setCell ⟨gi, j, none⟩ (.bool true)) gs (.slice (some ⟨g0, 0, none⟩) gs.length cv) (tbS M i j) xs) from HW.out.put hxi hik hkj)
                        clear HX hxi hik hkj hij HW
                        go_wp2_with fail
                        go_roundw
                        case rel => exact ⟨true, j + 1, tbS M i j, by omega, by go_num, rfl, HW2, HX2⟩
                        case measure => simp [intOf]; omega
                  · obtain rfl : j = gs.length := by omega
                    have HX2 := (show Hid (ScI M0 M more (V3 gs.length i (k + 1))) from HX.out.mono (fun a b c q => by
                      rcases q with q | ⟨rfl, q1, q2⟩
                      · exact .inl (.inl (.inl q))
                      · by_cases e : b = k
                        · subst e; exact .inl (.inr ⟨rfl, rfl, q2⟩)
                        · exact .inl (.inl (.inr ⟨rfl, by omega, q2⟩))))
                    clear HX hxi hik
                    go_wp2_with fail
                    go_roundw
                    case rel => exact ⟨more, k + 1, M, by omega, by go_num, rfl, HW, HX2⟩
                    case measure => simp [intOf]; omega
            · obtain rfl : k = gs.length := by omega
              have HX2 := (show Hid (ScI M0 M more (V2 gs.length (i + 1))) from HX.out.mono (fun a b c q => by
                by_cases e : a = i
                · subst e; exact .inl (.inr ⟨rfl, q.2.1, q.2.2⟩)
                · exact .inl (.inl ⟨by have := q.1; omega, q.2.1, q.2.2⟩)))
              clear HX
              go_wp2_with fail
              go_roundw
              case rel => exact ⟨more, i + 1, M, by omega, by go_num, rfl, HW, HX2⟩
              case measure => simp [intOf]; omega
        · obtain rfl : i = gs.length := by omega
          have HR2 := (show Hid (CmR gs.length M more (cnT M + (if more then 1 else 0))) from ⟨fun q i k j h1 h2 h3 => (HX.out.a q).2 i k j ⟨h1, h2, h3⟩, Nat.le_refl _⟩)
          have HL2 := (show Hid (cnT M + (if more then 1 else 0) < gk) from by
            have h0 := HGk.out
            show cnT M + (if more then 1 else 0) < gk
            cases hm : more
            · have h1 := (HX.out.a hm).1
              rw [h1]; simp; omega
            · have h1 := HX.out.c hm
              simp; omega)
          clear HX HGk HcG
          go_wp2_with fail
          go_roundg (cnT M + (if more then 1 else 0))
          case measure => exact HL2.out
          case rel => exact ⟨more, M, rfl, HW, HR2⟩
end Go.Proofs.Ytppggnmlbcdegaa.N
