/- DERIVED. Plain mathematics and walks, laid together (19). -/
import Derived.Deep.LoopGhost
import Derived.Test.YtbipjdgholdhcabGreatFr18
namespace Go.Proofs.YtbipjdgholdhcabGreat.N
open Go.RowKit Go.Maps
open Go.Proofs.YtbipjdgholdhcabGreat.T

open U (below_grown own_get own_slice TT)
/-- The document's way, while it is told. -/
structure PtP (c : Mx) (r t : Nat) (l : List Nat) (m a : Nat) : Prop where
  n : l.length + m = t
  p : 0 < l.length
  z : l[0]? = some r
  e : l[l.length - 1]? = some a
  d : Ds c r (m + 1) a
  s : ∀ (i : Nat) x y, l[i]? = some x → l[i + 1]? = some y → c x y = true ∧ Ds c r (t - (i + 1)) y ∧ ∀ k, c x k = true → Ds c r (t - (i + 1)) k → y ≤ k
theorem PtP.start {c : Mx} {r m : Nat} (h : Ds c r (m + 1) r) : PtP c r (m + 1) [r] m r :=
  ⟨by rw [List.length_singleton]; omega, Nat.succ_pos 0, rfl, rfl, h, fun i x y _ h2 => by rw [List.getElem?_cons_succ] at h2; cases h2⟩
theorem PtP.push {c : Mx} {r t m a q : Nat} {l : List Nat} (h : PtP c r t l (m + 1) a) (hc : c a q = true) (hd : Ds c r (m + 1) q) (hl : ∀ k, c a k = true → Ds c r (m + 1) k → q ≤ k) : PtP c r t (l ++ [q]) m q := by
  have hn := h.n
  have hp := h.p
  refine ⟨by rw [List.length_append, List.length_singleton]; omega, by rw [List.length_append, List.length_singleton]; omega, by rw [List.getElem?_append_left hp]; exact h.z, ?_, hd, fun i x y hx hy => ?_⟩
  · rw [List.length_append, List.length_singleton, Nat.add_sub_cancel, List.getElem?_append_right (Nat.le_refl _), Nat.sub_self]; rfl
  · have hlt : i + 1 < l.length + 1 := by have := (List.getElem?_eq_some_iff.1 hy).1; rwa [List.length_append, List.length_singleton] at this
    rw [List.getElem?_append_left (by omega)] at hx
    by_cases he : i + 1 < l.length
    · rw [List.getElem?_append_left he] at hy
      exact h.s i x y hx hy
    · have e1 : i = l.length - 1 := by omega
      have e2 : i + 1 = l.length := by omega
      rw [e2, List.getElem?_append_right (Nat.le_refl _), Nat.sub_self] at hy
      obtain rfl : q = y := Option.some.inj hy
      rw [e1, h.e] at hx
      obtain rfl : a = x := Option.some.inj hx
      have e3 : t - (i + 1) = m + 1 := by omega
      rw [e3]
      exact ⟨hc, hd, hl⟩
theorem PtP.fin {c : Mx} {r t a : Nat} {l : List Nat} (h : PtP c r t l 0 a) : PtI c r t l := ⟨h.n, h.z, h.s⟩
/-- While the way is told. -/
structure PaS (w4 wr : World) (l : List Nat) (v : Value) : Prop where
  b : Below w4.heap.size w4 wr
  o : wr.ownsRow w4.heap.size 3 1 v l.length (l.map U.nI)
set_option maxRecDepth 100000 in
set_option maxHeartbeats 32000000 in
/-- The document's grammar cycle. -/
theorem cycleD_any {n : Nat} {cx : Mx} (hc : ∀ i j, cx i j = true → i < n ∧ j < n) (hn : n ≤ 200) (A : Option Addr) (c : Nat) (w : World) (hp : RdM w A n cx) :
    Calls Tryz.prog 45 #[.slice A n c] w fun e w' => (∃ v l, e = .returned v ∧ CyR n cx l ∧ w'.ownsRow w.heap.size 3 1 v l.length (l.map U.nI)) ∧ Below w.heap.size w w' := by
  have HRd := (show Hid (RdM w A n cx) from hp)
  have HC := (show Hid ((∀ i j, cx i j = true → i < n ∧ j < n) ∧ n ≤ 200) from ⟨hc, hn⟩)
  have HS := (show Hid (Below w.heap.size w w ∧ ∀ q, q < 0 → ¬ Rc n cx q q) from ⟨Below.refl _ _, fun q h => absurd h (Nat.not_lt_zero _)⟩)
  clear hp hc
  go_enter Tryz.func45, Tryz.ntmps45
  go_wp2_with fail
  go_loopw [3] (fun t wr => ∃ k : Nat, k ≤ n ∧ t = .int .i64 (k : Int) ∧ Hid (Below w.heap.size w wr ∧ ∀ q, q < k → ¬ Rc n cx q q)) (fun t _ => n - (intOf t).toNat)
  case atStart => exact ⟨0, Nat.zero_le _, by go_num, HS⟩
  case round =>
    obtain ⟨k, hk, rfl, HW⟩ := hrel
    clear HS
    by_cases hlt : k < n
    · have HFa := (show Hid (∀ _ : Unit, Calls Tryz.prog 60 #[.slice A n c, .int .i64 (k : Int)] wr fun e w' => (∃ gO out, e = .returned (.slice (some ⟨gO, 0, none⟩) n n) ∧ FaD n cx k out ∧ FrS wr w' n gO out) ∧ Below wr.heap.size wr w') from fun _ => far_any HC.out.1 HC.out.2 hlt A c wr (HRd.out.later HW.out.1))
      go_wp2_with fail
      refine (HFa.out ()).mono ?_
      rintro e w4 ⟨⟨gO, out, rfl, hF, hO⟩, b4⟩
      have HB4 := (show Hid (Below w.heap.size w w4) from HW.out.1.trans (b4.mono HW.out.1.size))
      obtain ⟨v, hv⟩ : ∃ v, out[k]? = some v := ⟨_, List.getElem?_eq_getElem (by rw [hF.l]; exact hlt)⟩
      obtain ⟨xo, _⟩ := hO.at' hv
      have z0 : (0 : Int) ≤ (k : Int) := by omega
      have z1 : (k : Int) < (n : Int) := by omega
      rcases hF.n k v hv with ⟨rfl, hno⟩ | ⟨t, rfl, hd⟩
      · have HN := (show Hid (Below w.heap.size w w4 ∧ ∀ q, q < k + 1 → ¬ Rc n cx q q) from ⟨HB4.out, fun q hq => by
          by_cases e : q = k
          · rw [e]; exact hno
          · exact HW.out.2 q (by omega)⟩)
        clear hF hO b4 HB4 hv hno HW HFa
        go_wp2_with fail
        go_roundw
        case rel => exact ⟨k + 1, by omega, by go_num, HN⟩
        case measure => simp [intOf]; omega
      · obtain ⟨m0, rfl⟩ : ∃ m0, t = m0 + 1 := ⟨t - 1, by have := hd.1; omega⟩
        have ht0 : ¬ (((m0 + 1 : Nat) : Int) < 0) := by omega
        have hsub : ((m0 + 1 : Nat) : Int) - 1 = (m0 : Int) := by omega
        have htn : m0 + 1 ≤ n := Ds.few HC.out.1 hd
        obtain ⟨w5, hw5⟩ : ∃ w5, w5 = w4.alloc (.cells #[.int .i64 (k : Int)] 3) := ⟨_, rfl⟩
        have HE5 := (show Hid (w4.alloc (.cells #[.int .i64 (k : Int)] 3) = w5) from hw5.symm)
        have hb5 : Below w4.heap.size w4 w5 := by rw [hw5]; exact below_box _ _
        have HP5 := (show Hid (PaS w4 w5 [k] (.slice (some ⟨w4.heap.size, 0, none⟩) 1 1)) from ⟨hb5, by rw [hw5]; exact World.ownsRow_lit w4 #[.int .i64 (k : Int)] 1 (Nat.le_refl _) (by decide) rfl⟩)
        have xo5 := (hb5.cell (p := ⟨gO, k, none⟩) (World.block_lt_of_cell? _ _ xo)).trans xo
        have HF := (show Hid (FaD n cx k out) from hF)
        have HO := (show Hid (∀ (wr : World) q v, Below w4.heap.size w4 wr → out[q]? = some v → wr.cell? ⟨gO, q, none⟩ = some (.int .i64 v)) from fun wr q v hb hq => by
          have x := (hO.at' hq).1
          exact (hb.cell (p := ⟨gO, q, none⟩) (World.block_lt_of_cell? _ _ x)).trans x)
        have HT := (show Hid (PtP cx k (m0 + 1) [k] m0 k ∧ Ds cx k (m0 + 1) k ∧ ∀ q, q < k → ¬ Rc n cx q q) from ⟨PtP.start hd, hd, HW.out.2⟩)
        clear hF hO b4 hv hd HW HFa hw5 hb5
        go_wp2_with (rw [HE5.out])
        clear xo xo5 HE5 hsub ht0
        go_loopw [5, 6, 7] (fun u s t wr => ∃ (l : List Nat) (ln m a : Nat) (A5 : Option Addr) (c5 : Nat), u = .slice A5 ln c5 ∧ ln ≤ 200 ∧ s = .int .i64 (a : Int) ∧ a < n ∧ t = .int .i64 (m : Int) ∧ Hid (PaS w4 wr l (.slice A5 ln c5) ∧ ln = l.length) ∧ Hid (PtP cx k (m0 + 1) l m a)) (fun _ _ t _ => (intOf t).toNat)
        case atStart => exact ⟨[k], 1, m0, k, _, _, rfl, by omega, by go_num, hlt, by go_num, ⟨HP5.out, rfl⟩, HT.out.1⟩
        case round =>
          obtain ⟨l, ln, m, a, A5, c5, rfl, hln, rfl, ha, rfl, HPa, HPt⟩ := hrel
          clear HP5
          by_cases hm : m = 0
          · subst hm
            have HFin := (show Hid (CyR n cx l ∧ wr.ownsRow w.heap.size 3 1 (.slice A5 ln c5) l.length (l.map U.nI) ∧ Below w.heap.size w wr) from ⟨.inr ⟨k, m0 + 1, HT.out.2.1, HT.out.2.2, HPt.out.fin⟩, U.own_base HPa.out.1.o HB4.out.size, HB4.out.trans (HPa.out.1.b.mono HB4.out.size)⟩)
            clear HPa HPt HT HF HO HB4
            go_wp2_with fail
            go_ret
            exact ⟨⟨_, l, rfl, HFin.out.1, HFin.out.2.1⟩, HFin.out.2.2⟩
          · obtain ⟨m2, rfl⟩ : ∃ m2, m = m2 + 1 := ⟨m - 1, by omega⟩
            have HEx := (show Hid (∃ x, x < n ∧ cx a x = true ∧ out[x]? = some ((m2 + 1 : Nat) : Int)) from by
              obtain ⟨x, h1, h2⟩ := HPt.out.d.next (Nat.succ_pos m2)
              exact ⟨x, (HC.out.1 a x h1).2, h1, HF.out.y x _ h2⟩)
            have hm0 : (0 : Int) < ((m2 + 1 : Nat) : Int) := by omega
            have hm2 : m2 + 1 ≤ 200 := by have h1 := HPt.out.n; have h2 := HC.out.2; omega
            have hsub : ((m2 + 1 : Nat) : Int) - 1 = (m2 : Int) := by omega
            have HL0 := (show Hid (∀ x, x < 0 → ¬ (cx a x = true ∧ out[x]? = some ((m2 + 1 : Nat) : Int))) from fun x h => absurd h (Nat.not_lt_zero _))
            go_wp2_with fail
            go_loopw [8] (fun t wr2 => ∃ q : Nat, t = .int .i64 (q : Int) ∧ q < n ∧ wr2 = wr ∧ Hid (∀ x, x < q → ¬ (cx a x = true ∧ out[x]? = some ((m2 + 1 : Nat) : Int)))) (fun t _ => n - (intOf t).toNat)
            case atStart => exact ⟨0, by go_num, by omega, rfl, HL0⟩
            case round =>
              obtain ⟨q, rfl, hq, rfl, HL⟩ := hrel
              clear HL0
              obtain ⟨b, g2, c2, rfl, lb, x1, lg, y1⟩ := HRd.out a ha
              have hbw : Below w.heap.size w wr := HB4.out.trans (HPa.out.1.b.mono HB4.out.size)
              have x1' := (hbw.cell (p := ⟨b, a, none⟩) lb).trans x1
              have y1' := (hbw.cell (p := ⟨g2, q, none⟩) lg).trans (y1 q hq)
              obtain ⟨v, hv⟩ : ∃ v, out[q]? = some v := ⟨_, List.getElem?_eq_getElem (by rw [HF.out.l]; exact hq)⟩
              have xq := HO.out wr q v HPa.out.1.b hv
              have z2 : (0 : Int) ≤ (a : Int) := by omega
              have z3 : (a : Int) < (n : Int) := by omega
              have z4 : (0 : Int) ≤ (q : Int) := by omega
              have z5 : (q : Int) < (n : Int) := by omega
              have HV := (show Hid (out[q]? = some v) from hv)
              clear lb x1 lg y1 hbw hv
              by_cases hyes : cx a q = true ∧ v = ((m2 + 1 : Nat) : Int)
              · obtain ⟨hcx, rfl⟩ := hyes
                rw [hcx] at y1'
                have HP2 := (show Hid (PtP cx k (m0 + 1) (l ++ [q]) m2 q) from HPt.out.push hcx (by
                  rcases HF.out.n q _ HV.out with ⟨e, _⟩ | ⟨t, e, hd⟩
                  · omega
                  · have e2 : t = m2 + 1 := by omega
                    rw [← e2]; exact hd) (fun x h1 h2 => by
                  by_cases hx : x < q
                  · exact absurd ⟨h1, HF.out.y x _ h2⟩ (HL.out x hx)
                  · omega))
                have HPu := (show Hid (∀ (g9 cap9 : Nat) (w9 : World), w9.ownsRow w4.heap.size 3 1 (.slice (some ⟨g9, 0, none⟩) (ln + 1) cap9) (ln + 1) (l.map U.nI ++ [U.nI q]) → wr.grownBy w9 (Value.slice A5 ln c5).ownBlock → PaS w4 w9 (l ++ [q]) (.slice (some ⟨g9, 0, none⟩) (ln + 1) cap9) ∧ ln + 1 = (l ++ [q]).length) from fun g9 cap9 w9 h1 h2 => by
                  have e := HPa.out.2
                  refine ⟨⟨below_grown HPa.out.1.b h2 (fun x hx => (HPa.out.1.o.lt x hx).1), ?_⟩, by rw [List.length_append, List.length_singleton, e]⟩
                  rw [List.length_append, List.length_singleton, ← e, List.map_append]
                  exact h1)
                have HO8 := (show Hid (wr.ownsRow w4.heap.size 3 1 (.slice A5 ln c5) ln (l.map U.nI)) from by have h := HPa.out.1.o; rw [← HPa.out.2] at h; exact h)
                have HN8 := (show Hid (w4.heap.size ≤ wr.heap.size) from HPa.out.1.b.size)
                have hl2 : ln + 1 ≤ 200 := by
                  have h1 := HP2.out.n
                  rw [List.length_append, List.length_singleton, ← HPa.out.2] at h1
                  have := HC.out.2
                  omega
                clear hcx HL HEx HPt HV HPa
                go_wp2_with (at_builtin; refine U.wpList_app1 rfl _ _ 29 rfl (.int .i64 0) 8 Tryz.underlying29 Tryz.info3 rfl w4.heap.size ln _ (l.map U.nI) rfl rfl HO8.out rfl (by omega) (by decide) HN8.out ?_; intro g9 cap9 w9 ho9 hg9 hat9 hl9; have HV9 := hid_of (HPu.out g9 cap9 w9 ho9 hg9); clear ho9 hg9 hat9 hl9 HPu HO8 HN8 x1' y1' xq)
                go_roundw
                case rel => exact ⟨l ++ [q], ln + 1, m2, q, _, _, rfl, hl2, by go_num, hq, by go_num, HV9, HP2⟩
                case measure => simp [intOf]
              · have hq2 : q + 1 < n := by
                  obtain ⟨x, h1, h2, h3⟩ := HEx.out
                  have : ¬ x < q := fun h => HL.out x h ⟨h2, h3⟩
                  by_cases e : x = q
                  · subst e
                    rw [HV.out] at h3
                    exact absurd ⟨h2, Option.some.inj h3⟩ hyes
                  · omega
                have HL2 := (show Hid (∀ x, x < q + 1 → ¬ (cx a x = true ∧ out[x]? = some ((m2 + 1 : Nat) : Int))) from fun x hx h => by
                  by_cases e : x = q
                  · subst e
                    have h3 := h.2
                    rw [HV.out] at h3
                    exact hyes ⟨h.1, Option.some.inj h3⟩
                  · exact HL.out x (by omega) h)
                cases hcx : cx a q with
                | false =>
                  rw [hcx] at y1'
                  clear hyes hcx HL HV
                  go_wp2_with fail
                  go_roundw
                  case rel => exact ⟨q + 1, by go_num, hq2, by first | rfl | trivial, HL2⟩
                  case measure => simp [intOf]; omega
                | true =>
                  rw [hcx] at y1'
                  have hvv : (v == ((m2 + 1 : Nat) : Int)) = false := beq_eq_false_iff_ne.2 (fun e => hyes ⟨hcx, e⟩)
                  have hvn : (v != ((m2 + 1 : Nat) : Int)) = true := by rw [bne, hvv]; rfl
                  clear hyes hcx HL HV
                  go_wp2_with fail
                  go_roundw
                  case rel => exact ⟨q + 1, by go_num, hq2, by first | rfl | trivial, HL2⟩
                  case measure => simp [intOf]; omega
    · obtain rfl : k = n := by omega
      have HFin := (show Hid (CyR k cx [] ∧ Below w.heap.size w wr) from ⟨.inl ⟨rfl, fun r q => by
        by_cases hr : r < k
        · exact HW.out.2 r hr q
        · have := Rc.least (d := fun i j => i < k ∧ j < k) HC.out.1 (fun _ _ _ _ a b => ⟨a.1, b.2⟩) q
          omega⟩, HW.out.1⟩)
      clear HW HC HRd
      go_wp2_with fail
      go_ret
      exact ⟨⟨_, [], rfl, HFin.out.1, World.ownsRow_nil _ _ _ _⟩, HFin.out.2⟩
end Go.Proofs.YtbipjdgholdhcabGreat.N

namespace Go.Proofs.YtbipjdgholdhcabGreat.N
open Go.RowKit Go.Maps
open Go.Proofs.YtbipjdgholdhcabGreat.T

open U (below_grown own_get own_slice TT)
theorem lsB_map (n : Nat) (c : Nat → Bool) : lsB ((List.range n).map c) = (List.range n).filter c := by
  unfold lsB
  rw [List.length_map, List.length_range]
  refine List.filter_congr fun i hi => ?_
  rw [List.getElem?_map, List.getElem?_range (List.mem_range.1 hi)]
  rfl
/-- What Heads says, by the document. -/
def HdD (gs : GL) (now : List Em) (B : Nat) (w' : World) (i : Int) (e : Ending) : Prop := ((ckG gs).2 ≠ 0 → e = .returned (.tuple #[.slice none 0 0, .int .i64 (ckG gs).2])) ∧ ((ckG gs).2 = 0 → (i < 0 ∨ (gs.length : Int) ≤ i → e = .returned (.tuple #[.slice none 0 0, .int .i64 1])) ∧ (∀ r : Nat, i = (r : Int) → r < gs.length → ∃ v, e = .returned (.tuple #[v, .int .i64 0]) ∧ w'.ownsRow B 3 1 v (hdl gs.length (hdM gs (nbE now)) r).length ((hdl gs.length (hdM gs (nbE now)) r).map U.nI)))
set_option maxRecDepth 100000 in
set_option maxHeartbeats 16000000 in
theorem headsD10_any {gs : GL} {now : List Em} (hk : (ckG gs).2 = 0 → KnF gs now ∧ now.length = gs.length) (A : Option Addr) (c : Nat) (i : Int) (w : World) (hp : GI w A gs) :
    Calls Tryz.prog 27 #[.agg #[.slice A gs.length c], .int .i64 i] w fun e w' => HdD gs now w.heap.size w' i e ∧ Below w.heap.size w w' := by
  obtain ⟨w1, hw1⟩ : ∃ w1, w1 = w.alloc (.cells #[.slice A gs.length c] 24) := ⟨_, rfl⟩
  have HE1 := (show Hid (w.alloc (.cells #[.slice A gs.length c] 24) = w1) from hw1.symm)
  have HS := (show Hid (Below w.heap.size w w1 ∧ GX w1 w.heap.size (.slice A gs.length c)) from by rw [hw1]; exact ⟨below_box _ _, GX.mk (heap_alloc_new w _)⟩)
  have HCk := (show Hid (∀ _ : Unit, Calls Tryz.prog 33 #[.agg #[.slice A gs.length c]] w1 fun e w' => e = .returned (.tuple #[.agg #[.int .i64 (ckG gs).1.1, .int .i64 (ckG gs).1.2], .int .i64 (ckG gs).2]) ∧ Below w1.heap.size w1 w') from fun _ => checkD_any gs A c w1 (hp.later HS.out.1))
  have HP := (show Hid (GI w A gs) from hp)
  have q1 := HS.out.2.cl
  clear hw1 hp
  go_enter Tryz.func27, Tryz.ntmps27
  go_wp2_with (rw [HE1.out])
  refine (HCk.out ()).mono ?_
  rintro e w2 ⟨rfl, b2⟩
  obtain ⟨w3, hw3⟩ : ∃ w3, w3 = w2.alloc (.cells #[.int .i64 ((ckG gs).1.1 : Int), .int .i64 ((ckG gs).1.2 : Int)] 31) := ⟨_, rfl⟩
  have HE3 := (show Hid (w2.alloc (.cells #[.int .i64 ((ckG gs).1.1 : Int), .int .i64 ((ckG gs).1.2 : Int)] 31) = w3) from hw3.symm)
  have hb3 : Below w2.heap.size w2 w3 := by rw [hw3]; exact below_box _ _
  have HB3 := (show Hid (Below w.heap.size w w3 ∧ GX w3 w.heap.size (.slice A gs.length c)) from ⟨(HS.out.1.trans (b2.mono HS.out.1.size)).trans (hb3.mono (HS.out.1.trans (b2.mono HS.out.1.size)).size), (HS.out.2.below b2).below hb3⟩)
  have q3 := HB3.out.2.cl
  clear HCk HE1 q1 HS b2 hw3 hb3
  by_cases hz : (ckG gs).2 = 0
  · have tz : ((ckG gs).2 != 0) = false := by rw [hz]; rfl
    have HK := (show Hid (KnF gs now ∧ now.length = gs.length ∧ (ckG gs).2 = 0) from ⟨(hk hz).1, (hk hz).2, hz⟩)
    clear hk hz
    by_cases h0 : i < 0
    · have HI := (show Hid (i < 0) from h0)
      go_wp2_with (rw [HE3.out])
      refine bodyPost_ret (v := .tuple #[.slice none 0 0, .int .i64 1]) (by simp [results, Tryz.results27, go_sem]) rfl ?_
      exact ⟨⟨fun q => absurd HK.out.2.2 q, fun _ => ⟨fun _ => rfl, fun r e1 _ => by have := HI.out; omega⟩⟩, HB3.out.1⟩
    · obtain ⟨r, rfl⟩ : ∃ r : Nat, i = (r : Int) := ⟨i.toNat, by omega⟩
      by_cases h1 : r < gs.length
      · have h2 : ¬ (gs.length : Int) ≤ (r : Int) := by omega
        have HI := (show Hid (r < gs.length) from h1)
        have HKe := (show Hid (∀ W, Below w3.heap.size w3 W → W.cell? ⟨w.heap.size, 0, none⟩ = some (.slice A gs.length c)) from fun W hW => (HB3.out.2.below hW).cl)
        have HC1 := (show Hid (∀ W, Below w3.heap.size w3 W → Calls Tryz.prog 50 #[.agg #[.slice A gs.length c]] W fun e w' => (∃ gI ci, e = .returned (.slice (some ⟨gI, 0, none⟩) gs.length ci) ∧ RdB w' gI (nbE now)) ∧ Below w3.heap.size w3 w') from fun W hW => by
          have hR := ckG_ok.1 HK.out.2.2
          refine (nullableD_any hR HK.out.1 HK.out.2.1 A c W (HP.out.later (HB3.out.1.trans (hW.mono HB3.out.1.size)))).mono ?_
          rintro e w' ⟨⟨v, rfl, ho⟩, b⟩
          obtain ⟨gI, ci, rfl, _⟩ := ho.form hR.n1
          exact ⟨⟨gI, ci, rfl, rdB_own ho⟩, hW.trans (b.mono hW.size)⟩)
        have HC2 := (show Hid (∀ W gI ci, Below w3.heap.size w3 W → RdB W gI (nbE now) → Calls Tryz.prog 49 #[.agg #[.slice A gs.length c], .int .i64 (r : Int), .slice (some ⟨gI, 0, none⟩) gs.length ci] W fun e w' => (∃ Ab cb, e = .returned (.slice Ab gs.length cb) ∧ w'.ownsRow w3.heap.size 4 1 (.slice Ab gs.length cb) gs.length (((List.range gs.length).map (hdM gs (nbE now) r)).map Value.bool)) ∧ Below w3.heap.size w3 w') from fun W gI ci hW hI => by
          have hR := ckG_ok.1 HK.out.2.2
          refine (headsM_any hR (nbE now) (by unfold nbE; rw [List.length_map]; exact HK.out.2.1) HI.out A c gI ci W (HP.out.later (HB3.out.1.trans (hW.mono HB3.out.1.size))) hI).mono ?_
          rintro e w' ⟨⟨v, rfl, ho⟩, b⟩
          obtain ⟨Ab, cb, rfl⟩ := own_slice ho
          exact ⟨⟨Ab, cb, rfl, own_base ho hW.size⟩, hW.trans (b.mono hW.size)⟩)
        have HC3 := (show Hid (∀ W Ab cb, Below w3.heap.size w3 W → W.ownsRow w3.heap.size 4 1 (.slice Ab gs.length cb) gs.length (((List.range gs.length).map (hdM gs (nbE now) r)).map Value.bool) → Calls Tryz.prog 48 #[.slice Ab gs.length cb] W fun e w' => (∃ v, e = .returned v ∧ w'.ownsRow w3.heap.size 3 1 v (hdl gs.length (hdM gs (nbE now)) r).length ((hdl gs.length (hdM gs (nbE now)) r).map U.nI)) ∧ Below w3.heap.size w3 w') from fun W Ab cb hW ho => by
          have hR := ckG_ok.1 HK.out.2.2
          have h := listed_any ((List.range gs.length).map (hdM gs (nbE now) r)) (by rw [List.length_map, List.length_range]; exact hR.n2) (B4 := w3.heap.size) (v := .slice Ab gs.length cb) W (by rw [List.length_map, List.length_range]; exact ho)
          rw [lsB_map] at h
          refine h.mono ?_
          rintro e w' ⟨⟨v, rfl, ho⟩, b⟩
          exact ⟨⟨v, rfl, own_base ho hW.size⟩, hW.trans (b.mono hW.size)⟩)
        clear HP
        go_wp2_with (rw [HE3.out])
        go_region_held3 (fun W => W.cell? ⟨w.heap.size, 0, none⟩ = some (.slice A gs.length c)) (first | go_keep | exact HKe.out _ bA | exact HKe.out _ bB | exact HKe.out _ bC) (first | (go_at_call 50; with_reducible refine (HC1.out _ (Below.refl _ _).drew).mono ?_; rintro e wA ⟨⟨gI, ci, rfl, rI⟩, bA⟩) | (go_at_call 49; with_reducible refine (HC2.out _ _ _ bA rI).mono ?_; rintro e wB ⟨⟨Ab, cb, rfl, oB⟩, bB⟩) | (go_at_call 48; with_reducible refine (HC3.out _ _ _ bB oB).mono ?_; rintro e wC ⟨⟨v, rfl, oC⟩, bC⟩))
        rename_i hHeld
        have HF := (show Hid (wC.ownsRow w.heap.size 3 1 v (hdl gs.length (hdM gs (nbE now)) r).length ((hdl gs.length (hdM gs (nbE now)) r).map U.nI) ∧ Below w.heap.size w wC) from ⟨own_base oC HB3.out.1.size, HB3.out.1.trans (bC.mono HB3.out.1.size)⟩)
        clear hHeld rI bA oB bB oC bC HC1 HC2 HC3 HKe HE3 q3
        go_wp2_with fail
        refine bodyPost_ret (v := .tuple #[v, .int .i64 0]) (by simp [results, Tryz.results27, go_sem]) rfl ?_
        exact ⟨⟨fun q => absurd HK.out.2.2 q, fun _ => ⟨fun q => by have := HI.out; omega, fun r2 e1 _ => by
          have e2 : r = r2 := by omega
          subst e2
          exact ⟨v, rfl, HF.out.1⟩⟩⟩, HF.out.2⟩
      · have h2 : (gs.length : Int) ≤ (r : Int) := by omega
        have HI := (show Hid (¬ r < gs.length) from h1)
        go_wp2_with (rw [HE3.out])
        refine bodyPost_ret (v := .tuple #[.slice none 0 0, .int .i64 1]) (by simp [results, Tryz.results27, go_sem]) rfl ?_
        exact ⟨⟨fun q => absurd HK.out.2.2 q, fun _ => ⟨fun _ => rfl, fun r2 e1 h3 => by have := HI.out; omega⟩⟩, HB3.out.1⟩
  · have tz : ((ckG gs).2 != 0) = true := by rw [bne, beq_eq_false_iff_ne.2 hz]; rfl
    have HZ := (show Hid ((ckG gs).2 ≠ 0) from hz)
    clear hz hk HP
    go_wp2_with (rw [HE3.out])
    refine bodyPost_ret (v := .tuple #[.slice none 0 0, .int .i64 (ckG gs).2]) (by simp [results, Tryz.results27, go_sem]) rfl ?_
    exact ⟨⟨fun _ => rfl, fun q => absurd q HZ.out⟩, HB3.out.1⟩
end Go.Proofs.YtbipjdgholdhcabGreat.N

namespace Go.Proofs.YtbipjdgholdhcabGreat.N
open Go.RowKit Go.Maps
open Go.Proofs.YtbipjdgholdhcabGreat.T

open U (below_grown own_get own_slice TT)
/-- While the document tells loops. -/
structure LoD (w2 wr : World) (n : Nat) (l : List (Nat × Nat)) (v : Value) : Prop where
  b : Below w2.heap.size w2 wr
  o : wr.ownsRow w2.heap.size 31 2 v n (spc l)
  l : n = l.length
theorem LoD.later {w2 wr w3 : World} {n : Nat} {l : List (Nat × Nat)} {v : Value} (h : LoD w2 wr n l v) (hb : Below wr.heap.size wr w3) : LoD w2 w3 n l v := ⟨h.b.trans (hb.mono h.b.size), U.own_below h.o hb, h.l⟩
theorem LoD.push {w2 wr w3 : World} {n : Nat} {l : List (Nat × Nat)} {v v2 : Value} {p : Nat × Nat} (h : LoD w2 wr n l v) (ho : w3.ownsRow w2.heap.size 31 2 v2 (n + 1) (spc (l ++ [p]))) (hg : wr.grownBy w3 v.ownBlock) : LoD w2 w3 (n + 1) (l ++ [p]) v2 :=
  ⟨below_grown h.b hg (fun q hq => (h.o.lt q hq).1), ho, by rw [List.length_append, h.l]; rfl⟩
structure LpD (w2 wr : World) (n : Nat) (l : List (Nat × Nat)) (v : Value) (gN cN ln : Nat) (E : Nat → Bool) : Prop where
  s : LoD w2 wr n l v
  o : wr.ownsRow w2.heap.size 4 1 (.slice (some ⟨gN, 0, none⟩) ln cN) ln ((List.range ln).map fun j => Value.bool (E j))
theorem LpD.push {w2 wr w3 : World} {n : Nat} {l : List (Nat × Nat)} {v v2 : Value} {gN cN ln : Nat} {E : Nat → Bool} {p : Nat × Nat} (h : LpD w2 wr n l v gN cN ln E) (ho : w3.ownsRow w2.heap.size 31 2 v2 (n + 1) (spc (l ++ [p]))) (hg : wr.grownBy w3 v.ownBlock) : LpD w2 w3 (n + 1) (l ++ [p]) v2 gN cN ln E :=
  ⟨h.s.push ho hg, U.own_kept h.o hg (fun k e => own_apart h.s.o h.o (by decide) e)⟩
theorem LpD.at' {w2 wr : World} {n : Nat} {l : List (Nat × Nat)} {v : Value} {gN cN ln : Nat} {E : Nat → Bool} (h : LpD w2 wr n l v gN cN ln E) {j : Nat} (hj : j < ln) : wr.cell? ⟨gN, j, none⟩ = some (.bool (E j)) := by
  obtain ⟨g5, c5, e5, _, _, x5, _⟩ := own_get h.o (j := j) (x := .bool (E j)) (by rw [List.getElem?_map, List.getElem?_range hj]; rfl)
  injection e5 with e6 _ _
  obtain ⟨rfl, _⟩ := Addr.mk.inj (Option.some.inj e6)
  exact x5
set_option maxRecDepth 100000 in
set_option maxHeartbeats 32000000 in
/-- The document's loops of a grammar. -/
theorem loopsG_any {gs : GL} (hR : RtG gs) {now : List Em} (hk : KnF gs now) (hnl : now.length = gs.length) (A : Option Addr) (c : Nat) (w : World) (hp : GI w A gs) :
    Calls Tryz.prog 47 #[.agg #[.slice A gs.length c]] w fun e w' => (∃ v, e = .returned v ∧ w'.ownsRow w.heap.size 31 2 v (lpG gs (nbE now) gs.length).length (spc (lpG gs (nbE now) gs.length))) ∧ Below w.heap.size w w' := by
  have hn2 := hR.n2
  have hn1 := hR.n1
  obtain ⟨w1, hw1⟩ : ∃ w1, w1 = w.alloc (.cells #[.slice A gs.length c] 24) := ⟨_, rfl⟩
  have HE1 := (show Hid (w.alloc (.cells #[.slice A gs.length c] 24) = w1) from hw1.symm)
  have HS1 := (show Hid (Below w.heap.size w w1 ∧ GX w1 w.heap.size (.slice A gs.length c)) from by rw [hw1]; exact ⟨below_box _ _, GX.mk (heap_alloc_new w _)⟩)
  have HN := (show Hid (∀ _ : Unit, Calls Tryz.prog 50 #[.agg #[.slice A gs.length c]] w1 fun e w' => (∃ v, e = .returned v ∧ w'.ownsRow w1.heap.size 4 1 v gs.length ((now.map Em.nu).map Value.bool)) ∧ Below w1.heap.size w1 w') from fun _ => nullableD_any hR hk hnl A c w1 (hp.later HS1.out.1))
  have HR := (show Hid (RtG gs ∧ (nbE now).length = gs.length ∧ 0 < gs.length) from ⟨hR, by unfold nbE; rw [List.length_map]; exact hnl, hn1⟩)
  have HP := (show Hid (GI w A gs) from hp)
  have q1 := HS1.out.2.cl
  clear hR hk hnl hp hw1 hn1
  go_enter Tryz.func47, Tryz.ntmps47
  go_wp2_with (rw [HE1.out])
  refine (HN.out ()).mono ?_
  rintro e w2 ⟨⟨v2, rfl, ho2⟩, b2⟩
  obtain ⟨gI, ci, rfl, _⟩ := ho2.form HR.out.2.2
  have HB2 := (show Hid (Below w.heap.size w w2 ∧ GX w2 w.heap.size (.slice A gs.length c) ∧ RdB w2 gI (nbE now)) from ⟨HS1.out.1.trans (b2.mono HS1.out.1.size), HS1.out.2.below b2, rdB_own ho2⟩)
  have HS := (show Hid (LoD w2 w2 0 (lpG gs (nbE now) 0) (.slice none 0 0)) from ⟨Below.refl _ _, World.ownsRow_nil _ _ _ _, rfl⟩)
  clear HE1 q1 HN HS1 ho2 b2
  go_wp2_with fail
  go_loopw [4, 5] (fun v t wr => ∃ (k n : Nat), k ≤ gs.length ∧ n ≤ 409600 ∧ t = .int .i64 (k : Int) ∧ Hid (LoD w2 wr n (lpG gs (nbE now) k) v)) (fun _ t _ => gs.length - (intOf t).toNat)
  case atStart => exact ⟨0, 0, Nat.zero_le _, by omega, by go_num, HS⟩
  case round =>
    obtain ⟨k, n, hk, hn, rfl, HW⟩ := hrel
    clear HS
    have hbw : Below w.heap.size w wr := HB2.out.1.trans (HW.out.b.mono HB2.out.1.size)
    have q1 := (HB2.out.2.1.below HW.out.b).cl
    by_cases hlt : k < gs.length
    · obtain ⟨⟨gn, L⟩, hg⟩ : ∃ g, gs[k]? = some g := ⟨_, List.getElem?_eq_getElem hlt⟩
      have hm := List.mem_of_getElem? hg
      obtain ⟨hrt, _, _, hpos, hlen⟩ := rt_facts HR.out.1 hm
      have hrt : Rt L := hrt
      have hpos : 0 < L.length := hpos
      have hlen : L.length ≤ 2048 := hlen
      obtain ⟨b, o, A3, c3, rfl, lb, x0, x1, r2⟩ := HP.out.d k _ hg
      have hLn : L ≠ [] := by rintro rfl; simp at hpos
      have hr2 := r2
      obtain ⟨gp, op, rfl, lp, cl⟩ := r2 hLn
      have x1' := (hbw.cell (p := ⟨b, o + k * 2 + 1, none⟩) lb).trans x1
      have z0 : (0 : Int) ≤ (k : Int) := by omega
      have z1 : (k : Int) < (gs.length : Int) := by omega
      have HNo := (show Hid (∀ _ : Unit, Calls Tryz.prog 61 #[.agg #[.slice (some ⟨b, o, none⟩) gs.length c], .slice (some ⟨gp, op, none⟩) L.length c3, .slice (some ⟨gI, 0, none⟩) gs.length ci] wr fun e w' => (∃ v, e = .returned v ∧ w'.ownsRow wr.heap.size 4 1 v L.length ((List.range L.length).map fun j => Value.bool ((nuA (kdR L) (lkB gs (nbE now)) L) j))) ∧ Below wr.heap.size wr w') from fun _ => nothing10_any hrt (HP.out.t _ hm).2.2 (fun n hn h6 => HR.out.1.dn.c _ hm n hn h6) (nbE now) HR.out.2.1 (some ⟨b, o, none⟩) (some ⟨gp, op, none⟩) c c3 gI ci wr (HP.out.later hbw) (hr2.below hbw (Nat.le_refl _)) (HB2.out.2.2.later HW.out.b))
      have HCl := (show Hid (NdL w gp op L ∧ gp < w.heap.size) from ⟨cl, lp⟩)
      have HLk := (show Hid (∀ j, j ≤ L.length → (lpG gs (nbE now) k ++ lpK k L (nuA (kdR L) (lkB gs (nbE now)) L) j).length ≤ 409600) from fun j hj => by
        have h1 := lpG_len (nb := nbE now) (fun g hg => (rt_facts HR.out.1 hg).2.2.2.2) k
        have h2 := lpK_len (i := k) (L := L) (nu := (nuA (kdR L) (lkB gs (nbE now)) L)) j
        have : k * 2048 ≤ 199 * 2048 := Nat.mul_le_mul_right _ (by omega)
        rw [List.length_append]
        omega)
      have HSuc := (show Hid (∀ (j : Nat) n, L[j]? = some n → lpG gs (nbE now) k ++ lpK k L (nuA (kdR L) (lkB gs (nbE now)) L) (j + 1) = if rpB n && (nuA (kdR L) (lkB gs (nbE now)) L) (j - 1) then (lpG gs (nbE now) k ++ lpK k L (nuA (kdR L) (lkB gs (nbE now)) L) j) ++ [(k, j)] else lpG gs (nbE now) k ++ lpK k L (nuA (kdR L) (lkB gs (nbE now)) L) j) from fun j n hn => by
        rw [lpK_succ hn]
        split
        · rw [List.append_assoc]
        · rfl)
      have HFin := (show Hid (lpG gs (nbE now) k ++ lpK k L (nuA (kdR L) (lkB gs (nbE now)) L) L.length = lpG gs (nbE now) (k + 1)) from (lpG_succ hg).symm)
      have HRt := (show Hid (Rt L) from hrt)
      clear hg hm hrt lb x0 x1 r2 hr2 hLn lp cl hbw
      go_wp2_with fail
      refine (HNo.out ()).mono ?_
      rintro e w5 ⟨⟨v5, rfl, ho5⟩, b5⟩
      obtain ⟨gN, cN, rfl, _, _, _, _⟩ := own_get ho5 (j := 0) (x := .bool ((nuA (kdR L) (lkB gs (nbE now)) L) 0)) (by rw [List.getElem?_map, List.getElem?_range hpos]; rfl)
      have HW5 := (show Hid (LpD w2 w5 n (lpG gs (nbE now) k ++ lpK k L (nuA (kdR L) (lkB gs (nbE now)) L) 0) u4 gN cN L.length (nuA (kdR L) (lkB gs (nbE now)) L)) from ⟨by have h := HW.out.later b5; rw [show lpK k L (nuA (kdR L) (lkB gs (nbE now)) L) 0 = [] from rfl, List.append_nil]; exact h, U.own_base ho5 HW.out.b.size⟩)
      clear ho5 b5 HNo HW x1' hpos q1
      go_wp2_with fail
      go_loopw [4, 8] (fun v t wr => ∃ (j n2 : Nat), j ≤ L.length ∧ n2 ≤ 409600 ∧ t = .int .i64 (j : Int) ∧ Hid (LpD w2 wr n2 (lpG gs (nbE now) k ++ lpK k L (nuA (kdR L) (lkB gs (nbE now)) L) j) v gN cN L.length (nuA (kdR L) (lkB gs (nbE now)) L))) (fun _ t _ => L.length - (intOf t).toNat)
      case atStart => exact ⟨0, n, Nat.zero_le _, by omega, by go_num, HW5⟩
      case round =>
        obtain ⟨j, n2, hj, hn2', rfl, HX⟩ := hrel
        clear HW5
        by_cases hjl : j < L.length
        · obtain ⟨nd, hnd⟩ : ∃ nd, L[j]? = some nd := ⟨_, List.getElem?_eq_getElem hjl⟩
          obtain ⟨c0, _⟩ := (HCl.out.1.same ((HB2.out.1.trans (HX.out.s.b.mono HB2.out.1.size)).block gp HCl.out.2)) j nd hnd
          have z2 : (0 : Int) ≤ (j : Int) := by omega
          have z3 : (j : Int) < (L.length : Int) := by omega
          have HSj := hid_of (HSuc.out j nd hnd)
          have HPj := (show Hid (rpB nd = true → 0 < j) from fun h => rp_pos HRt.out hnd h)
          clear hnd
          by_cases h9 : nd.op = 9
          · have t9 : (nd.op == 9) = true := by rw [h9]; rfl
            have hrp : rpB nd = true := by unfold rpB; rw [t9]; rfl
            obtain ⟨j0, hj0⟩ : ∃ j0, j = j0 + 1 := ⟨j - 1, by have := HPj.out hrp; omega⟩
            have hsub : (j : Int) - 1 = (j0 : Int) := by omega
            have z4 : (0 : Int) ≤ (j0 : Int) := by omega
            have z5 : (j0 : Int) < (L.length : Int) := by omega
            have m0 := HX.out.at' (j := j0) (by omega)
            have hj1 : j + 1 ≤ L.length := by omega
            have HJ := (show Hid (j = j0 + 1) from hj0)
            cases hnu : (nuA (kdR L) (lkB gs (nbE now)) L) j0 with
            | false =>
              rw [hnu] at m0
              have HN := (show Hid (LpD w2 wr n2 (lpG gs (nbE now) k ++ lpK k L (nuA (kdR L) (lkB gs (nbE now)) L) (j + 1)) u4 gN cN L.length (nuA (kdR L) (lkB gs (nbE now)) L)) from by rw [HSj.out, hrp, Bool.true_and, show j - 1 = j0 from by omega, hnu, if_neg Bool.noConfusion]; exact HX.out)
              clear HX HSj HPj hrp hnu hj0 h9
              go_wp2_with fail
              go_roundw
              case rel => exact ⟨j + 1, n2, by omega, by omega, by go_num, HN⟩
              case measure => simp [intOf]; omega
            | true =>
              rw [hnu] at m0
              obtain ⟨A2, c2, hA2⟩ := own_fs HX.out.s.o
              have HO8 := (show Hid (wr.ownsRow w2.heap.size 31 2 u4 n2 (spc (lpG gs (nbE now) k ++ lpK k L (nuA (kdR L) (lkB gs (nbE now)) L) j))) from HX.out.s.o)
              have HN8 := (show Hid (w2.heap.size ≤ wr.heap.size) from HX.out.s.b.size)
              have HPu := (show Hid (∀ (g9 cap9 : Nat) (w9 : World), w9.ownsRow w2.heap.size 31 2 (.slice (some ⟨g9, 0, none⟩) (n2 + 1) cap9) (n2 + 1) (spc ((lpG gs (nbE now) k ++ lpK k L (nuA (kdR L) (lkB gs (nbE now)) L) j) ++ [(k, j)])) → wr.grownBy w9 u4.ownBlock → Hid (LpD w2 w9 (n2 + 1) (lpG gs (nbE now) k ++ lpK k L (nuA (kdR L) (lkB gs (nbE now)) L) (j + 1)) (.slice (some ⟨g9, 0, none⟩) (n2 + 1) cap9) gN cN L.length (nuA (kdR L) (lkB gs (nbE now)) L)) ∧ n2 + 1 ≤ 409600) from fun g9 cap9 w9 h1 h2 => by
                have e : lpG gs (nbE now) k ++ lpK k L (nuA (kdR L) (lkB gs (nbE now)) L) (j + 1) = (lpG gs (nbE now) k ++ lpK k L (nuA (kdR L) (lkB gs (nbE now)) L) j) ++ [(k, j)] := by rw [HSj.out, hrp, Bool.true_and, show j - 1 = j0 from by omega, hnu, if_pos rfl]
                have hl := HX.out.s.l
                have hb := HLk.out (j + 1) (by omega)
                rw [e, List.length_append, ← hl] at hb
                refine ⟨?_, hb⟩
                show LpD _ _ _ _ _ _ _ _ _
                rw [e]
                exact HX.out.push h1 h2)
              subst hA2
              clear HX HSj HPj hrp hnu hj0 h9
              go_wp2_with (at_builtin; refine wpList_appS rfl _ _ rfl w2.heap.size n2 _ _ rfl rfl HO8.out (by omega) HN8.out ?_; intro g9 cap9 w9 ho9 hg9; obtain ⟨HV9, hn9⟩ := HPu.out g9 cap9 w9 ho9 hg9; clear ho9 hg9 HPu HO8 HN8 m0 c0 t9)
              go_roundw
              case rel => exact ⟨j + 1, n2 + 1, by omega, hn9, by go_num, HV9⟩
              case measure => simp [intOf]; omega
          by_cases h10 : nd.op = 10
          · have t9 : (nd.op == 9) = false := by rw [h10]; rfl
            have t10 : (nd.op == 10) = true := by rw [h10]; rfl
            have hrp : rpB nd = true := by unfold rpB; rw [t9, t10]; rfl
            obtain ⟨j0, hj0⟩ : ∃ j0, j = j0 + 1 := ⟨j - 1, by have := HPj.out hrp; omega⟩
            have hsub : (j : Int) - 1 = (j0 : Int) := by omega
            have z4 : (0 : Int) ≤ (j0 : Int) := by omega
            have z5 : (j0 : Int) < (L.length : Int) := by omega
            have m0 := HX.out.at' (j := j0) (by omega)
            have hj1 : j + 1 ≤ L.length := by omega
            have HJ := (show Hid (j = j0 + 1) from hj0)
            cases hnu : (nuA (kdR L) (lkB gs (nbE now)) L) j0 with
            | false =>
              rw [hnu] at m0
              have HN := (show Hid (LpD w2 wr n2 (lpG gs (nbE now) k ++ lpK k L (nuA (kdR L) (lkB gs (nbE now)) L) (j + 1)) u4 gN cN L.length (nuA (kdR L) (lkB gs (nbE now)) L)) from by rw [HSj.out, hrp, Bool.true_and, show j - 1 = j0 from by omega, hnu, if_neg Bool.noConfusion]; exact HX.out)
              clear HX HSj HPj hrp hnu hj0 h10
              go_wp2_with fail
              go_roundw
              case rel => exact ⟨j + 1, n2, by omega, by omega, by go_num, HN⟩
              case measure => simp [intOf]; omega
            | true =>
              rw [hnu] at m0
              obtain ⟨A2, c2, hA2⟩ := own_fs HX.out.s.o
              have HO8 := (show Hid (wr.ownsRow w2.heap.size 31 2 u4 n2 (spc (lpG gs (nbE now) k ++ lpK k L (nuA (kdR L) (lkB gs (nbE now)) L) j))) from HX.out.s.o)
              have HN8 := (show Hid (w2.heap.size ≤ wr.heap.size) from HX.out.s.b.size)
              have HPu := (show Hid (∀ (g9 cap9 : Nat) (w9 : World), w9.ownsRow w2.heap.size 31 2 (.slice (some ⟨g9, 0, none⟩) (n2 + 1) cap9) (n2 + 1) (spc ((lpG gs (nbE now) k ++ lpK k L (nuA (kdR L) (lkB gs (nbE now)) L) j) ++ [(k, j)])) → wr.grownBy w9 u4.ownBlock → Hid (LpD w2 w9 (n2 + 1) (lpG gs (nbE now) k ++ lpK k L (nuA (kdR L) (lkB gs (nbE now)) L) (j + 1)) (.slice (some ⟨g9, 0, none⟩) (n2 + 1) cap9) gN cN L.length (nuA (kdR L) (lkB gs (nbE now)) L)) ∧ n2 + 1 ≤ 409600) from fun g9 cap9 w9 h1 h2 => by
                have e : lpG gs (nbE now) k ++ lpK k L (nuA (kdR L) (lkB gs (nbE now)) L) (j + 1) = (lpG gs (nbE now) k ++ lpK k L (nuA (kdR L) (lkB gs (nbE now)) L) j) ++ [(k, j)] := by rw [HSj.out, hrp, Bool.true_and, show j - 1 = j0 from by omega, hnu, if_pos rfl]
                have hl := HX.out.s.l
                have hb := HLk.out (j + 1) (by omega)
                rw [e, List.length_append, ← hl] at hb
                refine ⟨?_, hb⟩
                show LpD _ _ _ _ _ _ _ _ _
                rw [e]
                exact HX.out.push h1 h2)
              subst hA2
              clear HX HSj HPj hrp hnu hj0 h10
              go_wp2_with (at_builtin; refine wpList_appS rfl _ _ rfl w2.heap.size n2 _ _ rfl rfl HO8.out (by omega) HN8.out ?_; intro g9 cap9 w9 ho9 hg9; obtain ⟨HV9, hn9⟩ := HPu.out g9 cap9 w9 ho9 hg9; clear ho9 hg9 HPu HO8 HN8 m0 c0 t9 t10)
              go_roundw
              case rel => exact ⟨j + 1, n2 + 1, by omega, hn9, by go_num, HV9⟩
              case measure => simp [intOf]; omega
          by_cases h15 : nd.op = 15
          · have t9 : (nd.op == 9) = false := by rw [h15]; rfl
            have t10 : (nd.op == 10) = false := by rw [h15]; rfl
            have t15 : (nd.op == 15) = true := by rw [h15]; rfl
            have hrp : rpB nd = true := by unfold rpB; rw [t9, t10, t15]; rfl
            obtain ⟨j0, hj0⟩ : ∃ j0, j = j0 + 1 := ⟨j - 1, by have := HPj.out hrp; omega⟩
            have hsub : (j : Int) - 1 = (j0 : Int) := by omega
            have z4 : (0 : Int) ≤ (j0 : Int) := by omega
            have z5 : (j0 : Int) < (L.length : Int) := by omega
            have m0 := HX.out.at' (j := j0) (by omega)
            have hj1 : j + 1 ≤ L.length := by omega
            have HJ := (show Hid (j = j0 + 1) from hj0)
            cases hnu : (nuA (kdR L) (lkB gs (nbE now)) L) j0 with
            | false =>
              rw [hnu] at m0
              have HN := (show Hid (LpD w2 wr n2 (lpG gs (nbE now) k ++ lpK k L (nuA (kdR L) (lkB gs (nbE now)) L) (j + 1)) u4 gN cN L.length (nuA (kdR L) (lkB gs (nbE now)) L)) from by rw [HSj.out, hrp, Bool.true_and, show j - 1 = j0 from by omega, hnu, if_neg Bool.noConfusion]; exact HX.out)
              clear HX HSj HPj hrp hnu hj0 h15
              go_wp2_with fail
              go_roundw
              case rel => exact ⟨j + 1, n2, by omega, by omega, by go_num, HN⟩
              case measure => simp [intOf]; omega
            | true =>
              rw [hnu] at m0
              obtain ⟨A2, c2, hA2⟩ := own_fs HX.out.s.o
              have HO8 := (show Hid (wr.ownsRow w2.heap.size 31 2 u4 n2 (spc (lpG gs (nbE now) k ++ lpK k L (nuA (kdR L) (lkB gs (nbE now)) L) j))) from HX.out.s.o)
              have HN8 := (show Hid (w2.heap.size ≤ wr.heap.size) from HX.out.s.b.size)
              have HPu := (show Hid (∀ (g9 cap9 : Nat) (w9 : World), w9.ownsRow w2.heap.size 31 2 (.slice (some ⟨g9, 0, none⟩) (n2 + 1) cap9) (n2 + 1) (spc ((lpG gs (nbE now) k ++ lpK k L (nuA (kdR L) (lkB gs (nbE now)) L) j) ++ [(k, j)])) → wr.grownBy w9 u4.ownBlock → Hid (LpD w2 w9 (n2 + 1) (lpG gs (nbE now) k ++ lpK k L (nuA (kdR L) (lkB gs (nbE now)) L) (j + 1)) (.slice (some ⟨g9, 0, none⟩) (n2 + 1) cap9) gN cN L.length (nuA (kdR L) (lkB gs (nbE now)) L)) ∧ n2 + 1 ≤ 409600) from fun g9 cap9 w9 h1 h2 => by
                have e : lpG gs (nbE now) k ++ lpK k L (nuA (kdR L) (lkB gs (nbE now)) L) (j + 1) = (lpG gs (nbE now) k ++ lpK k L (nuA (kdR L) (lkB gs (nbE now)) L) j) ++ [(k, j)] := by rw [HSj.out, hrp, Bool.true_and, show j - 1 = j0 from by omega, hnu, if_pos rfl]
                have hl := HX.out.s.l
                have hb := HLk.out (j + 1) (by omega)
                rw [e, List.length_append, ← hl] at hb
                refine ⟨?_, hb⟩
                show LpD _ _ _ _ _ _ _ _ _
                rw [e]
                exact HX.out.push h1 h2)
              subst hA2
              clear HX HSj HPj hrp hnu hj0 h15
              go_wp2_with (at_builtin; refine wpList_appS rfl _ _ rfl w2.heap.size n2 _ _ rfl rfl HO8.out (by omega) HN8.out ?_; intro g9 cap9 w9 ho9 hg9; obtain ⟨HV9, hn9⟩ := HPu.out g9 cap9 w9 ho9 hg9; clear ho9 hg9 HPu HO8 HN8 m0 c0 t9 t10 t15)
              go_roundw
              case rel => exact ⟨j + 1, n2 + 1, by omega, hn9, by go_num, HV9⟩
              case measure => simp [intOf]; omega
          · skip
            have t9 : (nd.op == 9) = false := by rw [beq_eq_false_iff_ne]; omega
            have t10 : (nd.op == 10) = false := by rw [beq_eq_false_iff_ne]; omega
            have t15 : (nd.op == 15) = false := by rw [beq_eq_false_iff_ne]; omega
            have hrp : rpB nd = false := by unfold rpB; rw [t9, t10, t15]; rfl
            have hj1 : j + 1 ≤ L.length := by omega
            have HN := (show Hid (LpD w2 wr n2 (lpG gs (nbE now) k ++ lpK k L (nuA (kdR L) (lkB gs (nbE now)) L) (j + 1)) u4 gN cN L.length (nuA (kdR L) (lkB gs (nbE now)) L)) from by rw [HSj.out, hrp, Bool.false_and, if_neg Bool.noConfusion]; exact HX.out)
            clear HX HSj HPj hrp h9 h10 h15
            go_wp2_with fail
            go_roundw
            case rel => exact ⟨j + 1, n2, by omega, by omega, by go_num, HN⟩
            case measure => simp [intOf]; omega
        · obtain rfl : j = L.length := by omega
          have HN := (show Hid (LoD w2 wr n2 (lpG gs (nbE now) (k + 1)) u4) from by rw [← HFin.out]; exact HX.out.s)
          clear HX HSuc HFin HRt HLk HCl
          go_wp2_with fail
          go_roundw
          case rel => exact ⟨k + 1, n2, by omega, by omega, by go_num, HN⟩
          case measure => simp [intOf]; omega
    · obtain rfl : k = gs.length := by omega
      have HO := (show Hid (wr.ownsRow w.heap.size 31 2 u4 (lpG gs (nbE now) gs.length).length (spc (lpG gs (nbE now) gs.length)) ∧ Below w.heap.size w wr) from ⟨by have h := own_base HW.out.o HB2.out.1.size; rw [HW.out.l] at h; exact h, hbw⟩)
      clear HW hbw
      go_wp2_with fail
      go_ret
      exact ⟨⟨_, rfl, HO.out.1⟩, HO.out.2⟩
end Go.Proofs.YtbipjdgholdhcabGreat.N

namespace Go.Proofs.YtbipjdgholdhcabGreat.N
open Go.RowKit Go.Maps
open Go.Proofs.YtbipjdgholdhcabGreat.T

open U (below_grown own_get own_slice TT)
/-- What Loops says, by the document. -/
def LoDR (gs : GL) (now : List Em) (B : Nat) (w' : World) (e : Ending) : Prop := ((ckG gs).2 ≠ 0 → e = .returned (.tuple #[.slice none 0 0, .int .i64 (ckG gs).2])) ∧ ((ckG gs).2 = 0 → ∃ v, e = .returned (.tuple #[v, .int .i64 0]) ∧ w'.ownsRow B 31 2 v (lpG gs (nbE now) gs.length).length (spc (lpG gs (nbE now) gs.length)))
set_option maxRecDepth 100000 in
set_option maxHeartbeats 16000000 in
theorem loopsD10_any {gs : GL} {now : List Em} (hk : (ckG gs).2 = 0 → KnF gs now ∧ now.length = gs.length) (A : Option Addr) (c : Nat) (w : World) (hp : GI w A gs) :
    Calls Tryz.prog 29 #[.agg #[.slice A gs.length c]] w fun e w' => LoDR gs now w.heap.size w' e ∧ Below w.heap.size w w' := by
  obtain ⟨w1, hw1⟩ : ∃ w1, w1 = w.alloc (.cells #[.slice A gs.length c] 24) := ⟨_, rfl⟩
  have HE1 := (show Hid (w.alloc (.cells #[.slice A gs.length c] 24) = w1) from hw1.symm)
  have HS := (show Hid (Below w.heap.size w w1 ∧ GX w1 w.heap.size (.slice A gs.length c)) from by rw [hw1]; exact ⟨below_box _ _, GX.mk (heap_alloc_new w _)⟩)
  have HCk := (show Hid (∀ _ : Unit, Calls Tryz.prog 33 #[.agg #[.slice A gs.length c]] w1 fun e w' => e = .returned (.tuple #[.agg #[.int .i64 (ckG gs).1.1, .int .i64 (ckG gs).1.2], .int .i64 (ckG gs).2]) ∧ Below w1.heap.size w1 w') from fun _ => checkD_any gs A c w1 (hp.later HS.out.1))
  have HP := (show Hid (GI w A gs) from hp)
  have q1 := HS.out.2.cl
  clear hw1 hp
  go_enter Tryz.func29, Tryz.ntmps29
  go_wp2_with (rw [HE1.out])
  refine (HCk.out ()).mono ?_
  rintro e w2 ⟨rfl, b2⟩
  obtain ⟨w3, hw3⟩ : ∃ w3, w3 = w2.alloc (.cells #[.int .i64 ((ckG gs).1.1 : Int), .int .i64 ((ckG gs).1.2 : Int)] 31) := ⟨_, rfl⟩
  have HE3 := (show Hid (w2.alloc (.cells #[.int .i64 ((ckG gs).1.1 : Int), .int .i64 ((ckG gs).1.2 : Int)] 31) = w3) from hw3.symm)
  have hb3 : Below w2.heap.size w2 w3 := by rw [hw3]; exact below_box _ _
  have HB3 := (show Hid (Below w.heap.size w w3 ∧ GX w3 w.heap.size (.slice A gs.length c)) from ⟨(HS.out.1.trans (b2.mono HS.out.1.size)).trans (hb3.mono (HS.out.1.trans (b2.mono HS.out.1.size)).size), (HS.out.2.below b2).below hb3⟩)
  have q3 := HB3.out.2.cl
  clear HCk HE1 q1 HS b2 hw3 hb3
  by_cases hz : (ckG gs).2 = 0
  · have tz : ((ckG gs).2 != 0) = false := by rw [hz]; rfl
    have HK := (show Hid (KnF gs now ∧ now.length = gs.length ∧ (ckG gs).2 = 0) from ⟨(hk hz).1, (hk hz).2, hz⟩)
    clear hk hz
    have HLo := (show Hid (∀ _ : Unit, Calls Tryz.prog 47 #[.agg #[.slice A gs.length c]] w3 fun e w' => (∃ v, e = .returned v ∧ w'.ownsRow w3.heap.size 31 2 v (lpG gs (nbE now) gs.length).length (spc (lpG gs (nbE now) gs.length))) ∧ Below w3.heap.size w3 w') from fun _ => loopsG_any (ckG_ok.1 HK.out.2.2) HK.out.1 HK.out.2.1 A c w3 (HP.out.later HB3.out.1))
    go_wp2_with (rw [HE3.out])
    refine (HLo.out ()).mono ?_
    rintro e w4 ⟨⟨v, rfl, ho⟩, b4⟩
    have HF := (show Hid (w4.ownsRow w.heap.size 31 2 v (lpG gs (nbE now) gs.length).length (spc (lpG gs (nbE now) gs.length)) ∧ Below w.heap.size w w4) from ⟨own_base ho HB3.out.1.size, HB3.out.1.trans (b4.mono HB3.out.1.size)⟩)
    clear ho b4 HLo HE3 q3
    go_wp2_with fail
    refine bodyPost_ret (v := .tuple #[v, .int .i64 0]) (by simp [results, Tryz.results29, go_sem]) rfl ?_
    exact ⟨⟨fun q => absurd HK.out.2.2 q, fun _ => ⟨v, rfl, HF.out.1⟩⟩, HF.out.2⟩
  · have tz : ((ckG gs).2 != 0) = true := by rw [bne, beq_eq_false_iff_ne.2 hz]; rfl
    have HZ := (show Hid ((ckG gs).2 ≠ 0) from hz)
    clear hz hk HP
    go_wp2_with (rw [HE3.out])
    refine bodyPost_ret (v := .tuple #[.slice none 0 0, .int .i64 (ckG gs).2]) (by simp [results, Tryz.results29, go_sem]) rfl ?_
    exact ⟨⟨fun _ => rfl, fun q => absurd q HZ.out⟩, HB3.out.1⟩

/-- What Check says, by the document. -/
def VdD (gs : GL) (now : List Em) (l : List Nat) (p q : Nat) (e : Int) : Prop := ((ckG gs).2 ≠ 0 → l = [] ∧ (p, q) = (ckG gs).1 ∧ e = (ckG gs).2) ∧ ((ckG gs).2 = 0 → ∃ cy, CyR gs.length (hdM gs (nbE now)) cy ∧ ((cy ≠ [] ∧ l = cy ∧ p = 0 ∧ q = 0 ∧ e = 100) ∨ (cy = [] ∧ l = [] ∧ ((∃ s r, lpG gs (nbE now) gs.length = s :: r ∧ p = s.1 ∧ q = s.2 ∧ e = 101) ∨ (lpG gs (nbE now) gs.length = [] ∧ p = 0 ∧ q = 0 ∧ e = 0)))))
set_option maxRecDepth 100000 in
set_option maxHeartbeats 32000000 in
/-- The document's Check. -/
theorem checkD10_any {gs : GL} {now : List Em} (hk : (ckG gs).2 = 0 → KnF gs now ∧ now.length = gs.length) (A : Option Addr) (c : Nat) (w : World) (hp : GI w A gs) :
    Calls Tryz.prog 26 #[.agg #[.slice A gs.length c]] w fun e w' => (∃ (vc : Value) (l : List Nat) (p q : Nat) (cd : Int), e = .returned (.tuple #[.agg #[vc, .int .i64 (p : Int), .int .i64 (q : Int)], .int .i64 cd]) ∧ VdD gs now l p q cd ∧ w'.ownsRow w.heap.size 3 1 vc l.length (l.map U.nI)) ∧ Below w.heap.size w w' := by
  obtain ⟨w1, hw1⟩ : ∃ w1, w1 = (w.alloc (.cells #[.slice A gs.length c] 24)).alloc (.cells #[.slice none 0 0, .int .i64 0, .int .i64 0] 33) := ⟨_, rfl⟩
  have HE1 := (show Hid ((w.alloc (.cells #[.slice A gs.length c] 24)).alloc (.cells #[.slice none 0 0, .int .i64 0, .int .i64 0] 33) = w1) from hw1.symm)
  have s0 := World.size_alloc w (.cells #[.slice A gs.length c] 24)
  have HS := (show Hid (Below w.heap.size w w1 ∧ GX w1 w.heap.size (.slice A gs.length c) ∧ DX w1 (w.heap.size + 1) (.slice none 0 0) 0 0 ∧ w1.heap.size = w.heap.size + 2) from by
    refine ⟨by rw [hw1]; exact ((Below.refl _ _).alloc (Nat.le_refl _) _).alloc (by omega) _, by rw [hw1]; exact (GX.mk (heap_alloc_new w _)).below (below_box _ _), ?_, by rw [hw1, World.size_alloc, s0]⟩
    have h := DX.new (w.alloc (.cells #[.slice A gs.length c] 24)) (.slice none 0 0) 0 0
    rw [s0, ← hw1] at h
    exact h)
  have HCk := (show Hid (∀ _ : Unit, Calls Tryz.prog 33 #[.agg #[.slice A gs.length c]] w1 fun e w' => e = .returned (.tuple #[.agg #[.int .i64 (ckG gs).1.1, .int .i64 (ckG gs).1.2], .int .i64 (ckG gs).2]) ∧ Below w1.heap.size w1 w') from fun _ => checkD_any gs A c w1 (hp.later HS.out.1))
  have HP := (show Hid (GI w A gs) from hp)
  have q1 := HS.out.2.1.cl
  clear hw1 hp s0
  go_enter Tryz.func26, Tryz.ntmps26
  go_wp2_with (rw [HE1.out])
  refine (HCk.out ()).mono ?_
  rintro e w2 ⟨rfl, b2⟩
  obtain ⟨w3, hw3⟩ : ∃ w3, w3 = w2.alloc (.cells #[.int .i64 ((ckG gs).1.1 : Int), .int .i64 ((ckG gs).1.2 : Int)] 31) := ⟨_, rfl⟩
  have HE3 := (show Hid (w2.alloc (.cells #[.int .i64 ((ckG gs).1.1 : Int), .int .i64 ((ckG gs).1.2 : Int)] 31) = w3) from hw3.symm)
  have hb3 : Below w2.heap.size w2 w3 := by rw [hw3]; exact below_box _ _
  have hs5 : SX w3 w2.heap.size (ckG gs).1.1 (ckG gs).1.2 := by rw [hw3]; exact ⟨heap_alloc_new w2 _⟩
  have HB3 := (show Hid (Below w.heap.size w w3 ∧ GX w3 w.heap.size (.slice A gs.length c) ∧ DX w3 (w.heap.size + 1) (.slice none 0 0) 0 0) from ⟨(HS.out.1.trans (b2.mono HS.out.1.size)).trans (hb3.mono (HS.out.1.trans (b2.mono HS.out.1.size)).size), (HS.out.2.1.below b2).below hb3, (HS.out.2.2.1.below b2).below hb3⟩)
  have HS3 := (show Hid (w.heap.size + 2 ≤ w3.heap.size) from by
    show _ ≤ _
    have h1 := HS.out.2.2.2
    have h2 := b2.size
    have h3 := hb3.size
    omega)
  have q3 := HB3.out.2.1.cl
  have s0 := hs5.c0
  have s1 := hs5.c1
  clear HCk HE1 q1 HS b2 hw3 hb3 hs5
  by_cases hz : (ckG gs).2 = 0
  · have tz : ((ckG gs).2 != 0) = false := by rw [hz]; rfl
    have HK := (show Hid (KnF gs now ∧ now.length = gs.length ∧ (ckG gs).2 = 0) from ⟨(hk hz).1, (hk hz).2, hz⟩)
    have HR := (show Hid (RtG gs) from ckG_ok.1 hz)
    clear hk hz
    have HAh := (show Hid (∀ _ : Unit, Calls Tryz.prog 46 #[.agg #[.slice A gs.length c]] w3 fun e w' => (∃ v xs, e = .returned v ∧ xs.length = gs.length ∧ TT w' w3.heap.size 82 4 v (hbT gs.length (hdM gs (nbE now)) gs.length) xs) ∧ Below w3.heap.size w3 w') from fun _ => allHeads_any HR.out HK.out.1 HK.out.2.1 A c w3 (HP.out.later HB3.out.1))
    go_wp2_with (rw [HE3.out])
    refine (HAh.out ()).mono ?_
    rintro e w4 ⟨⟨vh, xs, rfl, hxl, hT⟩, b4⟩
    obtain ⟨Ah, ch, hAh⟩ := own_slice hT.o
    rw [hxl] at hAh
    subst hAh
    have HCy := (show Hid (∀ _ : Unit, Calls Tryz.prog 45 #[.slice Ah gs.length ch] w4 fun e w' => (∃ v l, e = .returned v ∧ CyR gs.length (hdM gs (nbE now)) l ∧ w'.ownsRow w4.heap.size 3 1 v l.length (l.map U.nI)) ∧ Below w4.heap.size w4 w') from fun _ => cycleD_any (hdM_lt HR.out) HR.out.n2 Ah ch w4 (rdM_tt hT hxl))
    have HB4 := (show Hid (Below w.heap.size w w4 ∧ GX w4 w.heap.size (.slice A gs.length c) ∧ DX w4 (w.heap.size + 1) (.slice none 0 0) 0 0) from ⟨HB3.out.1.trans (b4.mono HB3.out.1.size), HB3.out.2.1.below b4, HB3.out.2.2.below b4⟩)
    have HS4 := (show Hid (w.heap.size + 2 ≤ w4.heap.size) from Nat.le_trans HS3.out b4.size)
    clear hxl hT b4 HAh HE3 q3 s0 s1 HB3 HS3
    go_wp2_with fail
    refine (HCy.out ()).mono ?_
    rintro e w5 ⟨⟨vc, cy, rfl, hcy, hoc⟩, b5⟩
    obtain ⟨Ac, cc, rfl⟩ := own_slice hoc
    have HB5 := (show Hid (Below w.heap.size w w5 ∧ GX w5 w.heap.size (.slice A gs.length c) ∧ DX w5 (w.heap.size + 1) (.slice none 0 0) 0 0) from ⟨HB4.out.1.trans (b5.mono HB4.out.1.size), HB4.out.2.1.below b5, HB4.out.2.2.below b5⟩)
    have HC5 := (show Hid (CyR gs.length (hdM gs (nbE now)) cy ∧ w5.ownsRow w4.heap.size 3 1 (.slice Ac cy.length cc) cy.length (cy.map U.nI)) from ⟨hcy, hoc⟩)
    have HS5 := (show Hid (w.heap.size + 2 ≤ w5.heap.size) from Nat.le_trans HS4.out b5.size)
    clear hcy hoc b5 HCy HB4
    by_cases hc0 : cy = []
    · have hcz : (.slice Ac cy.length cc : Value) = .slice Ac 0 cc := by rw [hc0]; rfl
      rw [hcz]
      clear hcz
      have HC0 := (show Hid (cy = []) from hc0)
      have q5 := HB5.out.2.1.cl
      clear hc0
      have HLo := (show Hid (∀ _ : Unit, Calls Tryz.prog 47 #[.agg #[.slice A gs.length c]] w5 fun e w' => (∃ v, e = .returned v ∧ w'.ownsRow w5.heap.size 31 2 v (lpG gs (nbE now) gs.length).length (spc (lpG gs (nbE now) gs.length))) ∧ Below w5.heap.size w5 w') from fun _ => loopsG_any HR.out HK.out.1 HK.out.2.1 A c w5 (HP.out.later HB5.out.1))
      go_wp2_with fail
      refine (HLo.out ()).mono ?_
      rintro e w6 ⟨⟨vl, rfl, hol⟩, b6⟩
      obtain ⟨Al, cl, rfl⟩ := own_fs hol
      have HB6 := (show Hid (Below w.heap.size w w6) from HB5.out.1.trans (b6.mono HB5.out.1.size))
      have HD6 := (show Hid (DX w6 (w.heap.size + 1) (.slice none 0 0) 0 0) from HB5.out.2.2.below b6)
      have d0 := HD6.out.c0
      have d1 := HD6.out.c1
      have d2 := HD6.out.c2
      have f0 := HD6.out.fz 0
      have f1 := HD6.out.fz 1
      have f2 := HD6.out.fz 2
      obtain ⟨ls, hls⟩ : ∃ ls, ls = lpG gs (nbE now) gs.length := ⟨_, rfl⟩
      have HLs := (show Hid (ls = lpG gs (nbE now) gs.length ∧ w6.ownsRow w5.heap.size 31 2 (.slice Al ls.length cl) ls.length (spc ls)) from ⟨hls, by rw [hls]; exact hol⟩)
      rw [← hls]
      clear hol hls b6 HLo q5
      cases ls with
      | nil =>
        have HVd := (show Hid (VdD gs now [] 0 0 0) from ⟨fun q => absurd HK.out.2.2 q, fun _ => ⟨cy, HC5.out.1, .inr ⟨HC0.out, rfl, .inr ⟨HLs.out.1.symm, rfl, rfl, rfl⟩⟩⟩⟩)
        obtain ⟨w7, hw7⟩ : ∃ w7, w7 = sV w6 (w.heap.size + 1) (.slice none 0 0) 0 0 := ⟨_, rfl⟩
        have HE7 := (show Hid (((w6.setCell ⟨w.heap.size + 1, 0, none⟩ (.slice none 0 0)).setCell ⟨w.heap.size + 1, 1, none⟩ (.int .i64 0)).setCell ⟨w.heap.size + 1, 2, none⟩ (.int .i64 0) = w7) from hw7.symm)
        have HB7 := (show Hid (Below w.heap.size w w7 ∧ DX w7 (w.heap.size + 1) (.slice none 0 0) 0 0) from by rw [hw7]; exact ⟨sV_below _ _ _ HB6.out (Nat.le_succ _), sV_dx HD6.out _ _ _⟩)
        clear hw7
        go_wp2_with (rw [HE7.out])
        refine ret_ck (b := w.heap.size + 1) (by rfl) (by rfl) (by rfl) (by rfl) HB7.out.2 ⟨⟨_, [], 0, 0, 0, rfl, HVd.out, World.ownsRow_nil _ _ _ _⟩, HB7.out.1⟩
      | cons s ls =>
        obtain ⟨sp, sr⟩ := s
        obtain ⟨g, rfl, hc1⟩ := fs_head HLs.out.2 rfl
        have HVd := (show Hid (VdD gs now [] sp sr 101) from ⟨fun q => absurd HK.out.2.2 q, fun _ => ⟨cy, HC5.out.1, .inr ⟨HC0.out, rfl, .inl ⟨(sp, sr), ls, HLs.out.1.symm, rfl, rfl, rfl⟩⟩⟩⟩)
        have l0 := hc1.1
        have l1 := hc1.2
        obtain ⟨w7, hw7⟩ : ∃ w7, w7 = sV w6 (w.heap.size + 1) (.slice none 0 0) sp sr := ⟨_, rfl⟩
        have HE7 := (show Hid (((w6.setCell ⟨w.heap.size + 1, 0, none⟩ (.slice none 0 0)).setCell ⟨w.heap.size + 1, 1, none⟩ (.int .i64 (sp : Int))).setCell ⟨w.heap.size + 1, 2, none⟩ (.int .i64 (sr : Int)) = w7) from hw7.symm)
        have HB7 := (show Hid (Below w.heap.size w w7 ∧ DX w7 (w.heap.size + 1) (.slice none 0 0) sp sr) from by rw [hw7]; exact ⟨sV_below _ _ _ HB6.out (Nat.le_succ _), sV_dx HD6.out _ _ _⟩)
        clear hc1 hw7
        have hlen : ((sp, sr) :: ls).length = ls.length + 1 := rfl
        rw [hlen]
        clear hlen
        generalize ls.length = m
        have hm : (0 : Int) < (m + 1 : Nat) := by omega
        have hm2 : 0 < m + 1 := by omega
        go_wp2_with (rw [HE7.out])
        refine ret_ck (b := w.heap.size + 1) (by rfl) (by rfl) (by rfl) (by rfl) HB7.out.2 ⟨⟨_, [], sp, sr, 101, rfl, HVd.out, World.ownsRow_nil _ _ _ _⟩, HB7.out.1⟩
    · have HVd := (show Hid (VdD gs now cy 0 0 100) from ⟨fun q => absurd HK.out.2.2 q, fun _ => ⟨cy, HC5.out.1, .inl ⟨hc0, rfl, rfl, rfl, rfl⟩⟩⟩)
      have hm2 : 0 < cy.length := List.length_pos_iff.2 hc0
      obtain ⟨m, hm⟩ : ∃ m, m = cy.length := ⟨_, rfl⟩
      have HO5 := (show Hid (w5.ownsRow w4.heap.size 3 1 (.slice Ac m cc) cy.length (cy.map U.nI)) from by rw [hm]; exact HC5.out.2)
      have HD5 := (show Hid (DX w5 (w.heap.size + 1) (.slice none 0 0) 0 0) from HB5.out.2.2)
      rw [← hm] at hm2 ⊢
      clear hm hc0
      have hm3 : (0 : Int) < (m : Nat) := by omega
      have d0 := HD5.out.c0
      have d1 := HD5.out.c1
      have d2 := HD5.out.c2
      have f0 := HD5.out.fz 0
      have f1 := HD5.out.fz 1
      have f2 := HD5.out.fz 2
      obtain ⟨w7, hw7⟩ : ∃ w7, w7 = sV w5 (w.heap.size + 1) (.slice Ac m cc) 0 0 := ⟨_, rfl⟩
      have HE7 := (show Hid (((w5.setCell ⟨w.heap.size + 1, 0, none⟩ (.slice Ac m cc)).setCell ⟨w.heap.size + 1, 1, none⟩ (.int .i64 0)).setCell ⟨w.heap.size + 1, 2, none⟩ (.int .i64 0) = w7) from hw7.symm)
      have HO7 := (show Hid (w7.ownsRow w4.heap.size 3 1 (.slice Ac m cc) cy.length (cy.map U.nI)) from own_same HO5.out fun k e => by
        have h1 := (HO5.out.lt k e).1
        rw [hw7]
        exact sV_other _ _ _ _ _ (by have := HS4.out; omega))
      have HB7 := (show Hid (Below w.heap.size w w7 ∧ DX w7 (w.heap.size + 1) (.slice Ac m cc) 0 0) from by rw [hw7]; exact ⟨sV_below _ _ _ HB5.out.1 (Nat.le_succ _), sV_dx HD5.out _ _ _⟩)
      clear hw7
      go_wp2_with (rw [HE7.out])
      refine ret_ck (b := w.heap.size + 1) (by rfl) (by rfl) (by rfl) (by rfl) HB7.out.2 ⟨⟨_, cy, 0, 0, 100, rfl, HVd.out, own_base HO7.out (by have := HS4.out; omega)⟩, HB7.out.1⟩
  · have tz : ((ckG gs).2 != 0) = true := by rw [bne, beq_eq_false_iff_ne.2 hz]; rfl
    obtain ⟨ca, cb, cd, hcc⟩ : ∃ (ca cb : Nat) (cd : Int), ckG gs = ((ca, cb), cd) := ⟨_, _, _, rfl⟩
    have HVd := (show Hid (VdD gs now [] ca cb cd) from ⟨fun _ => ⟨rfl, by rw [hcc], by rw [hcc]⟩, fun q => absurd q hz⟩)
    rw [hcc] at tz s0 s1 HE3 ⊢
    have tz : (cd != 0) = true := tz
    have s0 : w3.cell? ⟨w2.heap.size, 0, none⟩ = some (.int .i64 (ca : Int)) := s0
    have s1 : w3.cell? ⟨w2.heap.size, 1, none⟩ = some (.int .i64 (cb : Int)) := s1
    have HE3 := (show Hid (w2.alloc (.cells #[.int .i64 (ca : Int), .int .i64 (cb : Int)] 31) = w3) from HE3.out)
    have d0 := HB3.out.2.2.c0
    have d1 := HB3.out.2.2.c1
    have d2 := HB3.out.2.2.c2
    have f0 := HB3.out.2.2.fz 0
    have f1 := HB3.out.2.2.fz 1
    have f2 := HB3.out.2.2.fz 2
    obtain ⟨w7, hw7⟩ : ∃ w7, w7 = sV w3 (w.heap.size + 1) (.slice none 0 0) ca cb := ⟨_, rfl⟩
    have HE7 := (show Hid (((w3.setCell ⟨w.heap.size + 1, 0, none⟩ (.slice none 0 0)).setCell ⟨w.heap.size + 1, 1, none⟩ (.int .i64 (ca : Int))).setCell ⟨w.heap.size + 1, 2, none⟩ (.int .i64 (cb : Int)) = w7) from hw7.symm)
    have HB7 := (show Hid (Below w.heap.size w w7 ∧ DX w7 (w.heap.size + 1) (.slice none 0 0) ca cb) from by rw [hw7]; exact ⟨sV_below _ _ _ HB3.out.1 (Nat.le_succ _), sV_dx HB3.out.2.2 _ _ _⟩)
    clear hz hcc hw7 HP hk
    go_wp2_with (first | rw [HE3.out] | rw [HE7.out])
    refine ret_ck (b := w.heap.size + 1) (by rfl) (by rfl) (by rfl) (by rfl) HB7.out.2 ⟨⟨_, [], ca, cb, cd, rfl, HVd.out, World.ownsRow_nil _ _ _ _⟩, HB7.out.1⟩
end Go.Proofs.YtbipjdgholdhcabGreat.N

namespace Go.Proofs.YtbipjdgholdhcabGreat.N
open Go.RowKit Go.Maps
open Go.Proofs.YtbipjdgholdhcabGreat.T

open U (below_grown own_get own_slice TT info_split)
theorem frO_succ (j : Nat) (c : Mx) (l : List Nat) (r : Nat) : frO (j + 1) c l r = (frO j c l r && (!c r j || l.contains j)) := by
  unfold frO hdl
  rw [List.range_succ, List.filter_append, List.all_append, ← Bool.and_assoc]
  congr 1
  cases h : c r j with
  | true => rw [List.filter_cons_of_pos h, List.filter_nil, List.all_cons, List.all_nil, Bool.and_true]; rfl
  | false => rw [List.filter_cons_of_neg (by rw [h]; exact Bool.noConfusion), List.filter_nil]; rfl
theorem frO_off {c : Mx} {l : List Nat} {r j : Nat} (h : frO j c l r = false) : ∀ d, frO (j + d) c l r = false := by
  intro d
  induction d with
  | zero => exact h
  | succ d ih => rw [show j + (d + 1) = (j + d) + 1 from rfl, frO_succ, ih, Bool.false_and]
theorem frO_zero (c : Mx) (l : List Nat) (r : Nat) : frO 0 c l r = !l.contains r := by
  unfold frO hdl
  rw [List.range_zero, List.filter_nil, List.all_nil, Bool.and_true]
/-- While the order is told: which ones are told, and the list. -/
structure OdS (w5 wr : World) (n gT : Nat) (l : List Nat) (v : Value) : Prop where
  b : Below w5.heap.size w5 wr
  t : wr.ownsRow w5.heap.size 4 1 (.slice (some ⟨gT, 0, none⟩) n n) n (((List.range n).map fun q => l.contains q).map Value.bool)
  o : wr.ownsRow w5.heap.size 3 1 v l.length (l.map U.nI)
theorem OdS.at' {w5 wr : World} {n gT : Nat} {l : List Nat} {v : Value} (h : OdS w5 wr n gT l v) {q : Nat} (hq : q < n) : wr.cell? ⟨gT, q, none⟩ = some (.bool (l.contains q)) ∧ wr.frozen? ⟨gT, q, none⟩ = false := by
  obtain ⟨g', c', e, _, _, x, f⟩ := own_get h.t (j := q) (x := .bool (l.contains q)) (by rw [List.getElem?_map, List.getElem?_map, List.getElem?_range hq]; rfl)
  have e1 : gT = g' := by injection e with e1; injection e1 with e1; injection e1
  subst e1
  exact ⟨x, f⟩
/-- A rule is marked as told. -/
theorem OdS.mark {w5 wr : World} {n gT : Nat} {l : List Nat} {v : Value} (h : OdS w5 wr n gT l v) {r : Nat} (hr : r < n) : Below w5.heap.size w5 (wr.setCell ⟨gT, r, none⟩ (.bool true)) ∧ (wr.setCell ⟨gT, r, none⟩ (.bool true)).ownsRow w5.heap.size 4 1 (.slice (some ⟨gT, 0, none⟩) n n) n (((List.range n).map fun q => (l ++ [r]).contains q).map Value.bool) ∧ (wr.setCell ⟨gT, r, none⟩ (.bool true)).ownsRow w5.heap.size 3 1 v l.length (l.map U.nI) := by
  obtain ⟨s1, s2⟩ := h.t.stored r (.bool true)
  refine ⟨below_grown h.b s2 (fun k e => by cases e; exact (h.t.lt gT rfl).1), ?_, U.own_kept h.o s2 (fun k e q => by cases e; exact own_apart h.t h.o (by decide) rfl q)⟩
  have e : ((List.range n).map fun q => (l ++ [r]).contains q).map Value.bool = (((List.range n).map fun q => l.contains q).map Value.bool).set r (.bool true) := by
    apply List.ext_getElem?
    intro i
    rw [List.getElem?_set, List.getElem?_map, List.getElem?_map, List.getElem?_map, List.getElem?_map]
    by_cases hi : i < n
    · rw [List.getElem?_range hi]
      by_cases he : r = i
      · subst he
        rw [if_pos rfl, if_pos (by rw [List.length_map, List.length_map, List.length_range]; exact hi)]
        show some (Value.bool ((l ++ [r]).contains r)) = _
        rw [show (l ++ [r]).contains r = true from List.contains_iff_mem.2 (List.mem_append_right _ (List.mem_singleton.2 rfl))]
      · rw [if_neg he]
        show some (Value.bool _) = some (Value.bool _)
        congr 2
        rw [Bool.eq_iff_iff, List.contains_iff_mem, List.contains_iff_mem, List.mem_append, List.mem_singleton]
        exact ⟨fun q => q.resolve_right (Ne.symm he), .inl⟩
    · rw [List.getElem?_eq_none (by rw [List.length_range]; omega), if_neg (by omega)]
      rfl
  rw [e]
  exact s1
/-- What Order says, by the document. -/
def OrD (gs : GL) (now : List Em) (B : Nat) (w' : World) (e : Ending) : Prop := ∃ l p q cd, VdD gs now l p q cd ∧ (cd ≠ 0 → e = .returned (.tuple #[.slice none 0 0, .int .i64 cd])) ∧ (cd = 0 → ∃ v, e = .returned (.tuple #[v, .int .i64 0]) ∧ w'.ownsRow B 3 1 v (ordK gs.length (hdM gs (nbE now)) gs.length).length ((ordK gs.length (hdM gs (nbE now)) gs.length).map U.nI))
set_option maxRecDepth 100000 in
set_option maxHeartbeats 32000000 in
/-- The document's Order. -/
theorem orderD10_any {gs : GL} {now : List Em} (hk : (ckG gs).2 = 0 → KnF gs now ∧ now.length = gs.length) (A : Option Addr) (c : Nat) (w : World) (hp : GI w A gs) :
    Calls Tryz.prog 31 #[.agg #[.slice A gs.length c]] w fun e w' => OrD gs now w.heap.size w' e ∧ Below w.heap.size w w' := by
  obtain ⟨w1, hw1⟩ : ∃ w1, w1 = w.alloc (.cells #[.slice A gs.length c] 24) := ⟨_, rfl⟩
  have HE1 := (show Hid (w.alloc (.cells #[.slice A gs.length c] 24) = w1) from hw1.symm)
  have HS := (show Hid (Below w.heap.size w w1 ∧ GX w1 w.heap.size (.slice A gs.length c)) from by rw [hw1]; exact ⟨below_box _ _, GX.mk (heap_alloc_new w _)⟩)
  have HCk := (show Hid (∀ _ : Unit, Calls Tryz.prog 26 #[.agg #[.slice A gs.length c]] w1 fun e w' => (∃ (vc : Value) (l : List Nat) (p q : Nat) (cd : Int), e = .returned (.tuple #[.agg #[vc, .int .i64 (p : Int), .int .i64 (q : Int)], .int .i64 cd]) ∧ VdD gs now l p q cd ∧ w'.ownsRow w1.heap.size 3 1 vc l.length (l.map U.nI)) ∧ Below w1.heap.size w1 w') from fun _ => checkD10_any hk A c w1 (hp.later HS.out.1))
  have HP := (show Hid (GI w A gs ∧ ((ckG gs).2 = 0 → KnF gs now ∧ now.length = gs.length)) from ⟨hp, hk⟩)
  have q1 := HS.out.2.cl
  clear hw1 hp hk
  go_enter Tryz.func31, Tryz.ntmps31
  go_wp2_with (rw [HE1.out])
  refine (HCk.out ()).mono ?_
  rintro e w2 ⟨⟨vc, lc, p, q, cd, rfl, hvd, ho2⟩, b2⟩
  obtain ⟨Ac, cc, rfl⟩ := own_slice ho2
  obtain ⟨w3, hw3⟩ : ∃ w3, w3 = w2.alloc (.cells #[.slice Ac lc.length cc, .int .i64 (p : Int), .int .i64 (q : Int)] 33) := ⟨_, rfl⟩
  have HE3 := (show Hid (w2.alloc (.cells #[.slice Ac lc.length cc, .int .i64 (p : Int), .int .i64 (q : Int)] 33) = w3) from hw3.symm)
  have hb3 : Below w2.heap.size w2 w3 := by rw [hw3]; exact below_box _ _
  have HB3 := (show Hid (Below w.heap.size w w3 ∧ GX w3 w.heap.size (.slice A gs.length c)) from ⟨(HS.out.1.trans (b2.mono HS.out.1.size)).trans (hb3.mono (HS.out.1.trans (b2.mono HS.out.1.size)).size), (HS.out.2.below b2).below hb3⟩)
  have HVd := (show Hid (VdD gs now lc p q cd) from hvd)
  have q3 := HB3.out.2.cl
  clear HCk HE1 q1 HS b2 hw3 hb3 ho2 hvd
  by_cases hcd : cd = 0
  · subst hcd
    have hz : (ckG gs).2 = 0 := by
      by_cases e : (ckG gs).2 = 0
      · exact e
      · exact (HVd.out.1 e).2.2.symm ▸ rfl
    have hR := ckG_ok.1 hz
    have hn1 := hR.n1
    have hn2 := hR.n2
    have HAh := (show Hid (∀ _ : Unit, Calls Tryz.prog 46 #[.agg #[.slice A gs.length c]] w3 fun e w' => (∃ v xs, e = .returned v ∧ xs.length = gs.length ∧ TT w' w3.heap.size 82 4 v (hbT gs.length (hdM gs (nbE now)) gs.length) xs) ∧ Below w3.heap.size w3 w') from fun _ => allHeads_any hR (HP.out.2 hz).1 (HP.out.2 hz).2 A c w3 (HP.out.1.later HB3.out.1))
    clear hz hR
    go_wp2_with (rw [HE3.out])
    refine (HAh.out ()).mono ?_
    rintro e w4 ⟨⟨vh, xs, rfl, hxl, hT⟩, b4⟩
    obtain ⟨Ah, ch, hAh⟩ := own_slice hT.o
    rw [hxl] at hAh
    subst hAh
    have HRd4 := (show Hid (RdM w4 Ah gs.length (hdM gs (nbE now))) from rdM_tt hT hxl)
    have HB4 := (show Hid (Below w.heap.size w w4) from HB3.out.1.trans (b4.mono HB3.out.1.size))
    clear hT hxl b4 HAh HB3 q3 HE3
    obtain ⟨i0, hinf, hz0, hz1, hz2⟩ := info_split Tryz.info4
    obtain ⟨w5, hmk, ho5, hg5⟩ := run_make_full (P := Tryz.prog) w4 w4.heap.size 82 4 i0 (.bool false) 1 Tryz.underlying82 hinf hz0 hz1 .i64 .i64 gs.length (by rw [hz2]; omega) (by unfold maxLen; omega) (by omega)
    have hb45 : Below w4.heap.size w4 w5 := below_grown (Below.refl _ _) hg5 (fun k e => by cases e)
    have HS5 := (show Hid (OdS w4 w5 gs.length w4.heap.size (ordK gs.length (hdM gs (nbE now)) 0) (.slice none 0 0)) from by
      refine ⟨hb45, ?_, World.ownsRow_nil _ _ _ _⟩
      have e : (madeCells (Value.cells (.bool false)) (gs.length * 1)).toList = List.replicate gs.length (Value.bool false) := by rw [Nat.mul_one]; exact toList_madeCells_one _ _
      rw [e] at ho5
      have e2 : (((List.range gs.length).map fun q => (ordK gs.length (hdM gs (nbE now)) 0).contains q).map Value.bool) = List.replicate gs.length (Value.bool false) := by
        rw [List.map_map, List.eq_replicate_iff]
        refine ⟨by rw [List.length_map, List.length_range], fun v hv => ?_⟩
        obtain ⟨x, _, rfl⟩ := List.mem_map.1 hv
        rfl
      rw [e2]
      exact ho5)
    clear ho5 hg5 hb45 hinf hz0 hz1 hz2 i0
    obtain ⟨n, hn⟩ : ∃ n, n = gs.length := ⟨_, rfl⟩
    obtain ⟨cx, hcx⟩ : ∃ cx, cx = hdM gs (nbE now) := ⟨_, rfl⟩
    have HNC := (show Hid (n = gs.length ∧ cx = hdM gs (nbE now)) from ⟨hn, hcx⟩)
    rw [← hn, ← hcx] at HS5 HRd4
    rw [← hn] at hmk hn1 hn2 ⊢
    clear hn hcx
    go_wp2_with fail
    clear hmk
    generalize w4.heap.size = gT at *
    go_loopg [8, 9] (n * (n + 1) + n) (fun gk u t wr => ∃ (k r ln : Nat) (A8 : Option Addr) (c8 : Nat), u = .slice A8 ln c8 ∧ ln ≤ 200 ∧ t = .int .i64 (r : Int) ∧ r ≤ n ∧ Hid ((n - k) * (n + 1) + (n - r) = gk) ∧ Hid (ln = k ∧ (ordK n cx k).length = k) ∧ Hid (OdS w4 wr n gT (ordK n cx k) (.slice A8 ln c8)) ∧ Hid (∀ q, q < r → frO n cx (ordK n cx k) q = false))
    case atStart => exact ⟨0, 0, 0, none, 0, rfl, by omega, by go_num, by omega, rfl, ⟨rfl, rfl⟩, HS5, fun q h => absurd h (Nat.not_lt_zero _)⟩
    case round =>
      obtain ⟨k, r, ln, A8, c8, rfl, hln, rfl, hr, HM, HL, HW, HF⟩ := hrel
      clear HS5
      by_cases hlt : r < n
      · obtain ⟨x0, f0⟩ := HW.out.at' hlt
        obtain ⟨l, hl⟩ : ∃ l, l = ordK n cx k := ⟨_, rfl⟩
        have HLl := (show Hid (l = ordK n cx k) from hl)
        rw [← hl] at HW HF HL x0
        clear hl
        obtain ⟨tb, htb⟩ : ∃ tb, tb = l.contains r := ⟨_, rfl⟩
        rw [← htb] at x0
        have HT0 := (show Hid ((!tb) = frO 0 cx l r) from by rw [htb]; exact (frO_zero cx l r).symm)
        obtain ⟨b, g2, c2, rfl, lb, x1, lg, y1⟩ := HRd4.out r hlt
        have x1' := (HW.out.b.cell (p := ⟨b, r, none⟩) lb).trans x1
        have HY := (show Hid (∀ q, q < n → wr.cell? ⟨g2, q, none⟩ = some (.bool (cx r q)) ∧ wr.cell? ⟨gT, q, none⟩ = some (.bool (l.contains q))) from fun q hq => ⟨(HW.out.b.cell (p := ⟨g2, q, none⟩) lg).trans (y1 q hq), (HW.out.at' hq).1⟩)
        have z0 : (0 : Int) ≤ (r : Int) := by omega
        have z1 : (r : Int) < (n : Int) := by omega
        clear lb x1 lg y1 htb
        go_wp2_with fail
        go_loopw [10, 11] (fun s t wr2 => ∃ (j : Nat) (rd : Bool), s = .bool rd ∧ t = .int .i64 (j : Int) ∧ j ≤ n ∧ wr2 = wr ∧ Hid (rd = frO j cx l r)) (fun _ t _ => n - (intOf t).toNat)
        case atStart => exact ⟨0, !tb, rfl, by go_num, by omega, by first | rfl | trivial, HT0⟩
        case round =>
          obtain ⟨j, rd, rfl, rfl, hj, rfl, HR⟩ := hrel
          clear HT0
          cases rd with
          | false =>
            have HF2 := (show Hid (∀ q, q < r + 1 → frO n cx l q = false) from fun q hq => by
              by_cases e : q = r
              · subst e
                have h := frO_off HR.out.symm (n - j)
                rwa [show j + (n - j) = n from by omega] at h
              · exact HF.out q (by omega))
            have HW2 := (show Hid (OdS w4 wr n gT (ordK n cx k) (.slice A8 ln c8)) from by rw [← HLl.out]; exact HW.out)
            have HF3 := (show Hid (∀ q, q < r + 1 → frO n cx (ordK n cx k) q = false) from by rw [← HLl.out]; exact HF2.out)
            have HL2 := (show Hid (ln = k ∧ (ordK n cx k).length = k) from by rw [← HLl.out]; exact HL.out)
            clear HR HY HF HF2 HW HL x0 f0 x1'
            go_wp2_with fail
            go_roundg ((n - k) * (n + 1) + (n - (r + 1)))
            case measure => have := HM.out; omega
            case rel => exact ⟨k, r + 1, ln, A8, c8, rfl, hln, by go_num, by omega, rfl, HL2, HW2, HF3⟩
          | true =>
            by_cases hjn : j < n
            · obtain ⟨y0, y2⟩ := HY.out j hjn
              have z2 : (0 : Int) ≤ (j : Int) := by omega
              have z3 : (j : Int) < (n : Int) := by omega
              cases hcx : cx r j with
              | false =>
                rw [hcx] at y0
                have HR2 := (show Hid (true = frO (j + 1) cx l r) from by rw [frO_succ, ← HR.out, hcx]; rfl)
                clear HR hcx
                go_wp2_with fail
                go_roundw
                case rel => exact ⟨j + 1, true, rfl, by go_num, by omega, by first | rfl | trivial, HR2⟩
                case measure => simp [intOf]; omega
              | true =>
                rw [hcx] at y0
                obtain ⟨tj, htj⟩ : ∃ tj, tj = l.contains j := ⟨_, rfl⟩
                rw [← htj] at y2
                have HR2 := (show Hid (tj = frO (j + 1) cx l r) from by rw [frO_succ, ← HR.out, hcx, htj]; rfl)
                clear HR hcx htj
                go_wp2_with fail
                go_roundw
                case rel => exact ⟨j + 1, tj, rfl, by go_num, by omega, by first | rfl | trivial, HR2⟩
                case measure => simp [intOf]; omega
            · obtain rfl : j = n := by omega
              have HNx := (show Hid (ordK j cx (k + 1) = l ++ [r]) from by rw [HLl.out]; exact ordK_some (nxO_some hlt (by rw [← HLl.out]; exact HR.out.symm) (by rw [← HLl.out]; exact HF.out)))
              obtain ⟨w6, hw6⟩ : ∃ w6, w6 = wr.setCell ⟨gT, r, none⟩ (.bool true) := ⟨_, rfl⟩
              have HE6 := (show Hid (wr.setCell ⟨gT, r, none⟩ (.bool true) = w6) from hw6.symm)
              obtain ⟨m1, m2, m3⟩ := HW.out.mark hlt
              rw [← hw6] at m1 m2 m3
              have hlk : l.length = k := HL.out.2
              have hlnk : ln = k := HL.out.1
              have HO6 := (show Hid (w6.ownsRow w4.heap.size 3 1 (.slice A8 ln c8) ln (l.map U.nI)) from by rw [hlk, ← hlnk] at m3; exact m3)
              have HN6 := (show Hid (w4.heap.size ≤ w6.heap.size) from m1.size)
              have hk1 : k + 1 ≤ j := by
                have h := ordK_few (n := j) (c := cx) (k + 1)
                rw [HNx.out, List.length_append, List.length_singleton, hlk] at h
                exact h
              have HPu := (show Hid (∀ (g9 cap9 : Nat) (w9 : World), w9.ownsRow w4.heap.size 3 1 (.slice (some ⟨g9, 0, none⟩) (ln + 1) cap9) (ln + 1) (l.map U.nI ++ [U.nI r]) → w6.grownBy w9 (Value.slice A8 ln c8).ownBlock → OdS w4 w9 j gT (ordK j cx (k + 1)) (.slice (some ⟨g9, 0, none⟩) (ln + 1) cap9)) from fun g9 cap9 w9 h1 h2 => by
                rw [HNx.out]
                refine ⟨below_grown m1 h2 (fun x hx => (HO6.out.lt x hx).1), U.own_kept m2 h2 (fun x e q => own_apart HO6.out m2 (by decide) e q), ?_⟩
                rw [List.length_append, List.length_singleton, hlk, ← hlnk, List.map_append]
                exact h1)
              have HL2 := (show Hid (ln + 1 = k + 1 ∧ (ordK j cx (k + 1)).length = k + 1) from ⟨by omega, by rw [HNx.out, List.length_append, List.length_singleton, hlk]⟩)
              have hM : (j - (k + 1)) * (j + 1) + (j - 0) < (j - k) * (j + 1) + (j - r) := by
                obtain ⟨d, hd⟩ : ∃ d, j - k = d + 1 := ⟨j - k - 1, by omega⟩
                rw [hd, show j - (k + 1) = d from by omega, Nat.succ_mul]
                omega
              have HM2 := (show Hid ((j - (k + 1)) * (j + 1) + (j - 0) < (j - k) * (j + 1) + (j - r)) from hM)
              have hln1 : ln + 1 ≤ 200 := by omega
              clear HR HY HF HW HL x1' m1 m2 m3 hw6 hlk hlnk hM HNx HLl
              go_wp2_with (first | rw [HE6.out] | (at_builtin; refine U.wpList_app1 rfl _ _ 29 rfl (.int .i64 0) 8 Tryz.underlying29 Tryz.info3 rfl w4.heap.size ln _ (l.map U.nI) rfl rfl HO6.out rfl (by omega) (by decide) HN6.out ?_; intro g9 cap9 w9 ho9 hg9 hat9 hl9; have HV9 := hid_of (HPu.out g9 cap9 w9 ho9 hg9); clear ho9 hg9 hat9 hl9 HPu HO6 HN6 x0 f0))
              go_roundg ((j - (k + 1)) * (j + 1) + (j - 0))
              case measure => have := HM.out; have := HM2.out; omega
              case rel => exact ⟨k + 1, 0, ln + 1, _, _, rfl, hln1, by go_num, by omega, rfl, HL2, HV9, fun q h => absurd h (Nat.not_lt_zero _)⟩
      · obtain rfl : r = n := by omega
        have HFin := (show Hid (ordK r cx r = ordK r cx k ∧ wr.ownsRow w.heap.size 3 1 (.slice A8 ln c8) (ordK r cx k).length ((ordK r cx k).map U.nI) ∧ Below w.heap.size w wr) from ⟨ordK_fin HL.out.2 (nxO_none HF.out), own_base HW.out.o HB4.out.size, HB4.out.trans (HW.out.b.mono HB4.out.size)⟩)
        clear HF HW HL HM
        go_wp2_with fail
        refine bodyPost_ret (v := .tuple #[.slice A8 ln c8, .int .i64 0]) (by simp [results, Tryz.results31, go_sem]) rfl ?_
        refine ⟨⟨lc, p, q, 0, HVd.out, fun e => absurd rfl e, fun _ => ⟨_, rfl, ?_⟩⟩, HFin.out.2.2⟩
        obtain ⟨hn, hcx⟩ := HNC.out
        rw [← hn, ← hcx, HFin.out.1]
        exact HFin.out.2.1
  · have tz : (cd != 0) = true := by rw [bne, beq_eq_false_iff_ne.2 hcd]; rfl
    have HZ := (show Hid (cd ≠ 0) from hcd)
    clear hcd HP
    go_wp2_with (rw [HE3.out])
    refine bodyPost_ret (v := .tuple #[.slice none 0 0, .int .i64 cd]) (by simp [results, Tryz.results31, go_sem]) rfl ?_
    exact ⟨⟨lc, p, q, cd, HVd.out, fun _ => rfl, fun e => absurd e HZ.out⟩, HB3.out.1⟩
end Go.Proofs.YtbipjdgholdhcabGreat.N
