/- DERIVED. Plain mathematics and walks, laid together (10). -/
import Derived.Shelf.Slices.Reverse
import Derived.Deep.WholeRow
import Derived.Deep.MidRow
import Derived.Laws.ResultCell
import Derived.Laws.CopyOwn
import Derived.Test.YtbipjdgholdhcaaFp09
namespace Go.Proofs.Ytbipjdgholdhcaa.N
open Go.RowKit Go.Maps
open Go.Proofs.Ytbipjdgholdhcaa.T
/-- What Parts answers. -/
def PaR (gs : GL) (r : Int) (l : List Em) (cd : Int) : Prop := ((ckG gs).2 ≠ 0 → cd = (ckG gs).2 ∧ l = []) ∧ ((ckG gs).2 = 0 → (r < 0 ∨ (gs.length : Int) ≤ r → cd = 1 ∧ l = []) ∧ ∀ (k : Nat) g, r = k → gs[k]? = some g → cd = 0 ∧ ∃ now, KnF gs now ∧ l = (List.range g.2.length).map (EE (lkE gs now) g.2))
theorem below_dr (w : World) : Below w.heap.size w w.drew := ⟨rfl, rfl, rfl, Nat.le_refl _, fun _ _ => rfl⟩
theorem enters_pts (args : Array Value) (w : World) : (callFunc 41 args).run Try.prog w = .ok (.enter 41 args) w := enters_of Try.func41 (by kernel_rfl) rfl args w
set_option maxRecDepth 100000 in
set_option maxHeartbeats 8000000 in
theorem partsP_any (gs : GL) (A : Option Addr) (c : Nat) (r : Int) (w : World) (hp : GI w A gs) :
    Calls Try.prog 30 #[.agg #[.slice A gs.length c], .int .i64 r] w fun e w' => (∃ v l cd, e = .returned (.tuple #[v, .int .i64 cd]) ∧ PaR gs r l cd ∧ w'.ownsRow w.heap.size 89 4 v l.length (emc l)) ∧ Below w.heap.size w w' := by
  obtain ⟨w1, hw1⟩ : ∃ w1, w1 = w.alloc (.cells #[.slice A gs.length c] 24) := ⟨_, rfl⟩
  have HE1 := (show Hid (w.alloc (.cells #[.slice A gs.length c] 24) = w1) from hw1.symm)
  have HB1 := (show Hid (Below w.heap.size w w1) from by rw [hw1]; exact below_box _ _)
  have HG1 := (show Hid (GX w1 w.heap.size (.slice A gs.length c)) from by rw [hw1]; exact GX.mk (heap_alloc_new w _))
  have q1 := HG1.out.cl
  have HN := hid_of (knownOf_any gs A c w1 (hp.later HB1.out))
  have HP := (show Hid (GI w A gs) from hp)
  clear hw1 hp
  go_enter Try.func30, Try.ntmps30
  go_wp2_with (rw [HE1.out])
  refine Calls.mono HN.out ?_
  rintro e w2 ⟨⟨m, v, rfl, h1, h2⟩, b2⟩
  have HB2 := (show Hid (Below w.heap.size w w2) from HB1.out.trans (b2.mono HB1.out.size))
  have HG2 := (show Hid (GX w2 w.heap.size (.slice A gs.length c)) from HG1.out.below b2)
  have hs1 := HB1.out.size
  clear HN HE1 q1 b2 HG1
  by_cases hz : (ckG gs).2 = 0
  · obtain ⟨mb, Ar, cr, now, rfl, rfl, _, hm2, hF, hl, hok, ho⟩ := h2 hz
    have tz : ((ckG gs).2 != 0) = false := by rw [hz]; rfl
    have hR := ckG_ok.1 hz
    have hn200 := hR.n2
    obtain ⟨w3, hw3⟩ : ∃ w3, w3 = w2.alloc (.cells #[.map (some mb), .slice Ar gs.length cr] 83) := ⟨_, rfl⟩
    have HE3 := (show Hid (w2.alloc (.cells #[.map (some mb), .slice Ar gs.length cr] 83) = w3) from hw3.symm)
    have hb3 : Below w2.heap.size w2 w3 := by rw [hw3]; exact below_box _ _
    have k0 : w3.cell? ⟨w2.heap.size, 0, none⟩ = some (.map (some mb)) := by rw [hw3]; exact (KX.new w2 _ _).c0
    have k1 : w3.cell? ⟨w2.heap.size, 1, none⟩ = some (.slice Ar gs.length cr) := by rw [hw3]; exact (KX.new w2 _ _).c1
    have HB3 := (show Hid (Below w.heap.size w w3) from HB2.out.trans (hb3.mono HB2.out.size))
    have q3 := (HG2.out.below hb3).cl
    have HKn := (show Hid (KnI w3 gs mb Ar now) from ⟨hm2.later hb3, own_rd (T.own_below ho hb3) hl, hl⟩)
    have HR := (show Hid (RtG gs ∧ KnF gs now ∧ now.length = gs.length ∧ OkN gs now ∧ (ckG gs).2 = 0) from ⟨hR, hF, hl, hok, hz⟩)
    clear h1 h2 ho hF hl hok hz hs1 hm2 hR hw3 hb3 HG2
    generalize hcd : (ckG gs).2 = cd at tz ⊢
    clear hcd
    by_cases h0 : r < 0
    · have HA := (show Hid (PaR gs r [] 1) from ⟨fun q => absurd HR.out.2.2.2.2 q, fun _ => ⟨fun _ => ⟨rfl, rfl⟩, fun k g e _ => absurd e (by omega)⟩⟩)
      clear HKn HR HP
      go_wp2_with (rw [HE3.out])
      refine bodyPost_ret (v := .tuple #[.slice none 0 0, .int .i64 1]) (by simp [results, Try.results30, go_sem]) rfl ⟨⟨_, [], 1, rfl, HA.out, World.ownsRow_nil _ _ _ _⟩, HB3.out⟩
    by_cases hg : (gs.length : Int) ≤ r
    · have HA := (show Hid (PaR gs r [] 1) from ⟨fun q => absurd HR.out.2.2.2.2 q, fun _ => ⟨fun _ => ⟨rfl, rfl⟩, fun k g e he => absurd (List.getElem?_eq_some_iff.1 he).1 (by omega)⟩⟩)
      have hg2 : r ≥ (gs.length : Int) := hg
      clear HKn HR HP
      go_wp2_with (rw [HE3.out])
      refine bodyPost_ret (v := .tuple #[.slice none 0 0, .int .i64 1]) (by simp [results, Try.results30, go_sem]) rfl ⟨⟨_, [], 1, rfl, HA.out, World.ownsRow_nil _ _ _ _⟩, HB3.out⟩
    obtain ⟨k, rfl⟩ : ∃ k : Nat, r = k := ⟨r.toNat, by omega⟩
    have hk : k < gs.length := by omega
    obtain ⟨g, hgk⟩ : ∃ g, gs[k]? = some g := ⟨_, List.getElem?_eq_getElem hk⟩
    have hmem := List.mem_of_getElem? hgk
    obtain ⟨b, o, A2, c2, rfl, lb, x0, x1, r2⟩ := HP.out.d k g hgk
    have x0' := (HB3.out.cell (p := ⟨b, o + k * 2, none⟩) lb).trans x0
    have x1' := (HB3.out.cell (p := ⟨b, o + k * 2 + 1, none⟩) lb).trans x1
    have z0 : (0 : Int) ≤ (k : Int) := by omega
    have z1 : (k : Int) < (gs.length : Int) := by omega
    have hg3 : ¬ (k : Int) ≥ (gs.length : Int) := by omega
    have HC := (show Hid (∀ _ : Unit, Calls Try.prog 41 #[.agg #[.map (some mb), .slice Ar gs.length cr], .slice A2 g.2.length c2] w3.drew fun e w' => (∃ v, e = .returned v ∧ w'.ownsRow w3.heap.size 89 4 v g.2.length (emc ((List.range g.2.length).map (EE (lkE gs now) g.2)))) ∧ Below w3.heap.size w3 w') from fun _ => by
      have hne : now ≠ [] := by rintro rfl; have h1 := HR.out.2.2.1; have h2 := HR.out.1.n1; rw [← h1] at h2; exact absurd h2 (by decide)
      have t := parts_any (ptR_of HR.out.1 HP.out HR.out.2.2.2.1 hmem) mb Ar A2 cr c2 w3.drew (HKn.out.later (below_dr w3)) hne ((r2.below HB3.out (Nat.le_refl _)).below (below_dr w3) (Nat.le_refl _))
      rw [HR.out.2.2.1] at t
      refine t.mono ?_
      rintro e w' ⟨h1, h2⟩
      exact ⟨h1, ⟨h2.os, h2.tape, h2.output, h2.size, h2.block⟩⟩)
    have HA := (show Hid (PaR gs k ((List.range g.2.length).map (EE (lkE gs now) g.2)) 0) from ⟨fun q => absurd HR.out.2.2.2.2 q, fun _ => ⟨fun q => by omega, fun k2 g2 e he => by
      have e2 : k = k2 := by omega
      subst e2
      rw [hgk] at he
      obtain rfl := Option.some.inj he
      exact ⟨rfl, now, HR.out.2.1, rfl⟩⟩⟩)
    have HSz := (show Hid (w.heap.size ≤ w3.heap.size) from HB3.out.size)
    clear hgk hmem x0 x1 r2 HKn HR HP hg hk
    go_wp2_with (rw [HE3.out])
    go_region_law (refine step_call2 enters_pts rfl _ _ _ _ (by rfl) (.agg #[.map (some mb), .slice Ar gs.length cr]) (.slice A2 g.2.length c2) (by rfl) (by rfl) ?_; with_reducible refine (HC.out ()).mono ?_; rintro e w4 ⟨⟨v4, rfl, ho4⟩, b4⟩; refine ⟨_, rfl, ?_⟩)
    all_goals
      have HO4 := hid_of ho4
      have HB4 := hid_of b4
      clear ho4 b4
      go_wp2_with fail
      refine bodyPost_ret (v := .tuple #[v4, .int .i64 0]) (by simp [results, Try.results30, go_sem]) rfl ⟨⟨_, _, 0, rfl, HA.out, by rw [List.length_map, List.length_range]; exact T.own_base HO4.out HSz.out⟩, HB3.out.trans (HB4.out.mono HSz.out)⟩
  · obtain ⟨rfl, rfl⟩ := h1 hz
    have tz : ((ckG gs).2 != 0) = true := by rw [bne, beq_eq_false_iff_ne.2 hz]; rfl
    have HR := (show Hid (PaR gs r [] (ckG gs).2) from ⟨fun _ => ⟨rfl, rfl⟩, fun q => absurd q hz⟩)
    clear h1 h2 hz hs1 HG2 HP
    have HB3 := (show Hid (Below w2.heap.size w2 (w2.alloc (.cells #[.map none, .slice none 0 0] 83))) from below_box _ _)
    generalize hcd : (ckG gs).2 = cd at tz HR ⊢
    clear hcd
    go_wp2_with fail
    refine bodyPost_ret (v := .tuple #[.slice none 0 0, .int .i64 cd]) (by simp [results, Try.results30, go_sem]) rfl ⟨⟨_, [], cd, rfl, HR.out, World.ownsRow_nil _ _ _ _⟩, HB2.out.trans (HB3.out.mono HB2.out.size)⟩
end Go.Proofs.Ytbipjdgholdhcaa.N

namespace Go.Proofs.Ytbipjdgholdhcaa.N
open Go.RowKit Go.Maps
open Go.Proofs.Ytbipjdgholdhcaa.T
/-- A pattern in which each call gives way to a node without parts. -/
def seN (nu : ByteArray → Bool) (n : Nd) : Nd := if n.op = 6 then (if nu n.tx then ⟨1, 0, ⟨#[]⟩, 0, 0, 0, 0⟩ else ⟨3, 0, ⟨#[]⟩, 0, 0, 0, 0⟩) else n
def seL (nu : ByteArray → Bool) (L : List Nd) : List Nd := L.map (seN nu)
theorem seN_6 {nu : ByteArray → Bool} {n : Nd} (h : ¬ n.op = 6) : seN nu n = n := by unfold seN; rw [if_neg h]
theorem seN_op {nu : ByteArray → Bool} {n : Nd} : (n.op = 6 ∧ ((seN nu n).op = 1 ∨ (seN nu n).op = 3)) ∨ (¬ n.op = 6 ∧ seN nu n = n) := by
  by_cases h : n.op = 6
  · refine .inl ⟨h, ?_⟩
    unfold seN
    rw [if_pos h]
    split
    · exact .inl rfl
    · exact .inr rfl
  · exact .inr ⟨h, seN_6 h⟩
theorem seN_ar {nu : ByteArray → Bool} {n : Nd} : ar (seN nu n).op = ar n.op := by
  rcases seN_op (nu := nu) (n := n) with ⟨h, e | e⟩ | ⟨_, e⟩
  · rw [h, e]; rfl
  · rw [h, e]; rfl
  · rw [e]
theorem seN_eq {nu : ByteArray → Bool} {n : Nd} {op : Int} (h : ¬ op = 1) (h3 : ¬ op = 3) (h6 : ¬ op = 6) : ((seN nu n).op = op) = (n.op = op) := by
  rcases seN_op (nu := nu) (n := n) with ⟨g, e⟩ | ⟨_, e⟩
  · refine propext ⟨fun q => ?_, fun q => ?_⟩ <;> omega
  · rw [e]
theorem seN_al {nu : ByteArray → Bool} {n : Nd} (h : alE n = 0) : alE (seN nu n) = 0 := by
  by_cases g : n.op = 6
  · unfold seN
    rw [if_pos g]
    split <;> rfl
  · rw [seN_6 g]; exact h
theorem opAt_se {nu : ByteArray → Bool} {L : List Nd} (k : Nat) : arN (T.opAt (seL nu L) k) = arN (T.opAt L k) ∧ ∀ op : Int, ¬ op = 1 → ¬ op = 3 → ¬ op = 6 → ((T.opAt (seL nu L) k = op) = (T.opAt L k = op)) := by
  unfold T.opAt seL
  rw [List.getElem?_map]
  cases h : L[k]? with
  | none => exact ⟨rfl, fun _ _ _ _ => rfl⟩
  | some n => exact ⟨by show arN (seN nu n).op = _; unfold arN; rw [seN_ar], fun op a b c => seN_eq a b c⟩
theorem mk_se {nu : ByteArray → Bool} {L : List Nd} (k : Nat) {op op2 : Int} (ha : arN op2 = arN op) (ho : arN op = 2 → op2 = op) (h7 : arN op = 2 → op = 7 ∨ op = 8) (st : List Pt) (h2 : arN op ≤ 2) : mk (seL nu L) k op2 st = mk L k op st := by
  unfold mk
  rw [ha]
  by_cases e0 : arN op = 0
  · rw [if_pos e0, if_pos e0]
  rw [if_neg e0, if_neg e0]
  by_cases e1 : arN op = 1
  · rw [if_pos e1, if_pos e1]
  rw [if_neg e1, if_neg e1]
  have e2 : arN op = 2 := by omega
  have eo := ho e2
  have e7 := h7 e2
  subst eo
  have key : ∀ j, (T.opAt (seL nu L) j = op2) = (T.opAt L j = op2) := fun j => (opAt_se j).2 op2 (by omega) (by omega) (by omega)
  simp only [key]
theorem arN_le2 (op : Int) : arN op ≤ 2 := by unfold arN; have := ar_hi op; omega
theorem arN_78 {op : Int} (h : arN op = 2) : op = 7 ∨ op = 8 := by
  unfold arN ar at h
  split at h
  · exact absurd h (by decide)
  · split at h
    · exact absurd h (by decide)
    · split at h
      · assumption
      · exact absurd h (by decide)
theorem run_se {nu : ByteArray → Bool} {L : List Nd} : ∀ k, run (seL nu L) k = run L k := by
  have one : ∀ k st, mk (seL nu L) k (T.opAt (seL nu L) k) st = mk L k (T.opAt L k) st := fun k st => by
    have ha := (opAt_se (nu := nu) (L := L) k).1
    refine mk_se k ha (fun h => ?_) (fun h => arN_78 h) st (arN_le2 _)
    have h7 := arN_78 h
    have hq := (opAt_se (nu := nu) (L := L) k).2 (T.opAt L k) (by omega) (by omega) (by omega)
    exact of_eq_true (hq.trans (eq_true rfl))
  intro k
  induction k with
  | zero => rfl
  | succ k ih =>
    rw [run, run, ih, one]
    rw [(opAt_se (nu := nu) (L := L) k).1]
theorem pt_se {nu : ByteArray → Bool} {L : List Nd} (k : Nat) : pt (seL nu L) k = pt L k := by
  have h := run_succ (seL nu L) k
  have g := run_succ L k
  rw [run_se] at h
  rw [h] at g
  injection g
theorem rt_se {nu : ByteArray → Bool} {L : List Nd} (h : Rt L) : Rt (seL nu L) := by
  have hl : (seL nu L).length = L.length := by unfold seL; exact List.length_map ..
  refine ⟨by rw [hl]; exact h.len, fun k hk => ?_, by rw [hl, run_se]; exact h.one⟩
  rw [hl] at hk
  have hn : L[k]? = some L[k] := List.getElem?_eq_getElem hk
  have hk2 := er_ok hn (h.each k hk)
  have e := h.each k hk
  unfold er at e ⊢
  rw [hn] at e
  have hs : (seL nu L)[k]? = some (seN nu L[k]) := by unfold seL; rw [List.getElem?_map, hn]; rfl
  rw [hs]
  have hal := hk2.al
  have h1 := seN_al (nu := nu) hal
  have h2 : arN (seN nu L[k]).op = arN L[k].op := by unfold arN; rw [seN_ar]
  simp only [h1, h2, run_se, pt_se, hal] at e ⊢
  exact e
theorem kdR_se {nu : ByteArray → Bool} {L : List Nd} (k : Nat) : kdR (seL nu L) k = kdR L k := by
  unfold kdR
  rw [run_se, (opAt_se (nu := nu) (L := L) k).1]
theorem rtG_se {nu : ByteArray → Bool} {L : List Nd} (h : Rt L) : RtG [(⟨#[]⟩, seL nu L)] := by
  have hr := rt_se (nu := nu) h
  refine ⟨Nat.le_refl 1, (by show 1 ≤ 200; omega), fun g hg => ?_, fun g hg => ?_, ?_, ⟨fun i j a b ha hb _ => ?_, fun g hg n hn h6 => ?_⟩⟩
  · rw [List.mem_singleton.1 hg]; exact .inr ⟨rfl, rfl⟩
  · rw [List.mem_singleton.1 hg, hr.ck]
  · have := hr.len
    simp
    omega
  · have h1 := (List.getElem?_eq_some_iff.1 ha).1
    have h2 := (List.getElem?_eq_some_iff.1 hb).1
    simp at h1 h2
    omega
  · exfalso
    rw [List.mem_singleton.1 hg] at hn
    unfold seL at hn
    obtain ⟨m, _, rfl⟩ := List.mem_map.1 hn
    rcases seN_op (nu := nu) (n := m) with ⟨_, e⟩ | ⟨g6, e⟩
    · omega
    · rw [e] at h6; exact g6 h6
theorem nuD_se {nu r : ByteArray → Bool} {n : Nd} {x y : Bool} : nuD (seN nu n) x y r = nuD n x y nu := by
  by_cases h : n.op = 6
  · have e : nuD n x y nu = nu n.tx := by
      unfold nuD
      rw [if_neg (by omega), if_neg (by omega), if_pos h]
    rw [e]
    unfold seN
    rw [if_pos h]
    cases nu n.tx <;> rfl
  · rw [seN_6 h]
    unfold nuD
    simp only [h, if_false]
theorem nuL_se {nu r : ByteArray → Bool} {L : List Nd} : ∀ k, k ≤ L.length → nuL (kdR (seL nu L)) r (seL nu L) k = nuL (kdR L) nu L k := by
  intro k
  induction k with
  | zero => intro _; rfl
  | succ k ih =>
    intro hk
    have hn : L[k]? = some L[k] := List.getElem?_eq_getElem (by omega)
    have hs : (seL nu L)[k]? = some (seN nu L[k]) := by unfold seL; rw [List.getElem?_map, hn]; rfl
    rw [nuL_succ hn, nuL_succ hs, ih (by omega), kdR_se, nuD_se]
theorem ee_nu {L : List Nd} {r : ByteArray → Em} (j : Nat) : (EE r L j).nu = nuA (kdR L) (fun s => (r s).nu) L j := by
  unfold EE nuA
  rw [← emL_nu _ (Nat.le_refl _), List.getElem?_map]
  cases (emL (kdR L) r L L.length)[j]? <;> rfl
/-- What layer 9 says of the parts of a pattern whose calls gave way. -/
theorem se_nu {nu : ByteArray → Bool} {L : List Nd} {r : ByteArray → Em} (j : Nat) : (EE r (seL nu L) j).nu = nuA (kdR L) nu L j := by
  rw [ee_nu]
  unfold nuA
  have hl : (seL nu L).length = L.length := by unfold seL; exact List.length_map ..
  rw [hl, nuL_se _ (Nat.le_refl _)]
theorem seL_len {nu : ByteArray → Bool} {L : List Nd} : (seL nu L).length = L.length := by unfold seL; exact List.length_map ..
/-- What Parts answers of such a pattern as a grammar alone. -/
theorem pa_se {nu : ByteArray → Bool} {L : List Nd} (h : Rt L) {l : List Em} {cd : Int} (hp : PaR [(⟨#[]⟩, seL nu L)] 0 l cd) : cd = 0 ∧ l.length = L.length ∧ l.map Em.nu = (List.range L.length).map (nuA (kdR L) nu L) := by
  obtain ⟨_, h2⟩ := hp
  have hz := ckG_ok.2 (rtG_se (nu := nu) h)
  obtain ⟨_, h3⟩ := h2 hz
  obtain ⟨e1, now, _, e2⟩ := h3 0 (⟨#[]⟩, seL nu L) rfl rfl
  have e2 : l = (List.range (seL nu L).length).map (EE (lkE [(⟨#[]⟩, seL nu L)] now) (seL nu L)) := e2
  rw [seL_len] at e2
  refine ⟨e1, by rw [e2, List.length_map, List.length_range], ?_⟩
  rw [e2, List.map_map]
  congr 1
  funext j
  exact se_nu j
end Go.Proofs.Ytbipjdgholdhcaa.N

namespace Go.Proofs.Ytbipjdgholdhcaa.N
open Go.RowKit Go.Maps
open Go.Proofs.Ytbipjdgholdhcaa.T
/-- Which rules are heads of which. -/
def hdM (gs : GL) (nb : List Bool) : Mx := fun i q => match gs[i]? with
  | none => false
  | some g => hbA (kdR g.2) (nuA (kdR g.2) (lkB gs nb) g.2) (fdG gs) g.2 (g.2.length - 1) q
theorem hdM_of {gs : GL} {nb : List Bool} {i q : Nat} {g : ByteArray × List Nd} (h : gs[i]? = some g) : hdM gs nb i q = hbA (kdR g.2) (nuA (kdR g.2) (lkB gs nb) g.2) (fdG gs) g.2 (g.2.length - 1) q := by unfold hdM; rw [h]
theorem rt_facts {gs : GL} (hR : RtG gs) {g : ByteArray × List Nd} (hm : g ∈ gs) : Rt g.2 ∧ Kds (kdR g.2) g.2 ∧ (∀ n ∈ g.2, alE n = 0) ∧ 0 < g.2.length ∧ g.2.length ≤ 2048 := by
  have hrt : Rt g.2 := rt_of (hR.ck _ hm)
  refine ⟨hrt, kds_R hrt, fun n q => ?_, ?_, by have := hrt.len; omega⟩
  · obtain ⟨k, hk⟩ := List.getElem?_of_mem q
    exact (er_ok hk (hrt.each k (List.getElem?_eq_some_iff.1 hk).1)).al
  · apply Nat.pos_of_ne_zero
    intro e
    have h1 := hrt.one
    have e2 : g.2 = [] := List.eq_nil_of_length_eq_zero e
    rw [e2] at h1
    simp [run] at h1
theorem hdM_lt {gs : GL} (hR : RtG gs) {nb : List Bool} (i q : Nat) (h : hdM gs nb i q = true) : i < gs.length ∧ q < gs.length := by
  unfold hdM at h
  cases e : gs[i]? with
  | none => rw [e] at h; cases h
  | some g =>
    rw [e] at h
    obtain ⟨_, hk, ha, h0, _⟩ := rt_facts hR (List.mem_of_getElem? e)
    have h : hbA (kdR g.2) (nuA (kdR g.2) (lkB gs nb) g.2) (fdG gs) g.2 (g.2.length - 1) q = true := h
    obtain ⟨j, _, hj⟩ := (hb_iff hk ha g.2.length (g.2.length - 1) (by omega) (by omega) q).1 h
    refine ⟨(List.getElem?_eq_some_iff.1 e).1, ?_⟩
    unfold clB at hj
    cases w : g.2[j]? with
    | none => rw [w] at hj; cases hj
    | some n =>
      rw [w] at hj
      simp only [Bool.and_eq_true, decide_eq_true_eq] at hj
      exact fdG_lt hj.2
/-- A rule's heads as a list. -/
def hdl (n : Nat) (c : Mx) (i : Nat) : List Nat := (List.range n).filter (c i)
theorem hdl_mem {n : Nat} {c : Mx} (hc : ∀ i j, c i j = true → i < n ∧ j < n) {i q : Nat} : q ∈ hdl n c i ↔ c i q = true := by
  unfold hdl
  rw [List.mem_filter, List.mem_range]
  exact ⟨fun h => h.2, fun h => ⟨(hc i q h).2, h⟩⟩
theorem hdl_up (n : Nat) (c : Mx) (i : Nat) : (hdl n c i).Pairwise (· < ·) := List.Pairwise.filter _ List.pairwise_lt_range
theorem hdl_len (n : Nat) (c : Mx) (i : Nat) : (hdl n c i).length ≤ n := by
  have := List.length_filter_le (c i) (List.range n)
  rw [List.length_range] at this
  exact this
/-- Does a node repeat its part? -/
def rpB (n : Nd) : Bool := n.op == 9 || (n.op == 10 || n.op == 15)
/-- A pattern's loops. -/
def lpK (i : Nat) (L : List Nd) (nu : Nat → Bool) : Nat → List (Nat × Nat)
  | 0 => []
  | k + 1 => match L[k]? with
    | none => lpK i L nu k
    | some n => if rpB n && nu (k - 1) then lpK i L nu k ++ [(i, k)] else lpK i L nu k
theorem lpK_succ {i : Nat} {L : List Nd} {nu : Nat → Bool} {k : Nat} {n : Nd} (h : L[k]? = some n) : lpK i L nu (k + 1) = if rpB n && nu (k - 1) then lpK i L nu k ++ [(i, k)] else lpK i L nu k := by rw [lpK, h]
theorem lpK_len {i : Nat} {L : List Nd} {nu : Nat → Bool} : ∀ k, (lpK i L nu k).length ≤ k := by
  intro k
  induction k with
  | zero => exact Nat.le_refl _
  | succ k ih =>
    rw [lpK]
    split
    · omega
    · split
      · rw [List.length_append, List.length_singleton]; omega
      · omega
/-- Those of all rules. -/
def lpG (gs : GL) (nb : List Bool) : Nat → List (Nat × Nat)
  | 0 => []
  | i + 1 => match gs[i]? with
    | none => lpG gs nb i
    | some g => lpG gs nb i ++ lpK i g.2 (nuA (kdR g.2) (lkB gs nb) g.2) g.2.length
theorem lpG_succ {gs : GL} {nb : List Bool} {i : Nat} {g : ByteArray × List Nd} (h : gs[i]? = some g) : lpG gs nb (i + 1) = lpG gs nb i ++ lpK i g.2 (nuA (kdR g.2) (lkB gs nb) g.2) g.2.length := by rw [lpG, h]
theorem lpG_len {gs : GL} {nb : List Bool} {m : Nat} (h : ∀ g ∈ gs, g.2.length ≤ m) : ∀ i, (lpG gs nb i).length ≤ i * m := by
  intro i
  induction i with
  | zero => exact Nat.zero_le _
  | succ i ih =>
    rw [lpG, Nat.succ_mul]
    split
    · omega
    · next g e =>
      have h1 := lpK_len (i := i) (L := g.2) (nu := nuA (kdR g.2) (lkB gs nb) g.2) g.2.length
      have h2 := h g (List.mem_of_getElem? e)
      rw [List.length_append]
      omega
/-- A node that repeats has a part, right ahead of it. -/
theorem rp_pos {L : List Nd} (h : Rt L) {k : Nat} {n : Nd} (hn : L[k]? = some n) (hr : rpB n = true) : 0 < k := by
  have hlt := (List.getElem?_eq_some_iff.1 hn).1
  have hal := (er_ok hn (h.each k hlt)).al
  obtain ⟨hop, _⟩ := al_facts hal
  have h1 : n.op = 9 ∨ n.op = 10 ∨ n.op = 15 := by
    unfold rpB at hr
    simp only [Bool.or_eq_true, beq_iff_eq] at hr
    omega
  have ha := arN_1 hop (by omega) (by omega)
  have hk := (kds_R h).n k n hn
  have hx : ∃ j, (kdR L k)[0]? = some j := ⟨_, List.getElem?_eq_getElem (by omega)⟩
  obtain ⟨j, hj⟩ := hx
  have := (kds_R h).lt k j hlt (List.mem_of_getElem? hj)
  omega
def spV (p : Nat × Nat) : List Value := [.int .i64 (p.1 : Int), .int .i64 (p.2 : Int)]
def spc (l : List (Nat × Nat)) : List Value := l.flatMap spV
theorem spc_app (a b : List (Nat × Nat)) : spc (a ++ b) = spc a ++ spc b := List.flatMap_append
theorem spc_one (p : Nat × Nat) : spc [p] = spV p := by unfold spc; rw [List.flatMap_cons, List.flatMap_nil, List.append_nil]
theorem sp_one (p : Nat × Nat) : ∀ u ∈ spV p, u.oneCell' = true := fun u hu => by
  simp only [spV, List.mem_cons, List.not_mem_nil, or_false] at hu
  rcases hu with rfl | rfl <;> rfl
end Go.Proofs.Ytbipjdgholdhcaa.N

namespace Go.Proofs.Ytbipjdgholdhcaa.N
open Go.RowKit Go.Maps
open Go.Proofs.Ytbipjdgholdhcaa.T
/-- While the heads of the rule at place a are gone through: q of them are done. -/
def BfQ (n : Nat) (c : Mx) (r : Nat) (come pi : List Nat) (a y q : Nat) : Prop := come[a]? = some y ∧ ∃ b, BfI n c r come pi a b ∧ ∀ (i x : Nat), (hdl n c y)[i]? = some x → (i < q → x < b) ∧ (q ≤ i → b ≤ x)
theorem hdl_lt {n : Nat} {c : Mx} {y i j x z : Nat} (hi : (hdl n c y)[i]? = some x) (hj : (hdl n c y)[j]? = some z) (h : i < j) : x < z := by
  obtain ⟨l1, e1⟩ := List.getElem?_eq_some_iff.1 hi
  obtain ⟨l2, e2⟩ := List.getElem?_eq_some_iff.1 hj
  have := List.pairwise_iff_getElem.1 (hdl_up n c y) i j l1 l2 h
  rw [e1, e2] at this
  exact this
theorem BfQ.start {n : Nat} {c : Mx} {r : Nat} {come pi : List Nat} {a y : Nat} (h : BfI n c r come pi a 0) (hy : come[a]? = some y) : BfQ n c r come pi a y 0 := ⟨hy, 0, h, fun _i _x _ => ⟨fun q => absurd q (Nat.not_lt_zero _), fun _ => Nat.zero_le _⟩⟩
theorem BfQ.skip {n : Nat} {c : Mx} (hc : ∀ i j, c i j = true → i < n ∧ j < n) {r : Nat} {come pi : List Nat} {a y q k : Nat} (h : BfQ n c r come pi a y q) (hk : (hdl n c y)[q]? = some k) : BfI n c r come pi a k := by
  obtain ⟨hy, b, hb, hx⟩ := h
  refine hb.skip hy ((hx q k hk).2 (Nat.le_refl _)) (fun x h1 h2 => ?_)
  cases e : c y x with
  | false => rfl
  | true =>
    exfalso
    obtain ⟨i, hi⟩ := List.getElem?_of_mem ((hdl_mem hc).2 e)
    by_cases w : i < q
    · have := (hx i x hi).1 w; omega
    · by_cases w2 : i = q
      · subst w2; rw [hi] at hk; cases hk; omega
      · have := hdl_lt hk hi (by omega); omega
theorem bfq_next {n : Nat} {c : Mx} {y q k : Nat} (hk : (hdl n c y)[q]? = some k) : ∀ (i x : Nat), (hdl n c y)[i]? = some x → (i < q + 1 → x < k + 1) ∧ (q + 1 ≤ i → k + 1 ≤ x) := fun i x hi => by
  refine ⟨fun w => ?_, fun w => ?_⟩
  · by_cases e : i = q
    · subst e; rw [hi] at hk; cases hk; omega
    · have := hdl_lt hi hk (by omega); omega
  · have := hdl_lt hk hi (by omega); omega
theorem BfQ.old {n : Nat} {c : Mx} (hc : ∀ i j, c i j = true → i < n ∧ j < n) {r : Nat} {come pi : List Nat} {a y q k : Nat} (h : BfQ n c r come pi a y q) (hk : (hdl n c y)[q]? = some k) (hr : k ≠ r) (hm : k ∈ come) : BfQ n c r come pi a y (q + 1) := ⟨h.1, k + 1, (h.skip hc hk).old h.1 hr hm, bfq_next hk⟩
theorem BfQ.push {n : Nat} {c : Mx} (hc : ∀ i j, c i j = true → i < n ∧ j < n) {r : Nat} {come pi : List Nat} {a y q k : Nat} (h : BfQ n c r come pi a y q) (hk : (hdl n c y)[q]? = some k) (hr : k ≠ r) (hm : k ∉ come) : BfQ n c r (come ++ [k]) (pi ++ [a]) a y (q + 1) := by
  have hck : c y k = true := (hdl_mem hc).1 (List.mem_of_getElem? hk)
  refine ⟨?_, k + 1, BfI.push hc (h.skip hc hk) h.1 hr hck hm, bfq_next hk⟩
  rw [List.getElem?_append_left (List.getElem?_eq_some_iff.1 h.1).1]
  exact h.1
theorem BfQ.done {n : Nat} {c : Mx} (hc : ∀ i j, c i j = true → i < n ∧ j < n) {r : Nat} {come pi : List Nat} {a y : Nat} (h : BfQ n c r come pi a y (hdl n c y).length) : BfI n c r come pi (a + 1) 0 := by
  obtain ⟨hy, b, hb, hx⟩ := h
  refine hb.next hy (fun k hk => ?_)
  cases e : c y k with
  | false => rfl
  | true =>
    exfalso
    obtain ⟨i, hi⟩ := List.getElem?_of_mem ((hdl_mem hc).2 e)
    have := (hx i k hi).1 (List.getElem?_eq_some_iff.1 hi).1
    omega
/-- The arrays: who has been come to, and from whom. -/
structure WbA (r : Nat) (come pi : List Nat) (isC : Nat → Bool) (ah : Nat → Nat) : Prop where
  m : ∀ x, isC x = true ↔ (x ∈ come ∧ x ≠ r)
  a : ∀ (j x i y : Nat), 0 < j → come[j]? = some x → pi[j]? = some i → come[i]? = some y → ah x = y
theorem WbA.start (r : Nat) : WbA r [r] [0] (fun _ => false) (fun _ => 0) := by
  refine ⟨fun x => ⟨(fun h => by cases h), fun h => ?_⟩, fun j x i y h0 hx _ _ => ?_⟩
  · exact absurd (List.mem_singleton.1 h.1) h.2
  · have := (List.getElem?_eq_some_iff.1 hx).1
    simp at this
    omega
theorem WbA.push {r a y k : Nat} {come pi : List Nat} {isC : Nat → Bool} {ah : Nat → Nat} (h : WbA r come pi isC ah) (hl : pi.length = come.length) (hz : ∀ (j i : Nat), 0 < j → pi[j]? = some i → i < come.length) (hy : come[a]? = some y) (hk : k ∉ come) (hr : k ≠ r) : WbA r (come ++ [k]) (pi ++ [a]) (fun x => if x = k then true else isC x) (fun x => if x = k then y else ah x) := by
  have ha := (List.getElem?_eq_some_iff.1 hy).1
  refine ⟨fun x => ?_, fun j x i z h0 hx hi hz2 => ?_⟩
  · show (if x = k then true else isC x) = true ↔ _
    rw [List.mem_append, List.mem_singleton]
    by_cases e : x = k
    · rw [if_pos e]; exact ⟨fun _ => ⟨.inr e, by rw [e]; exact hr⟩, fun _ => rfl⟩
    · rw [if_neg e, h.m x]
      exact ⟨fun q => ⟨.inl q.1, q.2⟩, fun q => ⟨q.1.resolve_right e, q.2⟩⟩
  · show (if x = k then y else ah x) = z
    by_cases hj : j < come.length
    · rw [List.getElem?_append_left hj] at hx
      rw [List.getElem?_append_left (by omega)] at hi
      rw [List.getElem?_append_left (hz j i h0 hi)] at hz2
      rw [if_neg (fun e => hk (by rw [← e]; exact List.mem_of_getElem? hx))]
      exact h.a j x i z h0 hx hi hz2
    · have := (List.getElem?_eq_some_iff.1 hx).1
      rw [List.length_append, List.length_singleton] at this
      have e : j = come.length := by omega
      subst e
      rw [List.getElem?_append_right (Nat.le_refl _), Nat.sub_self] at hx
      rw [← hl, List.getElem?_append_right (Nat.le_refl _), Nat.sub_self] at hi
      cases hx
      cases hi
      rw [List.getElem?_append_left ha, hy] at hz2
      rw [if_pos rfl]
      exact Option.some.inj hz2
/-- Whatever is come to is come to. -/
theorem BfI.reach {n : Nat} {c : Mx} (hc : ∀ i j, c i j = true → i < n ∧ j < n) {r : Nat} {come pi : List Nat} {a b : Nat} (h : BfI n c r come pi a b) : ∀ (m j x : Nat), j < m → come[j]? = some x → x = r ∨ Rc n c r x := by
  intro m
  induction m with
  | zero => intro j x hj; omega
  | succ m ih =>
    intro j x hj hx
    by_cases j0 : 0 < j
    · obtain ⟨i, y, _, p2, p3, p4, _⟩ := h.p j x j0 hx
      rcases ih i y (by omega) p3 with e | e
      · rw [e] at p4; exact .inr (Rc.of p4)
      · exact .inr (Rc.trans (hc y x p4).1 e (Rc.of p4))
    · have e : j = 0 := by omega
      subst e
      rw [h.z] at hx
      exact .inl (Option.some.inj hx).symm
/-- What a rule's way back is. -/
def WyB (n : Nat) (c : Mx) (r : Nat) (l : List Nat) : Prop := (l = [] ∧ ¬ Rc n c r r) ∨ ∃ m, Ds c r m r ∧ PtI c r m l
/-- From the last one back along the arrays. -/
theorem WbA.back {n : Nat} {c : Mx} {r m a b y : Nat} {come pi l : List Nat} {isC : Nat → Bool} {ah : Nat → Nat} (hw : WbA r come pi isC ah) (h : BfI n c r come pi a b) (hy : come[a]? = some y) (hyr : c y r = true) (hd : Ds c r m r) (hl : PtI c r m l) : l[m - 1]? = some y ∧ ∀ (i x z : Nat), l[i]? = some x → l[i + 1]? = some z → z ≠ r ∧ z < n ∧ ah z = x := by
  obtain ⟨h1, h2⟩ := h.found hy hyr hd hl
  refine ⟨h1, fun i x z hx hz => ?_⟩
  obtain ⟨q, j, i2, q1, q2, q3, q4⟩ := h2 i x z hx hz
  exact ⟨q, h.lt z (List.mem_of_getElem? q1), hw.a j z i2 x q2 q1 q3 q4⟩
end Go.Proofs.Ytbipjdgholdhcaa.N

namespace Go.Proofs.Ytbipjdgholdhcaa.N
open Go.RowKit Go.Maps
open Go.Proofs.Ytbipjdgholdhcaa.T
def Try.lays112_ren : Go.Shelf.Ren := ⟨fun | 112 => 35 | k => k, fun | 28 => 25 | k => k, fun k => k⟩
theorem Try.lays112 : Go.Proofs.Lays.n112 Try.prog Try.lays112_ren := {
  mixed := by kernel_rfl
  f112 := Try.func35.trans (congrArg some (by kernel_rfl))
  t0 := Try.underlying0
  a0 := Try.isAgg0
  z0 := Try.sizeOf0
  v0 := Try.zeroValue0
  t3 := Try.underlying3
  a3 := Try.isAgg3
  z3 := Try.sizeOf3
  v3 := Try.zeroValue3
  t4 := Try.underlying4
  a4 := Try.isAgg4
  z4 := Try.sizeOf4
  v4 := Try.zeroValue4
  t28 := Try.underlying25
  a28 := Try.isAgg25
  z28 := Try.sizeOf25
  v28 := Try.zeroValue25 }
/-- slices.Reverse of a row of the call's own. -/
theorem reverse_any {w : World} {base n : Nat} {v : Value} {l : List Nat} (hn : n = l.length) (hl : l.length ≤ 1000000) (h : w.ownsRow base 3 1 v n (l.map U.nI)) :
    Calls Try.prog 35 #[v] w fun e w' => e = .returned (.tuple #[]) ∧ w'.ownsRow base 3 1 v n (l.reverse.map U.nI) ∧ w.grownBy w' v.ownBlock := by
  subst hn
  have hm : ∀ k : List Nat, k.map U.nI = (k.map fun (x : Nat) => (x : Int)).map (Value.int .i64) := fun k => by rw [List.map_map]; rfl
  obtain ⟨zs, hz⟩ : ∃ zs : List Int, zs = l.map fun (x : Nat) => (x : Int) := ⟨_, rfl⟩
  have hzl : zs.length = l.length := by rw [hz, List.length_map]
  have hzr : l.reverse.map U.nI = zs.reverse.map (Value.int .i64) := by rw [hm, hz, List.map_reverse]
  rw [hm, ← hz] at h
  rw [hzr]
  rw [← hzl] at h ⊢
  rcases h.2 with ⟨rfl, h0⟩ | ⟨g, cap, cur, rfl, hb, hg, h1, h2, h3, h4⟩
  · have hz0 : zs = [] := List.eq_nil_of_length_eq_zero h0
    subst hz0
    refine (Any.slices_Reverse_int_empty Try.lays112 none 0 w).mono ?_
    rintro e w' ⟨rfl, rfl⟩
    exact ⟨rfl, World.ownsRow_nil _ _ _ _, World.grownBy.refl _ _⟩
  · have hH := Go.holds_of_blockI hg (ss := zs) (by rw [← h4, Nat.mul_one])
    refine (Any.slices_Reverse_int Try.lays112 g 0 cap zs w hH (by omega)).mono ?_
    rintro e w' ⟨rfl, k, rfl⟩
    have e1 := ownsRow_sortedI (n := k) (os := #[]) (ss := zs) (ts := zs.reverse) (by rw [List.length_reverse]) hb hg h1 h2 h3
    have e2 := grownBy_sortedI (w := w) (g := g) (n := k) (os := #[]) zs.reverse.toArray
    rw [Go.Sort.grow_empty] at e1 e2
    exact ⟨rfl, e1, e2⟩
end Go.Proofs.Ytbipjdgholdhcaa.N

namespace Go.Proofs.Ytbipjdgholdhcaa.N
open Go.RowKit Go.Maps
open Go.Proofs.Ytbipjdgholdhcaa.T
/-- A view's box. -/
structure VX (W : World) (b : Nat) (r m k : Value) : Prop where
  heap : W.heap[b]? = some (.cells #[r, m, k] 59 (0, 0))
theorem VX.lt {W : World} {b : Nat} {r m k : Value} (h : VX W b r m k) : b < W.heap.size := (Array.getElem?_eq_some_iff.1 h.heap).1
theorem VX.same {W W' : World} {b : Nat} {r m k : Value} (h : VX W b r m k) (hb : W'.heap[b]? = W.heap[b]?) : VX W' b r m k := ⟨hb.trans h.heap⟩
theorem VX.below {W W' : World} {b : Nat} {r m k : Value} (h : VX W b r m k) (hb : Below W.heap.size W W') : VX W' b r m k := h.same (hb.block b h.lt)
theorem VX.c0 {W : World} {b : Nat} {r m k : Value} (h : VX W b r m k) : W.cell? ⟨b, 0, none⟩ = some r := by rw [cell_of_row W b 0 _ 59 (0, 0) h.heap]; rfl
theorem VX.c1 {W : World} {b : Nat} {r m k : Value} (h : VX W b r m k) : W.cell? ⟨b, 1, none⟩ = some m := by rw [cell_of_row W b 1 _ 59 (0, 0) h.heap]; rfl
theorem VX.c2 {W : World} {b : Nat} {r m k : Value} (h : VX W b r m k) : W.cell? ⟨b, 2, none⟩ = some k := by rw [cell_of_row W b 2 _ 59 (0, 0) h.heap]; rfl
theorem VX.fz {W : World} {b : Nat} {r m k : Value} (h : VX W b r m k) (j : Nat) : W.frozen? ⟨b, j, none⟩ = false := frozen_of_row W b j _ 59 h.heap
theorem VX.all {W : World} {b : Nat} {r m k : Value} (h : VX W b r m k) (r2 m2 k2 : Value) : VX (((W.setCell ⟨b, 0, none⟩ r2).setCell ⟨b, 1, none⟩ m2).setCell ⟨b, 2, none⟩ k2) b r2 m2 k2 := by
  have h1 : VX (W.setCell ⟨b, 0, none⟩ r2) b r2 m k := ⟨by rw [heap_setCell_same W b 0 _ 59 _ h.heap]; rfl⟩
  have h2 : VX ((W.setCell ⟨b, 0, none⟩ r2).setCell ⟨b, 1, none⟩ m2) b r2 m2 k := ⟨by rw [heap_setCell_same _ b 1 _ 59 _ h1.heap]; rfl⟩
  exact ⟨by rw [heap_setCell_same _ b 2 _ 59 _ h2.heap]; rfl⟩
theorem VX.new (W : World) (r m k : Value) : VX (W.alloc (.cells #[r, m, k] 59)) W.heap.size r m k := ⟨heap_alloc_new W _⟩
theorem ret_vx2 {s t : Nat} {fn : Func} {R : Ending → World → Prop} {act : Act} {W : World} {b : Nat} {r m k x : Value} (hF : fn.results = #[.cell s 59, .tmp t]) (hd : act.defers = []) (h6 : act.tmps.getD s undef = .pointer (some ⟨b, 0, none⟩)) (h7 : act.tmps.getD t undef = x) (hT : VX W b r m k) (hR : R (.returned (.tuple #[.agg #[r, m, k], x])) W) : bodyPost Try.prog fn R .ret act W := by
  have c0 : W.cell? ⟨b, 0, none⟩ = _ := hT.c0
  have c1 : W.cell? ⟨b, 1, none⟩ = _ := hT.c1
  have c2 : W.cell? ⟨b, 2, none⟩ = _ := hT.c2
  refine bodyPost_ret (v := .tuple #[.agg #[r, m, k], x]) ?_ hd hR
  simp only [Array.getD_eq_getD_getElem?] at h6 h7
  simp [results, hF, go_sem, h6, h7, c0, c1, c2]
/-- While the names are told. -/
structure VwS (w wr : World) (u vk : Value) (mb kb : Nat) (Ak : Option Addr) (now : List Em) (gt : GL) : Prop where
  b : Below w.heap.size w wr
  g : GX wr w.heap.size u
  r : VX wr (w.heap.size + 1) (.slice none 0 0) (.map none) (.slice none 0 0)
  k : VX wr kb u (.map (some mb)) vk
  m : NmM wr mb gt
  d : RdE wr Ak now
  e1 : w.heap.size + 2 ≤ mb
  e2 : kb = mb + 1
  e3 : ∀ g o, Ak = some ⟨g, o, none⟩ → g < mb
theorem VwS.later {w wr w2 : World} {u vk : Value} {mb kb : Nat} {Ak : Option Addr} {now : List Em} {gt : GL} (h : VwS w wr u vk mb kb Ak now gt) (hb : Below wr.heap.size wr w2) : VwS w w2 u vk mb kb Ak now gt := ⟨h.b.trans (hb.mono h.b.size), h.g.below hb, h.r.below hb, h.k.below hb, h.m.later hb, h.d.later hb, h.e1, h.e2, h.e3⟩
theorem VwS.put {w wX w1 : World} {u vk : Value} {mb kb k : Nat} {Ak : Option Addr} {now : List Em} {gt : GL} {g : ByteArray × List Nd} {D : DataW Unit} (h : VwS w wX u vk mb kb Ak now gt) (hg : wX.grownBy w1 (some mb)) (ho : w1.ownsMap Try.prog 9 (plainElem Try.prog 3) mb (k + 1) (D.put (.string g.1.data.toList) (.lit (.int .i64 k)))) (hD : NmD D gt) (hf : fdG gt g.1 = none) (hk : gt.length = k) : VwS w w1 u vk mb kb Ak now (gt ++ [g]) := by
  have hm : Maps.IsMap D := by
    obtain ⟨es, clock, _, _, _, e⟩ := ho
    cases D with
    | map es => exact ⟨es, rfl⟩
    | _ => cases e
  have e1 := h.e1
  have e2 := h.e2
  have key : ∀ j, j < wX.heap.size → j ≠ mb → w1.heap[j]? = wX.heap[j]? := fun j hj hn => hg.block j hj (fun e => by injection e with e; exact hn e)
  refine ⟨h.b.grown hg h.b.size (fun j hj => by cases hj; omega), h.g.same (key _ h.g.lt (by omega)), h.r.same (key _ h.r.lt (by omega)), h.k.same (key _ h.k.lt (by omega)), ⟨⟨D.put (.string g.1.data.toList) (.lit (.int .i64 k)), ?_, ?_⟩⟩, h.d.same hg.size (fun g2 o2 e => key _ (by have := h.e3 g2 o2 e; have := h.m.lt; omega) (by have := h.e3 g2 o2 e; omega)), e1, e2, h.e3⟩
  · rw [List.length_append, List.length_singleton, hk]; exact ho
  · have := NmD.put hm hD g hf
    rw [hk] at this
    exact this
/-- What viewOf answers. -/
def VwR (w w' : World) (gs : GL) (A : Option Addr) (c : Nat) (e : Ending) : Prop := ((ckG gs).2 ≠ 0 → e = .returned (.tuple #[.agg #[.slice none 0 0, .map none, .slice none 0 0], .int .i64 (ckG gs).2])) ∧ ((ckG gs).2 = 0 → ∃ mb Ak ck now, e = .returned (.tuple #[.agg #[.slice A gs.length c, .map (some mb), .slice Ak gs.length ck], .int .i64 0]) ∧ NmM w' mb gs ∧ RdE w' Ak now ∧ KnF gs now ∧ now.length = gs.length ∧ OkN gs now ∧ w.heap.size ≤ mb)
set_option maxRecDepth 100000 in
set_option maxHeartbeats 16000000 in
theorem viewOf_any (gs : GL) (A : Option Addr) (c : Nat) (w : World) (hp : GI w A gs) :
    Calls Try.prog 13 #[.agg #[.slice A gs.length c]] w fun e w' => VwR w w' gs A c e ∧ Below w.heap.size w w' := by
  obtain ⟨w1, hw1⟩ : ∃ w1, w1 = (w.alloc (.cells #[.slice A gs.length c] 24)).alloc (.cells #[.slice none 0 0, .map none, .slice none 0 0] 59) := ⟨_, rfl⟩
  have HE1 := (show Hid ((w.alloc (.cells #[.slice A gs.length c] 24)).alloc (.cells #[.slice none 0 0, .map none, .slice none 0 0] 59) = w1) from hw1.symm)
  have HS1 := (show Hid (Below w.heap.size w w1 ∧ GX w1 w.heap.size (.slice A gs.length c) ∧ VX w1 (w.heap.size + 1) (.slice none 0 0) (.map none) (.slice none 0 0) ∧ w1.heap.size = w.heap.size + 2) from by
    have s1 := World.size_alloc w (.cells #[.slice A gs.length c] 24)
    refine ⟨by rw [hw1]; exact ((Below.refl _ _).alloc (Nat.le_refl _) _).alloc (by omega) _, by rw [hw1]; exact (GX.mk (heap_alloc_new w _)).below (below_box _ _), ?_, by rw [hw1, World.size_alloc, s1]⟩
    have h := VX.new (w.alloc (.cells #[.slice A gs.length c] 24)) (.slice none 0 0) (.map none) (.slice none 0 0)
    rw [s1, ← hw1] at h; exact h)
  have HRu := (show Hid (Calls Try.prog 20 #[.agg #[.slice A gs.length c]] w1 fun e w' => (∃ v now, e = .returned (.tuple #[v, .int .i64 (ckG gs).2]) ∧ RuR gs now ∧ w'.ownsRow w1.heap.size 89 4 v now.length (emc now)) ∧ Below w1.heap.size w1 w') from rulesP_any gs A c w1 (hp.later HS1.out.1))
  have HP := (show Hid (GI w A gs) from hp)
  have q1 := HS1.out.2.1.cl
  clear hw1 hp
  go_enter Try.func13, Try.ntmps13
  go_wp2_with (rw [HE1.out])
  refine HRu.out.mono ?_
  rintro e w2 ⟨⟨v, now, rfl, hr, ho⟩, b2⟩
  have HS2 := (show Hid (Below w.heap.size w w2 ∧ GX w2 w.heap.size (.slice A gs.length c) ∧ VX w2 (w.heap.size + 1) (.slice none 0 0) (.map none) (.slice none 0 0) ∧ w.heap.size + 2 ≤ w2.heap.size) from ⟨HS1.out.1.trans (b2.mono HS1.out.1.size), HS1.out.2.1.below b2, HS1.out.2.2.1.below b2, by have := b2.size; have := HS1.out.2.2.2; omega⟩)
  have q2 := HS2.out.2.1.cl
  by_cases hz : (ckG gs).2 = 0
  · have hR := ckG_ok.1 hz
    obtain ⟨hk, hl, hok⟩ := hr.1 hz
    rw [hl] at ho
    obtain ⟨Ak, ck, rfl⟩ := own_fm ho
    have hn200 := hR.n2
    have HAk := (show Hid (∀ g o, Ak = some ⟨g, o, none⟩ → g ≠ w.heap.size + 1) from fun g o e q => by
      rw [e] at ho
      obtain ⟨g2, c2, e2, h2, _⟩ := ho.form (by have := hR.n1; omega)
      injection e2 with e3 _ _
      obtain ⟨rfl, _⟩ := Addr.mk.inj (Option.some.inj e3)
      have := HS1.out.2.2.2
      omega)
    have HK := (show Hid (KnF gs now ∧ now.length = gs.length ∧ OkN gs now) from ⟨hk, hl, hok⟩)
    obtain ⟨mb, hmb⟩ : ∃ mb, mb = w2.heap.size := ⟨_, rfl⟩
    have HMb := (show Hid (w2.heap.size = mb) from hmb.symm)
    obtain ⟨w3, hw3⟩ : ∃ w3, w3 = (w2.alloc (.map #[] 0)).alloc (.cells #[.slice A gs.length c, .map (some w2.heap.size), .slice Ak gs.length ck] 59) := ⟨_, rfl⟩
    have HE3 := (show Hid ((w2.alloc (.map #[] 0)).alloc (.cells #[.slice A gs.length c, .map (some w2.heap.size), .slice Ak gs.length ck] 59) = w3) from hw3.symm)
    have HS := (show Hid (VwS w w3 (.slice A gs.length c) (.slice Ak gs.length ck) mb (mb + 1) Ak now []) from by
      have s3 := World.size_alloc w2 (.map #[] 0)
      have b3 : Below w2.heap.size w2 w3 := by rw [hw3]; exact ((Below.refl _ _).alloc (Nat.le_refl _) _).alloc (by omega) _
      have hrd := own_rd ho hl
      have hnn : now ≠ [] := by rintro rfl; have := hR.n1; simp at hl; omega
      refine ⟨HS2.out.1.trans (b3.mono HS2.out.1.size), HS2.out.2.1.below b3, HS2.out.2.2.1.below b3, ?_, ?_, hrd.later b3, by rw [hmb]; exact HS2.out.2.2.2, rfl, fun g o e => by rw [hmb]; exact rde_lt hrd hnn g o e⟩
      · have h := VX.new (w2.alloc (.map #[] 0)) (.slice A gs.length c) (.map (some w2.heap.size)) (.slice Ak gs.length ck)
        rw [s3, ← hw3] at h
        rw [hmb]
        exact h
      · rw [hw3, hmb]; exact (NmM.nil w2).later (below_box _ _))
    have HGt := (show Hid (∀ (k : Nat), k < gs.length → ∃ g, gs[k]? = some g ∧ g.1.size ≤ 140737488355328 ∧ fdG (gs.take k) g.1 = none) from fun k hk => by
      have hg : gs[k]? = some gs[k] := List.getElem?_eq_getElem hk
      have hm := List.mem_of_getElem? hg
      refine ⟨_, hg, (HP.out.t _ hm).1, ?_⟩
      cases q : fdG (gs.take k) (gs[k]).1 with
      | none => rfl
      | some i =>
        obtain ⟨h, h1, h2, _⟩ := fdG_some q
        rw [List.getElem?_take] at h1
        by_cases hik : i < k
        · rw [if_pos hik] at h1
          have := hR.dn.d i k h _ h1 hg h2
          omega
        · rw [if_neg hik] at h1; cases h1)
    have tz : ((ckG gs).2 != 0) = false := by rw [hz]; rfl
    have HZ := (show Hid ((ckG gs).2 = 0) from hz)
    have hmm := @run_makeMap Try.prog
    have q3 := HS.out.g.cl
    clear hr ho hk hl hok b2 hw3 hmb hz hR HRu HS1 HE1 q1
    generalize (ckG gs).2 = cd at tz ⊢
    go_wp2_with (rw [HE3.out, HMb.out])
    clear HE3 HMb hmm q2 q3
    go_loopw [26] (fun t wr => ∃ k : Nat, k ≤ gs.length ∧ t = .int .i64 (k : Int) ∧ Hid (VwS w wr (.slice A gs.length c) (.slice Ak gs.length ck) mb (mb + 1) Ak now (gs.take k))) (fun t _ => gs.length - (intOf t).toNat)
    case atStart => exact ⟨0, Nat.zero_le _, by go_num, HS⟩
    case round =>
      obtain ⟨k, hk, rfl, HW⟩ := hrel
      clear HS
      by_cases hlt : k < gs.length
      · obtain ⟨g, hg, hsz, hfd⟩ := HGt.out k hlt
        obtain ⟨b, o, A2, c2, rfl, lb, x0, x1, r2⟩ := HP.out.d k g hg
        have x0' := (HW.out.b.cell (p := ⟨b, o + k * 2, none⟩) lb).trans x0
        have x1' := (HW.out.b.cell (p := ⟨b, o + k * 2 + 1, none⟩) lb).trans x1
        have z0 : (0 : Int) ≤ (k : Int) := by omega
        have z1 : (k : Int) < (gs.length : Int) := by omega
        obtain ⟨w4, hw4⟩ : ∃ w4, w4 = wr.alloc (.cells #[.string g.1, .slice A2 g.2.length c2] 55) := ⟨_, rfl⟩
        have HE4 := (show Hid (wr.alloc (.cells #[.string g.1, .slice A2 g.2.length c2] 55) = w4) from hw4.symm)
        have hb4 : Below wr.heap.size wr w4 := by rw [hw4]; exact below_box _ _
        have HR4 := (show Hid (RB w4 wr.heap.size g.1 (.slice A2 g.2.length c2)) from by rw [hw4]; exact ⟨heap_alloc_new wr _⟩)
        have HW4 := (show Hid (VwS w w4 (.slice (some ⟨b, o, none⟩) gs.length c) (.slice Ak gs.length ck) mb (mb + 1) Ak now (gs.take k)) from HW.out.later hb4)
        have k1 := HW4.out.k.c1
        have y0 := HR4.out.c0
        obtain ⟨D, hown, hD⟩ := HW4.out.m.ex
        have hlk : (gs.take k).length = k := by rw [List.length_take]; omega
        rw [hlk] at hown
        have HOm := (show Hid (w4.ownsMap Try.prog 9 (plainElem Try.prog 3) mb k D) from hown)
        have HPut := (show Hid (∀ w3, w4.grownBy w3 (some mb) → w3.ownsMap Try.prog 9 (plainElem Try.prog 3) mb (k + 1) (D.put (.string g.1.data.toList) (.lit (.int .i64 k))) → VwS w w3 (.slice (some ⟨b, o, none⟩) gs.length c) (.slice Ak gs.length ck) mb (mb + 1) Ak now (gs.take (k + 1))) from fun w3 h1 h2 => by
          rw [show gs.take (k + 1) = gs.take k ++ [g] from by rw [List.take_add_one, hg]; rfl]
          exact HW4.out.put h1 h2 hD hfd hlk)
        have hkey := key_of hsz
        clear hw4 hb4 hg hD hown hfd hlk HW HW4 HGt HP hsz x0 x1 r2 lb
        go_wp2_with (first
          | rw [HE4.out]
          | (at_mapUpdate
             refine wpList_mapUpdate_own _ rfl _ _ _ 56 rfl 9 3 keyed Try.underlying56 _ mb k D rfl HOm.out (by unfold maxLen; omega) _ _ (.string g.1.data.toList) rfl rfl hkey _ [] (plainElem_int Try.underlying3 (WalkArith.wf_i64 (by omega))) ?_
             intro w5 hown5 hgrow5
             have HS5 := (show Hid (VwS w w5 (.slice (some ⟨b, o, none⟩) gs.length c) (.slice Ak gs.length ck) mb (mb + 1) Ak now (gs.take (k + 1))) from HPut.out w5 hgrow5 hown5)
             clear hown5 hgrow5 HPut HOm hkey k1 y0 HE4))
        go_roundw
        case rel => exact ⟨k + 1, by omega, by go_num, HS5⟩
        case measure => simp [intOf]; omega
      · obtain rfl : k = gs.length := by omega
        have HF := (show Hid (VwS w wr (.slice A gs.length c) (.slice Ak gs.length ck) mb (mb + 1) Ak now gs) from by have h := HW.out; rw [List.take_length] at h; exact h)
        have HNe := (show Hid (∀ g o, Ak = some ⟨g, o, none⟩ → g ≠ w.heap.size + 1) from HAk.out)
        have HT := (show Hid (∀ W, W = ((wr.setCell ⟨w.heap.size + 1, 0, none⟩ (.slice A gs.length c)).setCell ⟨w.heap.size + 1, 1, none⟩ (.map (some mb))).setCell ⟨w.heap.size + 1, 2, none⟩ (.slice Ak gs.length ck) → VX W (w.heap.size + 1) (.slice A gs.length c) (.map (some mb)) (.slice Ak gs.length ck) ∧ NmM W mb gs ∧ RdE W Ak now ∧ Below w.heap.size w W) from fun W hW => by
          have h := HF.out
          have e1 := h.e1
          have hz : W.heap.size = wr.heap.size := by rw [hW, World.size_setCell, World.size_setCell, World.size_setCell]
          have key : ∀ j, j ≠ w.heap.size + 1 → W.heap[j]? = wr.heap[j]? := fun j hj => by
            rw [hW]; exact ((heap_setCell_other _ _ _ _ hj).trans (heap_setCell_other _ _ _ _ hj)).trans (heap_setCell_other _ _ _ _ hj)
          refine ⟨by rw [hW]; exact h.r.all _ _ _, h.m.same (key _ (by omega)), ?_, ?_⟩
          · exact h.d.same (by rw [hz]; exact Nat.le_refl _) (fun g o e => key g (fun q => HNe.out g o e q))
          · rw [hW]
            exact ((h.b.setCell (p := ⟨w.heap.size + 1, 0, none⟩) (Nat.le_succ _) _).setCell (p := ⟨w.heap.size + 1, 1, none⟩) (Nat.le_succ _) _).setCell (p := ⟨w.heap.size + 1, 2, none⟩) (Nat.le_succ _) _)
        have k0 := HF.out.k.c0
        have k1 := HF.out.k.c1
        have k2 := HF.out.k.c2
        have r0 := HF.out.r.c0
        have r1 := HF.out.r.c1
        have r2 := HF.out.r.c2
        have f0 := HF.out.r.fz 0
        have f1 := HF.out.r.fz 1
        have f2 := HF.out.r.fz 2
        have HMl := (show Hid (w.heap.size ≤ mb) from by have := HF.out.e1; show w.heap.size ≤ mb; omega)
        clear HW HGt HP HF
        go_wp2_with fail
        have HQ := (show Hid _ from HT.out _ rfl)
        refine ret_vx2 (s := 2) (t := 3) (b := w.heap.size + 1) (x := .int .i64 0) (by rfl) (by rfl) (by rfl) (by rfl) HQ.out.1 ?_
        exact ⟨⟨fun q => absurd HZ.out q, fun _ => ⟨mb, Ak, ck, now, rfl, HQ.out.2.1, HQ.out.2.2.1, HK.out.1, HK.out.2.1, HK.out.2.2, HMl.out⟩⟩, HQ.out.2.2.2⟩
  · have tz : ((ckG gs).2 != 0) = true := by rw [bne, beq_eq_false_iff_ne.2 hz]; rfl
    have HZ := (show Hid ((ckG gs).2 ≠ 0) from hz)
    obtain rfl := hr.2 hz
    obtain ⟨Ak, ck, rfl⟩ := own_fm ho
    have HT := (show Hid (∀ W, W = ((w2.setCell ⟨w.heap.size + 1, 0, none⟩ (.slice none 0 0)).setCell ⟨w.heap.size + 1, 1, none⟩ (.map none)).setCell ⟨w.heap.size + 1, 2, none⟩ (.slice none 0 0) → VX W (w.heap.size + 1) (.slice none 0 0) (.map none) (.slice none 0 0) ∧ Below w.heap.size w W) from fun W hW => by
      rw [hW]
      exact ⟨HS2.out.2.2.1.all _ _ _, ((HS2.out.1.setCell (p := ⟨w.heap.size + 1, 0, none⟩) (Nat.le_succ _) _).setCell (p := ⟨w.heap.size + 1, 1, none⟩) (Nat.le_succ _) _).setCell (p := ⟨w.heap.size + 1, 2, none⟩) (Nat.le_succ _) _⟩)
    have r0 := HS2.out.2.2.1.c0
    have r1 := HS2.out.2.2.1.c1
    have r2 := HS2.out.2.2.1.c2
    have f0 := HS2.out.2.2.1.fz 0
    have f1 := HS2.out.2.2.1.fz 1
    have f2 := HS2.out.2.2.1.fz 2
    clear hr ho hz b2 HRu HS1 HE1 q1 HS2 HP
    generalize hcd : (ckG gs).2 = cd at tz ⊢
    have HCD := (show Hid ((ckG gs).2 = cd) from hcd)
    clear hcd
    go_wp2_with fail
    have HQ := (show Hid _ from HT.out _ rfl)
    refine ret_vx2 (s := 2) (t := 3) (b := w.heap.size + 1) (x := .int .i64 cd) (by rfl) (by rfl) (by rfl) (by rfl) HQ.out.1 ?_
    exact ⟨⟨fun _ => by rw [HCD.out], fun q => absurd q HZ.out⟩, HQ.out.2⟩
end Go.Proofs.Ytbipjdgholdhcaa.N

namespace Go.Proofs.Ytbipjdgholdhcaa.N
open Go.RowKit Go.Maps
open Go.Proofs.Ytbipjdgholdhcaa.T
/-- Marks, as they are handed on. -/
def mkL (f : Nat → Bool) : List Value := (List.range 200).map fun q => .bool (f q)
def mkA (f : Nat → Bool) : Array Value := (mkL f).toArray
theorem mkL_len (f : Nat → Bool) : (mkL f).length = 200 := by unfold mkL; rw [List.length_map, List.length_range]
theorem mkA_size (f : Nat → Bool) : (mkA f).size = 200 := by unfold mkA; rw [List.size_toArray, mkL_len]
theorem mkL_one (f : Nat → Bool) : ∀ v ∈ mkL f, v.oneCell' = true := fun v hv => by
  unfold mkL at hv
  obtain ⟨q, _, rfl⟩ := List.mem_map.1 hv
  rfl
theorem mkA_one (f : Nat → Bool) : (mkA f).all (·.oneCell') = true := all_oneCell_toArray (mkL_one f)
theorem mkL_get (f : Nat → Bool) {q : Nat} (h : q < 200) : (mkL f)[q]? = some (.bool (f q)) := by
  unfold mkL
  rw [List.getElem?_map, List.getElem?_range h]
  rfl
theorem mkA_get (f : Nat → Bool) {q : Nat} (h : q < 200) : (mkA f)[q]? = some (.bool (f q)) := by
  unfold mkA
  rw [List.getElem?_toArray, mkL_get f h]
theorem mkA_ext {f g : Nat → Bool} (h : ∀ q, q < 200 → f q = g q) : mkA f = mkA g := by
  unfold mkA mkL
  congr 1
  exact List.map_congr_left fun q hq => by rw [h q (List.mem_range.1 hq)]
theorem Try.size68 : (Try.prog.info? 68).map (·.size) = some 200 := by kernel_rfl
theorem Try.zeros68 : (Try.prog.info? 68).map (fun i => (i.zero, i.size)) = some (some (.agg (mkA fun _ => false)), 200) := by kernel_rfl
theorem zero_mk (w : World) : (zeroValue 68).run Try.prog w = .ok (.agg (mkA fun _ => false)) w := (zero_of_info Try.zeros68).1 w
/-- Marks in a box. -/
structure MX (W : World) (b : Nat) (f : Nat → Bool) : Prop where
  heap : W.heap[b]? = some (.cells (mkA f) 68 (0, 0))
theorem MX.lt {W : World} {b : Nat} {f : Nat → Bool} (h : MX W b f) : b < W.heap.size := (Array.getElem?_eq_some_iff.1 h.heap).1
theorem MX.same {W W' : World} {b : Nat} {f : Nat → Bool} (h : MX W b f) (hb : W'.heap[b]? = W.heap[b]?) : MX W' b f := ⟨hb.trans h.heap⟩
theorem MX.below {W W' : World} {b : Nat} {f : Nat → Bool} (h : MX W b f) (hb : Below W.heap.size W W') : MX W' b f := h.same (hb.block b h.lt)
theorem MX.cl {W : World} {b : Nat} {f : Nat → Bool} (h : MX W b f) {q : Nat} (hq : q < 200) : W.cell? ⟨b, q, none⟩ = some (.bool (f q)) := by rw [cell_of_row W b q _ 68 (0, 0) h.heap, mkA_get f hq]
theorem MX.fz {W : World} {b : Nat} {f : Nat → Bool} (h : MX W b f) (q : Nat) : W.frozen? ⟨b, q, none⟩ = false := frozen_of_row W b q _ 68 h.heap
theorem MX.at' {W : World} {b : Nat} {f : Nat → Bool} (h : MX W b f) : W.rangeAt b 0 (mkL f) := fun j v hv => by
  have hj := (List.getElem?_eq_some_iff.1 hv).1
  rw [mkL_len] at hj
  rw [mkL_get f hj] at hv
  cases hv
  rw [Nat.zero_add]
  exact h.cl hj
theorem MX.new (W : World) (f : Nat → Bool) : MX (W.alloc (.cells (mkA f) 68)) W.heap.size f := ⟨heap_alloc_new W _⟩
def upM (f : Nat → Bool) (r : Nat) (v : Bool) : Nat → Bool := fun q => if q = r then v else f q
theorem MX.set {W : World} {b r : Nat} {f : Nat → Bool} (h : MX W b f) (v : Bool) : MX (W.setCell ⟨b, r, none⟩ (.bool v)) b (upM f r v) := ⟨by
  rw [heap_setCell_same _ b r _ 68 _ h.heap]
  congr 2
  apply Array.ext_getElem?
  intro q
  rw [Array.getElem?_setIfInBounds]
  by_cases hq : q < 200
  · rw [mkA_get (upM f r v) hq]
    by_cases e : r = q
    · subst e
      rw [if_pos rfl, if_pos (by rw [mkA_size]; exact hq)]
      unfold upM
      rw [if_pos rfl]
    · rw [if_neg e, mkA_get f hq]
      unfold upM
      rw [if_neg (Ne.symm e)]
  · rw [Array.getElem?_eq_none (xs := mkA (upM f r v)) (by rw [mkA_size]; omega)]
    split
    · split
      · next h1 h2 => rw [mkA_size] at h2; omega
      · rfl
    · rw [Array.getElem?_eq_none (by rw [mkA_size]; omega)]⟩
theorem MX.all {W : World} {b : Nat} {f : Nat → Bool} (h : MX W b f) (g : Nat → Bool) : MX (W.setRow b (mkA g)) b g := ⟨setRow_heap W b _ _ 68 (0, 0) h.heap⟩
/-- A whole list of marks is written into its box. -/
theorem wpList_storeM {ops : Array Oper} {rest : List Oper} {op : Oper} {a : Act} {w : World} {Q : Exit → Act → World → Prop} (hgd : op.guard = none) (x y : Operand) (ho : op.op = .store 68 x y) (b : Nat) (f g : Nat → Bool) (hx : a.eval x = .pointer (some ⟨b, 0, none⟩)) (hy : a.eval y = .agg (mkA g)) (hm : MX w b f)
    (h : wpList Try.prog ops Q rest (a.put op.dst undef) (w.setRow b (mkA g))) : wpList Try.prog ops Q (op :: rest) a w := by
  refine wpList_plain hgd fun K hK => ?_
  have hr := run_storeVar_row (P := Try.prog) w b 68 68 (mkA f) (mkA g) hm.heap (by rw [mkA_size]; exact Try.size68) (by rw [mkA_size, mkA_size]) (mkA_one g)
  unfold Oper.wp execOp
  simp only [ho, hx, hy, Instr.storeAt, Instr.sureAddr, Sem.run_bind, Sem.run_pure, Result.andThen_ok, hr]
  exact hK _ _ h
/-- .. and read. -/
theorem wpList_loadM {ops : Array Oper} {rest : List Oper} {op : Oper} {a : Act} {w : World} {Q : Exit → Act → World → Prop} (hgd : op.guard = none) (x : Operand) (ho : op.op = .load 68 x) (b o : Nat) (f : Nat → Bool) (hx : a.eval x = .pointer (some ⟨b, o, none⟩)) (hm : w.rangeAt b o (mkL f))
    (h : wpList Try.prog ops Q rest (a.put op.dst (.agg (mkA f))) w) : wpList Try.prog ops Q (op :: rest) a w :=
  wpList_load_mid hgd 68 x ho b o hx (mkL f) (.array 200 4) hm Try.underlying68 rfl (by rw [mkL_len]; exact Try.size68) h
theorem ret_mx {s : Nat} {fn : Func} {R : Ending → World → Prop} {act : Act} {W : World} {b : Nat} {f : Nat → Bool} (hF : fn.results = #[.cell s 68]) (hd : act.defers = []) (h6 : act.tmps.getD s undef = .pointer (some ⟨b, 0, none⟩)) (hm : MX W b f) (hR : R (.returned (.agg (mkA f))) W) : bodyPost Try.prog fn R .ret act W := by
  refine bodyPost_ret (v := .agg (mkA f)) ?_ hd hR
  have hr := run_loadVar_row (P := Try.prog) W b 68 68 (mkA f) (0, 0) (.array 200 4) hm.heap Try.underlying68 rfl (by rw [mkA_size]; exact Try.size68)
  simp only [Array.getD_eq_getD_getElem?] at h6
  simp [results, hF, h6, asAddr, hr]
theorem index_mk (f : Nat → Bool) {k : Nat} (hk : k < 200) (W : World) : (Instr.index 68 (.agg (mkA f)) (.int .i64 (k : Int))).run Try.prog W = .ok (.bool (f k)) W := by
  have h := mkA_get f hk
  have hs := mkA_size f
  generalize mkA f = a at h hs
  have h0 : (0 : Int) ≤ (k : Int) := by omega
  have h1 : (k : Int) < 200 := by omega
  have h2 : ¬ 200 ≤ k := by omega
  simp [Instr.index, go_sem, h, h0, h2]
end Go.Proofs.Ytbipjdgholdhcaa.N

namespace Go.Proofs.Ytbipjdgholdhcaa.N
open Go.RowKit Go.Maps
open Go.Proofs.Ytbipjdgholdhcaa.T

open U (below_grown own_get own_slice)
theorem filter_succ (f : Nat → Bool) (k : Nat) : (List.range (k + 1)).filter f = if f k then (List.range k).filter f ++ [k] else (List.range k).filter f := by
  rw [List.range_succ, List.filter_append]
  cases h : f k <;> simp [h]
theorem filter_len (f : Nat → Bool) (k : Nat) : ((List.range k).filter f).length ≤ k := by
  have := List.length_filter_le f (List.range k)
  rwa [List.length_range] at this
/-- While the numbers are told. -/
structure NmS (w wr : World) (l : List Nat) (N : Nat) (v : Value) : Prop where
  b : Below w.heap.size w wr
  o : wr.ownsRow N 3 1 v l.length (l.map U.nI)
  n : w.heap.size ≤ N ∧ N ≤ wr.heap.size
theorem NmS.push {w wr w2 : World} {l : List Nat} {N k : Nat} {v v2 : Value} (h : NmS w wr l N v) (ho : w2.ownsRow N 3 1 v2 (l.length + 1) (l.map U.nI ++ [.int .i64 (k : Int)])) (hg : wr.grownBy w2 v.ownBlock) : NmS w w2 (l ++ [k]) N v2 := by
  have hlow : ∀ q, v.ownBlock = some q → N ≤ q := fun q hq => (h.o.lt q hq).1
  have hn := h.n
  refine ⟨below_grown h.b hg (fun q e => by have := hlow q e; omega), ?_, ⟨hn.1, Nat.le_trans hn.2 hg.size⟩⟩
  rw [List.length_append, List.map_append]
  exact ho
set_option maxRecDepth 100000 in
set_option maxHeartbeats 16000000 in
/-- The numbers of what is marked, rising. -/
theorem numbers_any (f : Nat → Bool) (w : World) : Calls Try.prog 25 #[.agg (mkA f)] w fun e w' => (∃ v, e = .returned v ∧ w'.ownsRow w.heap.size 3 1 v ((List.range 200).filter f).length (((List.range 200).filter f).map U.nI)) ∧ Below w.heap.size w w' := by
  obtain ⟨w1, hw1⟩ : ∃ w1, w1 = w.alloc (.cells (mkA f) 68) := ⟨_, rfl⟩
  have HE1 := (show Hid (w.alloc (.cells (mkA f) 68) = w1) from hw1.symm)
  have hb1 : Below w.heap.size w w1 := by rw [hw1]; exact below_box _ _
  have HR := (show Hid (w1.rangeAt w.heap.size 0 (mkL f)) from by rw [hw1]; exact (MX.new w f).at')
  have HS := (show Hid (NmS w w1 [] w.heap.size (.slice none 0 0)) from ⟨hb1, World.ownsRow_nil _ _ _ _, Nat.le_refl _, hb1.size⟩)
  have HIx := (show Hid (∀ (k : Nat) (W : World), k < 200 → (Instr.index 68 (.agg (mkA f)) (.int .i64 (k : Int))).run Try.prog W = .ok (.bool (f k)) W) from fun k W hk => index_mk f hk W)
  have HF := (show Hid (∀ k, (List.range (k + 1)).filter f = if f k then (List.range k).filter f ++ [k] else (List.range k).filter f) from filter_succ f)
  have HL := (show Hid (∀ k, ((List.range k).filter f).length ≤ k) from filter_len f)
  obtain ⟨A, hA⟩ : ∃ A, A = mkA f := ⟨_, rfl⟩
  have HA := (show Hid (A = mkA f) from hA)
  clear hw1 hb1
  go_enter Try.func25, Try.ntmps25
  go_wp2_with (first | rw [HE1.out] | refine wpList_loadM rfl _ rfl w.heap.size 0 f rfl HR.out ?_)
  rw [← hA]
  clear hA HE1 HR
  have HS2 := (show Hid (NmS w w1 ((List.range 0).filter f) w.heap.size (.slice none 0 0)) from HS.out)
  clear HS
  go_loopw [3, 7] (fun v t wr => ∃ (k n : Nat) (A2 : Option Addr) (c2 : Nat), k ≤ 200 ∧ t = .int .i64 (k : Int) ∧ v = .slice A2 n c2 ∧ Hid (n = ((List.range k).filter f).length) ∧ n ≤ 200 ∧ Hid (NmS w wr ((List.range k).filter f) w.heap.size (.slice A2 n c2))) (fun _ t _ => 200 - (intOf t).toNat)
  case atStart => exact ⟨0, 0, none, 0, by omega, by go_num, rfl, rfl, by omega, HS2⟩
  case round =>
    obtain ⟨k, n, A2, c2, hk, rfl, rfl, HN, hn, HW⟩ := hrel
    clear HS2
    by_cases hlt : k < 200
    · have hix : ∀ W, (Instr.index 68 (.agg A) (.int .i64 (k : Int))).run Try.prog W = .ok (.bool (f k)) W := fun W => by rw [HA.out]; exact HIx.out k W hlt
      have z1 : (k : Int) < 200 := by omega
      have HFk := hid_of (HF.out k)
      have HLk := (show Hid (((List.range (k + 1)).filter f).length ≤ 200) from Nat.le_trans (HL.out (k + 1)) (by omega))
      cases hb : f k with
      | false =>
        rw [hb] at hix
        have HW2 := (show Hid (NmS w wr ((List.range (k + 1)).filter f) w.heap.size (.slice A2 n c2)) from by rw [HFk.out, if_neg (by rw [hb]; exact Bool.noConfusion)]; exact HW.out)
        have HN2 := (show Hid (n = ((List.range (k + 1)).filter f).length) from by rw [HFk.out, if_neg (by rw [hb]; exact Bool.noConfusion)]; exact HN.out)
        clear hb HW HFk HLk HN HF HIx HL
        go_wp2_with fail
        go_roundw
        case rel => exact ⟨k + 1, n, A2, c2, by omega, by go_num, rfl, HN2, hn, HW2⟩
        case measure => simp [intOf]; omega
      | true =>
        rw [hb] at hix
        have HO := (show Hid (∀ W, W = wr → W.ownsRow w.heap.size 3 1 (.slice A2 n c2) n (((List.range k).filter f).map U.nI)) from fun W h => by rw [h]; have h := HW.out.o; rw [← HN.out] at h; exact h)
        have HNs := (show Hid (w.heap.size ≤ wr.heap.size) from HW.out.n.2)
        have HPu := (show Hid (∀ (g5 cap5 : Nat) (w5 : World), w5.ownsRow w.heap.size 3 1 (.slice (some ⟨g5, 0, none⟩) (n + 1) cap5) (n + 1) (((List.range k).filter f).map U.nI ++ [.int .i64 (k : Int)]) → wr.grownBy w5 (Value.slice A2 n c2).ownBlock → Hid (NmS w w5 ((List.range (k + 1)).filter f) w.heap.size (.slice (some ⟨g5, 0, none⟩) (n + 1) cap5)) ∧ Hid (n + 1 = ((List.range (k + 1)).filter f).length) ∧ n + 1 ≤ 200) from fun g5 cap5 w5 h1 h2 => by
          have e : ((List.range (k + 1)).filter f).length = n + 1 := by rw [HFk.out, if_pos hb, List.length_append, ← HN.out]; rfl
          refine ⟨?_, e.symm, by rw [← e]; exact HLk.out⟩
          show NmS _ _ _ _ _
          rw [HFk.out, if_pos hb]
          exact HW.out.push (by rw [← HN.out]; exact h1) h2)
        clear hb HW HFk HLk HN HF HIx HL
        go_wp2_with (at_builtin; refine U.wpList_app1 rfl _ _ 25 rfl (.int .i64 0) 8 Try.underlying25 Try.info3 rfl w.heap.size n _ _ rfl rfl (HO.out _ rfl) rfl (by omega) (by decide) HNs.out ?_; intro g5 cap5 w5 ho5 hg5 hat5 hl5; obtain ⟨HV5, HN5, hn5⟩ := HPu.out g5 cap5 w5 ho5 hg5; clear ho5 hg5 hat5 hl5 HPu HO HNs)
        go_roundw
        case rel => exact ⟨k + 1, n + 1, some ⟨g5, 0, none⟩, cap5, by omega, by go_num, rfl, HN5, hn5, HV5⟩
        case measure => simp [intOf]; omega
    · obtain rfl : k = 200 := by omega
      have HO := (show Hid (wr.ownsRow w.heap.size 3 1 (.slice A2 n c2) ((List.range 200).filter f).length (((List.range 200).filter f).map U.nI) ∧ Below w.heap.size w wr) from ⟨HW.out.o, HW.out.b⟩)
      clear HW HN HF HIx HL HA
      go_wp2_with fail
      go_ret
      exact ⟨⟨_, rfl, HO.out.1⟩, HO.out.2⟩
/-- Both together, so far. -/
def orF (f g : Nat → Bool) (k : Nat) : Nat → Bool := fun q => if q < k then f q || g q else f q
theorem orF_up (f g : Nat → Bool) (k : Nat) : upM (orF f g k) k (f k || g k) = orF f g (k + 1) := by
  funext q
  unfold upM orF
  by_cases e : q = k
  · subst e
    rw [if_pos rfl, if_pos (Nat.lt_succ_self q)]
  · rw [if_neg e]
    by_cases h : q < k
    · rw [if_pos h, if_pos (by omega)]
    · rw [if_neg h, if_neg (by omega)]
structure OrS (w wr : World) (f : Nat → Bool) : Prop where
  b : Below w.heap.size w wr
  x : MX wr w.heap.size f
  z : MX wr (w.heap.size + 1 + 1) (fun _ => false)
theorem OrS.set {w wr : World} {f : Nat → Bool} (h : OrS w wr f) (r : Nat) (v : Bool) : OrS w (wr.setCell ⟨w.heap.size, r, none⟩ (.bool v)) (upM f r v) :=
  ⟨h.b.setCell (p := ⟨w.heap.size, r, none⟩) (Nat.le_refl _) _, h.x.set v, h.z.same (heap_setCell_other _ ⟨w.heap.size, r, none⟩ _ _ (show w.heap.size + 1 + 1 ≠ w.heap.size by omega))⟩
set_option maxRecDepth 100000 in
set_option maxHeartbeats 16000000 in
theorem or_any (f g : Nat → Bool) (w : World) : Calls Try.prog 31 #[.agg (mkA f), .agg (mkA g)] w fun e w' => e = .returned (.agg (mkA fun q => f q || g q)) ∧ Below w.heap.size w w' := by
  have hv := zero_mk
  obtain ⟨w1, hw1⟩ : ∃ w1, w1 = ((w.alloc (.cells (mkA f) 68)).alloc (.cells (mkA g) 68)).alloc (.cells (mkA fun _ => false) 68) := ⟨_, rfl⟩
  have HE1 := (show Hid (((w.alloc (.cells (mkA f) 68)).alloc (.cells (mkA g) 68)).alloc (.cells (mkA fun _ => false) 68) = w1) from hw1.symm)
  have s1 := World.size_alloc w (.cells (mkA f) 68)
  have s2 := World.size_alloc (w.alloc (.cells (mkA f) 68)) (.cells (mkA g) 68)
  have HR := (show Hid (w1.rangeAt (w.heap.size + 1) 0 (mkL g)) from by
    rw [hw1]
    have h := (MX.new (w.alloc (.cells (mkA f) 68)) g).below (below_box _ (.cells (mkA fun _ => false) 68))
    rw [s1] at h
    exact h.at')
  have HS := (show Hid (OrS w w1 (orF f g 0)) from by
    refine ⟨by rw [hw1]; exact (((Below.refl _ _).alloc (Nat.le_refl _) _).alloc (by omega) _).alloc (by omega) _, ?_, ?_⟩
    · have h := ((MX.new w f).below (below_box _ (.cells (mkA g) 68))).below (below_box _ (.cells (mkA fun _ => false) 68))
      rw [hw1]
      exact h
    · have h := MX.new ((w.alloc (.cells (mkA f) 68)).alloc (.cells (mkA g) 68)) (fun _ => false)
      rw [s2, s1] at h
      rw [hw1]
      exact h)
  have HIx := (show Hid (∀ (k : Nat) (W : World), k < 200 → (Instr.index 68 (.agg (mkA g)) (.int .i64 (k : Int))).run Try.prog W = .ok (.bool (g k)) W) from fun k W hk => index_mk g hk W)
  have HFin := (show Hid (∀ W : World, OrS w W (orF f g 200) → W.rangeAt w.heap.size 0 (mkL (orF f g 200)) ∧ MX W (w.heap.size + 1 + 1) (fun _ => false) ∧ MX (W.setRow (w.heap.size + 1 + 1) (mkA (orF f g 200))) (w.heap.size + 1 + 1) (orF f g 200) ∧ Below w.heap.size w (W.setRow (w.heap.size + 1 + 1) (mkA (orF f g 200)))) from fun W h => ⟨h.x.at', h.z, h.z.all _, below_setRow h.b (by omega) _⟩)
  have HEq := (show Hid (mkA (orF f g 200) = mkA fun q => f q || g q) from mkA_ext fun q hq => by unfold orF; rw [if_pos hq])
  clear s1 s2 hw1
  go_enter Try.func31, Try.ntmps31
  go_wp2_with (first | rw [HE1.out] | refine wpList_loadM rfl _ rfl (w.heap.size + 1) 0 g rfl HR.out ?_)
  clear HE1 HR
  go_loopw [8] (fun t wr => ∃ k : Nat, k ≤ 200 ∧ t = .int .i64 (k : Int) ∧ Hid (OrS w wr (orF f g k))) (fun t _ => 200 - (intOf t).toNat)
  case atStart => exact ⟨0, by omega, by go_num, HS⟩
  case round =>
    obtain ⟨k, hk, rfl, HW⟩ := hrel
    clear HS
    by_cases hlt : k < 200
    · have hix : ∀ W, (Instr.index 68 (.agg (mkA g)) (.int .i64 (k : Int))).run Try.prog W = .ok (.bool (g k)) W := fun W => HIx.out k W hlt
      have z1 : (k : Int) < 200 := by omega
      have z0 : (0 : Int) ≤ (k : Int) := by omega
      have x0 : wr.cell? ⟨w.heap.size, k, none⟩ = some (.bool (f k)) := by
        have h := HW.out.x.cl hlt
        unfold orF at h
        rw [if_neg (Nat.lt_irrefl k)] at h
        exact h
      have f0 := HW.out.x.fz k
      cases hb : f k with
      | false =>
        rw [hb] at x0
        obtain ⟨gk, hgk⟩ : ∃ gk, gk = g k := ⟨_, rfl⟩
        rw [← hgk] at hix
        have HW2 := (show Hid (OrS w (wr.setCell ⟨w.heap.size, k, none⟩ (.bool gk)) (orF f g (k + 1))) from by
          have h := HW.out.set k (f k || g k)
          rw [orF_up, hb, ← hgk] at h
          exact h)
        clear hb hgk HW HIx HFin HEq
        go_wp2_with fail
        go_roundw
        case rel => exact ⟨k + 1, by omega, by go_num, HW2⟩
        case measure => simp [intOf]; omega
      | true =>
        rw [hb] at x0
        have HW2 := (show Hid (OrS w (wr.setCell ⟨w.heap.size, k, none⟩ (.bool true)) (orF f g (k + 1))) from by
          have h := HW.out.set k (f k || g k)
          rw [orF_up, hb] at h
          exact h)
        clear hb HW HIx HFin HEq
        go_wp2_with fail
        go_roundw
        case rel => exact ⟨k + 1, by omega, by go_num, HW2⟩
        case measure => simp [intOf]; omega
    · obtain rfl : k = 200 := by omega
      have HF := (show Hid (wr.rangeAt w.heap.size 0 (mkL (orF f g 200)) ∧ MX wr (w.heap.size + 1 + 1) (fun _ => false) ∧ MX (wr.setRow (w.heap.size + 1 + 1) (mkA (orF f g 200))) (w.heap.size + 1 + 1) (orF f g 200) ∧ Below w.heap.size w (wr.setRow (w.heap.size + 1 + 1) (mkA (orF f g 200)))) from HFin.out wr HW.out)
      clear HW HIx HFin
      generalize orF f g 200 = h at HF HEq ⊢
      go_wp2_with (first | refine wpList_loadM rfl _ rfl w.heap.size 0 h rfl HF.out.1 ?_ | refine wpList_storeM rfl _ _ rfl (w.heap.size + 1 + 1) (fun _ => false) h rfl rfl HF.out.2.1 ?_)
      refine ret_mx (s := 4) (b := w.heap.size + 1 + 1) (by rfl) (by rfl) (by rfl) HF.out.2.2.1 ?_
      exact ⟨by rw [HEq.out], HF.out.2.2.2⟩
end Go.Proofs.Ytbipjdgholdhcaa.N

namespace Go.Proofs.Ytbipjdgholdhcaa.N
open Go.RowKit Go.Maps
open Go.Proofs.Ytbipjdgholdhcaa.T

open U (below_grown own_get own_slice)
/-- A part of a pattern: may it match nothing, and with which rules it begins; as it lies. -/
abbrev Hp : Type := Bool × (Nat → Bool)
def RdP (W : World) (A : Option Addr) (ps : List Hp) : Prop := ∀ (j : Nat) p, ps[j]? = some p → ∃ g o, A = some ⟨g, o, none⟩ ∧ g < W.heap.size ∧ W.cell? ⟨g, o + j * 201, none⟩ = some (.bool p.1) ∧ W.rangeAt g (o + j * 201 + 1) (mkL p.2)
theorem range_below {W W2 : World} {g o : Nat} {cs : List Value} (h : W.rangeAt g o cs) (hg : g < W.heap.size) (hb : Below W.heap.size W W2) : W2.rangeAt g o cs := fun j v hv => (hb.cell (p := ⟨g, o + j, none⟩) hg).trans (h j v hv)
theorem RdP.later {W W2 : World} {A : Option Addr} {ps : List Hp} (h : RdP W A ps) (hb : Below W.heap.size W W2) : RdP W2 A ps := fun j p hp => by
  obtain ⟨g, o, h1, h2, h3, h4⟩ := h j p hp
  exact ⟨g, o, h1, Nat.lt_of_lt_of_le h2 hb.size, (hb.cell (p := ⟨g, o + j * 201, none⟩) h2).trans h3, range_below h4 h2 hb⟩
theorem enters_or (args : Array Value) (w : World) : (callFunc 31 args).run Try.prog w = .ok (.enter 31 args) w := enters_of Try.func31 (by kernel_rfl) rfl args w
/-- The boxes of a call of begins. -/
structure Bx3 (w wr : World) (r m k : Value) (n : Nd) (f : Nat → Bool) : Prop where
  b : Below w.heap.size w wr
  v : VX wr w.heap.size r m k
  n : NX wr (w.heap.size + 1) n
  z : MX wr (w.heap.size + 1 + 1) f
theorem Bx3.start (w : World) (r m k : Value) (n : Nd) : Bx3 w (((w.alloc (.cells #[r, m, k] 59)).alloc (ndO n)).alloc (.cells (mkA fun _ => false) 68)) r m k n (fun _ => false) := by
  have s1 := World.size_alloc w (.cells #[r, m, k] 59)
  have s2 := World.size_alloc (w.alloc (.cells #[r, m, k] 59)) (ndO n)
  refine ⟨(((Below.refl _ _).alloc (Nat.le_refl _) _).alloc (by omega) _).alloc (by omega) _, ((VX.new w r m k).below (below_box _ _)).below (below_box _ _), ?_, ?_⟩
  · have h : NX ((w.alloc (.cells #[r, m, k] 59)).alloc (ndO n)) (w.alloc (.cells #[r, m, k] 59)).heap.size n := ⟨heap_alloc_new _ _⟩
    rw [s1] at h
    exact nx_below h (below_box _ _)
  · have h := MX.new ((w.alloc (.cells #[r, m, k] 59)).alloc (ndO n)) (fun _ => false)
    rw [s2, s1] at h
    exact h
theorem Bx3.later {w wr w2 : World} {r m k : Value} {n : Nd} {f : Nat → Bool} (h : Bx3 w wr r m k n f) (hb : Below wr.heap.size wr w2) : Bx3 w w2 r m k n f := ⟨h.b.trans (hb.mono h.b.size), h.v.below hb, nx_below h.n hb, h.z.below hb⟩
theorem Bx3.ret {w wr : World} {r m k : Value} {n : Nd} {f : Nat → Bool} (h : Bx3 w wr r m k n f) (g : Nat → Bool) : MX (wr.setRow (w.heap.size + 1 + 1) (mkA g)) (w.heap.size + 1 + 1) g ∧ Below w.heap.size w (wr.setRow (w.heap.size + 1 + 1) (mkA g)) := ⟨h.z.all g, below_setRow h.b (by omega) _⟩
set_option maxRecDepth 100000 in
set_option maxHeartbeats 16000000 in
theorem begins_0 (n : Nd) (r m k : Value) (A : Option Addr) (l c : Nat) (h6 : ¬ n.op = 6) (h7 : ¬ n.op = 7) (h8 : ¬ n.op = 8) (h14 : ¬ n.op = 14) (h16 : ¬ n.op = 16) (hl : l = 0) (w : World) : Calls Try.prog 24 #[.agg #[r, m, k], ndG n, .slice A l c] w fun e w' => e = .returned (.agg (mkA fun _ => false)) ∧ Below w.heap.size w w' := by
  have hv := zero_mk
  have hsz := mkA_size (fun _ => false)
  obtain ⟨w1, hw1⟩ : ∃ w1, w1 = ((w.alloc (.cells #[r, m, k] 59)).alloc (ndO n)).alloc (.cells (mkA fun _ => false) 68) := ⟨_, rfl⟩
  have HE1 := (show Hid (((w.alloc (.cells #[r, m, k] 59)).alloc (.cells #[.int .i64 n.op, .int .i64 n.nn, .string n.tx, .int .u64 n.s0, .int .u64 n.s1, .int .u64 n.s2, .int .u64 n.s3] 51)).alloc (.cells (mkA fun _ => false) 68) = w1) from hw1.symm)
  have HB := (show Hid (Bx3 w w1 r m k n (fun _ => false)) from by rw [hw1]; exact Bx3.start w r m k n)
  have q0 : w1.cell? ⟨w.heap.size + 1, 0, none⟩ = some (.int .i64 n.op) := HB.out.n.nb.c0
  have t6 : (n.op == 6) = false := by rw [beq_eq_false_iff_ne]; exact h6
  have t7 : (n.op == 7) = false := by rw [beq_eq_false_iff_ne]; exact h7
  have t8 : (n.op == 8) = false := by rw [beq_eq_false_iff_ne]; exact h8
  have t14 : (n.op == 14) = false := by rw [beq_eq_false_iff_ne]; exact h14
  have t16 : (n.op == 16) = false := by rw [beq_eq_false_iff_ne]; exact h16
  subst hl
  clear h6 h7 h8 h14 h16 hw1
  go_enter Try.func24, Try.ntmps24
  go_wp2_with (first | rw [HE1.out] | refine wpList_storeM rfl _ _ rfl (w.heap.size + 1 + 1) (fun _ => false) (fun _ => false) rfl rfl HB.out.z ?_)
  refine ret_mx (s := 6) (b := w.heap.size + 1 + 1) (by rfl) (by rfl) (by rfl) (HB.out.ret (fun _ => false)).1 ?_
  exact ⟨rfl, (HB.out.ret (fun _ => false)).2⟩
set_option maxRecDepth 100000 in
set_option maxHeartbeats 16000000 in
theorem begins_z (n : Nd) (r m k : Value) (A : Option Addr) (l c : Nat) (h : n.op = 14 ∨ n.op = 16) (hz : n.nn = 0) (w : World) : Calls Try.prog 24 #[.agg #[r, m, k], ndG n, .slice A l c] w fun e w' => e = .returned (.agg (mkA fun _ => false)) ∧ Below w.heap.size w w' := by
  have hv := zero_mk
  have hsz := mkA_size (fun _ => false)
  obtain ⟨w1, hw1⟩ : ∃ w1, w1 = ((w.alloc (.cells #[r, m, k] 59)).alloc (ndO n)).alloc (.cells (mkA fun _ => false) 68) := ⟨_, rfl⟩
  have HE1 := (show Hid (((w.alloc (.cells #[r, m, k] 59)).alloc (.cells #[.int .i64 n.op, .int .i64 n.nn, .string n.tx, .int .u64 n.s0, .int .u64 n.s1, .int .u64 n.s2, .int .u64 n.s3] 51)).alloc (.cells (mkA fun _ => false) 68) = w1) from hw1.symm)
  have HB := (show Hid (Bx3 w w1 r m k n (fun _ => false)) from by rw [hw1]; exact Bx3.start w r m k n)
  have q0 : w1.cell? ⟨w.heap.size + 1, 0, none⟩ = some (.int .i64 n.op) := HB.out.n.nb.c0
  have q1 : w1.cell? ⟨w.heap.size + 1, 1, none⟩ = some (.int .i64 n.nn) := HB.out.n.nb.c1
  clear hw1
  rcases h with h | h
  · have tz : (n.nn == 0) = true := by rw [hz]; rfl
    have t6 : (n.op == 6) = false := by rw [h]; rfl
    have t7 : (n.op == 7) = false := by rw [h]; rfl
    have t8 : (n.op == 8) = false := by rw [h]; rfl
    have t14 : (n.op == 14) = true := by rw [h]; rfl
    clear h hz
    go_enter Try.func24, Try.ntmps24
    go_wp2_with (first | rw [HE1.out] | refine wpList_storeM rfl _ _ rfl (w.heap.size + 1 + 1) (fun _ => false) (fun _ => false) rfl rfl HB.out.z ?_)
    refine ret_mx (s := 6) (b := w.heap.size + 1 + 1) (by rfl) (by rfl) (by rfl) (HB.out.ret (fun _ => false)).1 ?_
    exact ⟨rfl, (HB.out.ret (fun _ => false)).2⟩
  · have tz : (n.nn == 0) = true := by rw [hz]; rfl
    have t6 : (n.op == 6) = false := by rw [h]; rfl
    have t7 : (n.op == 7) = false := by rw [h]; rfl
    have t8 : (n.op == 8) = false := by rw [h]; rfl
    have t14 : (n.op == 14) = false := by rw [h]; rfl
    have t16 : (n.op == 16) = true := by rw [h]; rfl
    clear h hz
    go_enter Try.func24, Try.ntmps24
    go_wp2_with (first | rw [HE1.out] | refine wpList_storeM rfl _ _ rfl (w.heap.size + 1 + 1) (fun _ => false) (fun _ => false) rfl rfl HB.out.z ?_)
    refine ret_mx (s := 6) (b := w.heap.size + 1 + 1) (by rfl) (by rfl) (by rfl) (HB.out.ret (fun _ => false)).1 ?_
    exact ⟨rfl, (HB.out.ret (fun _ => false)).2⟩
set_option maxRecDepth 100000 in
set_option maxHeartbeats 16000000 in
theorem begins_1 {w0 : World} (n : Nd) (r m k : Value) (A : Option Addr) (l c : Nat) (x : Hp) (h6 : ¬ n.op = 6) (h7 : n.op = 7 → x.1 = false) (h8 : ¬ n.op = 8) (hz : ¬ ((n.op = 14 ∨ n.op = 16) ∧ n.nn = 0)) (hl : 0 < l) (hl2 : l ≤ 2) (hp : ∃ g o, A = some ⟨g, o, none⟩ ∧ g < w0.heap.size ∧ w0.cell? ⟨g, o, none⟩ = some (.bool x.1) ∧ w0.rangeAt g (o + 1) (mkL x.2)) (w : World) (hw0 : w0 = w) : Calls Try.prog 24 #[.agg #[r, m, k], ndG n, .slice A l c] w fun e w' => e = .returned (.agg (mkA x.2)) ∧ Below w0.heap.size w w' := by
  subst hw0
  have hv := zero_mk
  have hsz := mkA_size (fun _ => false)
  obtain ⟨w1, hw1⟩ : ∃ w1, w1 = ((w0.alloc (.cells #[r, m, k] 59)).alloc (ndO n)).alloc (.cells (mkA fun _ => false) 68) := ⟨_, rfl⟩
  have HE1 := (show Hid (((w0.alloc (.cells #[r, m, k] 59)).alloc (.cells #[.int .i64 n.op, .int .i64 n.nn, .string n.tx, .int .u64 n.s0, .int .u64 n.s1, .int .u64 n.s2, .int .u64 n.s3] 51)).alloc (.cells (mkA fun _ => false) 68) = w1) from hw1.symm)
  have HB := (show Hid (Bx3 w0 w1 r m k n (fun _ => false)) from by rw [hw1]; exact Bx3.start w0 r m k n)
  obtain ⟨g, o, rfl, hg, hc, hr⟩ := hp
  have HR := (show Hid (w1.rangeAt g (o + 1) (mkL x.2)) from range_below hr hg HB.out.b)
  have p0 := (HB.out.b.cell (p := ⟨g, o, none⟩) hg).trans hc
  have q1 : w1.cell? ⟨w0.heap.size + 1, 1, none⟩ = some (.int .i64 n.nn) := HB.out.n.nb.c1
  have q0 : w1.cell? ⟨w0.heap.size + 1, 0, none⟩ = some (.int .i64 n.op) := HB.out.n.nb.c0
  have z1 : (0 : Int) < (l : Int) := by omega
  have z2 : ¬ (l : Int) = 0 := by omega
  have z3 : ((l : Int) == 0) = false := by rw [beq_eq_false_iff_ne]; omega
  have z4 : 0 < l := hl
  have t6 : (n.op == 6) = false := by rw [beq_eq_false_iff_ne]; exact h6
  have t8 : (n.op == 8) = false := by rw [beq_eq_false_iff_ne]; exact h8
  obtain ⟨xb, xf⟩ := x
  simp only at *
  by_cases c7 : n.op = 7
  · have hx := h7 c7
    subst hx
    have t7 : (n.op == 7) = true := by rw [c7]; rfl
    have t14 : (n.op == 14) = false := by rw [c7]; rfl
    have t16 : (n.op == 16) = false := by rw [c7]; rfl
    clear c7 h6 h7 h8 hz hl hg hc hr hw1
    go_enter Try.func24, Try.ntmps24
    go_wp2_with (first | rw [HE1.out] | refine wpList_loadM rfl _ rfl g (o + 1) xf rfl HR.out ?_ | refine wpList_storeM rfl _ _ rfl (w0.heap.size + 1 + 1) (fun _ => false) xf rfl rfl HB.out.z ?_)
    refine ret_mx (s := 6) (b := w0.heap.size + 1 + 1) (by rfl) (by rfl) (by rfl) (HB.out.ret xf).1 ?_
    exact ⟨rfl, (HB.out.ret xf).2⟩
  · have t7 : (n.op == 7) = false := by rw [beq_eq_false_iff_ne]; exact c7
    by_cases c14 : n.op = 14 ∨ n.op = 16
    · have tz : (n.nn == 0) = false := by rw [beq_eq_false_iff_ne]; exact fun q => hz ⟨c14, q⟩
      rcases c14 with c14 | c14
      · have t14 : (n.op == 14) = true := by rw [c14]; rfl
        clear c14 c7 h6 h7 h8 hz hl hg hc hr hw1
        go_enter Try.func24, Try.ntmps24
        go_wp2_with (first | rw [HE1.out] | refine wpList_loadM rfl _ rfl g (o + 1) xf rfl HR.out ?_ | refine wpList_storeM rfl _ _ rfl (w0.heap.size + 1 + 1) (fun _ => false) xf rfl rfl HB.out.z ?_)
        refine ret_mx (s := 6) (b := w0.heap.size + 1 + 1) (by rfl) (by rfl) (by rfl) (HB.out.ret xf).1 ?_
        exact ⟨rfl, (HB.out.ret xf).2⟩
      · have t14 : (n.op == 14) = false := by rw [c14]; rfl
        have t16 : (n.op == 16) = true := by rw [c14]; rfl
        clear c14 c7 h6 h7 h8 hz hl hg hc hr hw1
        go_enter Try.func24, Try.ntmps24
        go_wp2_with (first | rw [HE1.out] | refine wpList_loadM rfl _ rfl g (o + 1) xf rfl HR.out ?_ | refine wpList_storeM rfl _ _ rfl (w0.heap.size + 1 + 1) (fun _ => false) xf rfl rfl HB.out.z ?_)
        refine ret_mx (s := 6) (b := w0.heap.size + 1 + 1) (by rfl) (by rfl) (by rfl) (HB.out.ret xf).1 ?_
        exact ⟨rfl, (HB.out.ret xf).2⟩
    · have t14 : (n.op == 14) = false := by rw [beq_eq_false_iff_ne]; exact fun q => c14 (.inl q)
      have t16 : (n.op == 16) = false := by rw [beq_eq_false_iff_ne]; exact fun q => c14 (.inr q)
      clear c14 c7 h6 h7 h8 hz hl hg hc hr hw1
      go_enter Try.func24, Try.ntmps24
      go_wp2_with (first | rw [HE1.out] | refine wpList_loadM rfl _ rfl g (o + 1) xf rfl HR.out ?_ | refine wpList_storeM rfl _ _ rfl (w0.heap.size + 1 + 1) (fun _ => false) xf rfl rfl HB.out.z ?_)
      refine ret_mx (s := 6) (b := w0.heap.size + 1 + 1) (by rfl) (by rfl) (by rfl) (HB.out.ret xf).1 ?_
      exact ⟨rfl, (HB.out.ret xf).2⟩
end Go.Proofs.Ytbipjdgholdhcaa.N
