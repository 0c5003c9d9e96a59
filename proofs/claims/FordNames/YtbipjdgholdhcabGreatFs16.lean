/- DERIVED. Plain mathematics and walks, laid together (16). -/
import Derived.Test.YtbipjdgholdhcabGreatFs15
namespace Go.Proofs.YtbipjdgholdhcabGreat.N
open Go.RowKit Go.Maps
open Go.Proofs.YtbipjdgholdhcabGreat.T

open U (nI)
theorem reN_id {a b : ByteArray} {n : Nd} (h : ¬ n.op = 6) : reN a b n = n := by unfold reN; rw [if_neg (fun q => h q.1)]
theorem kd_re (a b : ByteArray) (L : List Nd) : kdR (L.map (reN a b)) = kdR L := by
  funext k
  unfold kdR
  rw [run_map (fun n _ => reN_op a b n), opAt_map (fun n _ => reN_op a b n)]
theorem emN_re {a b : ByteArray} {n : Nd} {x y : Em} {r r2 : ByteArray → Em} (h : n.op = 6 → r (reN a b n).tx = r2 n.tx) : emN (reN a b n) x y r = emN n x y r2 := by
  by_cases e : n.op = 6
  · have e2 : (reN a b n).op = 6 := by rw [reN_op]; exact e
    unfold emN
    rw [if_neg (by omega), if_neg (by omega), if_neg (by omega), if_neg (by omega), if_neg (by omega), if_pos e2, if_neg (by omega), if_neg (by omega), if_neg (by omega), if_neg (by omega), if_neg (by omega), if_pos e, h e]
  · rw [reN_id e]
    unfold emN
    simp only [if_neg e]
theorem emL_re {a b : ByteArray} {kd : Nat → List Nat} {r r2 : ByteArray → Em} {L : List Nd} (h : ∀ n ∈ L, n.op = 6 → r (reN a b n).tx = r2 n.tx) : ∀ k, emL kd r (L.map (reN a b)) k = emL kd r2 L k := by
  intro k
  induction k with
  | zero => rfl
  | succ k ih =>
    cases e : L[k]? with
    | none =>
      have e2 : (L.map (reN a b))[k]? = none := by rw [List.getElem?_map, e]; rfl
      rw [emL, emL, e, e2]
      exact ih
    | some n =>
      have e2 : (L.map (reN a b))[k]? = some (reN a b n) := by rw [List.getElem?_map, e]; rfl
      rw [emL_succ e, emL_succ e2, ih, emN_re (h n (List.mem_of_getElem? e))]
theorem laE_re {a b : ByteArray} {r r2 : ByteArray → Em} {L : List Nd} (h : ∀ n ∈ L, n.op = 6 → r (reN a b n).tx = r2 n.tx) : laE (kdR (L.map (reN a b))) r (L.map (reN a b)) = laE (kdR L) r2 L := by
  unfold laE
  rw [kd_re, List.length_map, emL_re h]
/-- A grammar renamed: right, and with a name that is its own. -/
structure ReO (gs : GL) (r : Nat) (a b : ByteArray) : Prop where
  g : RtG gs
  h : ∃ g0, gs[r]? = some g0 ∧ g0.1 = a
  n : nmB b = true
  o : ∀ (j : Nat) (h : ByteArray × List Nd), gs[j]? = some h → h.1 = b → j = r
theorem ReO.fd {gs : GL} {r : Nat} {a b : ByteArray} (h : ReO gs r a b) {g : ByteArray × List Nd} (hg : g ∈ gs) {n : Nd} (hn : n ∈ g.2) (h6 : n.op = 6) : fdG (reG gs r a b) (reN a b n).tx = fdG gs n.tx := by
  obtain ⟨k, hk⟩ := h.g.dn.c g hg n hn h6
  obtain ⟨g0, h1, h2⟩ := h.h
  rw [reN_tx h6, reG_find h.g.dn h1 h2 h.o hk, hk]
theorem ReO.calls {gs : GL} {r : Nat} {a b : ByteArray} (h : ReO gs r a b) : cG (reG gs r a b) = cG gs := by
  obtain ⟨g0, h1, h2⟩ := h.h
  funext i j
  exact reG_calls h.g.dn h1 h2 h.o i j
theorem ReO.get {gs : GL} {r : Nat} {a b : ByteArray} {i : Nat} {g : ByteArray × List Nd} (hg : gs[i]? = some g) : (reG gs r a b)[i]? = some (if i = r then b else g.1, g.2.map (reN a b)) := by rw [reG_get, hg]; rfl
theorem ReO.rd {gs : GL} {r : Nat} {a b : ByteArray} (h : ReO gs r a b) (bd : Nat → Bool) (now : List Em) : rdE (reG gs r a b) kdR bd now = rdE gs kdR bd now := by
  apply List.ext_getElem?
  intro i
  by_cases hi : i < gs.length
  · have hg : gs[i]? = some gs[i] := List.getElem?_eq_getElem hi
    rw [rdE_get hg, rdE_get (ReO.get hg)]
    have e : laE (kdR (gs[i].2.map (reN a b))) (lkE (reG gs r a b) now) (gs[i].2.map (reN a b)) = laE (kdR gs[i].2) (lkE gs now) gs[i].2 := laE_re fun n hn h6 => by
      unfold lkE
      rw [h.fd (List.getElem_mem hi) hn h6]
    simp only [e]
  · rw [List.getElem?_eq_none (by rw [rdE_len, reG_len]; omega), List.getElem?_eq_none (by rw [rdE_len]; omega)]
theorem ReO.pg {gs : GL} {r : Nat} {a b : ByteArray} (h : ReO gs r a b) (bd : Nat → Bool) : ∀ m, pgE (reG gs r a b) kdR bd m = pgE gs kdR bd m := by
  intro m
  induction m with
  | zero =>
    show pgS (reG gs r a b) bd = pgS gs bd
    unfold pgS
    rw [reG_len]
  | succ m ih =>
    show rdE (reG gs r a b) kdR bd (pgE (reG gs r a b) kdR bd m) = rdE gs kdR bd (pgE gs kdR bd m)
    rw [ih, h.rd]
/-- What is known is the same. -/
theorem ReO.kf {gs : GL} {r : Nat} {a b : ByteArray} (h : ReO gs r a b) {now : List Em} (hk : KnF (reG gs r a b) now) : KnF gs now := by
  obtain ⟨R, bd, m, h1, h2, h3, h4⟩ := hk
  rw [h.calls, reG_len] at h1
  rw [h.pg] at h3
  rw [h.pg, h.pg] at h4
  exact ⟨R, bd, m, h1, h2, h3, h4⟩
theorem nuD_re {a b : ByteArray} {n : Nd} {x y : Bool} {r r2 : ByteArray → Bool} (h : n.op = 6 → r (reN a b n).tx = r2 n.tx) : nuD (reN a b n) x y r = nuD n x y r2 := by
  by_cases e : n.op = 6
  · have e2 : (reN a b n).op = 6 := by rw [reN_op]; exact e
    unfold nuD
    rw [if_neg (by omega), if_neg (by omega), if_pos e2, if_neg (by omega), if_neg (by omega), if_pos e, h e]
  · rw [reN_id e]
    unfold nuD
    simp only [if_neg e]
theorem nuL_re {a b : ByteArray} {kd : Nat → List Nat} {r r2 : ByteArray → Bool} {L : List Nd} (h : ∀ n ∈ L, n.op = 6 → r (reN a b n).tx = r2 n.tx) : ∀ k, nuL kd r (L.map (reN a b)) k = nuL kd r2 L k := by
  intro k
  induction k with
  | zero => rfl
  | succ k ih =>
    cases e : L[k]? with
    | none =>
      have e2 : (L.map (reN a b))[k]? = none := by rw [List.getElem?_map, e]; rfl
      rw [nuL, nuL, e, e2]
      exact ih
    | some n =>
      have e2 : (L.map (reN a b))[k]? = some (reN a b n) := by rw [List.getElem?_map, e]; rfl
      rw [nuL_succ e, nuL_succ e2, ih, nuD_re (h n (List.mem_of_getElem? e))]
theorem nuA_re {a b : ByteArray} {r r2 : ByteArray → Bool} {L : List Nd} (h : ∀ n ∈ L, n.op = 6 → r (reN a b n).tx = r2 n.tx) : nuA (kdR (L.map (reN a b))) r (L.map (reN a b)) = nuA (kdR L) r2 L := by
  funext k
  unfold nuA
  rw [kd_re, List.length_map, nuL_re h]
theorem ReO.nu {gs : GL} {r : Nat} {a b : ByteArray} (h : ReO gs r a b) (nb : List Bool) {g : ByteArray × List Nd} (hg : g ∈ gs) : nuA (kdR (g.2.map (reN a b))) (lkB (reG gs r a b) nb) (g.2.map (reN a b)) = nuA (kdR g.2) (lkB gs nb) g.2 := nuA_re fun n hn h6 => by
  unfold lkB
  rw [h.fd hg hn h6]
theorem hbN_re {a b : ByteArray} {n : Nd} {x y : Nat → Bool} {nx : Bool} {c c2 : ByteArray → Option Nat} (h : n.op = 6 → c (reN a b n).tx = c2 n.tx) : hbN (reN a b n) x y nx c = hbN n x y nx c2 := by
  by_cases e : n.op = 6
  · have e2 : (reN a b n).op = 6 := by rw [reN_op]; exact e
    unfold hbN
    rw [if_pos e2, if_pos e, h e]
  · rw [reN_id e]
    unfold hbN
    simp only [if_neg e]
theorem hbL_re {a b : ByteArray} {kd : Nat → List Nat} {may : Nat → Bool} {c c2 : ByteArray → Option Nat} {L : List Nd} (h : ∀ n ∈ L, n.op = 6 → c (reN a b n).tx = c2 n.tx) : ∀ k, hbL kd may c (L.map (reN a b)) k = hbL kd may c2 L k := by
  intro k
  induction k with
  | zero => rfl
  | succ k ih =>
    cases e : L[k]? with
    | none =>
      have e2 : (L.map (reN a b))[k]? = none := by rw [List.getElem?_map, e]; rfl
      rw [hbL, hbL, e, e2]
      exact ih
    | some n =>
      have e2 : (L.map (reN a b))[k]? = some (reN a b n) := by rw [List.getElem?_map, e]; rfl
      rw [hbL_succ e, hbL_succ e2, ih, hbN_re (h n (List.mem_of_getElem? e))]
/-- The heads are the same. -/
theorem ReO.hd {gs : GL} {r : Nat} {a b : ByteArray} (h : ReO gs r a b) (nb : List Bool) : hdM (reG gs r a b) nb = hdM gs nb := by
  funext i q
  cases e : gs[i]? with
  | none =>
    have e2 : (reG gs r a b)[i]? = none := by rw [reG_get, e]; rfl
    unfold hdM
    rw [e, e2]
  | some g =>
    have hm := List.mem_of_getElem? e
    rw [hdM_of e, hdM_of (ReO.get e)]
    show hbA (kdR (g.2.map (reN a b))) (nuA (kdR (g.2.map (reN a b))) (lkB (reG gs r a b) nb) (g.2.map (reN a b))) (fdG (reG gs r a b)) (g.2.map (reN a b)) ((g.2.map (reN a b)).length - 1) q = _
    rw [h.nu nb hm, kd_re, List.length_map]
    unfold hbA
    rw [List.length_map, hbL_re fun n hn h6 => h.fd hm hn h6]
theorem rpB_re (a b : ByteArray) (n : Nd) : rpB (reN a b n) = rpB n := by unfold rpB; rw [reN_op]
theorem lpK_re {a b : ByteArray} {i : Nat} {L : List Nd} {nu : Nat → Bool} : ∀ k, lpK i (L.map (reN a b)) nu k = lpK i L nu k := by
  intro k
  induction k with
  | zero => rfl
  | succ k ih =>
    cases e : L[k]? with
    | none =>
      have e2 : (L.map (reN a b))[k]? = none := by rw [List.getElem?_map, e]; rfl
      rw [lpK, lpK, e, e2]
      exact ih
    | some n =>
      have e2 : (L.map (reN a b))[k]? = some (reN a b n) := by rw [List.getElem?_map, e]; rfl
      rw [lpK_succ e, lpK_succ e2, ih, rpB_re]
/-- The loops are the same. -/
theorem ReO.lp {gs : GL} {r : Nat} {a b : ByteArray} (h : ReO gs r a b) (nb : List Bool) : ∀ i, lpG (reG gs r a b) nb i = lpG gs nb i := by
  intro i
  induction i with
  | zero => rfl
  | succ i ih =>
    cases e : gs[i]? with
    | none =>
      have e2 : (reG gs r a b)[i]? = none := by rw [reG_get, e]; rfl
      rw [lpG, lpG, e, e2]
      exact ih
    | some g =>
      rw [lpG_succ e, lpG_succ (ReO.get e), ih]
      show lpG gs nb i ++ lpK i (g.2.map (reN a b)) (nuA (kdR (g.2.map (reN a b))) (lkB (reG gs r a b) nb) (g.2.map (reN a b))) (g.2.map (reN a b)).length = _
      rw [h.nu nb (List.mem_of_getElem? e), List.length_map, lpK_re]
/-- What Check says of a grammar renamed is what it says of it. -/
theorem ReO.vd {gs : GL} {r : Nat} {a b : ByteArray} (h : ReO gs r a b) {l l2 : List Nat} {p q p2 q2 : Nat} {e e2 : Int} (hv : VdR gs l p q e) (hw : VdR (reG gs r a b) l2 p2 q2 e2) : l2 = l ∧ p2 = p ∧ q2 = q ∧ e2 = e := by
  have hz := ckG_ok.2 h.g
  obtain ⟨g0, h1, h2⟩ := h.h
  have hz2 := ckG_ok.2 (reG_right h.g h1 h2 h.n h.o)
  obtain ⟨now, m1, m2, cy, m3, m4⟩ := hv.2 hz
  obtain ⟨now2, k1, k2, cy2, k3, k4⟩ := hw.2 hz2
  obtain rfl := kf_same m1 (h.kf k1)
  rw [h.hd, reG_len] at k3
  rw [h.lp, reG_len] at k4
  exact vd_one (gs := gs) (now := now) ⟨fun q => absurd hz q, fun _ => ⟨cy, m3, m4⟩⟩ ⟨fun q => absurd hz q, fun _ => ⟨cy2, k3, k4⟩⟩
end Go.Proofs.YtbipjdgholdhcabGreat.N

namespace Go.Proofs.YtbipjdgholdhcabGreat.N
open Go.RowKit Go.Maps
open Go.Proofs.YtbipjdgholdhcabGreat.T
set_option maxRecDepth 100000 in
set_option maxHeartbeats 4000000 in
theorem lookD_any (gs : GL) (A : Option Addr) (c : Nat) (r : Int) (w : World) (hp : GI w A gs) :
    Calls Tryz.prog 17 #[.agg #[.slice A gs.length c], .int .i64 r] w fun e w' => e = .returned (.int .i64 (lkR gs r)) ∧ Below w.heap.size w w' := by
  obtain ⟨w1, hw1⟩ : ∃ w1, w1 = (w.alloc (.cells #[.slice A gs.length c] 24)) := ⟨_, rfl⟩
  have HB1 : Hid (Below w.heap.size w w1) := by show Below _ _ _; rw [hw1]; exact below_box _ _
  have HG1 : Hid (GX w1 w.heap.size (.slice A gs.length c)) := by show GX _ _ _; rw [hw1]; exact GX.mk (heap_alloc_new w _)
  have HP := (show Hid (GI w A gs) from hp)
  have HN := (show Hid (∀ _ : Unit, Calls Tryz.prog 33 #[.agg #[.slice A gs.length c]] w1 fun e w' => e = .returned (.tuple #[.agg #[.int .i64 (ckG gs).1.1, .int .i64 (ckG gs).1.2], .int .i64 (ckG gs).2]) ∧ Below w1.heap.size w1 w') from fun _ => checkD_any gs A c w1 (hp.later HB1.out))
  clear hp
  go_enter Tryz.func17, Tryz.ntmps17
  go_wp2_with fail
  rw [← hw1]
  refine (HN.out ()).mono ?_
  rintro e w3 ⟨rfl, b3⟩
  obtain ⟨w4, hw4⟩ : ∃ w4, w4 = w3.alloc (.cells #[.int .i64 ((ckG gs).1.1 : Int), .int .i64 ((ckG gs).1.2 : Int)] 31) := ⟨_, rfl⟩
  have HB := (show Hid (Below w.heap.size w w4) from by show Below _ _ _; rw [hw4]; exact (HB1.out.trans (b3.mono HB1.out.size)).alloc (HB1.out.trans (b3.mono HB1.out.size)).size _)
  have HG := (show Hid (GX w4 w.heap.size (.slice A gs.length c)) from by show GX _ _ _; rw [hw4]; exact (HG1.out.below b3).below (below_box _ _))
  have q1 := HG.out.cl
  clear HN b3 hw1 HB1 HG1
  by_cases hz : (ckG gs).2 = 0
  · have tz : ((ckG gs).2 != 0) = false := by rw [hz]; rfl
    have HE0 := (show Hid (lkR gs r = if r < 0 ∨ (gs.length : Int) ≤ r then 1 else 0) from by show lkR gs r = _; unfold lkR; rw [if_neg (fun q => q hz)])
    clear hz HP HG
    subst hw4
    generalize (ckG gs).2 = cd at *
    by_cases h1 : r < 0
    · have HE := (show Hid (lkR gs r = 1) from by show lkR gs r = _; rw [HE0.out, if_pos (.inl h1)])
      clear HE0
      go_wp2_with fail
      go_ret
      exact ⟨by rw [HE.out]; rfl, HB.out⟩
    · by_cases h2 : (gs.length : Int) ≤ r
      · have HE := (show Hid (lkR gs r = 1) from by show lkR gs r = _; rw [HE0.out, if_pos (.inr h2)])
        clear HE0
        go_wp2_with fail
        go_ret
        exact ⟨by rw [HE.out]; rfl, HB.out⟩
      · have HE := (show Hid (lkR gs r = 0) from by show lkR gs r = _; rw [HE0.out, if_neg (by rintro (q | q); exact h1 q; exact h2 q)])
        clear HE0
        go_wp2_with fail
        go_ret
        exact ⟨by rw [HE.out]; rfl, HB.out⟩
  · have tz : ((ckG gs).2 != 0) = true := by rw [bne, beq_eq_false_iff_ne.2 hz]; rfl
    have HE := (show Hid (lkR gs r = (ckG gs).2) from by show lkR gs r = _; unfold lkR; rw [if_pos hz])
    clear hz HP HG
    subst hw4
    generalize (ckG gs).2 = cd at *
    go_wp2_with fail
    go_ret
    exact ⟨by rw [HE.out]; rfl, HB.out⟩
end Go.Proofs.YtbipjdgholdhcabGreat.N

namespace Go.Proofs.YtbipjdgholdhcabGreat.N
open Go.RowKit Go.Maps
open Go.Proofs.YtbipjdgholdhcabGreat.T
theorem te_of {a b : ByteArray} (h : a = b) : (a.toList == b.toList) = true := by rw [h]; simp
theorem te_no {a b : ByteArray} (h : a ≠ b) : (a.toList == b.toList) = false := by
  cases q : a.toList == b.toList
  · rfl
  · exact absurd (tx_ext (by simpa using q)) h
end Go.Proofs.YtbipjdgholdhcabGreat.N

namespace Go.Proofs.YtbipjdgholdhcabGreat.T
open Go.RowKit
set_option maxRecDepth 100000 in
set_option maxHeartbeats 4000000 in
theorem copy_any (ad : Addr) (c : Nat) (L : List Nd) (w : World) (hl : L.length ≤ 2048) (hc : RdN w (some ad) L) :
    Calls Tryz.prog 34 #[.slice (some ad) L.length c] w fun e w' => (∃ v, e = .returned v ∧ w'.ownsRow w.heap.size 57 7 v L.length (ndc L)) ∧ Below w.heap.size w w' := by
  obtain ⟨i0, hinf, hz0, hz1, hz2⟩ := info_parts Tryz.info43
  have hO := own_empty w
  have HB := (show Hid (Below w.heap.size w (w.alloc (.cells #[] 57))) from below_box _ _)
  have HC := (show Hid (∀ (j : Nat) u, (ndc L)[j]? = some u → (w.alloc (.cells #[] 57)).cell? (ad.add j) = some u) from fun j u hj => by
    have h1 := in_cells hc j u hj
    have h2 := World.block_lt_of_cell? w _ h1
    exact ((below_box w (.cells #[] 57)).cell (p := ad.add j) h2).trans h1)
  have HI := (show Hid ((ndc L).length = L.length * 7 ∧ ∀ u ∈ ndc L, u.oneCell' = true) from ⟨ndc_len L, ndc_cell L⟩)
  clear hc
  go_enter Tryz.func34, Tryz.ntmps34
  go_wp2_with (at_builtin; refine wpList_append_own _ rfl _ _ 50 rfl w.heap.size 57 i0 zA 7 64 Tryz.underlying50 hinf hz0 hz1 hz2 rfl (by decide) _ _ _ rfl hO ad L.length c (ndc L) rfl HI.out.1 HC.out HI.out.2 ?c3 ?c4 ?c5 ?_)
  case c3 => unfold maxLen; omega
  case c4 => omega
  case c5 => simp
  intro v1 w1 hown hgrow _
  have HB1 := (show Hid (Below w.heap.size w w1) from HB.out.grown hgrow (by simp) (fun k e => (hO.lt k e).1))
  have HO := (show Hid (w1.ownsRow w.heap.size 57 7 v1 L.length (ndc L)) from hown)
  clear hgrow hO HB hown HC HI
  go_wp2_with fail
  go_ret
  exact ⟨⟨_, rfl, HO.out⟩, HB1.out⟩
end Go.Proofs.YtbipjdgholdhcabGreat.T

namespace Go.Proofs.YtbipjdgholdhcabGreat.N
open Go.RowKit Go.Maps
open Go.Proofs.YtbipjdgholdhcabGreat.T
/-- A rule that lies in memory of its own: it, and its pattern's list. -/
abbrev Rg : Type := (ByteArray × List Nd) × Value
def rgV (x : Rg) : List Value := [.string x.1.1, x.2]
def rgc (l : List Rg) : List Value := l.flatMap rgV
theorem rgc_app (a b : List Rg) : rgc (a ++ b) = rgc a ++ rgc b := List.flatMap_append
theorem rgc_one (x : Rg) : rgc [x] = rgV x := by unfold rgc; rw [List.flatMap_cons, List.flatMap_nil, List.append_nil]
theorem rgc_get (l : List Rg) : ∀ (k j : Nat) (x : Rg) (u : Value), l[k]? = some x → (rgV x)[j]? = some u → (rgc l)[k * 2 + j]? = some u := by
  induction l with
  | nil => intro k j x u h; cases h
  | cons a l ih =>
    intro k j x u h hu
    have e : rgc (a :: l) = rgV a ++ rgc l := by unfold rgc; rw [List.flatMap_cons]
    rw [e]
    have hj : j < 2 := (List.getElem?_eq_some_iff.1 hu).1
    cases k with
    | zero =>
      cases h
      rw [Nat.zero_mul, Nat.zero_add, List.getElem?_append_left (by show j < 2; exact hj)]
      exact hu
    | succ k =>
      have h2 : l[k]? = some x := by simpa using h
      have e2 : (rgV a).length = 2 := rfl
      rw [List.getElem?_append_right (by rw [e2]; omega), e2, show (k + 1) * 2 + j - 2 = k * 2 + j from by omega]
      exact ih k j x u h2 hu
/-- A grammar that lies in memory of its own, rule by rule. -/
structure OG (W : World) (B : Nat) (v : Value) (ov : List Rg) : Prop where
  o : W.ownsRow B 52 2 v ov.length (rgc ov)
  e : ∀ x ∈ ov, W.ownsRow B 57 7 x.2 x.1.2.length (ndc x.1.2)
  ap : ov.Pairwise fun x y => ∀ k, x.2.ownBlock = some k → y.2.ownBlock ≠ some k
theorem OG.nil (W : World) (B : Nat) : OG W B (.slice none 0 0) [] := ⟨World.ownsRow_nil _ _ _ _, (fun x hx => by cases hx), List.Pairwise.nil⟩
theorem OG.later {W W' : World} {B : Nat} {v : Value} {ov : List Rg} (h : OG W B v ov) (hb : Below W.heap.size W W') : OG W' B v ov :=
  ⟨T.own_below h.o hb, fun x hx => T.own_below (h.e x hx) hb, h.ap⟩
theorem OG.same {W W' : World} {B : Nat} {v : Value} {ov : List Rg} (h : OG W B v ov) (hk : ∀ k, (v.ownBlock = some k ∨ ∃ x ∈ ov, x.2.ownBlock = some k) → W'.heap[k]? = W.heap[k]?) : OG W' B v ov :=
  ⟨own_same h.o fun k q => hk k (.inl q), fun x hx => own_same (h.e x hx) fun k q => hk k (.inr ⟨x, hx, q⟩), h.ap⟩
theorem OG.ne {W : World} {B i : Nat} {v a : Value} {ov : List Rg} (h : OG W B v ov) (hx : GX W i a) {k : Nat} (hk : v.ownBlock = some k ∨ ∃ x ∈ ov, x.2.ownBlock = some k) : k ≠ i := by
  rcases hk with q | ⟨x, hx2, q⟩
  · exact hx.ne h.o (by decide) q
  · exact hx.ne (h.e x hx2) (by decide) q
theorem OG.push {W wA w5 : World} {B : Nat} {v u v2 : Value} {ov : List Rg} {nm : ByteArray} {L : List Nd} (h : OG W B v ov) (hB : B ≤ W.heap.size) (hA : Below W.heap.size W wA) (hl : wA.ownsRow W.heap.size 57 7 v2 L.length (ndc L)) (hg : (wA.alloc (.cells #[.string nm, v2] 52)).grownBy w5 v.ownBlock) (ho : w5.ownsRow B 52 2 u (ov.length + 1) (rgc ov ++ [.string nm, v2])) : OG w5 B u (ov ++ [((nm, L), v2)]) := by
  have h2 : OG (wA.alloc (.cells #[.string nm, v2] 52)) B v ov := (h.later hA).later (below_box wA _)
  have hl2 : (wA.alloc (.cells #[.string nm, v2] 52)).ownsRow W.heap.size 57 7 v2 L.length (ndc L) := T.own_below hl (below_box wA _)
  have key : ∀ (b : Nat) (y : Value) (n : Nat) (zs : List Value), (wA.alloc (.cells #[.string nm, v2] 52)).ownsRow b 57 7 y n zs → w5.ownsRow b 57 7 y n zs := fun b y n zs hy =>
    own_same hy fun k hk => hg.block k (World.ownsRow.lt hy k hk).2 (fun q => own_apart h2.o hy (by decide) q.symm hk)
  refine ⟨?_, fun y hy => ?_, ?_⟩
  · rw [List.length_append, rgc_app, rgc_one]
    exact ho
  · rcases List.mem_append.1 hy with q | q
    · exact key _ _ _ _ (h2.e y q)
    · rw [List.mem_singleton.1 q]
      exact T.own_base (key _ _ _ _ hl2) hB
  · refine List.pairwise_append.2 ⟨h.ap, List.pairwise_singleton _ _, fun x hx y hy k hk q => ?_⟩
    rw [List.mem_singleton.1 hy] at q
    have q1 := ((h.e x hx).lt k hk).2
    have q2 := (hl.lt k q).1
    omega
theorem OG.cell {W : World} {B g cap n : Nat} {ov : List Rg} (h : OG W B (.slice (some ⟨g, 0, none⟩) n cap) ov) {k : Nat} {x : Rg} (hk : ov[k]? = some x) : W.cell? ⟨g, k * 2, none⟩ = some (.string x.1.1) ∧ W.cell? ⟨g, k * 2 + 1, none⟩ = some x.2 := by
  have hc := h.o.cells (g := g) rfl
  have q0 := hc (k * 2 + 0) _ (rgc_get ov k 0 x _ hk rfl)
  have q1 := hc (k * 2 + 1) _ (rgc_get ov k 1 x _ hk rfl)
  rw [Addr.add_lit, Nat.zero_add] at q0 q1
  exact ⟨q0, q1⟩
theorem own_sl {W : World} {B e s n : Nat} {v : Value} {xs : List Value} (h : W.ownsRow B e s v n xs) : ∃ A cap, v = .slice A n cap := by
  rcases h.2 with ⟨rfl, rfl⟩ | ⟨g, cap, cur, rfl, _⟩
  · exact ⟨_, _, rfl⟩
  · exact ⟨_, _, rfl⟩
theorem own_rdn {W : World} {B : Nat} {v : Value} {L : List Nd} (h : W.ownsRow B 57 7 v L.length (ndc L)) : ∃ A c, v = .slice A L.length c ∧ RdN W A L := by
  obtain ⟨A, c, rfl⟩ := own_sl h
  refine ⟨A, c, rfl, fun q => ?_⟩
  obtain ⟨g, cap, e, _⟩ := h.form (by cases L with | nil => exact absurd rfl q | cons a l => exact Nat.succ_pos _)
  obtain ⟨rfl, rfl⟩ : A = some ⟨g, 0, none⟩ ∧ c = cap := by injection e with e1 e2 e3; exact ⟨e1, e3⟩
  exact ⟨g, 0, rfl, (h.lt g rfl).2, own_ndl (xs := []) (by rw [List.append_nil]; exact h)⟩
theorem OG.rd {W : World} {B : Nat} {v : Value} {ov : List Rg} {gs : GL} (h : OG W B v ov) (hm : ov.map (·.1) = gs) : GrR W v gs := by
  have hl : ov.length = gs.length := by rw [← hm, List.length_map]
  have ho := h.o
  obtain ⟨A, c, rfl⟩ := own_sl ho
  refine ⟨A, c, by rw [hl], fun k r hr => ?_⟩
  have hk : k < gs.length := (List.getElem?_eq_some_iff.1 hr).1
  obtain ⟨g, cap, e, _⟩ := ho.form (by omega)
  obtain ⟨rfl, rfl⟩ : A = some ⟨g, 0, none⟩ ∧ c = cap := by injection e with e1 e2 e3; exact ⟨e1, e3⟩
  rw [← hm, List.getElem?_map] at hr
  cases hx : ov[k]? with
  | none => rw [hx] at hr; cases hr
  | some x =>
    rw [hx] at hr
    obtain rfl : x.1 = r := by simpa using hr
    obtain ⟨q0, q1⟩ := h.cell hx
    obtain ⟨A2, c2, e2, r2⟩ := own_rdn (h.e x (List.mem_of_getElem? hx))
    exact ⟨g, 0, A2, c2, rfl, (h.o.lt g rfl).2, by rw [Nat.zero_add]; exact q0, by rw [Nat.zero_add, q1, e2], r2⟩
end Go.Proofs.YtbipjdgholdhcabGreat.N

namespace Go.Proofs.YtbipjdgholdhcabGreat.N
open Go.RowKit Go.Maps
open Go.Proofs.YtbipjdgholdhcabGreat.T
/-- What Rename answers. -/
def rnE (gs : GL) (r : Int) (s : ByteArray) : Int := if lkR gs r ≠ 0 then lkR gs r else if nmB s = false then 6 else if fdN gs s ≥ 0 ∧ fdN gs s ≠ r then 80 else 0
def rnG (gs : GL) (r : Int) (s : ByteArray) : GL := if rnE gs r s = 0 then reG gs r.toNat ((gs[r.toNat]?).getD (⟨#[]⟩, [])).1 s else []
theorem rnE_bad {gs : GL} {r : Int} {s : ByteArray} (h : lkR gs r ≠ 0) : rnE gs r s = lkR gs r ∧ rnG gs r s = [] := by
  have h1 : rnE gs r s = lkR gs r := by unfold rnE; rw [if_pos h]
  exact ⟨h1, by unfold rnG; rw [h1, if_neg h]⟩
theorem rnE_name {gs : GL} {r : Int} {s : ByteArray} (h : lkR gs r = 0) (hn : nmB s = false) : rnE gs r s = 6 ∧ rnG gs r s = [] := by
  have h1 : rnE gs r s = 6 := by unfold rnE; rw [if_neg (fun q => q h), if_pos hn]
  exact ⟨h1, by unfold rnG; rw [h1]; rfl⟩
theorem rnE_twice {gs : GL} {r : Int} {s : ByteArray} (h : lkR gs r = 0) (hn : nmB s = true) (h0 : fdN gs s ≥ 0) (hr : fdN gs s ≠ r) : rnE gs r s = 80 ∧ rnG gs r s = [] := by
  have h1 : rnE gs r s = 80 := by unfold rnE; rw [if_neg (fun q => q h), if_neg (by rw [hn]; exact Bool.noConfusion), if_pos ⟨h0, hr⟩]
  exact ⟨h1, by unfold rnG; rw [h1]; rfl⟩
end Go.Proofs.YtbipjdgholdhcabGreat.N

namespace Go.Proofs.YtbipjdgholdhcabGreat.N
open Go.RowKit Go.Maps
open Go.Proofs.YtbipjdgholdhcabGreat.T
theorem flat_set {α : Type} (f : α → List Value) (m i : Nat) (hm : ∀ x, (f x).length = m) (hi : i < m) (y : α) (u : Value) : ∀ (l : List α) (k : Nat) (x : α), l[k]? = some x → f y = (f x).set i u → (l.set k y).flatMap f = (l.flatMap f).set (k * m + i) u := by
  intro l
  induction l with
  | nil => intro k x h _; cases h
  | cons a l ih =>
    intro k x h hy
    cases k with
    | zero =>
      cases h
      rw [List.set_cons_zero, List.flatMap_cons, List.flatMap_cons, Nat.zero_mul, Nat.zero_add, List.set_append_left _ _ (by rw [hm]; exact hi), hy]
    | succ k =>
      have h2 : l[k]? = some x := by simpa using h
      have e : (k + 1) * m + i = m + (k * m + i) := by rw [Nat.add_mul]; omega
      rw [List.set_cons_succ, List.flatMap_cons, List.flatMap_cons, ih k x h2 hy, e, List.set_append_right _ _ (by rw [hm]; omega), hm, Nat.add_sub_cancel_left]
theorem rgc_name {ov : List Rg} {k : Nat} {x : Rg} (s : ByteArray) (h : ov[k]? = some x) : rgc (ov.set k ((s, x.1.2), x.2)) = (rgc ov).set (k * 2) (.string s) := by
  have := flat_set rgV 2 0 (fun _ => rfl) (by omega) ((s, x.1.2), x.2) (.string s) ov k x h rfl
  exact this
theorem rgc_same {ov : List Rg} {k : Nat} {x : Rg} (L : List Nd) (h : ov[k]? = some x) : rgc (ov.set k ((x.1.1, L), x.2)) = rgc ov := by
  have := flat_set rgV 2 0 (fun _ => rfl) (by omega) ((x.1.1, L), x.2) (.string x.1.1) ov k x h rfl
  have e := rgc_get ov k 0 x _ h rfl
  unfold rgc at e ⊢
  rw [this]
  refine List.ext_getElem? fun j => ?_
  rw [List.getElem?_set]
  split
  · rename_i q
    subst q
    rw [if_pos (List.getElem?_eq_some_iff.1 e).1, e]
  · rfl
theorem ndc_text {L : List Nd} {j : Nat} {n : Nd} (s : ByteArray) (h : L[j]? = some n) : ndc (L.set j { n with tx := s }) = (ndc L).set (j * 7 + 2) (.string s) :=
  flat_set ndV 7 2 (fun _ => rfl) (by omega) { n with tx := s } (.string s) L j n h rfl
theorem pair_set {ov : List Rg} {k : Nat} {x y : Rg} (h : ov.Pairwise fun x y => ∀ k, x.2.ownBlock = some k → y.2.ownBlock ≠ some k) (hx : ov[k]? = some x) (hy : y.2 = x.2) : (ov.set k y).Pairwise fun x y => ∀ k, x.2.ownBlock = some k → y.2.ownBlock ≠ some k := by
  have e : (ov.set k y).map (·.2) = ov.map (·.2) := by
    refine List.ext_getElem? fun j => ?_
    rw [List.getElem?_map, List.getElem?_map, List.getElem?_set]
    split
    · rename_i q
      subst q
      rw [if_pos (List.getElem?_eq_some_iff.1 hx).1, hx, Option.map_some, Option.map_some, hy]
    · rfl
  have h2 : (ov.map (·.2)).Pairwise fun (u v : Value) => ∀ k, u.ownBlock = some k → v.ownBlock ≠ some k := List.pairwise_map.2 h
  rw [← e] at h2
  exact List.pairwise_map.1 h2
theorem mem_set {ov : List Rg} {k : Nat} {y z : Rg} (h : z ∈ ov.set k y) : z = y ∨ ∃ j, j ≠ k ∧ ov[j]? = some z := by
  obtain ⟨j, hj⟩ := List.mem_iff_getElem?.1 h
  rw [List.getElem?_set] at hj
  split at hj
  · split at hj
    · cases hj; exact .inl rfl
    · cases hj
  · rename_i q
    exact .inr ⟨j, fun e => q e.symm, hj⟩
/-- A rule's name is written. -/
theorem OG.name {W : World} {B g n cap : Nat} {ov : List Rg} {k : Nat} {x : Rg} (h : OG W B (.slice (some ⟨g, 0, none⟩) n cap) ov) (hn : n = ov.length) (hx : ov[k]? = some x) (s : ByteArray) : OG (W.setCell ⟨g, k * 2, none⟩ (.string s)) B (.slice (some ⟨g, 0, none⟩) n cap) (ov.set k ((s, x.1.2), x.2)) := by
  subst hn
  have hot : ∀ q, q ≠ g → (W.setCell ⟨g, k * 2, none⟩ (.string s)).heap[q]? = W.heap[q]? := fun q hq => Below.heap_setCell _ _ _ _ hq
  have he : ∀ z ∈ ov, (W.setCell ⟨g, k * 2, none⟩ (.string s)).ownsRow B 57 7 z.2 z.1.2.length (ndc z.1.2) := fun z hz => own_same (h.e z hz) fun q hq => hot q fun e => own_apart (h.e z hz) h.o (by decide) hq (by rw [e]; rfl)
  refine ⟨?_, fun z hz => ?_, pair_set h.ap hx rfl⟩
  · rw [List.length_set, rgc_name s hx]
    exact (h.o.stored (k * 2) (.string s)).1
  · rcases mem_set hz with rfl | ⟨j, _, hj⟩
    · exact he x (List.mem_of_getElem? hx)
    · exact he z (List.mem_of_getElem? hj)
/-- A node's text is written. -/
theorem OG.text {W : World} {B : Nat} {v : Value} {ov : List Rg} {k j g2 l2 c2 : Nat} {x : Rg} {nd : Nd} (h : OG W B v ov) (hx : ov[k]? = some x) (h2 : x.2 = .slice (some ⟨g2, 0, none⟩) l2 c2) (hl : l2 = x.1.2.length) (hj : x.1.2[j]? = some nd) (s : ByteArray) : OG (W.setCell ⟨g2, j * 7 + 2, none⟩ (.string s)) B v (ov.set k ((x.1.1, x.1.2.set j { nd with tx := s }), x.2)) := by
  subst hl
  have hot : ∀ q, q ≠ g2 → (W.setCell ⟨g2, j * 7 + 2, none⟩ (.string s)).heap[q]? = W.heap[q]? := fun q hq => Below.heap_setCell _ _ _ _ hq
  have hxo := h.e x (List.mem_of_getElem? hx)
  have hxb : x.2.ownBlock = some g2 := by rw [h2]; rfl
  refine ⟨?_, fun z hz => ?_, pair_set h.ap hx rfl⟩
  · rw [List.length_set, rgc_same _ hx]
    exact own_same h.o fun q hq => hot q fun e => own_apart h.o hxo (by decide) hq (by rw [e]; exact hxb)
  · rcases mem_set hz with rfl | ⟨i, hi, hz2⟩
    · show (W.setCell ⟨g2, j * 7 + 2, none⟩ (.string s)).ownsRow B 57 7 x.2 (x.1.2.set j { nd with tx := s }).length (ndc (x.1.2.set j { nd with tx := s }))
      rw [List.length_set, ndc_text s hj, h2]
      rw [h2] at hxo
      exact (hxo.stored (j * 7 + 2) (.string s)).1
    · have hzo := h.e z (List.mem_of_getElem? hz2)
      refine own_same hzo fun q hq => hot q fun e => ?_
      subst e
      obtain ⟨a1, a2⟩ := List.getElem?_eq_some_iff.1 hx
      obtain ⟨b1, b2⟩ := List.getElem?_eq_some_iff.1 hz2
      rcases Nat.lt_or_gt_of_ne hi with q1 | q1
      · have := List.pairwise_iff_getElem.1 h.ap i k b1 a1 q1
        rw [a2, b2] at this
        exact this q hq hxb
      · have := List.pairwise_iff_getElem.1 h.ap k i a1 b1 q1
        rw [a2, b2] at this
        exact this q hxb hq
end Go.Proofs.YtbipjdgholdhcabGreat.N

namespace Go.Proofs.YtbipjdgholdhcabGreat.N
open Go.RowKit Go.Maps
open Go.Proofs.YtbipjdgholdhcabGreat.T
theorem ret_gx2 {fn : Func} {R : Ending → World → Prop} {act : Act} {W : World} {k : Nat} {a x : Value} (hF : fn.results = #[.cell 6 24, .tmp 7]) (hd : act.defers = []) (h6 : act.tmps.getD 6 undef = .pointer (some ⟨k, 0, none⟩)) (h7 : act.tmps.getD 7 undef = x) (hT : GX W k a) (hR : R (.returned (.tuple #[.agg #[a], x])) W) : bodyPost Tryz.prog fn R .ret act W := by
  have c0 := hT.cl
  refine bodyPost_ret (v := .tuple #[.agg #[a], x]) ?_ hd hR
  simp only [Array.getD_eq_getD_getElem?] at h6 h7
  simp [results, hF, go_sem, h6, h7, c0]
/-- While a name is changed: the grammar's box and the answer's. -/
structure RnS (w wr : World) (a : Value) : Prop where
  b : Below w.heap.size w wr
  x : GX wr w.heap.size a
  y : GX wr (w.heap.size + 1) (.slice none 0 0)
theorem RnS.later {w wr W' : World} {a : Value} (h : RnS w wr a) (hb : Below wr.heap.size wr W') : RnS w W' a := ⟨h.b.trans (hb.mono h.b.size), h.x.below hb, h.y.below hb⟩
theorem RnS.mk2 (w : World) (a : Value) : RnS w ((w.alloc (.cells #[a] 24)).alloc (.cells #[.slice none 0 0] 24)) a :=
  ⟨((Below.refl _ _).alloc (Nat.le_refl _) _).alloc (by rw [World.size_alloc]; omega) _, (GX.mk (heap_alloc_new w _)).below (below_box _ _), ⟨by have h := heap_alloc_new (w.alloc (.cells #[a] 24)) (.cells #[.slice none 0 0] 24); rw [World.size_alloc] at h; exact h⟩⟩
/-- What Rename hands back: a grammar of its own and a code. -/
def RnA (w w' : World) (e : Ending) (gs : GL) (r : Int) (s : ByteArray) : Prop := ∃ v ov, e = .returned (.tuple #[.agg #[v], .int .i64 (rnE gs r s)]) ∧ ov.map (·.1) = rnG gs r s ∧ OG w' w.heap.size v ov
theorem RnA.none {w w' : World} {gs : GL} {r : Int} {s : ByteArray} {c : Int} (h : rnE gs r s = c ∧ rnG gs r s = []) : RnA w w' (.returned (.tuple #[.agg #[.slice none 0 0], .int .i64 c])) gs r s := ⟨_, [], by rw [h.1], by rw [h.2]; rfl, OG.nil _ _⟩
end Go.Proofs.YtbipjdgholdhcabGreat.N

namespace Go.Proofs.YtbipjdgholdhcabGreat.N
open Go.RowKit Go.Maps
open Go.Proofs.YtbipjdgholdhcabGreat.T
set_option maxRecDepth 100000 in
set_option maxHeartbeats 8000000 in
/-- The document's Rename where it refuses. -/
theorem renameD_no (gs : GL) (A : Option Addr) (c : Nat) (r : Int) (s : ByteArray) (hs : s.size ≤ 140737488355328) (w : World) (hp : GI w A gs) (hn : ¬ rnE gs r s = 0) :
    Calls Tryz.prog 5 #[.agg #[.slice A gs.length c], .int .i64 r, .string s] w fun e w' => RnA w w' e gs r s ∧ Below w.heap.size w w' := by
  have HA := (show Hid (RnS w ((w.alloc (.cells #[.slice A gs.length c] 24)).alloc (.cells #[.slice none 0 0] 24)) (.slice A gs.length c)) from RnS.mk2 _ _)
  have HP := (show Hid (GI w A gs) from hp)
  have HLk := (show Hid (∀ W, Below w.heap.size w W → Calls Tryz.prog 17 #[.agg #[.slice A gs.length c], .int .i64 r] W fun e w' => e = .returned (.int .i64 (lkR gs r)) ∧ Below W.heap.size W w') from fun W hW => lookD_any gs A c r W (HP.out.later hW))
  have HNm := (show Hid (∀ W, Calls Tryz.prog 18 #[.string s] W fun e w' => e = .returned (.bool (nmB s)) ∧ w' = W) from fun W => nameR_any s hs W)
  have HFd := (show Hid (∀ W, Below w.heap.size w W → Calls Tryz.prog 19 #[.agg #[.slice A gs.length c], .string s] W fun e w' => e = .returned (.int .i64 (fdN gs s)) ∧ Below W.heap.size W w') from fun W hW => find_any gs A c s W (HP.out.later hW))
  have q1 := HA.out.x.cl
  clear hp HP
  go_enter Tryz.func5, Tryz.ntmps5
  go_wp2_with fail
  generalize (w.alloc (.cells #[.slice A gs.length c] 24)).alloc (.cells #[.slice none 0 0] 24) = w1 at *
  go_wp2_with fail
  refine (HLk.out _ HA.out.b).mono ?_
  rintro e w2 ⟨rfl, b2⟩
  have HA2 := (show Hid (RnS w w2 (.slice A gs.length c)) from HA.out.later b2)
  clear HA q1 HLk b2
  by_cases hz : lkR gs r = 0
  · have tz : (lkR gs r != 0) = false := by rw [hz]; rfl
    have HZ := (show Hid (lkR gs r = 0) from hz)
    rw [hz] at tz ⊢
    clear hz
    go_wp2_with fail
    refine (HNm.out _).mono ?_
    rintro e w3 ⟨rfl, rfl⟩
    clear HNm tz
    cases hb : nmB s with
    | false =>
      have HE := (show Hid _ from rnE_name HZ.out hb)
      have hyf := HA2.out.y.fz
      have hyc := HA2.out.y.cl
      clear HZ hn HFd
      go_wp2_with fail
      refine ret_gx2 rfl rfl rfl rfl (HA2.out.y.set _) ?_
      exact ⟨RnA.none HE.out, HA2.out.b.setCell (p := ⟨w.heap.size + 1, 0, none⟩) (by show w.heap.size ≤ w.heap.size + 1; omega) _⟩
    | true =>
      obtain ⟨i, hf, hir⟩ : ∃ i : Nat, fdG gs s = some i ∧ (i : Int) ≠ r := by
        refine Classical.byContradiction fun q => hn ?_
        unfold rnE
        rw [if_neg (fun z => z HZ.out), if_neg (by rw [hb]; exact Bool.noConfusion), if_neg]
        rintro ⟨z1, z2⟩
        cases hf : fdG gs s with
        | none => rw [fdN_none hf] at z1; omega
        | some i => rw [fdN_some hf] at z2; exact q ⟨i, hf, z2⟩
      have HE := (show Hid _ from rnE_twice HZ.out hb (by rw [fdN_some hf]; omega) (by rw [fdN_some hf]; exact hir))
      rw [fdN_some hf] at HFd
      have ti : ((i : Int) != r) = true := by rw [bne, beq_eq_false_iff_ne.2 hir]; rfl
      have ti0 : (0 : Int) ≤ (i : Int) := by omega
      have q2 := HA2.out.x.cl
      clear HZ hn hf hir
      go_wp2_with fail
      refine (HFd.out _ HA2.out.b).mono ?_
      rintro e w4 ⟨rfl, b4⟩
      have HA4 := (show Hid (RnS w w4 (.slice A gs.length c)) from HA2.out.later b4)
      have hyf := HA4.out.y.fz
      have hyc := HA4.out.y.cl
      clear HA2 b4 HFd q2
      go_wp2_with fail
      refine ret_gx2 rfl rfl rfl rfl (HA4.out.y.set _) ?_
      exact ⟨RnA.none HE.out, HA4.out.b.setCell (p := ⟨w.heap.size + 1, 0, none⟩) (by show w.heap.size ≤ w.heap.size + 1; omega) _⟩
  · have tz : (lkR gs r != 0) = true := by rw [bne, beq_eq_false_iff_ne.2 hz]; rfl
    have HE := (show Hid _ from rnE_bad (s := s) hz)
    have hyf := HA2.out.y.fz
    have hyc := HA2.out.y.cl
    clear hz HNm HFd
    generalize lkR gs r = cd at *
    go_wp2_with fail
    refine ret_gx2 rfl rfl rfl rfl (HA2.out.y.set _) ?_
    exact ⟨RnA.none HE.out, HA2.out.b.setCell (p := ⟨w.heap.size + 1, 0, none⟩) (by show w.heap.size ≤ w.heap.size + 1; omega) _⟩
end Go.Proofs.YtbipjdgholdhcabGreat.N

namespace Go.Proofs.YtbipjdgholdhcabGreat.N
open Go.RowKit Go.Maps
open Go.Proofs.YtbipjdgholdhcabGreat.T
/-- A list whose first entries are changed already. -/
def mxB (f : Nd → Nd) (L : List Nd) (k : Nat) : List Nd := L.mapIdx fun j n => if j < k then f n else n
theorem mx_get {f : Nd → Nd} {L : List Nd} {k : Nat} (j : Nat) : (mxB f L k)[j]? = (L[j]?).map fun n => if j < k then f n else n := by
  unfold mxB
  rw [List.getElem?_mapIdx]
theorem mx_len {f : Nd → Nd} {L : List Nd} {k : Nat} : (mxB f L k).length = L.length := by unfold mxB; rw [List.length_mapIdx]
theorem mx_zero {f : Nd → Nd} {L : List Nd} : mxB f L 0 = L := by
  refine List.ext_getElem? fun j => ?_
  rw [mx_get]
  cases L[j]? with
  | none => rfl
  | some n => simp
theorem mx_all {f : Nd → Nd} {L : List Nd} {k : Nat} (h : L.length ≤ k) : mxB f L k = L.map f := by
  refine List.ext_getElem? fun j => ?_
  rw [mx_get, List.getElem?_map]
  cases hj : L[j]? with
  | none => rfl
  | some n =>
    have := (List.getElem?_eq_some_iff.1 hj).1
    rw [Option.map_some, Option.map_some, if_pos (by omega)]
theorem mx_same {f : Nd → Nd} {L : List Nd} {k : Nat} {n : Nd} (h : L[k]? = some n) (hf : f n = n) : mxB f L (k + 1) = mxB f L k := by
  refine List.ext_getElem? fun j => ?_
  rw [mx_get, mx_get]
  by_cases q : j = k
  · subst q
    rw [h, Option.map_some, Option.map_some, if_pos (Nat.lt_succ_self _), if_neg (Nat.lt_irrefl _), hf]
  · cases L[j]? with
    | none => rfl
    | some m =>
      rw [Option.map_some, Option.map_some]
      by_cases q2 : j < k
      · rw [if_pos q2, if_pos (by omega)]
      · rw [if_neg q2, if_neg (by omega)]
theorem mx_set {f : Nd → Nd} {L : List Nd} {k : Nat} {n : Nd} (h : L[k]? = some n) : mxB f L (k + 1) = (mxB f L k).set k (f n) := by
  refine List.ext_getElem? fun j => ?_
  rw [List.getElem?_set, mx_get, mx_get]
  by_cases q : k = j
  · subst q
    rw [h, Option.map_some, if_pos rfl, if_pos (Nat.lt_succ_self _), if_pos (by rw [mx_len]; exact (List.getElem?_eq_some_iff.1 h).1)]
  · rw [if_neg q]
    cases L[j]? with
    | none => rfl
    | some m =>
      rw [Option.map_some, Option.map_some]
      by_cases q2 : j < k
      · rw [if_pos q2, if_pos (by omega)]
      · rw [if_neg q2, if_neg (by omega)]
/-- A grammar while it is renamed: the rules ahead of i whole, of the rule i the nodes ahead of k. -/
def rkG (gs : GL) (r : Nat) (a b : ByteArray) (i k : Nat) : GL := gs.mapIdx fun j g => (if j = r then b else g.1, mxB (reN a b) g.2 (if j < i then g.2.length else if j = i then k else 0))
theorem rk_get {gs : GL} {r : Nat} {a b : ByteArray} {i k : Nat} (j : Nat) : (rkG gs r a b i k)[j]? = (gs[j]?).map fun g => (if j = r then b else g.1, mxB (reN a b) g.2 (if j < i then g.2.length else if j = i then k else 0)) := by
  unfold rkG
  rw [List.getElem?_mapIdx]
theorem rk_at {gs : GL} {r : Nat} {a b : ByteArray} {i k : Nat} {g : ByteArray × List Nd} (h : gs[i]? = some g) : (rkG gs r a b i k)[i]? = some (if i = r then b else g.1, mxB (reN a b) g.2 k) := by
  rw [rk_get, h, Option.map_some, if_neg (Nat.lt_irrefl i), if_pos rfl]
theorem rk_len {gs : GL} {r : Nat} {a b : ByteArray} {i k : Nat} : (rkG gs r a b i k).length = gs.length := by unfold rkG; rw [List.length_mapIdx]
theorem rk_start {gs : GL} {r : Nat} {a b : ByteArray} {g0 : ByteArray × List Nd} (h : gs[r]? = some g0) : gs.set r (b, g0.2) = rkG gs r a b 0 0 := by
  refine List.ext_getElem? fun j => ?_
  rw [List.getElem?_set, rk_get]
  by_cases q : r = j
  · subst q
    rw [if_pos rfl, if_pos (List.getElem?_eq_some_iff.1 h).1, h, Option.map_some, if_pos rfl, if_neg (Nat.not_lt_zero _), show (if r = 0 then 0 else 0) = 0 from by split <;> rfl, mx_zero]
  · rw [if_neg q]
    cases gs[j]? with
    | none => rfl
    | some g => rw [Option.map_some, if_neg (fun e => q e.symm), if_neg (Nat.not_lt_zero _), show (if j = 0 then 0 else 0) = 0 from by split <;> rfl, mx_zero]
theorem rk_next {gs : GL} {r : Nat} {a b : ByteArray} {i : Nat} {g : ByteArray × List Nd} (h : gs[i]? = some g) : rkG gs r a b i g.2.length = rkG gs r a b (i + 1) 0 := by
  refine List.ext_getElem? fun j => ?_
  rw [rk_get, rk_get]
  by_cases q : j = i
  · subst q
    rw [h, Option.map_some, Option.map_some, if_neg (Nat.lt_irrefl j), if_pos rfl, if_pos (Nat.lt_succ_self j)]
  · cases gs[j]? with
    | none => rfl
    | some m =>
      rw [Option.map_some, Option.map_some]
      by_cases q2 : j < i
      · rw [if_pos q2, if_pos (show j < i + 1 by omega)]
      · rw [if_neg q2, if_neg q, if_neg (show ¬ j < i + 1 by omega), show (if j = i + 1 then 0 else 0) = 0 from by split <;> rfl]
theorem rk_end {gs : GL} {r : Nat} {a b : ByteArray} : rkG gs r a b gs.length 0 = reG gs r a b := by
  refine List.ext_getElem? fun j => ?_
  rw [rk_get, reG_get]
  cases h : gs[j]? with
  | none => rfl
  | some m => rw [Option.map_some, Option.map_some, if_pos (List.getElem?_eq_some_iff.1 h).1, mx_all (Nat.le_refl _)]
theorem rk_same {gs : GL} {r : Nat} {a b : ByteArray} {i k : Nat} {g : ByteArray × List Nd} {n : Nd} (h : gs[i]? = some g) (hn : g.2[k]? = some n) (hf : reN a b n = n) : rkG gs r a b i (k + 1) = rkG gs r a b i k := by
  refine List.ext_getElem? fun j => ?_
  rw [rk_get, rk_get]
  by_cases q : j = i
  · subst q
    rw [h, Option.map_some, Option.map_some, if_neg (Nat.lt_irrefl j), if_pos rfl, if_neg (Nat.lt_irrefl j), if_pos rfl, mx_same hn hf]
  · cases gs[j]? with
    | none => rfl
    | some m => rw [Option.map_some, Option.map_some, if_neg q, if_neg q]
theorem rk_set {gs : GL} {r : Nat} {a b : ByteArray} {i k : Nat} {g : ByteArray × List Nd} {n : Nd} (h : gs[i]? = some g) (hn : g.2[k]? = some n) : rkG gs r a b i (k + 1) = (rkG gs r a b i k).set i (if i = r then b else g.1, (mxB (reN a b) g.2 k).set k (reN a b n)) := by
  refine List.ext_getElem? fun j => ?_
  rw [List.getElem?_set, rk_get, rk_get, rk_len]
  by_cases q : i = j
  · subst q
    rw [h, Option.map_some, if_neg (Nat.lt_irrefl i), if_pos rfl, if_pos rfl, if_pos (List.getElem?_eq_some_iff.1 h).1, mx_set hn]
  · rw [if_neg q]
    cases gs[j]? with
    | none => rfl
    | some m =>
      have q2 : ¬ j = i := fun e => q e.symm
      simp only [Option.map_some, if_neg q2]
end Go.Proofs.YtbipjdgholdhcabGreat.N

namespace Go.Proofs.YtbipjdgholdhcabGreat.N
open Go.RowKit Go.Maps
open Go.Proofs.YtbipjdgholdhcabGreat.T
/-- While a grammar is copied. -/
structure CpI (w wr : World) (a v : Value) (ov : List Rg) : Prop where
  o : OG wr w.heap.size v ov
  b : Below w.heap.size w wr
  x : GX wr w.heap.size a
  y : GX wr (w.heap.size + 1) (.slice none 0 0)
  z : GX wr (w.heap.size + 2) v
theorem CpI.later {w wr W' : World} {a v : Value} {ov : List Rg} (h : CpI w wr a v ov) (hb : Below wr.heap.size wr W') : CpI w W' a v ov :=
  ⟨h.o.later hb, h.b.trans (hb.mono h.b.size), h.x.below hb, h.y.below hb, h.z.below hb⟩
theorem CpI.box {w wr wA w5 : World} {a v v2 : Value} {ov : List Rg} {nm : ByteArray} (h : CpI w wr a v ov) (hA : Below wr.heap.size wr wA) (hg : (wA.alloc (.cells #[.string nm, v2] 52)).grownBy w5 v.ownBlock) : GX w5 w.heap.size a ∧ GX w5 (w.heap.size + 1) (.slice none 0 0) ∧ GX w5 (w.heap.size + 2) v := by
  have h2 := (h.later hA).later (below_box wA (.cells #[.string nm, v2] 52))
  exact ⟨h2.x.same (hg.block _ h2.x.lt (fun e => h2.x.ne h2.o.o (by decide) e.symm rfl)), h2.y.same (hg.block _ h2.y.lt (fun e => h2.y.ne h2.o.o (by decide) e.symm rfl)), h2.z.same (hg.block _ h2.z.lt (fun e => h2.z.ne h2.o.o (by decide) e.symm rfl))⟩
theorem CpI.push {w wr wA w5 : World} {a v u v2 : Value} {ov : List Rg} {nm : ByteArray} {L : List Nd} (h : CpI w wr a v ov) (hA : Below wr.heap.size wr wA) (hl : wA.ownsRow wr.heap.size 57 7 v2 L.length (ndc L)) (hg : (wA.alloc (.cells #[.string nm, v2] 52)).grownBy w5 v.ownBlock) (ho : w5.ownsRow w.heap.size 52 2 u (ov.length + 1) (rgc ov ++ [.string nm, v2])) : CpI w (w5.setCell ⟨w.heap.size + 2, 0, none⟩ u) a u (ov ++ [((nm, L), v2)]) := by
  obtain ⟨x5, y5, z5⟩ := h.box hA hg
  have o5 := h.o.push h.b.size hA hl hg ho
  have h2 := (h.later hA).later (below_box wA (.cells #[.string nm, v2] 52))
  have b5 : Below w.heap.size w w5 := h2.b.grown hg h2.b.size (fun k e => (h2.o.o.lt k e).1)
  have key : ∀ (j : Nat), j ≠ w.heap.size + 2 → (w5.setCell ⟨w.heap.size + 2, 0, none⟩ u).heap[j]? = w5.heap[j]? := fun j hj => Below.heap_setCell _ _ _ _ hj
  exact ⟨o5.same fun k hk => key k (o5.ne z5 hk), b5.setCell (p := ⟨w.heap.size + 2, 0, none⟩) (by show w.heap.size ≤ w.heap.size + 2; omega) _, x5.same (key _ (by omega)), y5.same (key _ (by omega)), z5.set _⟩
theorem enters67 (args : Array Value) (w : World) : (callFunc 34 args).run Tryz.prog w = .ok (.enter 34 args) w := enters_of Tryz.func34 (by kernel_rfl) rfl args w
set_option maxRecDepth 100000 in
set_option maxHeartbeats 16000000 in
theorem copyG_any (gs : GL) (A : Option Addr) (c : Nat) (w : World) (hd : GrD w A gs) (hn : gs.length ≤ 200) (hL : ∀ g ∈ gs, g.2 ≠ [] ∧ g.2.length ≤ 2048) :
    Calls Tryz.prog 20 #[.agg #[.slice A gs.length c]] w fun e w' => (∃ v ov, e = .returned (.agg #[v]) ∧ ov.map (·.1) = gs ∧ OG w' w.heap.size v ov) ∧ Below w.heap.size w w' := by
  obtain ⟨i0, hinf, hz0, hz1, hz2⟩ := info_parts Tryz.info41
  have HG := (show Hid (∀ k, k < gs.length → ∃ g, gs[k]? = some g ∧ g.2.length ≤ 2048 ∧ ∃ b o ad c2, A = some ⟨b, o, none⟩ ∧ b < w.heap.size ∧ w.cell? ⟨b, o + k * 2, none⟩ = some (.string g.1) ∧ w.cell? ⟨b, o + k * 2 + 1, none⟩ = some (.slice (some ad) g.2.length c2) ∧ RdN w (some ad) g.2) from fun k hk => by
    have e : gs[k]? = some gs[k] := List.getElem?_eq_getElem hk
    obtain ⟨b, o, A2, c2, h1, h2, h3, h4, h5⟩ := hd k _ e
    have h6 := hL _ (List.getElem_mem hk)
    obtain ⟨b2, o2, rfl, _⟩ := h5 h6.1
    exact ⟨_, e, h6.2, b, o, _, c2, h1, h2, h3, h4, h5⟩)
  have HA := (show Hid (CpI w (((w.alloc (.cells #[.slice A gs.length c] 24)).alloc (.cells #[.slice none 0 0] 24)).alloc (.cells #[.slice none 0 0] 24)) (.slice A gs.length c) (.slice none 0 0) []) from by
    have s1 := World.size_alloc w (.cells #[.slice A gs.length c] 24)
    have s2 := World.size_alloc (w.alloc (.cells #[.slice A gs.length c] 24)) (.cells #[.slice none 0 0] 24)
    refine ⟨OG.nil _ _, (((Below.refl _ _).alloc (Nat.le_refl _) _).alloc (by omega) _).alloc (by omega) _, ((GX.mk (heap_alloc_new w _)).below (below_box _ _)).below (below_box _ _), (GX.mk ?_).below (below_box _ _), ⟨?_⟩⟩
    · have h := heap_alloc_new (w.alloc (.cells #[.slice A gs.length c] 24)) (.cells #[.slice none 0 0] 24); rw [s1] at h; exact h
    · have h := heap_alloc_new ((w.alloc (.cells #[.slice A gs.length c] 24)).alloc (.cells #[.slice none 0 0] 24)) (.cells #[.slice none 0 0] 24); rw [s2, s1] at h; exact h)
  clear hd hL
  go_enter Tryz.func20, Tryz.ntmps20
  go_wp2_with fail
  rw [show w.heap.size + 1 + 1 = w.heap.size + 2 from rfl]
  generalize ((w.alloc (.cells #[.slice A gs.length c] 24)).alloc (.cells #[.slice none 0 0] 24)).alloc (.cells #[.slice none 0 0] 24) = w1 at *
  go_loopw [4] (fun t wr => ∃ (k : Nat) (ov : List Rg) (Av : Option Addr) (cv : Nat), k ≤ gs.length ∧ t = .int .i64 (k : Int) ∧ Hid (ov.length = k ∧ ov.map (·.1) = gs.take k) ∧ Hid (CpI w wr (.slice A gs.length c) (.slice Av k cv) ov)) (fun t _ => gs.length - (intOf t).toNat)
  case atStart => exact ⟨0, [], none, 0, Nat.zero_le _, rfl, ⟨rfl, rfl⟩, HA⟩
  case round =>
    obtain ⟨k, ov, Av, cv, hk, rfl, HM, HW⟩ := hrel
    clear HA
    have x0 := HW.out.x.cl
    by_cases hlt : k < gs.length
    · obtain ⟨g, hgk, hgl, b, o, ad, c2, rfl, lb, e0, e1, hin⟩ := HG.out k hlt
      have z0 : (0 : Int) ≤ (k : Int) := by omega
      have z1 : (k : Int) < (gs.length : Int) := by omega
      have hD : Below wr.heap.size wr wr.drew := (Below.refl _ _).drew
      have HLd := (show Hid (CpI w wr.drew (.slice (some ⟨b, o, none⟩) gs.length c) (.slice Av k cv) ov) from HW.out.later hD)
      have d0 := (HLd.out.b.cell (p := ⟨b, o + k * 2, none⟩) lb).trans e0
      have d1 := (HLd.out.b.cell (p := ⟨b, o + k * 2 + 1, none⟩) lb).trans e1
      have dx := HLd.out.x.cl
      have dz := HLd.out.z.cl
      have hsz : w.heap.size ≤ wr.heap.size := HW.out.b.size
      have HCall := (show Hid (∀ _ : Unit, Calls Tryz.prog 34 #[.slice (some ad) g.2.length c2] wr.drew fun e w' => (∃ A9 c9, e = .returned (.slice A9 g.2.length c9) ∧ w'.ownsRow wr.heap.size 57 7 (.slice A9 g.2.length c9) g.2.length (ndc g.2)) ∧ Below wr.drew.heap.size wr.drew w') from fun _ => by
        refine (copy_any ad c2 g.2 wr.drew hgl (hin.below HLd.out.b (Nat.le_refl _))).mono ?_
        rintro e w' ⟨⟨v9, rfl, r9⟩, b9⟩
        obtain ⟨A9, c9, rfl⟩ := own_sl r9
        exact ⟨⟨A9, c9, rfl, r9⟩, b9⟩)
      have HAft := (show Hid (∀ wA, Below wr.drew.heap.size wr.drew wA → wA.cell? ⟨w.heap.size, 0, none⟩ = some (.slice (some ⟨b, o, none⟩) gs.length c) ∧ wA.cell? ⟨b, o + k * 2, none⟩ = some (.string g.1) ∧ wA.cell? ⟨w.heap.size + 2, 0, none⟩ = some (.slice Av k cv) ∧ ∀ ob : Obj, (wA.alloc ob).cell? ⟨w.heap.size + 2, 0, none⟩ = some (.slice Av k cv)) from fun wA hA => by
        have h3 := HLd.out.later hA
        exact ⟨h3.x.cl, (h3.b.cell (p := ⟨b, o + k * 2, none⟩) lb).trans e0, h3.z.cl, fun ob => (h3.later (below_box wA ob)).z.cl⟩)
      have HTk := (show Hid (gs.take (k + 1) = gs.take k ++ [g]) from by rw [List.take_add_one, hgk]; rfl)
      have hov := HM.out.1
      have HO := (show Hid (wr.drew.ownsRow w.heap.size 52 2 (.slice Av k cv) k (rgc ov)) from by have h := HLd.out.o.o; rw [hov] at h; exact h)
      have HPu := (show Hid (∀ (wA w5 : World) (v2 u : Value), Below wr.drew.heap.size wr.drew wA → wA.ownsRow wr.heap.size 57 7 v2 g.2.length (ndc g.2) → (wA.alloc (.cells #[.string g.1, v2] 52)).grownBy w5 (Value.slice Av k cv).ownBlock → w5.ownsRow w.heap.size 52 2 u (k + 1) (rgc ov ++ [.string g.1, v2]) → GX w5 (w.heap.size + 2) (.slice Av k cv) ∧ CpI w (w5.setCell ⟨w.heap.size + 2, 0, none⟩ u) (.slice (some ⟨b, o, none⟩) gs.length c) u (ov ++ [((g.1, g.2), v2)])) from fun wA w5 v2 u hA hl hg ho => by
        have q2 : wr.drew.heap.size = wr.heap.size := rfl
        have hA2 : Below wr.heap.size wr wA := hD.trans (by rw [← q2]; exact hA)
        exact ⟨(HW.out.box hA2 hg).2.2, HW.out.push hA2 hl hg (by rw [HM.out.1]; exact ho)⟩)
      clear hgk hin e0 e1 HG hlt hov
      obtain ⟨nm, L⟩ := g
      simp only at d0 d1 HCall HAft HTk hgl HPu
      go_wp2_with fail
      go_region_law (first
        | (refine step_call1 enters67 rfl _ _ (by rfl) (.slice (some ad) L.length c2) (by rfl) ?_; with_reducible refine (HCall.out ()).mono ?_; rintro e wA ⟨⟨A9, c9, rfl, rA⟩, bA⟩; refine ⟨_, rfl, ?_⟩; obtain ⟨ax, a0, az, ay⟩ := HAft.out wA bA)
        | (refine step_append_lies _ (by rfl) _ _ _ (by rfl) w.heap.size 52 i0 (.agg #[.string ⟨#[]⟩, .slice none 0 0]) 2 40 Tryz.underlying22 hinf hz0 hz1 hz2 rfl (by omega) _ _ (rgc ov) (by rfl) ((T.own_below HO.out bA).alloc _) ⟨wA.heap.size, 0, none⟩ 1 1 [.string nm, .slice A9 L.length c9] (by rfl) (by rfl) (World.news_of_block (cs := #[.string nm, .slice A9 L.length c9]) (t := 52) (fr := (0, 0)) (heap_alloc_new wA _)) (by intro u hu; simp only [List.mem_cons, List.not_mem_nil, or_false] at hu; rcases hu with rfl | rfl <;> rfl) (by omega) (by unfold maxLen; omega) (by omega) (by have q1 := bA.size; have q2 : wr.drew.heap.size = wr.heap.size := rfl; rw [World.size_alloc]; omega) (wA.heap.size + 1) (by simp) ?_; intro g3 cap3 w5 hown hgrow hat hltg; obtain ⟨hz5, hpu⟩ := HPu.out wA w5 (.slice A9 L.length c9) (.slice (some ⟨g3, 0, none⟩) (k + 1) cap3) bA rA hgrow hown; have HPn := (show Hid _ from hpu); clear hpu; have hzf := hz5.fz; have hzc := hz5.cl; clear hz5))
      all_goals
        clear hown hgrow hat hltg rA bA ax a0 az ay HCall HAft HO HLd HW hD HPu
        generalize w5.setCell ⟨w.heap.size + 2, 0, none⟩ (.slice (some ⟨g3, 0, none⟩) (k + 1) cap3) = w6 at *
        go_wp2_with fail
        go_roundw
        case rel => exact ⟨k + 1, _, _, _, by omega, by go_num, ⟨by rw [List.length_append, HM.out.1]; rfl, by rw [List.map_append, HM.out.2, HTk.out]; rfl⟩, HPn⟩
        case measure => simp [intOf]; omega
    · obtain rfl : k = gs.length := by omega
      have HMm := (show Hid (ov.map (·.1) = gs) from by have := HM.out.2; rw [List.take_length] at this; exact this)
      have hyf := HW.out.y.fz
      have hyc := HW.out.y.cl
      have hzc := HW.out.z.cl
      clear HG HM
      go_wp2_with fail
      refine ret_gx rfl rfl rfl (HW.out.y.set _) ?_
      have h5 := HW.out
      have key : ∀ (j : Nat), j ≠ w.heap.size + 1 → (wr.setCell ⟨w.heap.size + 1, 0, none⟩ (.slice Av gs.length cv)).heap[j]? = wr.heap[j]? := fun j hj => Below.heap_setCell _ _ _ _ hj
      exact ⟨⟨_, ov, rfl, HMm.out, h5.o.same fun j hj => key j (h5.o.ne h5.y hj)⟩, h5.b.setCell (p := ⟨w.heap.size + 1, 0, none⟩) (by show w.heap.size ≤ w.heap.size + 1; omega) _⟩
end Go.Proofs.YtbipjdgholdhcabGreat.N

namespace Go.Proofs.YtbipjdgholdhcabGreat.N
open Go.RowKit Go.Maps
open Go.Proofs.YtbipjdgholdhcabGreat.T
/-- While the copy is renamed: the copy, the answer's box, the copy's box. -/
structure RdS (w wr : World) (v : Value) (k : Nat) (ov : List Rg) : Prop where
  o : OG wr w.heap.size v ov
  b : Below w.heap.size w wr
  y : GX wr (w.heap.size + 1) (.slice none 0 0)
  z : GX wr k v
theorem RdS.name {w wr : World} {k g n cap j : Nat} {ov : List Rg} {x : Rg} (h : RdS w wr (.slice (some ⟨g, 0, none⟩) n cap) k ov) (hn : n = ov.length) (hx : ov[j]? = some x) (s : ByteArray) : RdS w (wr.setCell ⟨g, j * 2, none⟩ (.string s)) (.slice (some ⟨g, 0, none⟩) n cap) k (ov.set j ((s, x.1.2), x.2)) := by
  have hot : ∀ q, q ≠ g → (wr.setCell ⟨g, j * 2, none⟩ (.string s)).heap[q]? = wr.heap[q]? := fun q hq => Below.heap_setCell _ _ _ _ hq
  exact ⟨h.o.name hn hx s, h.b.setCell (p := ⟨g, j * 2, none⟩) (h.o.o.lt g rfl).1 _, h.y.same (hot _ (fun e => h.y.ne h.o.o (by decide) rfl e.symm)), h.z.same (hot _ (fun e => h.z.ne h.o.o (by decide) rfl e.symm))⟩
theorem RdS.text {w wr : World} {v : Value} {k i j g2 l2 c2 : Nat} {ov : List Rg} {x : Rg} {nd : Nd} (h : RdS w wr v k ov) (hx : ov[i]? = some x) (h2 : x.2 = .slice (some ⟨g2, 0, none⟩) l2 c2) (hl : l2 = x.1.2.length) (hj : x.1.2[j]? = some nd) (s : ByteArray) : RdS w (wr.setCell ⟨g2, j * 7 + 2, none⟩ (.string s)) v k (ov.set i ((x.1.1, x.1.2.set j { nd with tx := s }), x.2)) := by
  have hot : ∀ q, q ≠ g2 → (wr.setCell ⟨g2, j * 7 + 2, none⟩ (.string s)).heap[q]? = wr.heap[q]? := fun q hq => Below.heap_setCell _ _ _ _ hq
  have ho := h.o.e x (List.mem_of_getElem? hx)
  have hb : x.2.ownBlock = some g2 := by rw [h2]; rfl
  exact ⟨h.o.text hx h2 hl hj s, h.b.setCell (p := ⟨g2, j * 7 + 2, none⟩) (ho.lt g2 hb).1 _, h.y.same (hot _ (fun e => h.y.ne ho (by decide) hb e.symm)), h.z.same (hot _ (fun e => h.z.ne ho (by decide) hb e.symm))⟩
theorem RdS.row {w wr : World} {k g n cap i : Nat} {ov : List Rg} {x : Rg} (h : RdS w wr (.slice (some ⟨g, 0, none⟩) n cap) k ov) (hx : ov[i]? = some x) (h0 : 0 < x.1.2.length) : ∃ g2 c2, x.2 = .slice (some ⟨g2, 0, none⟩) x.1.2.length c2 ∧ wr.cell? ⟨g, i * 2 + 1, none⟩ = some (.slice (some ⟨g2, 0, none⟩) x.1.2.length c2) := by
  have ho := h.o.e x (List.mem_of_getElem? hx)
  obtain ⟨g2, c2, e2, _⟩ := ho.form h0
  exact ⟨g2, c2, e2, by rw [(h.o.cell hx).2, e2]⟩
theorem RdS.nd {w wr : World} {v : Value} {k g2 c2 l2 i j : Nat} {ov : List Rg} {x : Rg} {nd : Nd} (h : RdS w wr v k ov) (hx : ov[i]? = some x) (h2 : x.2 = .slice (some ⟨g2, 0, none⟩) l2 c2) (hl : l2 = x.1.2.length) (hj : x.1.2[j]? = some nd) : wr.cell? ⟨g2, j * 7, none⟩ = some (.int .i64 nd.op) ∧ wr.cell? ⟨g2, j * 7 + 2, none⟩ = some (.string nd.tx) ∧ wr.frozen? ⟨g2, j * 7 + 2, none⟩ = false := by
  subst hl
  have ho := h.o.e x (List.mem_of_getElem? hx)
  rw [h2] at ho
  have hb := own_ndl (xs := []) (by rw [List.append_nil]; exact ho) j nd hj
  have q0 := hb.c0
  have q2 := hb.c2
  rw [Nat.zero_add] at q0 q2
  exact ⟨q0, q2, ho.frozenAt _⟩
theorem rk_ov {ov : List Rg} {gs : GL} {r i k : Nat} {a b : ByteArray} {g : ByteArray × List Nd} (hm : ov.map (·.1) = rkG gs r a b i k) (hg : gs[i]? = some g) : ∃ x, ov[i]? = some x ∧ x.1 = (if i = r then b else g.1, mxB (reN a b) g.2 k) := by
  have h := rk_at (r := r) (a := a) (b := b) (k := k) hg
  rw [← hm, List.getElem?_map] at h
  cases hx : ov[i]? with
  | none => rw [hx] at h; cases h
  | some x => rw [hx] at h; exact ⟨x, rfl, by simpa using h⟩
theorem mx_at {f : Nd → Nd} {L : List Nd} {k : Nat} {n : Nd} (h : L[k]? = some n) : (mxB f L k)[k]? = some n := by rw [mx_get, h, Option.map_some, if_neg (Nat.lt_irrefl k)]
theorem rnE_zero {gs : GL} {r : Int} {s : ByteArray} (h : rnE gs r s = 0) : lkR gs r = 0 ∧ nmB s = true ∧ (fdN gs s = -1 ∨ fdN gs s = r) := by
  unfold rnE at h
  by_cases h1 : lkR gs r ≠ 0
  · rw [if_pos h1] at h; exact absurd h h1
  · rw [if_neg h1] at h
    have h1 : lkR gs r = 0 := Classical.byContradiction h1
    by_cases h2 : nmB s = false
    · rw [if_pos h2] at h; exact absurd h (by decide)
    · rw [if_neg h2] at h
      by_cases h3 : fdN gs s ≥ 0 ∧ fdN gs s ≠ r
      · rw [if_pos h3] at h; exact absurd h (by decide)
      · refine ⟨h1, by simpa using h2, ?_⟩
        cases hf : fdG gs s with
        | none => exact .inl (fdN_none hf)
        | some i =>
          rw [fdN_some hf] at h3 ⊢
          exact .inr (Classical.byContradiction fun q => h3 ⟨by omega, q⟩)
theorem rt_sizes {gs : GL} (h : RtG gs) : ∀ g ∈ gs, g.2 ≠ [] ∧ g.2.length ≤ 2048 := fun g hg => by
  have h1 := (rt_of (h.ck g hg)).len
  have h2 := (rt_of (h.ck g hg)).one
  refine ⟨fun q => ?_, by omega⟩
  rw [q] at h2
  simp [run] at h2
end Go.Proofs.YtbipjdgholdhcabGreat.N

namespace Go.Proofs.YtbipjdgholdhcabGreat.N
open Go.RowKit Go.Maps
open Go.Proofs.YtbipjdgholdhcabGreat.T
set_option maxRecDepth 100000 in
set_option maxHeartbeats 32000000 in
theorem renameD_yes (gs : GL) (A : Option Addr) (c : Nat) (r : Nat) (s : ByteArray) (hs : s.size ≤ 140737488355328) (w : World) (hp : GI w A gs) (h0 : rnE gs (r : Int) s = 0) :
    Calls Tryz.prog 5 #[.agg #[.slice A gs.length c], .int .i64 (r : Int), .string s] w fun e w' => RnA w w' e gs (r : Int) s ∧ Below w.heap.size w w' := by
  obtain ⟨hlk, hnm, hfd⟩ := rnE_zero h0
  obtain ⟨hR, _, hr1⟩ := lkR_zero hlk
  have hr : r < gs.length := by omega
  obtain ⟨g0, hg0⟩ : ∃ g0, gs[r]? = some g0 := ⟨_, List.getElem?_eq_getElem hr⟩
  have HEn := (show Hid (rnG gs (r : Int) s = reG gs r g0.1 s) from by show rnG gs (r : Int) s = _; unfold rnG; rw [if_pos h0, Int.toNat_natCast, hg0]; rfl)
  have HE0 := (show Hid (rnE gs (r : Int) s = 0) from h0)
  have HA := (show Hid (RnS w ((w.alloc (.cells #[.slice A gs.length c] 24)).alloc (.cells #[.slice none 0 0] 24)) (.slice A gs.length c)) from RnS.mk2 _ _)
  have HLk := (show Hid (∀ W, Below w.heap.size w W → Calls Tryz.prog 17 #[.agg #[.slice A gs.length c], .int .i64 (r : Int)] W fun e w' => e = .returned (.int .i64 0) ∧ Below W.heap.size W w') from fun W hW => by rw [← hlk]; exact lookD_any gs A c (r : Int) W (hp.later hW))
  have HNm := (show Hid (∀ W, Calls Tryz.prog 18 #[.string s] W fun e w' => e = .returned (.bool true) ∧ w' = W) from fun W => by rw [← hnm]; exact nameR_any s hs W)
  have HFd := (show Hid (∀ W, Below w.heap.size w W → Calls Tryz.prog 19 #[.agg #[.slice A gs.length c], .string s] W fun e w' => e = .returned (.int .i64 (fdN gs s)) ∧ Below W.heap.size W w') from fun W hW => find_any gs A c s W (hp.later hW))
  have HCp := (show Hid (∀ W, Below w.heap.size w W → Calls Tryz.prog 20 #[.agg #[.slice A gs.length c]] W fun e w' => (∃ v ov, e = .returned (.agg #[v]) ∧ ov.map (·.1) = gs ∧ OG w' W.heap.size v ov) ∧ Below W.heap.size W w') from fun W hW => copyG_any gs A c W (hp.later hW).d hR.n2 (rt_sizes hR))
  obtain ⟨b, o, A2, c2, rfl, lb, e0, _, _⟩ := hp.d r g0 hg0
  have HB0 := (show Hid (∀ W, Below w.heap.size w W → W.cell? ⟨b, o + r * 2, none⟩ = some (.string g0.1)) from fun W hW => (hW.cell (p := ⟨b, o + r * 2, none⟩) lb).trans e0)
  have HG := (show Hid (∀ k, k < gs.length → ∃ g, gs[k]? = some g ∧ 0 < g.2.length ∧ g.2.length ≤ 2048) from fun k hk => ⟨_, List.getElem?_eq_getElem hk, List.length_pos_iff.2 (rt_sizes hR _ (List.getElem_mem hk)).1, (rt_sizes hR _ (List.getElem_mem hk)).2⟩)
  have HG0 := (show Hid (gs[r]? = some g0) from hg0)
  have hn2 := hR.n2
  have z0 : (0 : Int) ≤ (r : Int) := by omega
  have z1 : (r : Int) < (gs.length : Int) := by omega
  have q1 := HA.out.x.cl
  obtain ⟨nm0, hnm0⟩ : ∃ nm0, nm0 = g0.1 := ⟨_, rfl⟩
  rw [← hnm0] at HEn HB0
  clear hp h0 hlk hnm hr1 hR e0 lb hg0 hs hnm0
  generalize fdN gs s = kk at *
  go_enter Tryz.func5, Tryz.ntmps5
  go_wp2_with fail
  generalize (w.alloc (.cells #[.slice (some ⟨b, o, none⟩) gs.length c] 24)).alloc (.cells #[.slice none 0 0] 24) = w1 at *
  go_wp2_with fail
  refine (HLk.out _ HA.out.b).mono ?_
  rintro e w2 ⟨rfl, b2⟩
  have HA2 := (show Hid (RnS w w2 (.slice (some ⟨b, o, none⟩) gs.length c)) from HA.out.later b2)
  clear HA q1 HLk b2
  go_wp2_with fail
  refine (HNm.out _).mono ?_
  rintro e w3 ⟨rfl, rfl⟩
  have q2 := HA2.out.x.cl
  clear HNm
  go_wp2_with fail
  refine (HFd.out _ HA2.out.b).mono ?_
  rintro e w4 ⟨rfl, b4⟩
  have HA4 := (show Hid (RnS w w4 (.slice (some ⟨b, o, none⟩) gs.length c)) from HA2.out.later b4)
  have q4 := HA4.out.x.cl
  have q5 := HB0.out _ HA4.out.b
  clear HA2 b4 HFd q2 HB0
  rcases hfd with rfl | rfl
  all_goals
    go_wp2_with fail
    refine (HCp.out _ HA4.out.b).mono ?_
    rintro e w5 ⟨⟨v, ov0, rfl, hm0, hO0⟩, b5⟩
    have hol : ov0.length = gs.length := by rw [← hm0, List.length_map]
    obtain ⟨g, cap, e5, _⟩ := hO0.o.form (by omega)
    rw [hol] at e5
    subst e5
    obtain ⟨x0, hx0⟩ : ∃ x0, ov0[r]? = some x0 := ⟨_, List.getElem?_eq_getElem (by omega)⟩
    have h9 : x0.1 = g0 := by
      have := HG0.out
      rw [← hm0, List.getElem?_map, hx0] at this
      simpa using this
    have HS := (show Hid (RdS w (w5.alloc (.cells #[.slice (some ⟨g, 0, none⟩) gs.length cap] 24)) (.slice (some ⟨g, 0, none⟩) gs.length cap) w5.heap.size ov0) from by
      have ha := HA4.out.later b5
      have ob : OG w5 w.heap.size (.slice (some ⟨g, 0, none⟩) gs.length cap) ov0 := ⟨T.own_base hO0.o HA4.out.b.size, fun x hx => T.own_base (hO0.e x hx) HA4.out.b.size, hO0.ap⟩
      exact ⟨ob.later (below_box _ _), ha.b.alloc ha.b.size _, ha.y.below (below_box _ _), GX.mk (heap_alloc_new w5 _)⟩)
    have HS1 := (show Hid (RdS w ((w5.alloc (.cells #[.slice (some ⟨g, 0, none⟩) gs.length cap] 24)).setCell ⟨g, r * 2, none⟩ (.string s)) (.slice (some ⟨g, 0, none⟩) gs.length cap) w5.heap.size (ov0.set r ((s, x0.1.2), x0.2))) from HS.out.name hol.symm hx0 s)
    have HM1 := (show Hid ((ov0.set r ((s, x0.1.2), x0.2)).map (·.1) = rkG gs r nm0 s 0 0) from by
      show List.map _ _ = _
      rw [List.map_set, hm0, h9]
      exact rk_start HG0.out)
    obtain ⟨w6, hw6⟩ : ∃ w6, w6 = w5.alloc (.cells #[.slice (some ⟨g, 0, none⟩) gs.length cap] 24) := ⟨_, rfl⟩
    have HE6 := (show Hid (w5.alloc (.cells #[.slice (some ⟨g, 0, none⟩) gs.length cap] 24) = w6) from hw6.symm)
    rw [← hw6] at HS HS1
    have f0 := (HS.out.o.cell hx0).1
    have f1 := (show World.ownsRow _ w.heap.size 52 2 (.slice (some ⟨g, 0, none⟩) gs.length cap) gs.length (rgc ov0) from by have h := HS.out.o.o; rw [hol] at h; exact h).frozenAt (r * 2)
    have f2 := HS.out.z.cl
    clear hm0 hO0 b5 HA4 HCp hol hx0 h9 q4 HG0 hw6
    go_wp2_with (rw [HE6.out])
    clear HE6 q5
    generalize w6.setCell ⟨g, r * 2, none⟩ (.string s) = w7 at *
    generalize w5.heap.size = kb at *
    clear f0 f1 f2 HS
    generalize ov0.set r ((s, x0.1.2), x0.2) = ov1 at *
    go_loopw [12] (fun t wr => ∃ (i : Nat) (ov : List Rg), i ≤ gs.length ∧ t = .int .i64 (i : Int) ∧ Hid (ov.map (·.1) = rkG gs r nm0 s i 0) ∧ Hid (RdS w wr (.slice (some ⟨g, 0, none⟩) gs.length cap) kb ov)) (fun t _ => gs.length - (intOf t).toNat)
    case atStart => exact ⟨0, ov1, Nat.zero_le _, by go_num, HM1, HS1⟩
    case round =>
      obtain ⟨i, ov, hi, rfl, HM, HW⟩ := hrel
      clear HS1 HM1
      have f2 := HW.out.z.cl
      by_cases hlt : i < gs.length
      · obtain ⟨gi, hgi, hgp, hgl⟩ := HG.out i hlt
        have y0 : (0 : Int) ≤ (i : Int) := by omega
        have y1 : (i : Int) < (gs.length : Int) := by omega
        have HGi := (show Hid (gs[i]? = some gi) from hgi)
        have HGp := (show Hid (0 < gi.2.length) from hgp)
        obtain ⟨LL, hLL⟩ : ∃ LL, LL = gi.2.length := ⟨_, rfl⟩
        have HLL := (show Hid (LL = gi.2.length) from hLL)
        have hl3 : LL ≤ 2048 := by omega
        clear hgi hgp hgl hLL
        go_wp2_with fail
        go_loopw [13] (fun t wr => ∃ (k : Nat) (ov : List Rg), k ≤ LL ∧ t = .int .i64 (k : Int) ∧ Hid (ov.map (·.1) = rkG gs r nm0 s i k) ∧ Hid (RdS w wr (.slice (some ⟨g, 0, none⟩) gs.length cap) kb ov)) (fun t _ => LL - (intOf t).toNat)
        case atStart => exact ⟨0, ov, Nat.zero_le _, by go_num, HM, HW⟩
        case round =>
          obtain ⟨k, ov2, hk, rfl, HM2, HW2⟩ := hrel
          clear HM HW f2
          have f2 := HW2.out.z.cl
          obtain ⟨x, hx, hx1⟩ := rk_ov HM2.out HGi.out
          have hxl : x.1.2.length = LL := by rw [hx1, HLL.out]; exact mx_len
          obtain ⟨g2, c2, hx2, f3⟩ := HW2.out.row hx (by rw [hxl, HLL.out]; exact HGp.out)
          rw [hxl] at f3 hx2
          by_cases hkl : k < LL
          · obtain ⟨nd, hnd⟩ : ∃ nd, gi.2[k]? = some nd := ⟨_, List.getElem?_eq_getElem (by rw [← HLL.out]; exact hkl)⟩
            have hxn : x.1.2[k]? = some nd := by rw [hx1]; exact mx_at hnd
            obtain ⟨f4, f5, f6⟩ := HW2.out.nd hx hx2 hxl.symm hxn
            have u0 : (0 : Int) ≤ (k : Int) := by omega
            have u1 : (k : Int) < (LL : Int) := by omega
            have HNx := (show Hid (¬ (nd.op = 6 ∧ nd.tx = nm0) → rkG gs r nm0 s i (k + 1) = rkG gs r nm0 s i k) from fun q => rk_same HGi.out hnd (by unfold reN; rw [if_neg q]))
            have HNy := (show Hid ((nd.op = 6 ∧ nd.tx = nm0) → (ov2.set i ((x.1.1, x.1.2.set k { nd with tx := s }), x.2)).map (·.1) = rkG gs r nm0 s i (k + 1)) from fun q => by
              rw [List.map_set, HM2.out, rk_set HGi.out hnd, hx1]
              unfold reN
              rw [if_pos q])
            have HNz := (show Hid (RdS w (wr.setCell ⟨g2, k * 7 + 2, none⟩ (.string s)) (.slice (some ⟨g, 0, none⟩) gs.length cap) kb (ov2.set i ((x.1.1, x.1.2.set k { nd with tx := s }), x.2))) from HW2.out.text hx hx2 hxl.symm hxn s)
            clear hx hx1 hxl hx2 hxn hnd
            by_cases h6 : nd.op = 6
            · have t6 : (nd.op == 6) = true := by rw [h6]; rfl
              by_cases ht : nd.tx = nm0
              · have te := te_of ht
                have HNq := (show Hid _ from HNy.out ⟨h6, ht⟩)
                clear h6 ht HNx HNy
                go_wp2_with fail
                go_roundw
                case rel => exact ⟨k + 1, _, by omega, by go_num, HNq, HNz⟩
                case measure => simp [intOf]; omega
              · have te := te_no ht
                have HNq := (show Hid (ov2.map (·.1) = rkG gs r nm0 s i (k + 1)) from HM2.out.trans (HNx.out (fun q => ht q.2)).symm)
                clear h6 ht HNx HNy HNz
                go_wp2_with fail
                go_roundw
                case rel => exact ⟨k + 1, _, by omega, by go_num, HNq, HW2⟩
                case measure => simp [intOf]; omega
            · have t6 : (nd.op == 6) = false := by rw [beq_eq_false_iff_ne]; exact h6
              have HNq := (show Hid (ov2.map (·.1) = rkG gs r nm0 s i (k + 1)) from HM2.out.trans (HNx.out (fun q => h6 q.1)).symm)
              clear h6 HNx HNy HNz
              go_wp2_with fail
              go_roundw
              case rel => exact ⟨k + 1, _, by omega, by go_num, HNq, HW2⟩
              case measure => simp [intOf]; omega
          · have HNq := (show Hid (ov2.map (·.1) = rkG gs r nm0 s (i + 1) 0) from by
              have e : k = gi.2.length := by have := HLL.out; omega
              have h := HM2.out
              rw [e, rk_next HGi.out] at h
              exact h)
            clear hx hx1 hxl hx2
            obtain rfl : k = LL := by omega
            go_wp2_with fail
            go_roundw
            case rel => exact ⟨i + 1, _, by omega, by go_num, HNq, HW2⟩
            case measure => simp [intOf]; omega
      · obtain rfl : i = gs.length := by omega
        have HMm := (show Hid (ov.map (·.1) = reG gs r nm0 s) from by rw [← rk_end]; exact HM.out)
        have hyf := HW.out.y.fz
        have hyc := HW.out.y.cl
        clear HG HM
        go_wp2_with fail
        refine ret_gx2 (x := .int .i64 0) rfl rfl rfl rfl (HW.out.y.set _) ?_
        have h5 := HW.out
        have key : ∀ (j : Nat), j ≠ w.heap.size + 1 → (wr.setCell ⟨w.heap.size + 1, 0, none⟩ (.slice (some ⟨g, 0, none⟩) gs.length cap)).heap[j]? = wr.heap[j]? := fun j hj => Below.heap_setCell _ _ _ _ hj
        exact ⟨⟨_, ov, by rw [HE0.out], by rw [HMm.out, HEn.out], h5.o.same fun j hj => key j (h5.o.ne h5.y hj)⟩, h5.b.setCell (p := ⟨w.heap.size + 1, 0, none⟩) (by show w.heap.size ≤ w.heap.size + 1; omega) _⟩
end Go.Proofs.YtbipjdgholdhcabGreat.N
