/- DERIVED. Plain mathematics and walks, laid together (5). -/
import Derived.Test.YtppggnmlbcdegaaRn04
namespace Go.Proofs.Ytppggnmlbcdegaa.N
open Go.RowKit Go.Maps
open Go.Proofs.Ytppggnmlbcdegaa.T
/-- A grammar that can be read, of a size that can be. -/
structure GI (W : World) (A : Option Addr) (gs : GL) : Prop where
  d : GrD W A gs
  l : gs.length ≤ 140737488355328
  t : ∀ g ∈ gs, g.1.size ≤ 140737488355328 ∧ g.2.length ≤ 140737488355328 ∧ ∀ n ∈ g.2, n.tx.size ≤ 140737488355328
theorem GI.later {W W' : World} {A : Option Addr} {gs : GL} (h : GI W A gs) (hb : Below W.heap.size W W') : GI W' A gs := ⟨h.d.later hb, h.l, h.t⟩
theorem GrIn.gi {W : World} {A : Option Addr} {c : Nat} {gs : GL} (h : GrIn W A c gs) : GI W A gs := ⟨h.d, by have := h.len; omega, h.tx⟩
theorem unG_zero {gs : GL} : ∀ (l : GL) (i : Nat), (unG gs i l).2 = 0 → unG gs i l = ((0, 0), 0) := by
  intro l
  induction l with
  | nil => intro i _; rfl
  | cons g l ih =>
    intro i h
    rw [unG_cons] at h ⊢
    cases q : unN gs 0 g.2 with
    | some k => rw [q] at h; exact absurd h (show (81 : Int) ≠ 0 by decide)
    | none => rw [q] at h; exact ih _ h
theorem ckG_zero {gs : GL} (h : (ckG gs).2 = 0) : ckG gs = ((0, 0), 0) := by
  unfold ckG at h ⊢
  by_cases h0 : gs.length = 0
  · rw [if_pos h0] at h; exact absurd h (by decide)
  · rw [if_neg h0] at h ⊢
    by_cases h2 : 200 < gs.length
    · rw [if_pos h2] at h; exact absurd h (by decide)
    · rw [if_neg h2] at h ⊢
      by_cases h3 : (c1G gs 0 0 gs).2 ≠ 0
      · rw [if_pos h3] at h; exact absurd h h3
      · rw [if_neg h3] at h ⊢; exact unG_zero _ _ h
theorem NuV.form {w w' : World} {gs : GL} {e : Ending} (h : NuV w w' gs e) : ∃ mv, e = .returned (.tuple #[mv, .agg #[.int .i64 (ckG gs).1.1, .int .i64 (ckG gs).1.2], .int .i64 (ckG gs).2]) ∧ ((ckG gs).2 = 0 → ∃ B, w.heap.size ≤ B ∧ mv = .map (some B) ∧ NmM w' B gs) := by
  rcases h with ⟨h1, h2⟩ | ⟨h1, B, h2, h3, h4⟩
  · exact ⟨_, h2, fun q => absurd q h1⟩
  · refine ⟨.map (some B), ?_, fun _ => ⟨B, h2, rfl, h4⟩⟩
    rw [ckG_zero h1]; exact h3
set_option maxRecDepth 100000 in
set_option maxHeartbeats 4000000 in
theorem checkP_any (gs : GL) (A : Option Addr) (c : Nat) (w : World) (hp : GI w A gs) :
    Calls Try.prog 10 #[.agg #[.slice A gs.length c]] w fun e w' => e = .returned (.tuple #[.agg #[.int .i64 (ckG gs).1.1, .int .i64 (ckG gs).1.2], .int .i64 (ckG gs).2]) ∧ Below w.heap.size w w' := by
  obtain ⟨w1, hw1⟩ : ∃ w1, w1 = (w.alloc (.cells #[.slice A gs.length c] 24)).alloc (.cells #[.int .i64 0, .int .i64 0] 27) := ⟨_, rfl⟩
  have HS : Hid (Below w.heap.size w w1 ∧ GX w1 w.heap.size (.slice A gs.length c) ∧ SX w1 (w.heap.size + 1) 0 0) := by
    show _ ∧ _ ∧ _
    rw [hw1]
    exact ⟨((Below.refl _ _).alloc (Nat.le_refl _) _).alloc (by rw [World.size_alloc]; omega) _, (GX.mk (heap_alloc_new w _)).below (below_box _ _), ⟨by have h := heap_alloc_new (w.alloc (.cells #[.slice A gs.length c] 24)) (.cells #[.int .i64 0, .int .i64 0] 27); rw [World.size_alloc] at h; exact h⟩⟩
  have HN := (show Hid (∀ _ : Unit, Calls Try.prog 34 #[.agg #[.slice A gs.length c]] w1 fun e w' => NuV w1 w' gs e ∧ Below w1.heap.size w1 w') from fun _ => numb_any gs A c hp.l hp.t w1 (hp.d.later (by rw [hw1]; exact ((Below.refl _ _).alloc (Nat.le_refl _) _).alloc (by rw [World.size_alloc]; omega) _)))
  have q1 := HS.out.2.1.cl
  clear hp
  go_enter Try.func10, Try.ntmps10
  go_wp2_with fail
  rw [← hw1]
  refine (HN.out ()).mono ?_
  rintro e w3 ⟨hv, b3⟩
  obtain ⟨mv, rfl, _⟩ := hv.form
  have HB := (show Hid (Below w.heap.size w w3) from HS.out.1.trans (b3.mono HS.out.1.size))
  have HX := (show Hid (SX w3 (w.heap.size + 1) 0 0) from HS.out.2.2.below b3)
  clear HN HS b3 q1 hw1 hv
  obtain ⟨ca, cb, cd, hcc⟩ : ∃ (ca cb : Nat) (cd : Int), ckG gs = ((ca, cb), cd) := ⟨_, _, _, rfl⟩
  have HCC := (show Hid (ckG gs = ((ca, cb), cd)) from hcc)
  rw [hcc]
  clear hcc
  have c0 := HX.out.c0
  have c1 := HX.out.c1
  have f0 := HX.out.fz 0
  have f1 := HX.out.fz 1
  have HX2 := (show Hid (SX ((w3.setCell ⟨w.heap.size + 1, 0, none⟩ (.int .i64 (ca : Int))).setCell ⟨w.heap.size + 1, 1, none⟩ (.int .i64 (cb : Int))) (w.heap.size + 1) ca cb) from HX.out.set _ _)
  have HX3 := (show Hid (SX ((((w3.setCell ⟨w.heap.size + 1, 0, none⟩ (.int .i64 (ca : Int))).setCell ⟨w.heap.size + 1, 1, none⟩ (.int .i64 (cb : Int))).setCell ⟨w.heap.size + 1, 0, none⟩ (.int .i64 (ca : Int))).setCell ⟨w.heap.size + 1, 1, none⟩ (.int .i64 (cb : Int))) (w.heap.size + 1) ca cb) from HX2.out.set _ _)
  have HB3 := (show Hid (Below w.heap.size w ((((w3.setCell ⟨w.heap.size + 1, 0, none⟩ (.int .i64 (ca : Int))).setCell ⟨w.heap.size + 1, 1, none⟩ (.int .i64 (cb : Int))).setCell ⟨w.heap.size + 1, 0, none⟩ (.int .i64 (ca : Int))).setCell ⟨w.heap.size + 1, 1, none⟩ (.int .i64 (cb : Int)))) from set_below (set_below (set_below (set_below HB.out (Nat.le_succ _)) (Nat.le_succ _)) (Nat.le_succ _)) (Nat.le_succ _))
  have HBz := (show Hid (Below w.heap.size w ((w3.setCell ⟨w.heap.size + 1, 0, none⟩ (.int .i64 (ca : Int))).setCell ⟨w.heap.size + 1, 1, none⟩ (.int .i64 (cb : Int)))) from set_below (set_below HB.out (Nat.le_succ _)) (Nat.le_succ _))
  clear HX HB
  go_wp2_with fail
  have d0 := HX3.out.c0
  have d1 := HX3.out.c1
  clear c0 c1 f0 f1 HX2 HBz
  generalize (((w3.setCell ⟨w.heap.size + 1, 0, none⟩ (.int .i64 (ca : Int))).setCell ⟨w.heap.size + 1, 1, none⟩ (.int .i64 (cb : Int))).setCell ⟨w.heap.size + 1, 0, none⟩ (.int .i64 (ca : Int))).setCell ⟨w.heap.size + 1, 1, none⟩ (.int .i64 (cb : Int)) = wZ at *
  refine bodyPost_ret (v := .tuple #[.agg #[.int .i64 (ca : Int), .int .i64 (cb : Int)], .int .i64 cd]) (by simp [results, Try.results10, go_sem, d0, d1]) rfl ⟨by rw [HCC.out], HB3.out⟩
/-- What is refused ahead of a rule's number. -/
def lkR (gs : GL) (r : Int) : Int := if (ckG gs).2 ≠ 0 then (ckG gs).2 else if r < 0 ∨ (gs.length : Int) ≤ r then 1 else 0
set_option maxRecDepth 100000 in
set_option maxHeartbeats 4000000 in
theorem numbW_any (gs : GL) (A : Option Addr) (c : Nat) (r : Int) (w : World) (hp : GI w A gs) :
    Calls Try.prog 51 #[.agg #[.slice A gs.length c], .int .i64 r] w fun e w' => (∃ mv, e = .returned (.tuple #[mv, .int .i64 (lkR gs r)]) ∧ (lkR gs r = 0 → ∃ B, w.heap.size ≤ B ∧ mv = .map (some B) ∧ NmM w' B gs)) ∧ Below w.heap.size w w' := by
  obtain ⟨w1, hw1⟩ : ∃ w1, w1 = (w.alloc (.cells #[.slice A gs.length c] 24)) := ⟨_, rfl⟩
  have HB1 : Hid (Below w.heap.size w w1) := by show Below _ _ _; rw [hw1]; exact below_box _ _
  have HG1 : Hid (GX w1 w.heap.size (.slice A gs.length c)) := by show GX _ _ _; rw [hw1]; exact GX.mk (heap_alloc_new w _)
  have HN := (show Hid (∀ _ : Unit, Calls Try.prog 34 #[.agg #[.slice A gs.length c]] w1 fun e w' => NuV w1 w' gs e ∧ Below w1.heap.size w1 w') from fun _ => numb_any gs A c hp.l hp.t w1 (hp.d.later HB1.out))
  clear hp
  go_enter Try.func51, Try.ntmps51
  go_wp2_with fail
  rw [← hw1]
  refine (HN.out ()).mono ?_
  rintro e w3 ⟨hv, b3⟩
  obtain ⟨mv, rfl, hm⟩ := hv.form
  obtain ⟨w4, hw4⟩ : ∃ w4, w4 = w3.alloc (.cells #[.int .i64 ((ckG gs).1.1 : Int), .int .i64 ((ckG gs).1.2 : Int)] 27) := ⟨_, rfl⟩
  have HB := (show Hid (Below w.heap.size w w4) from by show Below _ _ _; rw [hw4]; exact (HB1.out.trans (b3.mono HB1.out.size)).alloc (HB1.out.trans (b3.mono HB1.out.size)).size _)
  have HG := (show Hid (GX w4 w.heap.size (.slice A gs.length c)) from by show GX _ _ _; rw [hw4]; exact (HG1.out.below b3).below (below_box _ _))
  have HB1s := (show Hid (w.heap.size ≤ w1.heap.size) from HB1.out.size)
  have q1 := HG.out.cl
  clear HN b3 hw1 hv HB1 HG HG1
  by_cases hz : (ckG gs).2 = 0
  · obtain ⟨B, hB, rfl, hM⟩ := hm hz
    have tz : ((ckG gs).2 != 0) = false := by rw [hz]; rfl
    have HM4 := (show Hid (NmM w4 B gs) from by show NmM _ _ _; rw [hw4]; exact hM.later (below_box _ _))
    have HBb := (show Hid (w.heap.size ≤ B) from Nat.le_trans HB1s.out hB)
    have HE0 := (show Hid (lkR gs r = if r < 0 ∨ (gs.length : Int) ≤ r then 1 else 0) from by show lkR gs r = _; unfold lkR; rw [if_neg (fun q => q hz)])
    clear hM hm hz hB
    subst hw4
    generalize (ckG gs).2 = cd at *
    by_cases h1 : r < 0
    · have HE := (show Hid (lkR gs r = 1) from by show lkR gs r = _; rw [HE0.out, if_pos (.inl h1)])
      clear HE0
      go_wp2_with fail
      refine bodyPost_ret (v := .tuple #[.map none, .int .i64 1]) (by simp [results, Try.results51, go_sem]) rfl ⟨⟨_, by rw [HE.out], fun q => by rw [HE.out] at q; cases q⟩, HB.out⟩
    · by_cases h2 : (gs.length : Int) ≤ r
      · have HE := (show Hid (lkR gs r = 1) from by show lkR gs r = _; rw [HE0.out, if_pos (.inr h2)])
        clear HE0
        go_wp2_with fail
        refine bodyPost_ret (v := .tuple #[.map none, .int .i64 1]) (by simp [results, Try.results51, go_sem]) rfl ⟨⟨_, by rw [HE.out], fun q => by rw [HE.out] at q; cases q⟩, HB.out⟩
      · have HE := (show Hid (lkR gs r = 0) from by show lkR gs r = _; rw [HE0.out, if_neg (by rintro (q | q); exact h1 q; exact h2 q)])
        clear HE0
        go_wp2_with fail
        refine bodyPost_ret (v := .tuple #[.map (some B), .int .i64 0]) (by simp [results, Try.results51, go_sem]) rfl ⟨⟨_, by rw [HE.out], fun _ => ⟨B, HBb.out, rfl, HM4.out⟩⟩, HB.out⟩
  · have tz : ((ckG gs).2 != 0) = true := by rw [bne, beq_eq_false_iff_ne.2 hz]; rfl
    have HE := (show Hid (lkR gs r = (ckG gs).2) from by show lkR gs r = _; unfold lkR; rw [if_pos hz])
    have HZ := (show Hid ((ckG gs).2 ≠ 0) from hz)
    clear hm hz
    subst hw4
    generalize (ckG gs).2 = cd at *
    go_wp2_with fail
    refine bodyPost_ret (v := .tuple #[.map none, .int .i64 cd]) (by simp [results, Try.results51, go_sem]) rfl ⟨⟨_, by rw [HE.out], fun q => by rw [HE.out] at q; exact absurd q HZ.out⟩, HB.out⟩
end Go.Proofs.Ytppggnmlbcdegaa.N

namespace Go.Proofs.Ytppggnmlbcdegaa.N
open Go.RowKit Go.Maps
open Go.Proofs.Ytppggnmlbcdegaa.T
def fdN (gs : GL) (s : ByteArray) : Int := match fdG gs s with
  | some i => (i : Int)
  | none => -1
theorem fdN_some {gs : GL} {s : ByteArray} {i : Nat} (h : fdG gs s = some i) : fdN gs s = (i : Int) := by unfold fdN; rw [h]
theorem fdN_none {gs : GL} {s : ByteArray} (h : fdG gs s = none) : fdN gs s = -1 := by unfold fdN; rw [h]
set_option maxRecDepth 100000 in
set_option maxHeartbeats 4000000 in
theorem find_any (gs : GL) (A : Option Addr) (c : Nat) (s : ByteArray) (w : World) (hp : GI w A gs) :
    Calls Try.prog 35 #[.agg #[.slice A gs.length c], .string s] w fun e w' => e = .returned (.int .i64 (fdN gs s)) ∧ Below w.heap.size w w' := by
  have HP := (show Hid (GrD w A gs) from hp.d)
  have hl := hp.l
  have HB1 := (show Hid (Below w.heap.size w (w.alloc (.cells #[.slice A gs.length c] 24))) from below_box _ _)
  have HG1 := (show Hid (GX (w.alloc (.cells #[.slice A gs.length c] 24)) w.heap.size (.slice A gs.length c)) from GX.mk (heap_alloc_new w _))
  clear hp
  go_enter Try.func35, Try.ntmps35
  go_wp2_with fail
  generalize w.alloc (.cells #[.slice A gs.length c] 24) = w1 at *
  have q1 := HG1.out.cl
  clear HG1
  go_loopw [5] (fun t wr => ∃ k : Nat, k ≤ gs.length ∧ t = .int .i64 k ∧ wr = w1 ∧ Hid (∀ j g, j < k → gs[j]? = some g → g.1 ≠ s)) (fun t _ => gs.length - (intOf t).toNat)
  case atStart => exact ⟨0, by omega, by go_num, rfl, fun j g h => by omega⟩
  case round =>
    obtain ⟨k, hk, rfl, rfl, HX⟩ := hrel
    by_cases hlt : k < gs.length
    · obtain ⟨g, hg⟩ : ∃ g, gs[k]? = some g := ⟨_, List.getElem?_eq_getElem hlt⟩
      obtain ⟨b, o, A2, c2, rfl, lb, x0, x1, r2⟩ := HP.out k g hg
      have x0' := (HB1.out.cell (p := ⟨b, o + k * 2, none⟩) lb).trans x0
      have z0 : (0 : Int) ≤ (k : Int) := by omega
      have z1 : (k : Int) < (gs.length : Int) := by omega
      clear x0 x1 r2 HP
      by_cases e : g.1 = s
      · have te : (g.1.toList == s.toList) = true := by rw [e]; simp
        have HE := (show Hid (fdN gs s = (k : Int)) from fdN_some (fdG_of hg e (fun j h hj hj2 => HX.out j h hj hj2)))
        clear HX hg e
        go_wp2_with fail
        go_ret
        exact ⟨by rw [HE.out]; rfl, HB1.out⟩
      · have te : (g.1.toList == s.toList) = false := by
          cases q : g.1.toList == s.toList
          · rfl
          · exact absurd (tx_ext (by simpa using q)) e
        have HX2 := (show Hid (∀ j g, j < k + 1 → gs[j]? = some g → g.1 ≠ s) from fun j h hj hj2 => by
          by_cases q : j = k
          · subst q; rw [hg] at hj2; cases hj2; exact e
          · exact HX.out j h (by omega) hj2)
        clear HX hg e
        go_wp2_with fail
        go_roundw
        case rel => exact ⟨k + 1, by omega, by go_num, by first | rfl | trivial, HX2⟩
        case measure => simp [intOf]; omega
    · obtain rfl : k = gs.length := by omega
      have HE := (show Hid (fdN gs s = -1) from fdN_none (fdG_none.2 fun g hg => by
        obtain ⟨j, hj, rfl⟩ := List.mem_iff_getElem.1 hg
        exact HX.out j _ hj (List.getElem?_eq_getElem hj)))
      clear HX HP
      go_wp2_with fail
      go_ret
      exact ⟨by rw [HE.out]; rfl, HB1.out⟩
end Go.Proofs.Ytppggnmlbcdegaa.N

namespace Go.Proofs.Ytppggnmlbcdegaa.N
open Go.RowKit Go.Maps
open Go.Proofs.Ytppggnmlbcdegaa.T
theorem tw_fd {gs : GL} {k : Nat} {g : ByteArray × List Nd} (hg : gs[k]? = some g) : tw gs g.1 k = true ↔ fdN gs g.1 < (k : Int) := by
  unfold tw fdN
  cases h : fdG gs g.1 with
  | some i => simp
  | none => exact absurd rfl (fdG_none.1 h g (List.mem_of_getElem? hg))
/-- The boxes of a grammar and of a spot. -/
structure DcS (w wr : World) (u : Value) : Prop where
  b : Below w.heap.size w wr
  x : GX wr w.heap.size u
  s : SX wr (w.heap.size + 1) 0 0
theorem DcS.later {w wr W' : World} {u : Value} (h : DcS w wr u) (hb : Below wr.heap.size wr W') : DcS w W' u := ⟨h.b.trans (hb.mono h.b.size), h.x.below hb, h.s.below hb⟩
set_option maxRecDepth 100000 in
set_option maxHeartbeats 32000000 in
theorem checkD_any (gs : GL) (A : Option Addr) (c : Nat) (w : World) (hp : GI w A gs) :
    Calls Try.prog 11 #[.agg #[.slice A gs.length c]] w fun e w' => e = .returned (.tuple #[.agg #[.int .i64 (ckG gs).1.1, .int .i64 (ckG gs).1.2], .int .i64 (ckG gs).2]) ∧ Below w.heap.size w w' := by
  obtain ⟨w1, hw1⟩ : ∃ w1, w1 = (w.alloc (.cells #[.slice A gs.length c] 24)).alloc (.cells #[.int .i64 0, .int .i64 0] 27) := ⟨_, rfl⟩
  have HS : Hid (DcS w w1 (.slice A gs.length c)) := by
    show DcS _ _ _
    rw [hw1]
    exact ⟨((Below.refl _ _).alloc (Nat.le_refl _) _).alloc (by rw [World.size_alloc]; omega) _, (GX.mk (heap_alloc_new w _)).below (below_box _ _), ⟨by have h := heap_alloc_new (w.alloc (.cells #[.slice A gs.length c] 24)) (.cells #[.int .i64 0, .int .i64 0] 27); rw [World.size_alloc] at h; exact h⟩⟩
  have q1 := HS.out.x.cl
  have hl := hp.l
  by_cases h0 : gs.length = 0
  · have HF := (show Hid (ckG gs = ((0, 0), 3)) from by show ckG gs = _; unfold ckG; rw [if_pos h0])
    have t0 : ((gs.length : Int) == 0) = true := beq_iff_eq.2 (by omega)
    have HBz := (show Hid (Below w.heap.size w w1) from HS.out.b)
    have c0 := HS.out.s.c0
    have c1 := HS.out.s.c1
    have f0 := HS.out.s.fz 0
    have f1 := HS.out.s.fz 1
    clear h0 hp HS
    go_enter Try.func11, Try.ntmps11
    go_wp2_with fail
    rw [← hw1]
    go_wp2_with fail
    refine bodyPost_ret (v := .tuple #[.agg #[.int .i64 0, .int .i64 0], .int .i64 3]) (by simp [results, Try.results11, go_sem, c0, c1]) rfl ⟨by rw [HF.out]; try rfl, HBz.out⟩
  have t0 : ((gs.length : Int) == 0) = false := beq_eq_false_iff_ne.2 (by omega)
  by_cases h2 : 200 < gs.length
  · have HF := (show Hid (ckG gs = ((0, 0), 2)) from by show ckG gs = _; unfold ckG; rw [if_neg h0, if_pos h2])
    have t2 : (200 : Int) < (gs.length : Int) := by omega
    have HBz := (show Hid (Below w.heap.size w w1) from HS.out.b)
    have c0 := HS.out.s.c0
    have c1 := HS.out.s.c1
    have f0 := HS.out.s.fz 0
    have f1 := HS.out.s.fz 1
    clear h0 hp h2 HS
    go_enter Try.func11, Try.ntmps11
    go_wp2_with fail
    rw [← hw1]
    go_wp2_with fail
    refine bodyPost_ret (v := .tuple #[.agg #[.int .i64 0, .int .i64 0], .int .i64 2]) (by simp [results, Try.results11, go_sem, c0, c1]) rfl ⟨by rw [HF.out]; try rfl, HBz.out⟩
  have t2 : ¬ (200 : Int) < (gs.length : Int) := by omega
  have hl200 : gs.length ≤ 200 := by omega
  have HE := (show Hid (∀ r, c1G gs 0 0 gs = r → r.2 ≠ 0 → ckG gs = r) from ckG_err h0 h2)
  have HEu := (show Hid (c1G gs 0 0 gs = ((0, 0), 0) → ckG gs = unG gs 0 gs) from ckG_un h0 h2)
  have HP := (show Hid (GI w A gs) from hp)
  have HG := (show Hid (∀ k, k < gs.length → ∃ g, gs[k]? = some g ∧ g.1.size ≤ 140737488355328 ∧ g.2.length ≤ 140737488355328 ∧ (∀ n ∈ g.2, n.tx.size ≤ 140737488355328) ∧ gs.drop k = g :: gs.drop (k + 1)) from fun k hk => ⟨_, List.getElem?_eq_getElem hk, (hp.t _ (List.getElem_mem hk)).1, (hp.t _ (List.getElem_mem hk)).2.1, (hp.t _ (List.getElem_mem hk)).2.2, List.drop_eq_getElem_cons hk⟩)
  clear h0 hp h2
  go_enter Try.func11, Try.ntmps11
  go_wp2_with fail
  rw [← hw1]
  clear hw1
  go_wp2_with fail
  clear q1
  go_loopw [4, 5] (fun v t wr => ∃ k m : Nat, k ≤ gs.length ∧ t = .int .i64 k ∧ v = .int .i64 m ∧ m ≤ 2048 ∧ Hid (c1G gs 0 0 gs = c1G gs k m (gs.drop k)) ∧ Hid (DcS w wr (.slice A gs.length c))) (fun _ t _ => gs.length - (intOf t).toNat)
  case atStart => exact ⟨0, 0, by omega, by go_num, by go_num, by omega, rfl, HS⟩
  case round =>
    obtain ⟨k, m, hk, rfl, rfl, hm, HX0, HW⟩ := hrel
    clear HS
    have q1 := HW.out.x.cl
    by_cases hlt : k < gs.length
    · obtain ⟨g, hg, s1, s2, s3, hd⟩ := HG.out k hlt
      obtain ⟨b, o, A2, c2, rfl, lb, x0, x1, r2⟩ := HP.out.d k g hg
      have x0' := (HW.out.b.cell (p := ⟨b, o + k * 2, none⟩) lb).trans x0
      have x1' := (HW.out.b.cell (p := ⟨b, o + k * 2 + 1, none⟩) lb).trans x1
      clear x0 x1
      have z0 : (0 : Int) ≤ (k : Int) := by omega
      have z1 : (k : Int) < (gs.length : Int) := by omega
      have HR0 := (show Hid (RB (wr.alloc (.cells #[.string g.1, .slice A2 g.2.length c2] 57)) wr.heap.size g.1 (.slice A2 g.2.length c2)) from ⟨heap_alloc_new wr _⟩)
      have HS0 := (show Hid (DcS w (wr.alloc (.cells #[.string g.1, .slice A2 g.2.length c2] 57)) (.slice (some ⟨b, o, none⟩) gs.length c)) from HW.out.later (below_box _ _))
      have HNm : Hid (∀ W, Calls Try.prog 14 #[.string g.1] W fun e W' => e = .returned (.bool (nmB g.1)) ∧ W' = W) := fun W => nameR_any g.1 s1 W
      have HFi : Hid (∀ W, Below w.heap.size w W → Calls Try.prog 35 #[.agg #[.slice (some ⟨b, o, none⟩) gs.length c], .string g.1] W fun e w' => e = .returned (.int .i64 (fdN gs g.1)) ∧ Below W.heap.size W w') := fun W hW => find_any gs (some ⟨b, o, none⟩) c g.1 W (HP.out.later hW)
      have HCk : Hid (∀ W, Below w.heap.size w W → Calls Try.prog 36 #[.slice A2 g.2.length c2] W fun e w' => e = .returned (.tuple #[.int .i64 (ck g.2).1, .int .i64 (ck g.2).2]) ∧ Below W.heap.size W w') := fun W hW => checkR_any g.2 A2 c2 s2 s3 W (r2.below hW (Nat.le_refl _))
      have hgk := hg
      have HX1 := (show Hid (c1G gs 0 0 gs = if ¬ (nmB g.1 = true ∨ (g.1.size = 0 ∧ gs.length = 1)) then ((k, 0), 6) else if tw gs g.1 k = true then ((k, 0), 80) else if (ck g.2).2 ≠ 0 then ((k, (ck g.2).1), (ck g.2).2) else if 2048 < m + g.2.length then ((k, 0), 2) else c1G gs (k + 1) (m + g.2.length) (gs.drop (k + 1))) from by show c1G gs 0 0 gs = _; rw [HX0.out, hd, c1G])
      clear hg r2 s2 s3 HW HX0 hd s1
      have q3 := HS0.out.x.cl
      have q4 := HR0.out.c0
      cases hnb : nmB g.1
      · rw [hnb] at HNm
        by_cases hs0 : g.1.size = 0
        · have te : (g.1.toList == []) = true := by
            have e := emp_t hs0
            rw [List.isEmpty_iff] at e
            rw [e]; rfl
          have te2 := emp_t hs0
          by_cases hl1 : gs.length = 1
          · have tl : ((gs.length : Int) == 1) = true := beq_iff_eq.2 (by omega)
            have HX := (show Hid (c1G gs 0 0 gs = if tw gs g.1 k = true then ((k, 0), 80) else if (ck g.2).2 ≠ 0 then ((k, (ck g.2).1), (ck g.2).2) else if 2048 < m + g.2.length then ((k, 0), 2) else c1G gs (k + 1) (m + g.2.length) (gs.drop (k + 1))) from by show c1G gs 0 0 gs = _; rw [HX1.out, if_neg (fun q => q (.inr ⟨hs0, hl1⟩))])
            clear HX1 hl1 hs0 hnb HEu
            go_wp2_with fail
            refine (HNm.out _).mono ?_
            rintro e wX ⟨rfl, rfl⟩
            have HS := HS0
            have HR := HR0
            clear HNm HR0 HS0
            go_wp2_with fail
            refine (HFi.out _ HS.out.b).mono ?_
            rintro e w4 ⟨rfl, b4⟩
            have HS4 := (show Hid (DcS w w4 (.slice (some ⟨b, o, none⟩) gs.length c)) from HS.out.later b4)
            have HR4 := (show Hid (RB w4 wr.heap.size g.1 (.slice A2 g.2.length c2)) from HR.out.later b4)
            have y1 := HR4.out.c1
            clear HFi b4 HS HR
            have HS := HS4
            clear HS4
            by_cases htw : tw gs g.1 k = true
            · have HF := (show Hid (ckG gs = ((k, 0), 80)) from HE.out _ (by rw [HX.out, if_pos htw]) (by show (80 : Int) ≠ 0; decide))
              have tt : fdN gs g.1 < (k : Int) := (tw_fd hgk).1 htw
              clear HX HE HCk HR4 HG HP htw hgk y1
              have HZ := (show Hid (SX ((w4.setCell ⟨w.heap.size + 1, 0, none⟩ (.int .i64 (k : Int))).setCell ⟨w.heap.size + 1, 1, none⟩ (.int .i64 0)) (w.heap.size + 1) (k : Int) 0) from HS.out.s.set _ _)
              have HBz := (show Hid (Below w.heap.size w ((w4.setCell ⟨w.heap.size + 1, 0, none⟩ (.int .i64 (k : Int))).setCell ⟨w.heap.size + 1, 1, none⟩ (.int .i64 0))) from set_below (set_below HS.out.b (Nat.le_succ _)) (Nat.le_succ _))
              have c0 := HS.out.s.c0
              have c1 := HS.out.s.c1
              have f0 := HS.out.s.fz 0
              have f1 := HS.out.s.fz 1
              clear HS
              go_wp2_with fail
              have d0 := HZ.out.c0
              have d1 := HZ.out.c1
              clear c0 c1 f0 f1
              generalize (w4.setCell ⟨w.heap.size + 1, 0, none⟩ (.int .i64 (k : Int))).setCell ⟨w.heap.size + 1, 1, none⟩ (.int .i64 0) = wZ at *
              refine bodyPost_ret (v := .tuple #[.agg #[.int .i64 (k : Int), .int .i64 0], .int .i64 80]) (by simp [results, Try.results11, go_sem, d0, d1]) rfl ⟨by rw [HF.out]; try rfl, HBz.out⟩
            · have tt : ¬ fdN gs g.1 < (k : Int) := fun q => htw ((tw_fd hgk).2 q)
              have HX2 := (show Hid (c1G gs 0 0 gs = if (ck g.2).2 ≠ 0 then ((k, (ck g.2).1), (ck g.2).2) else if 2048 < m + g.2.length then ((k, 0), 2) else c1G gs (k + 1) (m + g.2.length) (gs.drop (k + 1))) from by show c1G gs 0 0 gs = _; rw [HX.out, if_neg htw])
              clear HX htw hgk
              go_wp2_with fail
              refine (HCk.out _ HS.out.b).mono ?_
              rintro e w5 ⟨rfl, b5⟩
              have HS5 := (show Hid (DcS w w5 (.slice (some ⟨b, o, none⟩) gs.length c)) from HS.out.later b5)
              have y1' := (HR4.out.later b5).c1
              clear HCk b5 HS HR4 y1 tt
              have HS := HS5
              clear HS5
              by_cases hc : (ck g.2).2 = 0
              · have tc : ((ck g.2).2 != 0) = false := by rw [hc]; rfl
                have hg3 : g.2.length ≤ 2048 := by
                  by_cases q : g.2.length ≤ 2048
                  · exact q
                  · have := ck_long (L := g.2) (by omega)
                    rw [this] at hc
                    exact absurd hc (by decide)
                have HV := (show Hid (c1G gs 0 0 gs = if 2048 < m + g.2.length then ((k, 0), 2) else c1G gs (k + 1) (m + g.2.length) (gs.drop (k + 1))) from by show c1G gs 0 0 gs = _; rw [HX2.out, if_neg (by rw [hc]; simp)])
                generalize hcc : (ck g.2).2 = cc2 at *
                clear hcc HX2
                by_cases hn : 2048 < m + g.2.length
                · have HF := (show Hid (ckG gs = ((k, 0), 2)) from HE.out _ (by rw [HV.out, if_pos hn]) (by show (2 : Int) ≠ 0; decide))
                  have tn : (2048 : Int) < (m : Int) + (g.2.length : Int) := by omega
                  clear HV HE HG HP hn
                  have HZ := (show Hid (SX ((w5.setCell ⟨w.heap.size + 1, 0, none⟩ (.int .i64 (k : Int))).setCell ⟨w.heap.size + 1, 1, none⟩ (.int .i64 0)) (w.heap.size + 1) (k : Int) 0) from HS.out.s.set _ _)
                  have HBz := (show Hid (Below w.heap.size w ((w5.setCell ⟨w.heap.size + 1, 0, none⟩ (.int .i64 (k : Int))).setCell ⟨w.heap.size + 1, 1, none⟩ (.int .i64 0))) from set_below (set_below HS.out.b (Nat.le_succ _)) (Nat.le_succ _))
                  have c0 := HS.out.s.c0
                  have c1 := HS.out.s.c1
                  have f0 := HS.out.s.fz 0
                  have f1 := HS.out.s.fz 1
                  clear HS
                  go_wp2_with fail
                  have d0 := HZ.out.c0
                  have d1 := HZ.out.c1
                  clear c0 c1 f0 f1
                  generalize (w5.setCell ⟨w.heap.size + 1, 0, none⟩ (.int .i64 (k : Int))).setCell ⟨w.heap.size + 1, 1, none⟩ (.int .i64 0) = wZ at *
                  refine bodyPost_ret (v := .tuple #[.agg #[.int .i64 (k : Int), .int .i64 0], .int .i64 2]) (by simp [results, Try.results11, go_sem, d0, d1]) rfl ⟨by rw [HF.out]; try rfl, HBz.out⟩
                · have HX3 := (show Hid (c1G gs 0 0 gs = c1G gs (k + 1) (m + g.2.length) (gs.drop (k + 1))) from by show c1G gs 0 0 gs = _; rw [HV.out, if_neg hn])
                  have tn : ¬ (2048 : Int) < (m : Int) + (g.2.length : Int) := by omega
                  clear HV
                  go_wp2_with fail
                  go_roundw
                  case rel => exact ⟨k + 1, m + g.2.length, by omega, by go_num, by go_num, by omega, HX3, HS⟩
                  case measure => simp [intOf]; omega
              · have tc : ((ck g.2).2 != 0) = true := by rw [bne, beq_eq_false_iff_ne.2 hc]; rfl
                have HF := (show Hid (ckG gs = ((k, (ck g.2).1), (ck g.2).2)) from HE.out _ (by rw [HX2.out, if_pos hc]) hc)
                clear HX2 HE HG HP hc
                generalize hcc : (ck g.2).2 = cc2 at *
                generalize hcd : (ck g.2).1 = cc1 at *
                clear hcc hcd
                have HZ := (show Hid (SX ((w5.setCell ⟨w.heap.size + 1, 0, none⟩ (.int .i64 (k : Int))).setCell ⟨w.heap.size + 1, 1, none⟩ (.int .i64 (cc1 : Int))) (w.heap.size + 1) (k : Int) (cc1 : Int)) from HS.out.s.set _ _)
                have HBz := (show Hid (Below w.heap.size w ((w5.setCell ⟨w.heap.size + 1, 0, none⟩ (.int .i64 (k : Int))).setCell ⟨w.heap.size + 1, 1, none⟩ (.int .i64 (cc1 : Int)))) from set_below (set_below HS.out.b (Nat.le_succ _)) (Nat.le_succ _))
                have c0 := HS.out.s.c0
                have c1 := HS.out.s.c1
                have f0 := HS.out.s.fz 0
                have f1 := HS.out.s.fz 1
                clear HS
                go_wp2_with fail
                have d0 := HZ.out.c0
                have d1 := HZ.out.c1
                clear c0 c1 f0 f1
                generalize (w5.setCell ⟨w.heap.size + 1, 0, none⟩ (.int .i64 (k : Int))).setCell ⟨w.heap.size + 1, 1, none⟩ (.int .i64 (cc1 : Int)) = wZ at *
                refine bodyPost_ret (v := .tuple #[.agg #[.int .i64 (k : Int), .int .i64 (cc1 : Int)], .int .i64 cc2]) (by simp [results, Try.results11, go_sem, d0, d1]) rfl ⟨by rw [HF.out]; try rfl, HBz.out⟩
          · have tl : ((gs.length : Int) == 1) = false := beq_eq_false_iff_ne.2 (by omega)
            have HF := (show Hid (ckG gs = ((k, 0), 6)) from HE.out _ (by rw [HX1.out, if_pos (by rintro (q | q); rw [hnb] at q; cases q; exact hl1 q.2)]) (by show (6 : Int) ≠ 0; decide))
            clear HX1 HE HG HP hl1 hs0 hgk HCk HEu HFi hnb
            go_wp2_with fail
            refine (HNm.out _).mono ?_
            rintro e wX ⟨rfl, rfl⟩
            have HS := HS0
            clear HNm HR0 HS0
            have HZ := (show Hid (SX (((wr.alloc (.cells #[.string g.1, .slice A2 g.2.length c2] 57)).setCell ⟨w.heap.size + 1, 0, none⟩ (.int .i64 (k : Int))).setCell ⟨w.heap.size + 1, 1, none⟩ (.int .i64 0)) (w.heap.size + 1) (k : Int) 0) from HS.out.s.set _ _)
            have HBz := (show Hid (Below w.heap.size w (((wr.alloc (.cells #[.string g.1, .slice A2 g.2.length c2] 57)).setCell ⟨w.heap.size + 1, 0, none⟩ (.int .i64 (k : Int))).setCell ⟨w.heap.size + 1, 1, none⟩ (.int .i64 0))) from set_below (set_below HS.out.b (Nat.le_succ _)) (Nat.le_succ _))
            have c0 := HS.out.s.c0
            have c1 := HS.out.s.c1
            have f0 := HS.out.s.fz 0
            have f1 := HS.out.s.fz 1
            clear HS
            go_wp2_with fail
            have d0 := HZ.out.c0
            have d1 := HZ.out.c1
            clear c0 c1 f0 f1
            generalize ((wr.alloc (.cells #[.string g.1, .slice A2 g.2.length c2] 57)).setCell ⟨w.heap.size + 1, 0, none⟩ (.int .i64 (k : Int))).setCell ⟨w.heap.size + 1, 1, none⟩ (.int .i64 0) = wZ at *
            refine bodyPost_ret (v := .tuple #[.agg #[.int .i64 (k : Int), .int .i64 0], .int .i64 6]) (by simp [results, Try.results11, go_sem, d0, d1]) rfl ⟨by rw [HF.out]; try rfl, HBz.out⟩
        · have te : (g.1.toList == []) = false := by
            have e := emp_f hs0
            cases hl : g.1.toList with
            | nil => rw [hl] at e; cases e
            | cons x r => rfl
          have te2 := emp_f hs0
          have HF := (show Hid (ckG gs = ((k, 0), 6)) from HE.out _ (by rw [HX1.out, if_pos (by rintro (q | q); rw [hnb] at q; cases q; exact hs0 q.1)]) (by show (6 : Int) ≠ 0; decide))
          clear HX1 HE HG HP hs0 hgk HCk HEu HFi hnb
          go_wp2_with fail
          refine (HNm.out _).mono ?_
          rintro e wX ⟨rfl, rfl⟩
          have HS := HS0
          clear HNm HR0 HS0
          have HZ := (show Hid (SX (((wr.alloc (.cells #[.string g.1, .slice A2 g.2.length c2] 57)).setCell ⟨w.heap.size + 1, 0, none⟩ (.int .i64 (k : Int))).setCell ⟨w.heap.size + 1, 1, none⟩ (.int .i64 0)) (w.heap.size + 1) (k : Int) 0) from HS.out.s.set _ _)
          have HBz := (show Hid (Below w.heap.size w (((wr.alloc (.cells #[.string g.1, .slice A2 g.2.length c2] 57)).setCell ⟨w.heap.size + 1, 0, none⟩ (.int .i64 (k : Int))).setCell ⟨w.heap.size + 1, 1, none⟩ (.int .i64 0))) from set_below (set_below HS.out.b (Nat.le_succ _)) (Nat.le_succ _))
          have c0 := HS.out.s.c0
          have c1 := HS.out.s.c1
          have f0 := HS.out.s.fz 0
          have f1 := HS.out.s.fz 1
          clear HS
          go_wp2_with fail
          have d0 := HZ.out.c0
          have d1 := HZ.out.c1
          clear c0 c1 f0 f1
          generalize ((wr.alloc (.cells #[.string g.1, .slice A2 g.2.length c2] 57)).setCell ⟨w.heap.size + 1, 0, none⟩ (.int .i64 (k : Int))).setCell ⟨w.heap.size + 1, 1, none⟩ (.int .i64 0) = wZ at *
          refine bodyPost_ret (v := .tuple #[.agg #[.int .i64 (k : Int), .int .i64 0], .int .i64 6]) (by simp [results, Try.results11, go_sem, d0, d1]) rfl ⟨by rw [HF.out]; try rfl, HBz.out⟩
      · rw [hnb] at HNm
        have HX := (show Hid (c1G gs 0 0 gs = if tw gs g.1 k = true then ((k, 0), 80) else if (ck g.2).2 ≠ 0 then ((k, (ck g.2).1), (ck g.2).2) else if 2048 < m + g.2.length then ((k, 0), 2) else c1G gs (k + 1) (m + g.2.length) (gs.drop (k + 1))) from by show c1G gs 0 0 gs = _; rw [HX1.out, if_neg (fun q => q (.inl hnb))])
        clear HX1 hnb HEu
        go_wp2_with fail
        refine (HNm.out _).mono ?_
        rintro e wX ⟨rfl, rfl⟩
        have HS := HS0
        have HR := HR0
        clear HNm HR0 HS0
        go_wp2_with fail
        refine (HFi.out _ HS.out.b).mono ?_
        rintro e w4 ⟨rfl, b4⟩
        have HS4 := (show Hid (DcS w w4 (.slice (some ⟨b, o, none⟩) gs.length c)) from HS.out.later b4)
        have HR4 := (show Hid (RB w4 wr.heap.size g.1 (.slice A2 g.2.length c2)) from HR.out.later b4)
        have y1 := HR4.out.c1
        clear HFi b4 HS HR
        have HS := HS4
        clear HS4
        by_cases htw : tw gs g.1 k = true
        · have HF := (show Hid (ckG gs = ((k, 0), 80)) from HE.out _ (by rw [HX.out, if_pos htw]) (by show (80 : Int) ≠ 0; decide))
          have tt : fdN gs g.1 < (k : Int) := (tw_fd hgk).1 htw
          clear HX HE HCk HR4 HG HP htw hgk y1
          have HZ := (show Hid (SX ((w4.setCell ⟨w.heap.size + 1, 0, none⟩ (.int .i64 (k : Int))).setCell ⟨w.heap.size + 1, 1, none⟩ (.int .i64 0)) (w.heap.size + 1) (k : Int) 0) from HS.out.s.set _ _)
          have HBz := (show Hid (Below w.heap.size w ((w4.setCell ⟨w.heap.size + 1, 0, none⟩ (.int .i64 (k : Int))).setCell ⟨w.heap.size + 1, 1, none⟩ (.int .i64 0))) from set_below (set_below HS.out.b (Nat.le_succ _)) (Nat.le_succ _))
          have c0 := HS.out.s.c0
          have c1 := HS.out.s.c1
          have f0 := HS.out.s.fz 0
          have f1 := HS.out.s.fz 1
          clear HS
          go_wp2_with fail
          have d0 := HZ.out.c0
          have d1 := HZ.out.c1
          clear c0 c1 f0 f1
          generalize (w4.setCell ⟨w.heap.size + 1, 0, none⟩ (.int .i64 (k : Int))).setCell ⟨w.heap.size + 1, 1, none⟩ (.int .i64 0) = wZ at *
          refine bodyPost_ret (v := .tuple #[.agg #[.int .i64 (k : Int), .int .i64 0], .int .i64 80]) (by simp [results, Try.results11, go_sem, d0, d1]) rfl ⟨by rw [HF.out]; try rfl, HBz.out⟩
        · have tt : ¬ fdN gs g.1 < (k : Int) := fun q => htw ((tw_fd hgk).2 q)
          have HX2 := (show Hid (c1G gs 0 0 gs = if (ck g.2).2 ≠ 0 then ((k, (ck g.2).1), (ck g.2).2) else if 2048 < m + g.2.length then ((k, 0), 2) else c1G gs (k + 1) (m + g.2.length) (gs.drop (k + 1))) from by show c1G gs 0 0 gs = _; rw [HX.out, if_neg htw])
          clear HX htw hgk
          go_wp2_with fail
          refine (HCk.out _ HS.out.b).mono ?_
          rintro e w5 ⟨rfl, b5⟩
          have HS5 := (show Hid (DcS w w5 (.slice (some ⟨b, o, none⟩) gs.length c)) from HS.out.later b5)
          have y1' := (HR4.out.later b5).c1
          clear HCk b5 HS HR4 y1 tt
          have HS := HS5
          clear HS5
          by_cases hc : (ck g.2).2 = 0
          · have tc : ((ck g.2).2 != 0) = false := by rw [hc]; rfl
            have hg3 : g.2.length ≤ 2048 := by
              by_cases q : g.2.length ≤ 2048
              · exact q
              · have := ck_long (L := g.2) (by omega)
                rw [this] at hc
                exact absurd hc (by decide)
            have HV := (show Hid (c1G gs 0 0 gs = if 2048 < m + g.2.length then ((k, 0), 2) else c1G gs (k + 1) (m + g.2.length) (gs.drop (k + 1))) from by show c1G gs 0 0 gs = _; rw [HX2.out, if_neg (by rw [hc]; simp)])
            generalize hcc : (ck g.2).2 = cc2 at *
            clear hcc HX2
            by_cases hn : 2048 < m + g.2.length
            · have HF := (show Hid (ckG gs = ((k, 0), 2)) from HE.out _ (by rw [HV.out, if_pos hn]) (by show (2 : Int) ≠ 0; decide))
              have tn : (2048 : Int) < (m : Int) + (g.2.length : Int) := by omega
              clear HV HE HG HP hn
              have HZ := (show Hid (SX ((w5.setCell ⟨w.heap.size + 1, 0, none⟩ (.int .i64 (k : Int))).setCell ⟨w.heap.size + 1, 1, none⟩ (.int .i64 0)) (w.heap.size + 1) (k : Int) 0) from HS.out.s.set _ _)
              have HBz := (show Hid (Below w.heap.size w ((w5.setCell ⟨w.heap.size + 1, 0, none⟩ (.int .i64 (k : Int))).setCell ⟨w.heap.size + 1, 1, none⟩ (.int .i64 0))) from set_below (set_below HS.out.b (Nat.le_succ _)) (Nat.le_succ _))
              have c0 := HS.out.s.c0
              have c1 := HS.out.s.c1
              have f0 := HS.out.s.fz 0
              have f1 := HS.out.s.fz 1
              clear HS
              go_wp2_with fail
              have d0 := HZ.out.c0
              have d1 := HZ.out.c1
              clear c0 c1 f0 f1
              generalize (w5.setCell ⟨w.heap.size + 1, 0, none⟩ (.int .i64 (k : Int))).setCell ⟨w.heap.size + 1, 1, none⟩ (.int .i64 0) = wZ at *
              refine bodyPost_ret (v := .tuple #[.agg #[.int .i64 (k : Int), .int .i64 0], .int .i64 2]) (by simp [results, Try.results11, go_sem, d0, d1]) rfl ⟨by rw [HF.out]; try rfl, HBz.out⟩
            · have HX3 := (show Hid (c1G gs 0 0 gs = c1G gs (k + 1) (m + g.2.length) (gs.drop (k + 1))) from by show c1G gs 0 0 gs = _; rw [HV.out, if_neg hn])
              have tn : ¬ (2048 : Int) < (m : Int) + (g.2.length : Int) := by omega
              clear HV
              go_wp2_with fail
              go_roundw
              case rel => exact ⟨k + 1, m + g.2.length, by omega, by go_num, by go_num, by omega, HX3, HS⟩
              case measure => simp [intOf]; omega
          · have tc : ((ck g.2).2 != 0) = true := by rw [bne, beq_eq_false_iff_ne.2 hc]; rfl
            have HF := (show Hid (ckG gs = ((k, (ck g.2).1), (ck g.2).2)) from HE.out _ (by rw [HX2.out, if_pos hc]) hc)
            clear HX2 HE HG HP hc
            generalize hcc : (ck g.2).2 = cc2 at *
            generalize hcd : (ck g.2).1 = cc1 at *
            clear hcc hcd
            have HZ := (show Hid (SX ((w5.setCell ⟨w.heap.size + 1, 0, none⟩ (.int .i64 (k : Int))).setCell ⟨w.heap.size + 1, 1, none⟩ (.int .i64 (cc1 : Int))) (w.heap.size + 1) (k : Int) (cc1 : Int)) from HS.out.s.set _ _)
            have HBz := (show Hid (Below w.heap.size w ((w5.setCell ⟨w.heap.size + 1, 0, none⟩ (.int .i64 (k : Int))).setCell ⟨w.heap.size + 1, 1, none⟩ (.int .i64 (cc1 : Int)))) from set_below (set_below HS.out.b (Nat.le_succ _)) (Nat.le_succ _))
            have c0 := HS.out.s.c0
            have c1 := HS.out.s.c1
            have f0 := HS.out.s.fz 0
            have f1 := HS.out.s.fz 1
            clear HS
            go_wp2_with fail
            have d0 := HZ.out.c0
            have d1 := HZ.out.c1
            clear c0 c1 f0 f1
            generalize (w5.setCell ⟨w.heap.size + 1, 0, none⟩ (.int .i64 (k : Int))).setCell ⟨w.heap.size + 1, 1, none⟩ (.int .i64 (cc1 : Int)) = wZ at *
            refine bodyPost_ret (v := .tuple #[.agg #[.int .i64 (k : Int), .int .i64 (cc1 : Int)], .int .i64 cc2]) (by simp [results, Try.results11, go_sem, d0, d1]) rfl ⟨by rw [HF.out]; try rfl, HBz.out⟩
    · obtain rfl : k = gs.length := by omega
      have HE2 := (show Hid (ckG gs = unG gs 0 gs) from HEu.out (by rw [HX0.out, List.drop_length]; rfl))
      clear HX0 HE HEu
      go_wp2_with fail
      clear q1
      go_loopw [9] (fun t wr => ∃ k : Nat, k ≤ gs.length ∧ t = .int .i64 k ∧ Hid (unG gs 0 gs = unG gs k (gs.drop k)) ∧ Hid (DcS w wr (.slice A gs.length c))) (fun t _ => gs.length - (intOf t).toNat)
      case atStart => exact ⟨0, by omega, by go_num, rfl, HW⟩
      case round =>
        obtain ⟨k, hk, rfl, HX, HW⟩ := hrel
        have q1 := HW.out.x.cl
        by_cases hlt : k < gs.length
        · obtain ⟨g, hg, s1, s2, s3, hd⟩ := HG.out k hlt
          obtain ⟨b, o, A2, c2, rfl, lb, x0, x1, r2⟩ := HP.out.d k g hg
          have z0 : (0 : Int) ≤ (k : Int) := by omega
          have z1 : (k : Int) < (gs.length : Int) := by omega
          have HLb := (show Hid (b < w.heap.size ∧ w.cell? ⟨b, o + k * 2 + 1, none⟩ = some (.slice A2 g.2.length c2)) from ⟨lb, x1⟩)
          have HR2 := (show Hid (RdN w A2 g.2) from r2)
          have HU := (show Hid (unG gs 0 gs = match unN gs 0 g.2 with
            | some j => ((k, j), 81)
            | none => unG gs (k + 1) (gs.drop (k + 1))) from by show unG gs 0 gs = _; rw [HX.out, hd, unG_cons]; try rfl)
          have HN := (show Hid (∀ j, j < g.2.length → ∃ n, g.2[j]? = some n ∧ g.2 ≠ [] ∧ n.tx.size ≤ 140737488355328 ∧ g.2.drop j = n :: g.2.drop (j + 1)) from fun j hj => ⟨_, List.getElem?_eq_getElem hj, by (intro q; rw [q] at hj; simp at hj), s3 _ (List.getElem_mem hj), List.drop_eq_getElem_cons hj⟩)
          clear hg r2 s3 HX hd s1 x0 x1 lb
          go_wp2_with fail
          clear q1
          go_loopw [10] (fun t wr => ∃ j : Nat, j ≤ g.2.length ∧ t = .int .i64 j ∧ Hid (unN gs 0 g.2 = unN gs j (g.2.drop j)) ∧ Hid (DcS w wr (.slice (some ⟨b, o, none⟩) gs.length c))) (fun t _ => g.2.length - (intOf t).toNat)
          case atStart => exact ⟨0, by omega, by go_num, rfl, HW⟩
          case round =>
            obtain ⟨j, hj, rfl, HX, HW⟩ := hrel
            have q1 := HW.out.x.cl
            have x1' := (HW.out.b.cell (p := ⟨b, o + k * 2 + 1, none⟩) HLb.out.1).trans HLb.out.2
            by_cases hjl : j < g.2.length
            · obtain ⟨n, hn, nl, st, hd⟩ := HN.out j hjl
              obtain ⟨g1, o1, rfl, l1, q2⟩ := HR2.out nl
              obtain ⟨a0, a1, a2, a3, a4, a5, a6⟩ := (q2.same (HW.out.b.block g1 l1)) j n hn
              have y0 : (0 : Int) ≤ (j : Int) := by omega
              have y1 : (j : Int) < (g.2.length : Int) := by omega
              have HW2 := (show Hid (DcS w (wr.alloc (ndO n)) (.slice (some ⟨b, o, none⟩) gs.length c)) from HW.out.later (below_box _ _))
              have q3 := HW2.out.x.cl
              clear HN HR2 HG q2 HW nl hn st
              by_cases h6 : n.op = 6
              · have t6 : (n.op == 6) = true := by rw [h6]; rfl
                have HFi : Hid (∀ W, Below w.heap.size w W → Calls Try.prog 35 #[.agg #[.slice (some ⟨b, o, none⟩) gs.length c], .string n.tx] W fun e w' => e = .returned (.int .i64 (fdN gs n.tx)) ∧ Below W.heap.size W w') := fun W hW => find_any gs (some ⟨b, o, none⟩) c n.tx W (HP.out.later hW)
                cases hf : fdG gs n.tx with
                | none =>
                  have tf : fdN gs n.tx < 0 := by rw [fdN_none hf]; decide
                  have HF := (show Hid (ckG gs = ((k, j), 81)) from by show ckG gs = _; rw [HE2.out, HU.out, HX.out, hd, unN_cons, if_pos ⟨h6, hf⟩])
                  clear HX HU hd hf h6 HP HE2
                  go_wp2_with fail
                  refine (HFi.out _ HW2.out.b).mono ?_
                  rintro e w4 ⟨rfl, b4⟩
                  have HS := (show Hid (DcS w w4 (.slice (some ⟨b, o, none⟩) gs.length c)) from HW2.out.later b4)
                  clear HFi b4 HW2
                  have HZ := (show Hid (SX ((w4.setCell ⟨w.heap.size + 1, 0, none⟩ (.int .i64 (k : Int))).setCell ⟨w.heap.size + 1, 1, none⟩ (.int .i64 (j : Int))) (w.heap.size + 1) (k : Int) (j : Int)) from HS.out.s.set _ _)
                  have HBz := (show Hid (Below w.heap.size w ((w4.setCell ⟨w.heap.size + 1, 0, none⟩ (.int .i64 (k : Int))).setCell ⟨w.heap.size + 1, 1, none⟩ (.int .i64 (j : Int)))) from set_below (set_below HS.out.b (Nat.le_succ _)) (Nat.le_succ _))
                  have c0 := HS.out.s.c0
                  have c1 := HS.out.s.c1
                  have f0 := HS.out.s.fz 0
                  have f1 := HS.out.s.fz 1
                  clear HS
                  go_wp2_with fail
                  have d0 := HZ.out.c0
                  have d1 := HZ.out.c1
                  clear c0 c1 f0 f1
                  generalize (w4.setCell ⟨w.heap.size + 1, 0, none⟩ (.int .i64 (k : Int))).setCell ⟨w.heap.size + 1, 1, none⟩ (.int .i64 (j : Int)) = wZ at *
                  refine bodyPost_ret (v := .tuple #[.agg #[.int .i64 (k : Int), .int .i64 (j : Int)], .int .i64 81]) (by simp [results, Try.results11, go_sem, d0, d1]) rfl ⟨by rw [HF.out]; try rfl, HBz.out⟩
                | some i =>
                  have tf : ¬ fdN gs n.tx < 0 := by rw [fdN_some hf]; omega
                  have HX2 := (show Hid (unN gs 0 g.2 = unN gs (j + 1) (g.2.drop (j + 1))) from by show unN gs 0 g.2 = _; rw [HX.out, hd, unN_cons, if_neg (by rintro ⟨_, q⟩; rw [hf] at q; cases q)])
                  clear HX HU hd hf h6 HP HE2
                  go_wp2_with fail
                  refine (HFi.out _ HW2.out.b).mono ?_
                  rintro e w4 ⟨rfl, b4⟩
                  have HS := (show Hid (DcS w w4 (.slice (some ⟨b, o, none⟩) gs.length c)) from HW2.out.later b4)
                  clear HFi b4 HW2
                  go_wp2_with fail
                  go_roundw
                  case rel => exact ⟨j + 1, by omega, by go_num, HX2, HS⟩
                  case measure => simp [intOf]; omega
              · have t6 : (n.op == 6) = false := beq_eq_false_iff_ne.2 h6
                have HX2 := (show Hid (unN gs 0 g.2 = unN gs (j + 1) (g.2.drop (j + 1))) from by show unN gs 0 g.2 = _; rw [HX.out, hd, unN_cons, if_neg (by rintro ⟨q, _⟩; exact h6 q)])
                clear HX HU hd h6 HP HE2
                go_wp2_with fail
                go_roundw
                case rel => exact ⟨j + 1, by omega, by go_num, HX2, HW2⟩
                case measure => simp [intOf]; omega
            · obtain rfl : j = g.2.length := by omega
              have HX2 := (show Hid (unG gs 0 gs = unG gs (k + 1) (gs.drop (k + 1))) from by show unG gs 0 gs = _; rw [HU.out, HX.out, List.drop_length]; rfl)
              clear HX HU HN HR2 HP HE2
              go_wp2_with fail
              go_roundw
              case rel => exact ⟨k + 1, by omega, by go_num, HX2, HW⟩
              case measure => simp [intOf]; omega
        · obtain rfl : k = gs.length := by omega
          have HF := (show Hid (ckG gs = ((0, 0), 0)) from by show ckG gs = _; rw [HE2.out, HX.out, List.drop_length]; rfl)
          have HS := HW
          clear HX HG HP HE2 HW
          have HZ := (show Hid (SX ((wr.setCell ⟨w.heap.size + 1, 0, none⟩ (.int .i64 0)).setCell ⟨w.heap.size + 1, 1, none⟩ (.int .i64 0)) (w.heap.size + 1) 0 0) from HS.out.s.set _ _)
          have HBz := (show Hid (Below w.heap.size w ((wr.setCell ⟨w.heap.size + 1, 0, none⟩ (.int .i64 0)).setCell ⟨w.heap.size + 1, 1, none⟩ (.int .i64 0))) from set_below (set_below HS.out.b (Nat.le_succ _)) (Nat.le_succ _))
          have c0 := HS.out.s.c0
          have c1 := HS.out.s.c1
          have f0 := HS.out.s.fz 0
          have f1 := HS.out.s.fz 1
          clear HS
          go_wp2_with fail
          have d0 := HZ.out.c0
          have d1 := HZ.out.c1
          clear c0 c1 f0 f1
          generalize (wr.setCell ⟨w.heap.size + 1, 0, none⟩ (.int .i64 0)).setCell ⟨w.heap.size + 1, 1, none⟩ (.int .i64 0) = wZ at *
          refine bodyPost_ret (v := .tuple #[.agg #[.int .i64 0, .int .i64 0], .int .i64 0]) (by simp [results, Try.results11, go_sem, d0, d1]) rfl ⟨by rw [HF.out]; try rfl, HBz.out⟩
end Go.Proofs.Ytppggnmlbcdegaa.N

namespace Go.Proofs.Ytppggnmlbcdegaa.N
open Go.RowKit Go.Maps
open Go.Proofs.Ytppggnmlbcdegaa.T
set_option maxRecDepth 100000 in
set_option maxHeartbeats 4000000 in
theorem lookD_any (gs : GL) (A : Option Addr) (c : Nat) (r : Int) (w : World) (hp : GI w A gs) :
    Calls Try.prog 40 #[.agg #[.slice A gs.length c], .int .i64 r] w fun e w' => e = .returned (.int .i64 (lkR gs r)) ∧ Below w.heap.size w w' := by
  obtain ⟨w1, hw1⟩ : ∃ w1, w1 = (w.alloc (.cells #[.slice A gs.length c] 24)) := ⟨_, rfl⟩
  have HB1 : Hid (Below w.heap.size w w1) := by show Below _ _ _; rw [hw1]; exact below_box _ _
  have HG1 : Hid (GX w1 w.heap.size (.slice A gs.length c)) := by show GX _ _ _; rw [hw1]; exact GX.mk (heap_alloc_new w _)
  have HP := (show Hid (GI w A gs) from hp)
  have HN := (show Hid (∀ _ : Unit, Calls Try.prog 11 #[.agg #[.slice A gs.length c]] w1 fun e w' => e = .returned (.tuple #[.agg #[.int .i64 (ckG gs).1.1, .int .i64 (ckG gs).1.2], .int .i64 (ckG gs).2]) ∧ Below w1.heap.size w1 w') from fun _ => checkD_any gs A c w1 (hp.later HB1.out))
  clear hp
  go_enter Try.func40, Try.ntmps40
  go_wp2_with fail
  rw [← hw1]
  refine (HN.out ()).mono ?_
  rintro e w3 ⟨rfl, b3⟩
  obtain ⟨w4, hw4⟩ : ∃ w4, w4 = w3.alloc (.cells #[.int .i64 ((ckG gs).1.1 : Int), .int .i64 ((ckG gs).1.2 : Int)] 27) := ⟨_, rfl⟩
  have HB := (show Hid (Below w.heap.size w w4) from by show Below _ _ _; rw [hw4]; exact (HB1.out.trans (b3.mono HB1.out.size)).alloc (HB1.out.trans (b3.mono HB1.out.size)).size _)
  have HG := (show Hid (GX w4 w.heap.size (.slice A gs.length c)) from by show GX _ _ _; rw [hw4]; exact (HG1.out.below b3).below (below_box _ _))
  have q1 := HG.out.cl
  clear HN b3 hw1 HB1 HG1
  by_cases hz : (ckG gs).2 = 0
  · have tz : ((ckG gs).2 != 0) = false := by rw [hz]; rfl
    have HE0 := (show Hid (lkR gs r = if r < 0 ∨ (gs.length : Int) ≤ r then 1 else 0) from by show lkR gs r = _; unfold lkR; rw [if_neg (fun q => q hz)])
    clear hz HP HG
    subst hw4
    generalize (ckG gs).2 = cd at *
    by_cases h1 : r < 0
    · have HE := (show Hid (lkR gs r = 1) from by show lkR gs r = _; rw [HE0.out, if_pos (.inl h1)])
      clear HE0
      go_wp2_with fail
      go_ret
      exact ⟨by rw [HE.out]; rfl, HB.out⟩
    · by_cases h2 : (gs.length : Int) ≤ r
      · have HE := (show Hid (lkR gs r = 1) from by show lkR gs r = _; rw [HE0.out, if_pos (.inr h2)])
        clear HE0
        go_wp2_with fail
        go_ret
        exact ⟨by rw [HE.out]; rfl, HB.out⟩
      · have HE := (show Hid (lkR gs r = 0) from by show lkR gs r = _; rw [HE0.out, if_neg (by rintro (q | q); exact h1 q; exact h2 q)])
        clear HE0
        go_wp2_with fail
        go_ret
        exact ⟨by rw [HE.out]; rfl, HB.out⟩
  · have tz : ((ckG gs).2 != 0) = true := by rw [bne, beq_eq_false_iff_ne.2 hz]; rfl
    have HE := (show Hid (lkR gs r = (ckG gs).2) from by show lkR gs r = _; unfold lkR; rw [if_pos hz])
    clear hz HP HG
    subst hw4
    generalize (ckG gs).2 = cd at *
    go_wp2_with fail
    go_ret
    exact ⟨by rw [HE.out]; rfl, HB.out⟩
end Go.Proofs.Ytppggnmlbcdegaa.N

namespace Go.Proofs.Ytppggnmlbcdegaa.N
open Go.RowKit
open Go.Proofs.Ytppggnmlbcdegaa.T (RdN below_drewN below_box node_neq ndE)
set_option maxRecDepth 100000 in
set_option maxHeartbeats 8000000 in
theorem sameq (A1 A2 : Option Addr) (c1 c2 : Nat) (L : List Nd) (hl : L.length ≤ 140737488355328) (w : World) (h1 : RdN w A1 L) (h2 : RdN w A2 L) :
    Calls Try.prog 54 #[.slice A1 L.length c1, .slice A2 L.length c2] w fun e w' => e = .returned (.bool true) ∧ ∃ m, w' = w.drewN m := by
  have H1 := (show Hid _ from h1)
  have H2 := (show Hid _ from h2)
  have HG := (show Hid (∀ k, k < L.length → ∃ m, L[k]? = some m ∧ L ≠ []) from fun k hk => ⟨_, List.getElem?_eq_getElem hk, by rintro rfl; simp at hk⟩)
  clear h1 h2
  go_enter Try.func54, Try.ntmps54
  go_wp2_with fail
  go_loopw [5] (fun t wr => ∃ k : Nat, k ≤ L.length ∧ t = .int .i64 k ∧ Hid (∃ m, wr = w.drewN m)) (fun t _ => L.length - (intOf t).toNat)
  case atStart => exact ⟨0, by omega, by go_num, ⟨0, rfl⟩⟩
  case round =>
    obtain ⟨k, hk, rfl, HW⟩ := hrel
    by_cases hlt : k < L.length
    · obtain ⟨n, hn1, nl⟩ := HG.out k hlt
      have hB : Below w.heap.size w wr := by obtain ⟨m, rfl⟩ := HW.out; exact below_drewN (Below.refl _ _) _
      obtain ⟨g1, o1, rfl, l1, q1⟩ := H1.out nl
      obtain ⟨g2, o2, rfl, l2, q2⟩ := H2.out nl
      obtain ⟨a0, a1, a2, a3, a4, a5, a6⟩ := (q1.same (hB.block g1 l1)) k n hn1
      obtain ⟨d0, d1, d2, d3, d4, d5, d6⟩ := (q2.same (hB.block g2 l2)) k n hn1
      have z0 : (0 : Int) ≤ (k : Int) := by omega
      have z1 : (k : Int) < (L.length : Int) := by omega
      clear HG H1 H2 q1 q2 nl hn1 hB
      have hneq := node_neq n n
      rw [T.ndE_refl] at hneq
      go_wp2_with fail
      go_quiet (fail)
      have HW2 := (show Hid (∃ m, wr.drewN nq = w.drewN m) from by obtain ⟨m, e⟩ := HW.out; exact ⟨m + nq, by rw [e, World.drewN_drewN]⟩)
      generalize wr.drewN nq = w2 at *
      clear hneq a0 a1 a2 a3 a4 a5 a6 d0 d1 d2 d3 d4 d5 d6 HW
      go_wp2_with fail
      go_roundw
      case rel => exact ⟨k + 1, by omega, by go_num, HW2⟩
      case measure => simp [intOf]; omega
    · obtain rfl : k = L.length := by omega
      clear HG H1 H2
      go_wp2_with fail
      go_ret
      exact ⟨rfl, HW.out⟩
/-- A slice reads as a grammar's rules. -/
def GrR (W : World) (u : Value) (gs : List (ByteArray × List Nd)) : Prop := ∃ A c, u = .slice A gs.length c ∧ ∀ (k : Nat) g, gs[k]? = some g → ∃ b o A2 c2, A = some ⟨b, o, none⟩ ∧ b < W.heap.size ∧ W.cell? ⟨b, o + k * 2, none⟩ = some (.string g.1) ∧ W.cell? ⟨b, o + k * 2 + 1, none⟩ = some (.slice A2 g.2.length c2) ∧ RdN W A2 g.2
theorem GrR.later {W W' : World} {u : Value} {gs : List (ByteArray × List Nd)} (h : GrR W u gs) (hb : Below W.heap.size W W') : GrR W' u gs := by
  obtain ⟨A, c, e, h⟩ := h
  refine ⟨A, c, e, fun k g hg => ?_⟩
  obtain ⟨b, o, A2, c2, h1, h2, h3, h4, h5⟩ := h k g hg
  exact ⟨b, o, A2, c2, h1, Nat.lt_of_lt_of_le h2 hb.size, (hb.cell (p := ⟨b, o + k * 2, none⟩) h2).trans h3, (hb.cell (p := ⟨b, o + k * 2 + 1, none⟩) h2).trans h4, h5.below hb (Nat.le_refl _)⟩
end Go.Proofs.Ytppggnmlbcdegaa.N

namespace Go.Proofs.Ytppggnmlbcdegaa.N
open Go.RowKit Go.Maps
open Go.Proofs.Ytppggnmlbcdegaa.T
/-- Two grammars are the same. -/
def decGm (gs hs : GL) : Decidable (gs = hs) := @instDecidableEqList (ByteArray × List Nd) (fun a b => @instDecidableEqProd ByteArray (List Nd) inferInstance decPt a b) gs hs
def gmB (gs hs : GL) : Bool := @decide (gs = hs) (decGm gs hs)
theorem gmB_t {gs hs : GL} (h : gs = hs) : gmB gs hs = true := @decide_eq_true _ (decGm _ _) h
theorem gmB_f {gs hs : GL} (h : gs ≠ hs) : gmB gs hs = false := @decide_eq_false _ (decGm _ _) h
theorem patB_iff {L M : List Nd} : patB L M = true ↔ L = M := by unfold patB; exact iff_of_eq (@decide_eq_true_eq _ (decPt L M))
theorem te_of {a b : ByteArray} (h : a = b) : (a.toList == b.toList) = true := by rw [h]; simp
theorem te_no {a b : ByteArray} (h : a ≠ b) : (a.toList == b.toList) = false := by
  cases q : a.toList == b.toList
  · rfl
  · exact absurd (tx_ext (by simpa using q)) h
theorem tn_no {a b : ByteArray} (h : a ≠ b) : (a.toList != b.toList) = true := by rw [bne, te_no h]; rfl
theorem tn_of {a b : ByteArray} (h : a = b) : (a.toList != b.toList) = false := by rw [bne, te_of h]; rfl
/-- Each rule is held against the other one's. -/
theorem gmB_all {gs hs : GL} (hl : gs.length = hs.length) (h : ∀ j : Nat, j < gs.length → gs[j]? = hs[j]?) : gmB gs hs = true := gmB_t (List.ext_getElem? fun j => by
  by_cases q : j < gs.length
  · exact h j q
  · rw [List.getElem?_eq_none (by omega), List.getElem?_eq_none (by omega)])
theorem gmB_at {gs hs : GL} (j : Nat) (h : gs[j]? ≠ hs[j]?) : gmB gs hs = false := gmB_f fun e => h (by rw [e])
theorem gmB_len {gs hs : GL} (h : ¬ gs.length = hs.length) : gmB gs hs = false := gmB_f fun e => h (by rw [e])
set_option maxRecDepth 100000 in
set_option maxHeartbeats 8000000 in
theorem samePattern_q (A1 A2 : Option Addr) (c1 c2 : Nat) (L M : List Nd) (hl : L.length ≤ 140737488355328) (hm : M.length ≤ 140737488355328) (w : World) (h1 : RdN w A1 L) (h2 : RdN w A2 M) :
    Calls Try.prog 54 #[.slice A1 L.length c1, .slice A2 M.length c2] w fun e w' => e = .returned (.bool (patB L M)) ∧ ∃ m, w' = w.drewN m := by
  by_cases hne : L.length = M.length
  · have t0 : ((L.length : Int) != (M.length : Int)) = false := by rw [bne, beq_iff_eq.2 (by omega)]; rfl
    have HT := (show Hid ((∀ j : Nat, j < L.length → L[j]? = M[j]?) → patB L M = true) from fun h => patB_t hne h)
    have HF := (show Hid (∀ j : Nat, L[j]? ≠ M[j]? → patB L M = false) from fun j h => patB_f j h)
    have H1 := (show Hid _ from h1)
    have H2 := (show Hid _ from h2)
    have HG := (show Hid (∀ k, k < L.length → ∃ m n, L[k]? = some m ∧ M[k]? = some n ∧ L ≠ [] ∧ M ≠ []) from fun k hk => ⟨_, _, List.getElem?_eq_getElem hk, List.getElem?_eq_getElem (by omega), by rintro rfl; simp at hk, by rintro rfl; rw [hne] at hk; simp at hk⟩)
    have hle : (L.length : Int) = (M.length : Int) := by omega
    clear h1 h2 hne
    go_enter Try.func54, Try.ntmps54
    go_wp2_with fail
    go_loopw [5] (fun t wr => ∃ k : Nat, k ≤ L.length ∧ t = .int .i64 k ∧ Hid (∀ j : Nat, j < k → L[j]? = M[j]?) ∧ Hid (∃ m, wr = w.drewN m)) (fun t _ => L.length - (intOf t).toNat)
    case atStart => exact ⟨0, by omega, by go_num, fun j q => by omega, ⟨0, rfl⟩⟩
    case round =>
      obtain ⟨k, hk, rfl, HI, HW⟩ := hrel
      by_cases hlt : k < L.length
      · obtain ⟨m, n, hm1, hn1, nl, nm⟩ := HG.out k hlt
        have hB : Below w.heap.size w wr := by obtain ⟨m, rfl⟩ := HW.out; exact below_drewN (Below.refl _ _) _
        obtain ⟨g1, o1, rfl, l1, q1⟩ := H1.out nl
        obtain ⟨g2, o2, rfl, l2, q2⟩ := H2.out nm
        obtain ⟨a0, a1, a2, a3, a4, a5, a6⟩ := (q1.same (hB.block g1 l1)) k m hm1
        obtain ⟨d0, d1, d2, d3, d4, d5, d6⟩ := (q2.same (hB.block g2 l2)) k n hn1
        have z0 : (0 : Int) ≤ (k : Int) := by omega
        have z1 : (k : Int) < (L.length : Int) := by omega
        have z2 : (k : Int) < (M.length : Int) := by omega
        have HN := (show Hid (L[k]? = some m ∧ M[k]? = some n) from ⟨hm1, hn1⟩)
        clear HG H1 H2 q1 q2 nl nm hm1 hn1 hle hB
        have hneq := node_neq m n
        cases he : ndE m n with
        | true =>
          rw [he] at hneq
          have HI2 := (show Hid (∀ j : Nat, j < k + 1 → L[j]? = M[j]?) from fun j hj => by
            by_cases q : j < k
            · exact HI.out j q
            · obtain rfl : j = k := by omega
              rw [HN.out.1, HN.out.2, ndE_eq he])
          clear HT HF HI he HN
          go_wp2_with fail
          go_quiet (fail)
          have HW2 := (show Hid (∃ m, wr.drewN nq = w.drewN m) from by obtain ⟨m, e⟩ := HW.out; exact ⟨m + nq, by rw [e, World.drewN_drewN]⟩)
          generalize wr.drewN nq = w2 at *
          clear hneq a0 a1 a2 a3 a4 a5 a6 d0 d1 d2 d3 d4 d5 d6 HW
          go_wp2_with fail
          go_roundw
          case rel => exact ⟨k + 1, by omega, by go_num, HI2, HW2⟩
          case measure => simp [intOf]; omega
        | false =>
          rw [he] at hneq
          have HE := (show Hid (patB L M = false) from HF.out k (by
            rw [HN.out.1, HN.out.2]
            intro e
            have e2 : m = n := Option.some.inj e
            rw [ndE_iff.2 e2] at he
            cases he))
          clear HT HF HI he HN
          go_wp2_with fail
          go_quiet (fail)
          have HW2 := (show Hid (∃ m, wr.drewN nq = w.drewN m) from by obtain ⟨m, e⟩ := HW.out; exact ⟨m + nq, by rw [e, World.drewN_drewN]⟩)
          generalize wr.drewN nq = w2 at *
          clear hneq a0 a1 a2 a3 a4 a5 a6 d0 d1 d2 d3 d4 d5 d6 HW
          go_wp2_with fail
          go_ret
          exact ⟨by rw [HE.out]; rfl, HW2.out⟩
      · obtain rfl : k = L.length := by omega
        have HE := (show Hid (patB L M = true) from HT.out HI.out)
        clear HG H1 H2 HT HF HI
        go_wp2_with fail
        go_ret
        exact ⟨by rw [HE.out]; rfl, HW.out⟩
  · have t0 : ((L.length : Int) != (M.length : Int)) = true := by rw [bne, beq_eq_false_iff_ne.2 (by omega)]; rfl
    have HE := (show Hid (patB L M = false) from patB_ne hne)
    clear h1 h2 hne
    go_enter Try.func54, Try.ntmps54
    go_wp2_with fail
    go_ret
    exact ⟨by rw [HE.out]; rfl, 0, rfl⟩


/-- A grammar's sizes, within what a memory holds. -/
def GmL (gs : GL) : Prop := gs.length ≤ 140737488355328 ∧ ∀ g ∈ gs, g.2.length ≤ 140737488355328
/-- While two grammars are held against each other. -/
structure AtH (w wr : World) (u1 u2 : Value) (gs hs : GL) : Prop where
  b : Below w.heap.size w wr
  x1 : GX wr w.heap.size u1
  x2 : GX wr (w.heap.size + 1) u2
  r1 : GrR wr u1 gs
  r2 : GrR wr u2 hs
theorem AtH.later {w wr W' : World} {u1 u2 : Value} {gs hs : GL} (h : AtH w wr u1 u2 gs hs) (hb : Below wr.heap.size wr W') : AtH w W' u1 u2 gs hs :=
  ⟨h.b.trans (hb.mono h.b.size), h.x1.below hb, h.x2.below hb, h.r1.later hb, h.r2.later hb⟩
theorem AtH.mk2 {w : World} {u1 u2 : Value} {gs hs : GL} (h1 : GrR w u1 gs) (h2 : GrR w u2 hs) : AtH w ((w.alloc (.cells #[u1] 24)).alloc (.cells #[u2] 24)) u1 u2 gs hs :=
    ⟨((Below.refl _ _).alloc (Nat.le_refl _) _).alloc (by rw [World.size_alloc]; omega) _, (GX.mk (heap_alloc_new w _)).below (below_box _ _), ⟨by have h := heap_alloc_new (w.alloc (.cells #[u1] 24)) (.cells #[u2] 24); rw [World.size_alloc] at h; exact h⟩, (h1.later (below_box _ _)).later (below_box _ _), (h2.later (below_box _ _)).later (below_box _ _)⟩
set_option maxRecDepth 100000 in
set_option maxHeartbeats 16000000 in
theorem sameH_any {gs hs : GL} (hg : GmL gs) (hh : GmL hs) {w : World} {u1 u2 : Value} (h1 : GrR w u1 gs) (h2 : GrR w u2 hs) : Calls Try.prog 30 #[.agg #[u1], .agg #[u2]] w fun e w' => e = .returned (.bool (gmB gs hs)) ∧ Below w.heap.size w w' := by
  have HA := (show Hid (AtH w ((w.alloc (.cells #[u1] 24)).alloc (.cells #[u2] 24)) u1 u2 gs hs) from AtH.mk2 h1 h2)
  obtain ⟨A1, c1, rfl, _⟩ := h1
  obtain ⟨A2, c2, rfl, _⟩ := h2
  obtain ⟨lg, mg⟩ := hg
  obtain ⟨lh, mh⟩ := hh
  have q1 := HA.out.x1.cl
  have q2 := HA.out.x2.cl
  by_cases hne : gs.length = hs.length
  · have t0 : ((gs.length : Int) != (hs.length : Int)) = false := by rw [bne, beq_iff_eq.2 (by omega)]; rfl
    have HT := (show Hid ((∀ j : Nat, j < gs.length → gs[j]? = hs[j]?) → gmB gs hs = true) from fun h => gmB_all hne h)
    have HG := (show Hid (∀ k, k < gs.length → k < hs.length ∧ ∃ g h, gs[k]? = some g ∧ hs[k]? = some h ∧ g.2.length ≤ 140737488355328 ∧ h.2.length ≤ 140737488355328) from fun k hk => ⟨by omega, _, _, List.getElem?_eq_getElem hk, List.getElem?_eq_getElem (by omega), mg _ (List.getElem_mem hk), mh _ (List.getElem_mem (by omega))⟩)
    clear mg mh hne
    go_enter Try.func30, Try.ntmps30
    go_wp2_with fail
    generalize (w.alloc (.cells #[.slice A1 gs.length c1] 24)).alloc (.cells #[.slice A2 hs.length c2] 24) = w1 at *
    go_wp2_with fail
    clear q1 q2 t0
    go_loopw [5] (fun t wr => ∃ k : Nat, k ≤ gs.length ∧ t = .int .i64 k ∧ Hid (∀ j : Nat, j < k → gs[j]? = hs[j]?) ∧ Hid (AtH w wr (.slice A1 gs.length c1) (.slice A2 hs.length c2) gs hs)) (fun t _ => gs.length - (intOf t).toNat)
    case atStart => exact ⟨0, by omega, by go_num, fun j q => by omega, HA⟩
    case round =>
      obtain ⟨k, hk, rfl, HI, HW⟩ := hrel
      clear HA
      have q1 := HW.out.x1.cl
      have q2 := HW.out.x2.cl
      by_cases hlt : k < gs.length
      · obtain ⟨hlt2, g, h, hg, hh, hgl, hhl⟩ := HG.out k hlt
        obtain ⟨A3, c3, e3, hc3⟩ := HW.out.r1
        obtain ⟨A4, c4, e4, hc4⟩ := HW.out.r2
        obtain ⟨b1, o1, B1, d1, hA1, l1, y0, y1, r1⟩ := hc3 k g hg
        obtain ⟨b2, o2, B2, d2, hA2, l2, x0, x1, r2⟩ := hc4 k h hh
        cases e3
        cases e4
        subst hA1 hA2
        have z0 : (0 : Int) ≤ (k : Int) := by omega
        have z1 : (k : Int) < (gs.length : Int) := by omega
        have z2 : (k : Int) < (hs.length : Int) := by omega
        have HS : Hid (∀ n, Calls Try.prog 54 #[.slice B1 g.2.length d1, .slice B2 h.2.length d2] (wr.drewN n) fun e w' => e = .returned (.bool (patB g.2 h.2)) ∧ ∃ m, w' = (wr.drewN n).drewN m) := fun n => samePattern_q B1 B2 d1 d2 g.2 h.2 hgl hhl _ (r1.below (below_drewN (Below.refl _ _) _) (Nat.le_refl _)) (r2.below (below_drewN (Below.refl _ _) _) (Nat.le_refl _))
        have HN := (show Hid (gs[k]? = some g ∧ hs[k]? = some h) from ⟨hg, hh⟩)
        clear HG hc3 hc4 r1 r2 hg hh hgl hhl
        by_cases en : g.1 = h.1
        · have te := te_of en
          have tn := tn_of en
          cases pb : patB g.2 h.2 with
          | true =>
            have HI2 := (show Hid (∀ j : Nat, j < k + 1 → gs[j]? = hs[j]?) from fun j hj => by
              by_cases q : j < k
              · exact HI.out j q
              · obtain rfl : j = k := by omega
                rw [HN.out.1, HN.out.2, Prod.ext en (patB_iff.1 pb)])
            rw [pb] at HS
            clear HT HI HN en pb
            generalize g.2.length = gl at *
            generalize h.2.length = hl at *
            generalize g.1 = nm at *
            generalize h.1 = nn at *
            go_wp2_with fail
            go_big_quiet ((go_at_call 54; exact Calls.quiet_of (HS.out _)))
            have HW2 := (show Hid (AtH w (wr.drewN nq) (.slice (some ⟨b1, o1, none⟩) gs.length c1) (.slice (some ⟨b2, o2, none⟩) hs.length c2) gs hs) from HW.out.later (below_drewN (Below.refl _ _) _))
            generalize wr.drewN nq = w2 at *
            clear HW q1 q2 y0 y1 x0 x1 te tn
            go_wp2_with fail
            go_roundw
            case rel => exact ⟨k + 1, by omega, by go_num, HI2, HW2⟩
            case measure => simp [intOf]; omega
          | false =>
            have HE := (show Hid (gmB gs hs = false) from gmB_at k (by
              rw [HN.out.1, HN.out.2]
              intro e
              have e2 : g = h := Option.some.inj e
              rw [e2, patB_refl] at pb
              cases pb))
            rw [pb] at HS
            clear HT HI HN en pb
            generalize g.2.length = gl at *
            generalize h.2.length = hl at *
            generalize g.1 = nm at *
            generalize h.1 = nn at *
            go_wp2_with fail
            go_big_quiet ((go_at_call 54; exact Calls.quiet_of (HS.out _)))
            have HW2 := (show Hid (Below w.heap.size w (wr.drewN nq)) from below_drewN HW.out.b _)
            generalize wr.drewN nq = w2 at *
            clear HW q1 q2 y0 y1 x0 x1 te tn
            go_wp2_with fail
            go_ret
            exact ⟨by rw [HE.out]; rfl, HW2.out⟩
        · have te := te_no en
          have tn := tn_no en
          have HE := (show Hid (gmB gs hs = false) from gmB_at k (by
            rw [HN.out.1, HN.out.2]
            intro e
            exact en (by rw [Option.some.inj e])))
          clear HT HI HN en HS
          generalize g.1 = nm at *
          generalize h.1 = nn at *
          go_wp2_with fail
          go_big_quiet (fail)
          have HW2 := (show Hid (Below w.heap.size w (wr.drewN nq)) from below_drewN HW.out.b _)
          generalize wr.drewN nq = w2 at *
          clear HW q1 q2 y0 y1 x0 x1 te tn
          go_wp2_with fail
          go_ret
          exact ⟨by rw [HE.out]; rfl, HW2.out⟩
      · obtain rfl : k = gs.length := by omega
        have HE := (show Hid (gmB gs hs = true) from HT.out HI.out)
        clear HG HT HI
        go_wp2_with fail
        go_ret
        exact ⟨by rw [HE.out]; rfl, HW.out.b⟩
  · have t0 : ((gs.length : Int) != (hs.length : Int)) = true := by rw [bne, beq_eq_false_iff_ne.2 (by omega)]; rfl
    have HE := (show Hid (gmB gs hs = false) from gmB_len hne)
    clear hne mg mh
    go_enter Try.func30, Try.ntmps30
    go_wp2_with fail
    generalize (w.alloc (.cells #[.slice A1 gs.length c1] 24)).alloc (.cells #[.slice A2 hs.length c2] 24) = w1 at *
    go_wp2_with fail
    go_ret
    exact ⟨by rw [HE.out]; rfl, HA.out.b⟩
end Go.Proofs.Ytppggnmlbcdegaa.N

namespace Go.Proofs.Ytppggnmlbcdegaa.N
open Go.RowKit Go.Maps
open Go.Proofs.Ytppggnmlbcdegaa.T
theorem RB.two {w : World} {s1 s2 : ByteArray} {v1 v2 : Value} : RB ((w.alloc (.cells #[.string s1, v1] 57)).alloc (.cells #[.string s2, v2] 57)) w.heap.size s1 v1 ∧ RB ((w.alloc (.cells #[.string s1, v1] 57)).alloc (.cells #[.string s2, v2] 57)) (w.heap.size + 1) s2 v2 ∧ Below w.heap.size w ((w.alloc (.cells #[.string s1, v1] 57)).alloc (.cells #[.string s2, v2] 57)) :=
  ⟨(RB.mk (heap_alloc_new w _)).later (below_box _ _), ⟨by have h := heap_alloc_new (w.alloc (.cells #[.string s1, v1] 57)) (.cells #[.string s2, v2] 57); rw [World.size_alloc] at h; exact h⟩, ((Below.refl _ _).alloc (Nat.le_refl _) _).alloc (by rw [World.size_alloc]; omega) _⟩
set_option maxRecDepth 100000 in
set_option maxHeartbeats 4000000 in
theorem same1_any (g h : ByteArray × List Nd) (B1 B2 : Option Addr) (d1 d2 : Nat) (hl : g.2.length ≤ 140737488355328) (hm : h.2.length ≤ 140737488355328) (w : World) (r1 : RdN w B1 g.2) (r2 : RdN w B2 h.2) :
    Calls Try.prog 56 #[.agg #[.string g.1, .slice B1 g.2.length d1], .agg #[.string h.1, .slice B2 h.2.length d2]] w fun e w' => e = .returned (.bool (@decide (g = h) (Classical.propDecidable _))) ∧ Below w.heap.size w w' := by
  have HA := (show Hid (RB ((w.alloc (.cells #[.string g.1, .slice B1 g.2.length d1] 57)).alloc (.cells #[.string h.1, .slice B2 h.2.length d2] 57)) w.heap.size g.1 (.slice B1 g.2.length d1) ∧ RB ((w.alloc (.cells #[.string g.1, .slice B1 g.2.length d1] 57)).alloc (.cells #[.string h.1, .slice B2 h.2.length d2] 57)) (w.heap.size + 1) h.1 (.slice B2 h.2.length d2) ∧ Below w.heap.size w ((w.alloc (.cells #[.string g.1, .slice B1 g.2.length d1] 57)).alloc (.cells #[.string h.1, .slice B2 h.2.length d2] 57))) from RB.two)
  have HS := (show Hid (∀ W, Below w.heap.size w W → Calls Try.prog 57 #[.slice B1 g.2.length d1, .slice B2 h.2.length d2] W fun e w' => e = .returned (.bool (patB g.2 h.2)) ∧ Below W.heap.size W w') from fun W hW => same_any B1 B2 d1 d2 g.2 h.2 hl hm W (r1.below hW (Nat.le_refl _)) (r2.below hW (Nat.le_refl _)))
  have a0 := HA.out.1.c0
  have a1 := HA.out.1.c1
  have b0 := HA.out.2.1.c0
  have b1 := HA.out.2.1.c1
  have HB := (show Hid (Below w.heap.size w ((w.alloc (.cells #[.string g.1, .slice B1 g.2.length d1] 57)).alloc (.cells #[.string h.1, .slice B2 h.2.length d2] 57))) from HA.out.2.2)
  clear r1 r2 hl hm HA
  by_cases en : g.1 = h.1
  · have te := te_of en
    have HE := (show Hid (@decide (g = h) (Classical.propDecidable _) = patB g.2 h.2) from by
      cases pb : patB g.2 h.2 with
      | true => exact @decide_eq_true _ (Classical.propDecidable _) (Prod.ext en (patB_iff.1 pb))
      | false => exact @decide_eq_false _ (Classical.propDecidable _) (fun e => by rw [e, patB_refl] at pb; cases pb))
    clear en
    generalize patB g.2 h.2 = pb at *
    generalize @decide (g = h) (Classical.propDecidable _) = db at *
    generalize g.2.length = gl at *
    generalize h.2.length = hl at *
    generalize g.1 = nm at *
    generalize h.1 = nn at *
    go_enter Try.func56, Try.ntmps56
    go_wp2_with fail
    generalize (w.alloc (.cells #[.string nm, .slice B1 gl d1] 57)).alloc (.cells #[.string nn, .slice B2 hl d2] 57) = w1 at *
    go_wp2_with fail
    refine (HS.out _ HB.out).mono ?_
    rintro e w2 ⟨rfl, b2⟩
    have HB2 := (show Hid (Below w.heap.size w w2) from HB.out.trans (b2.mono HB.out.size))
    clear b2 HS HB a0 a1 b0 b1
    go_wp2_with fail
    go_ret
    exact ⟨by rw [HE.out]; rfl, HB2.out⟩
  · have te := te_no en
    have HE := (show Hid (@decide (g = h) (Classical.propDecidable _) = false) from @decide_eq_false _ (Classical.propDecidable _) (fun e => en (by rw [e])))
    clear en HS
    generalize @decide (g = h) (Classical.propDecidable _) = db at *
    generalize g.2.length = gl at *
    generalize h.2.length = hl at *
    generalize g.1 = nm at *
    generalize h.1 = nn at *
    go_enter Try.func56, Try.ntmps56
    go_wp2_with fail
    generalize (w.alloc (.cells #[.string nm, .slice B1 gl d1] 57)).alloc (.cells #[.string nn, .slice B2 hl d2] 57) = w1 at *
    go_wp2_with fail
    go_ret
    exact ⟨by rw [HE.out]; rfl, HB.out⟩
set_option maxRecDepth 100000 in
set_option maxHeartbeats 16000000 in
theorem equalF_any {gs hs : GL} (hg : GmL gs) (hh : GmL hs) {w : World} {u1 u2 : Value} (h1 : GrR w u1 gs) (h2 : GrR w u2 hs) : Calls Try.prog 55 #[u1, u2, .func (.func 56) #[] #[]] w fun e w' => e = .returned (.bool (gmB gs hs)) ∧ Below w.heap.size w w' := by
  have H1 := (show Hid (GrR w u1 gs) from h1)
  have H2 := (show Hid (GrR w u2 hs) from h2)
  obtain ⟨A1, c1, rfl, _⟩ := h1
  obtain ⟨A2, c2, rfl, _⟩ := h2
  obtain ⟨lg, mg⟩ := hg
  obtain ⟨lh, mh⟩ := hh
  by_cases hne : gs.length = hs.length
  · have t0 : ((gs.length : Int) != (hs.length : Int)) = false := by rw [bne, beq_iff_eq.2 (by omega)]; rfl
    have HT := (show Hid ((∀ j : Nat, j < gs.length → gs[j]? = hs[j]?) → gmB gs hs = true) from fun h => gmB_all hne h)
    have HG := (show Hid (∀ k, k < gs.length → k < hs.length ∧ ∃ g h, gs[k]? = some g ∧ hs[k]? = some h ∧ g.2.length ≤ 140737488355328 ∧ h.2.length ≤ 140737488355328) from fun k hk => ⟨by omega, _, _, List.getElem?_eq_getElem hk, List.getElem?_eq_getElem (by omega), mg _ (List.getElem_mem hk), mh _ (List.getElem_mem (by omega))⟩)
    clear mg mh hne
    go_enter Try.func55, Try.ntmps55
    go_wp2_with fail
    clear t0
    go_loopw [17] (fun t wr => ∃ k : Nat, k ≤ gs.length ∧ t = .int .i64 k ∧ Hid (∀ j : Nat, j < k → gs[j]? = hs[j]?) ∧ Hid (Below w.heap.size w wr)) (fun t _ => gs.length - (intOf t).toNat)
    case atStart => exact ⟨0, by omega, by go_num, fun j q => by omega, Below.refl _ _⟩
    case round =>
      obtain ⟨k, hk, rfl, HI, HW⟩ := hrel
      by_cases hlt : k < gs.length
      · obtain ⟨hlt2, g, h, hg, hh, hgl, hhl⟩ := HG.out k hlt
        obtain ⟨A3, c3, e3, hc3⟩ := H1.out.later HW.out
        obtain ⟨A4, c4, e4, hc4⟩ := H2.out.later HW.out
        obtain ⟨b1, o1, B1, d1, hA1, l1, y0, y1, r1⟩ := hc3 k g hg
        obtain ⟨b2, o2, B2, d2, hA2, l2, x0, x1, r2⟩ := hc4 k h hh
        cases e3
        cases e4
        subst hA1 hA2
        have z0 : (0 : Int) ≤ (k : Int) := by omega
        have z1 : (k : Int) < (gs.length : Int) := by omega
        have z2 : (k : Int) < (hs.length : Int) := by omega
        have HA := (show Hid (RB ((wr.alloc (.cells #[.string g.1, .slice B1 g.2.length d1] 57)).alloc (.cells #[.string h.1, .slice B2 h.2.length d2] 57)) wr.heap.size g.1 (.slice B1 g.2.length d1) ∧ RB ((wr.alloc (.cells #[.string g.1, .slice B1 g.2.length d1] 57)).alloc (.cells #[.string h.1, .slice B2 h.2.length d2] 57)) (wr.heap.size + 1) h.1 (.slice B2 h.2.length d2) ∧ Below wr.heap.size wr ((wr.alloc (.cells #[.string g.1, .slice B1 g.2.length d1] 57)).alloc (.cells #[.string h.1, .slice B2 h.2.length d2] 57))) from RB.two)
        have HS : Hid (∀ W, Below wr.heap.size wr W → Calls Try.prog 56 #[.agg #[.string g.1, .slice B1 g.2.length d1], .agg #[.string h.1, .slice B2 h.2.length d2]] W fun e w' => e = .returned (.bool (@decide (g = h) (Classical.propDecidable _))) ∧ Below W.heap.size W w') := fun W hW => same1_any g h B1 B2 d1 d2 hgl hhl W (r1.below hW (Nat.le_refl _)) (r2.below hW (Nat.le_refl _))
        have HN := (show Hid (gs[k]? = some g ∧ hs[k]? = some h) from ⟨hg, hh⟩)
        have a0 := HA.out.1.c0
        have a1 := HA.out.1.c1
        have b0 := HA.out.2.1.c0
        have b1' := HA.out.2.1.c1
        have x0' := ((below_box wr (.cells #[.string g.1, .slice B1 g.2.length d1] 57)).cell (p := ⟨b2, o2 + k * 2, none⟩) l2).trans x0
        have x1' := ((below_box wr (.cells #[.string g.1, .slice B1 g.2.length d1] 57)).cell (p := ⟨b2, o2 + k * 2 + 1, none⟩) l2).trans x1
        have HB := (show Hid (Below wr.heap.size wr ((wr.alloc (.cells #[.string g.1, .slice B1 g.2.length d1] 57)).alloc (.cells #[.string h.1, .slice B2 h.2.length d2] 57))) from HA.out.2.2)
        clear HG hc3 hc4 r1 r2 hg hh hgl hhl HA H1 H2
        have HD := (show Hid ((@decide (g = h) (Classical.propDecidable _) = true → g = h) ∧ (@decide (g = h) (Classical.propDecidable _) = false → g ≠ h)) from ⟨fun q => @of_decide_eq_true _ (Classical.propDecidable _) q, fun q => @of_decide_eq_false _ (Classical.propDecidable _) q⟩)
        generalize @decide (g = h) (Classical.propDecidable _) = db at *
        cases db with
        | true =>
          have HI2 := (show Hid (∀ j : Nat, j < k + 1 → gs[j]? = hs[j]?) from fun j hj => by
              by_cases q : j < k
              · exact HI.out j q
              · obtain rfl : j = k := by omega
                rw [HN.out.1, HN.out.2, HD.out.1 rfl])
          clear HT HI HN HD
          generalize g.2.length = gl at *
          generalize h.2.length = hl at *
          generalize g.1 = nm at *
          generalize h.1 = nn at *
          go_wp2_with fail
          generalize (wr.alloc (.cells #[.string nm, .slice B1 gl d1] 57)).alloc (.cells #[.string nn, .slice B2 hl d2] 57) = w1 at *
          clear x0 x1 x0' x1' y0 y1
          go_wp2_with fail
          refine (HS.out _ HB.out).mono ?_
          rintro e w2 ⟨rfl, b2⟩
          have HW2 := (show Hid (Below w.heap.size w w2) from HW.out.trans ((HB.out.trans (b2.mono HB.out.size)).mono HW.out.size))
          clear b2 HS HB a0 a1 b0 b1' HW
          go_wp2_with fail
          go_roundw
          case rel => exact ⟨k + 1, by omega, by go_num, HI2, HW2⟩
          case measure => simp [intOf]; omega
        | false =>
          have HE := (show Hid (gmB gs hs = false) from gmB_at k (by
              rw [HN.out.1, HN.out.2]
              intro e
              exact HD.out.2 rfl (Option.some.inj e)))
          clear HT HI HN HD
          generalize g.2.length = gl at *
          generalize h.2.length = hl at *
          generalize g.1 = nm at *
          generalize h.1 = nn at *
          go_wp2_with fail
          generalize (wr.alloc (.cells #[.string nm, .slice B1 gl d1] 57)).alloc (.cells #[.string nn, .slice B2 hl d2] 57) = w1 at *
          clear x0 x1 x0' x1' y0 y1
          go_wp2_with fail
          refine (HS.out _ HB.out).mono ?_
          rintro e w2 ⟨rfl, b2⟩
          have HW2 := (show Hid (Below w.heap.size w w2) from HW.out.trans ((HB.out.trans (b2.mono HB.out.size)).mono HW.out.size))
          clear b2 HS HB a0 a1 b0 b1' HW
          go_wp2_with fail
          go_ret
          exact ⟨by rw [HE.out]; rfl, HW2.out⟩
      · obtain rfl : k = gs.length := by omega
        have HE := (show Hid (gmB gs hs = true) from HT.out HI.out)
        clear HG HT HI H1 H2
        go_wp2_with fail
        go_ret
        exact ⟨by rw [HE.out]; rfl, HW.out⟩
  · have t0 : ((gs.length : Int) != (hs.length : Int)) = true := by rw [bne, beq_eq_false_iff_ne.2 (by omega)]; rfl
    have HE := (show Hid (gmB gs hs = false) from gmB_len hne)
    clear hne mg mh H1 H2
    go_enter Try.func55, Try.ntmps55
    go_wp2_with fail
    go_ret
    exact ⟨by rw [HE.out]; rfl, Below.refl _ _⟩
set_option maxRecDepth 100000 in
set_option maxHeartbeats 4000000 in
theorem sameP_any {gs hs : GL} (hg : GmL gs) (hh : GmL hs) {w : World} {u1 u2 : Value} (h1 : GrR w u1 gs) (h2 : GrR w u2 hs) : Calls Try.prog 31 #[.agg #[u1], .agg #[u2]] w fun e w' => e = .returned (.bool (gmB gs hs)) ∧ Below w.heap.size w w' := by
  have HA := (show Hid (AtH w ((w.alloc (.cells #[u1] 24)).alloc (.cells #[u2] 24)) u1 u2 gs hs) from AtH.mk2 h1 h2)
  have HS := (show Hid (∀ W, Below w.heap.size w W → Calls Try.prog 55 #[u1, u2, .func (.func 56) #[] #[]] W fun e w' => e = .returned (.bool (gmB gs hs)) ∧ Below W.heap.size W w') from fun W hW => equalF_any hg hh (h1.later hW) (h2.later hW))
  have q1 := HA.out.x1.cl
  have q2 := HA.out.x2.cl
  have HB := (show Hid (Below w.heap.size w ((w.alloc (.cells #[u1] 24)).alloc (.cells #[u2] 24))) from HA.out.b)
  clear HA
  obtain ⟨A1, c1, rfl, _⟩ := h1
  obtain ⟨A2, c2, rfl, _⟩ := h2
  clear hg hh
  generalize gmB gs hs = gb at *
  go_enter Try.func31, Try.ntmps31
  go_wp2_with fail
  generalize (w.alloc (.cells #[.slice A1 gs.length c1] 24)).alloc (.cells #[.slice A2 hs.length c2] 24) = w1 at *
  go_wp2_with fail
  refine (HS.out _ HB.out).mono ?_
  rintro e w2 ⟨rfl, b2⟩
  have HB2 := (show Hid (Below w.heap.size w w2) from HB.out.trans (b2.mono HB.out.size))
  clear b2 HS HB q1 q2
  go_wp2_with fail
  go_ret
  exact ⟨rfl, HB2.out⟩
end Go.Proofs.Ytppggnmlbcdegaa.N
