/- DERIVED. Walks: spans, shapes and patterns compared; patterns spoilt. -/
import Derived.Test.YtiillgahnbimjaaDoorPnA
import Derived.Test.YtiillgahnbimjaaDoorRsA
import Derived.Laws.OwnMore
import Derived.BigQuiet
namespace Go.Proofs.YtiillgahnbimjaaDoor
open Go.RowKit

theorem spl_below {W W' : World} {g off B : Nat} {s : Shape} (h : SpL W g off s) (hb : Below B W W') (hg : g < B) : SpL W' g off s := fun j p hp =>
  ⟨(hb.cell (p := ⟨g, off + j * 2, none⟩) hg).trans (h j p hp).1, (hb.cell (p := ⟨g, off + j * 2 + 1, none⟩) hg).trans (h j p hp).2⟩

set_option maxRecDepth 100000 in
set_option maxHeartbeats 4000000 in
theorem sameSpans_any (g1 g2 c1 c2 : Nat) (s : Shape) (hs : s.length ≤ 1000000) (w : World) (l1 : g1 < w.heap.size) (l2 : g2 < w.heap.size) (h1 : SpL w g1 0 s) (h2 : SpL w g2 0 s) :
    Calls Tryd.prog 28 #[.slice (some ⟨g1, 0, none⟩) s.length c1, .slice (some ⟨g2, 0, none⟩) s.length c2] w fun e w' => e = .returned (.bool true) ∧ Below w.heap.size w w' := by
  have H1 := (show Hid _ from h1)
  have H2 := (show Hid _ from h2)
  have HG := (show Hid (∀ k, k < s.length → ∃ r, s[k]? = some r) from fun k hk => ⟨_, List.getElem?_eq_getElem hk⟩)
  clear h1 h2
  go_enter Tryd.func28, Tryd.ntmps28
  go_wp2_with fail
  go_loopw [5] (fun t wr => ∃ k : Nat, k ≤ s.length ∧ t = .int .i64 k ∧ Hid (Below w.heap.size w wr)) (fun t _ => s.length - (intOf t).toNat)
  case atStart => exact ⟨0, by omega, by go_num, Below.refl _ _⟩
  case round =>
    obtain ⟨k, hk, rfl, HW⟩ := hrel
    by_cases hlt : k < s.length
    · obtain ⟨⟨p, q⟩, hr⟩ := HG.out k hlt
      obtain ⟨e1, e2⟩ := (spl_below H1.out HW.out l1) k _ hr
      obtain ⟨e3, e4⟩ := (spl_below H2.out HW.out l2) k _ hr
      dsimp only at e1 e2 e3 e4
      rw [Nat.zero_add] at e1 e2 e3 e4
      have z0 : (0 : Int) ≤ (k : Int) := by omega
      have z1 : (k : Int) < (s.length : Int) := by omega
      clear hr HG H1 H2
      generalize s.length = n at *
      go_wp2_with fail
      go_quiet (fail)
      have HW2 := (show Hid (Below w.heap.size w (wr.drewN nq)) from HW.out.trans (below_drewN (Below.refl _ _) _))
      generalize wr.drewN nq = w2 at *
      clear e1 e2 e3 e4 HW
      go_wp2
      go_roundw
      case rel => exact ⟨k + 1, by omega, by go_num, HW2⟩
      case measure => simp [intOf]; omega
    · obtain rfl : k = s.length := by omega
      clear HG H1 H2
      go_wp2
      go_ret
      exact ⟨rfl, HW.out⟩

theorem RR.val {W : World} {B : Nat} {v : Value} {ss : List Shape} {xs : List Value} (h : RR W B v ss xs) : ∃ A c, v = .slice A ss.length c := by
  have hlx := h.len
  rcases h.o.2 with ⟨rfl, h0⟩ | ⟨g, cap, cur, rfl, _⟩
  · exact ⟨none, 0, by rw [← hlx, h0]⟩
  · exact ⟨_, _, by rw [hlx]⟩

set_option maxRecDepth 100000 in
set_option maxHeartbeats 4000000 in
theorem same_any (A1 A2 : Option Addr) (c1 c2 B1 B2 : Nat) (ss : List Shape) (xs1 xs2 : List Value) (hl : ss.length ≤ 4000000) (h4 : ∀ s ∈ ss, s.length ≤ 1000000) (w : World) (h1 : RR w B1 (.slice A1 ss.length c1) ss xs1) (h2 : RR w B2 (.slice A2 ss.length c2) ss xs2) :
    Calls Tryd.prog 26 #[.slice A1 ss.length c1, .slice A2 ss.length c2] w fun e w' => e = .returned (.bool true) ∧ Below w.heap.size w w' := by
  have H1 := (show Hid _ from h1)
  have H2 := (show Hid _ from h2)
  have HG := (show Hid (∀ k, k < ss.length → ∃ r, ss[k]? = some r ∧ r.length ≤ 1000000) from fun k hk => ⟨_, List.getElem?_eq_getElem hk, h4 _ (List.getElem_mem hk)⟩)
  clear h1 h2 h4
  go_enter Tryd.func26, Tryd.ntmps26
  go_wp2_with fail
  go_loopw [5] (fun t wr => ∃ k : Nat, k ≤ ss.length ∧ t = .int .i64 k ∧ Hid (Below w.heap.size w wr)) (fun t _ => ss.length - (intOf t).toNat)
  case atStart => exact ⟨0, by omega, by go_num, Below.refl _ _⟩
  case round =>
    obtain ⟨k, hk, rfl, HW⟩ := hrel
    by_cases hlt : k < ss.length
    · obtain ⟨s, hs, hs4⟩ := HG.out k hlt
      obtain ⟨g1, cap1, gx1, cx1, hA1, hl1, _, hc1, hx1, hp1⟩ := (H1.out.below HW.out).get hs
      obtain ⟨g2, cap2, gx2, cx2, hA2, hl2, _, hc2, hx2, hp2⟩ := (H2.out.below HW.out).get hs
      cases hA1
      cases hA2
      have HS : Hid (∀ W, Below wr.heap.size wr W → Calls Tryd.prog 28 #[.slice (some ⟨gx1, 0, none⟩) s.length cx1, .slice (some ⟨gx2, 0, none⟩) s.length cx2] W fun e w' => e = .returned (.bool true) ∧ Below W.heap.size W w') := fun W hb => sameSpans_any gx1 gx2 cx1 cx2 s hs4 W (Nat.lt_of_lt_of_le hx1 hb.size) (Nat.lt_of_lt_of_le hx2 hb.size) (spl_below hp1 hb hx1) (spl_below hp2 hb hx2)
      have HK := (show Hid (∀ W, Below wr.heap.size wr W → W.cell? ⟨g1, k, none⟩ = some (.slice (some ⟨gx1, 0, none⟩) s.length cx1) ∧ W.cell? ⟨g2, k, none⟩ = some (.slice (some ⟨gx2, 0, none⟩) s.length cx2)) from fun W hb => ⟨(hb.cell (p := ⟨g1, k, none⟩) hl1).trans hc1, (hb.cell (p := ⟨g2, k, none⟩) hl2).trans hc2⟩)
      have z0 : (0 : Int) ≤ (k : Int) := by omega
      have z1 : (k : Int) < (ss.length : Int) := by omega
      clear hs HG H1 H2 hp1 hp2
      generalize ss.length = n at *
      generalize s.length = m at *
      go_wp2_with fail
      go_region_held3 (fun W => W.cell? ⟨g1, k, none⟩ = some (.slice (some ⟨gx1, 0, none⟩) m cx1) ∧ W.cell? ⟨g2, k, none⟩ = some (.slice (some ⟨gx2, 0, none⟩) m cx2))
        (first | go_keep | exact HK.out _ (drew_in hbA))
        ((go_at_call 28; with_reducible refine (HS.out _ ((Below.refl _ _).drew)).mono ?_; rintro e wA ⟨rfl, hbA⟩))
      all_goals
        have HW2 := (show Hid (Below w.heap.size w wA) from HW.out.trans ((drew_in hbA).mono HW.out.size))
        clear hbA HW HK HS hc1 hc2
        go_wp2
        go_roundw
        case rel => exact ⟨k + 1, by omega, by go_num, HW2⟩
        case measure => simp [intOf]; omega
    · obtain rfl : k = ss.length := by omega
      clear HG H1 H2
      go_wp2
      go_ret
      exact ⟨rfl, HW.out⟩

/-- The cells of a pattern. -/
def NdL (W : World) (g : Nat) (L : List Nd) : Prop := ∀ (j : Nat) n, L[j]? = some n → W.cell? ⟨g, j * 7, none⟩ = some (.int .i64 n.1) ∧ W.cell? ⟨g, j * 7 + 1, none⟩ = some (.int .i64 0) ∧ W.cell? ⟨g, j * 7 + 2, none⟩ = some (.string ⟨#[]⟩) ∧
  W.cell? ⟨g, j * 7 + 3, none⟩ = some (.int .u64 (wd n.2 0)) ∧ W.cell? ⟨g, j * 7 + 4, none⟩ = some (.int .u64 (wd n.2 1)) ∧ W.cell? ⟨g, j * 7 + 5, none⟩ = some (.int .u64 (wd n.2 2)) ∧ W.cell? ⟨g, j * 7 + 6, none⟩ = some (.int .u64 (wd n.2 3))
theorem ndc_get (L : List Nd) (j : Nat) (n : Nd) (h : L[j]? = some n) : ∀ i, i < 7 → (ndc L)[j * 7 + i]? = (ndV n)[i]? := by
  induction L generalizing j with
  | nil => cases h
  | cons a L ih =>
    intro i hi
    have e : ndc (a :: L) = ndV a ++ ndc L := rfl
    rw [e]
    cases j with
    | zero =>
      cases h
      rw [Nat.zero_mul, Nat.zero_add, List.getElem?_append_left (by show i < 7; exact hi)]
    | succ j =>
      have h2 : L[j]? = some n := by simpa using h
      have e7 : (ndV a).length = 7 := rfl
      rw [List.getElem?_append_right (by rw [e7]; omega), e7, show (j + 1) * 7 + i - 7 = j * 7 + i from by omega]
      exact ih j h2 i hi
theorem own_ndl {W : World} {B g n cap : Nat} {L : List Nd} (h : W.ownsRow B 80 7 (.slice (some ⟨g, 0, none⟩) n cap) L.length (ndc L)) : NdL W g L := fun j nd hj => by
  have hc := h.cells (g := g) rfl
  have key : ∀ i u, i < 7 → (ndV nd)[i]? = some u → W.cell? ⟨g, j * 7 + i, none⟩ = some u := fun i u hi hu => by
    have := hc (j * 7 + i) u (by rw [ndc_get L j nd hj i hi]; exact hu)
    rwa [Addr.add_lit, Nat.zero_add] at this
  exact ⟨key 0 _ (by omega) rfl, key 1 _ (by omega) rfl, key 2 _ (by omega) rfl, key 3 _ (by omega) rfl, key 4 _ (by omega) rfl, key 5 _ (by omega) rfl, key 6 _ (by omega) rfl⟩
/-- A pattern that can be read. -/
def RdN (W : World) (A : Option Addr) (L : List Nd) : Prop := L ≠ [] → ∃ g, A = some ⟨g, 0, none⟩ ∧ g < W.heap.size ∧ NdL W g L
theorem own_rdn {W : World} {B n : Nat} {v : Value} {L : List Nd} (h : W.ownsRow B 80 7 v n (ndc L)) (hn : n = L.length) : ∃ A c, v = .slice A L.length c ∧ RdN W A L := by
  subst hn
  have hc := h
  rcases h.2 with ⟨rfl, h0⟩ | ⟨g, cap, cur, rfl, _⟩
  · exact ⟨none, 0, by rw [h0], fun hl => absurd (List.eq_nil_of_length_eq_zero h0) hl⟩
  · exact ⟨_, cap, rfl, fun _ => ⟨g, rfl, (hc.lt g rfl).2, own_ndl hc⟩⟩
theorem ndl_below {W W' : World} {g B : Nat} {L : List Nd} (h : NdL W g L) (hb : Below B W W') (hg : g < B) : NdL W' g L := fun j n hj => by
  obtain ⟨h0, h1, h2, h3, h4, h5, h6⟩ := h j n hj
  exact ⟨(hb.cell (p := ⟨g, j * 7, none⟩) hg).trans h0, (hb.cell (p := ⟨g, j * 7 + 1, none⟩) hg).trans h1, (hb.cell (p := ⟨g, j * 7 + 2, none⟩) hg).trans h2, (hb.cell (p := ⟨g, j * 7 + 3, none⟩) hg).trans h3, (hb.cell (p := ⟨g, j * 7 + 4, none⟩) hg).trans h4, (hb.cell (p := ⟨g, j * 7 + 5, none⟩) hg).trans h5, (hb.cell (p := ⟨g, j * 7 + 6, none⟩) hg).trans h6⟩

theorem eq78 (a b c d : Int) (w : World) : (Op.equalIn 9999 78 (.agg #[.int .u64 a, .int .u64 b, .int .u64 c, .int .u64 d]) (.agg #[.int .u64 a, .int .u64 b, .int .u64 c, .int .u64 d])).run Tryd.prog w = .ok true w := by
  have u3 := Tryd.underlying76
  have a3 := Tryd.isAgg76
  have z3 := Tryd.sizeOf76
  rw [show (9999 : Nat) = 9998 + 1 from rfl, Op.equalIn]
  simp only [Sem.run_bind, run_underlying Tryd.underlying78, Result.andThen_ok]
  simp only [Std.Legacy.Range.forIn_eq_forIn_range', Std.Legacy.Range.size, Nat.sub_zero, Nat.add_sub_cancel, Nat.div_one, List.range'_succ, List.range'_zero, List.forIn_cons, List.forIn_nil]
  go_simp
set_option maxRecDepth 100000 in
theorem node_neq (op x0 x1 x2 x3 : Int) (W : World) : (binOp .neq 80 (.agg #[.int .i64 op, .int .i64 0, .string ⟨#[]⟩, .int .u64 x0, .int .u64 x1, .int .u64 x2, .int .u64 x3]) (.agg #[.int .i64 op, .int .i64 0, .string ⟨#[]⟩, .int .u64 x0, .int .u64 x1, .int .u64 x2, .int .u64 x3])).run Tryd.prog W = .ok (.bool false) W := by
  have hp : Tryd.prog.stoodInHeld 80 = false := by kernel_rfl
  simp [go_sem, Tryd.underlying80, Tryd.underlying3, Tryd.underlying9, Tryd.isAgg78, Tryd.isAgg3, Tryd.isAgg9, Tryd.sizeOf78, hp, eq78]

set_option maxRecDepth 100000 in
set_option maxHeartbeats 8000000 in
theorem samePattern_any (A1 A2 : Option Addr) (c1 c2 : Nat) (L : List Nd) (hl : L.length ≤ 20000000) (w : World) (h1 : RdN w A1 L) (h2 : RdN w A2 L) :
    Calls Tryd.prog 27 #[.slice A1 L.length c1, .slice A2 L.length c2] w fun e w' => e = .returned (.bool true) ∧ Below w.heap.size w w' := by
  have H1 := (show Hid _ from h1)
  have H2 := (show Hid _ from h2)
  have HG := (show Hid (∀ k, k < L.length → ∃ r, L[k]? = some r ∧ L ≠ []) from fun k hk => ⟨_, List.getElem?_eq_getElem hk, by rintro rfl; simp at hk⟩)
  clear h1 h2
  go_enter Tryd.func27, Tryd.ntmps27
  go_wp2_with fail
  go_loopw [5] (fun t wr => ∃ k : Nat, k ≤ L.length ∧ t = .int .i64 k ∧ Hid (Below w.heap.size w wr)) (fun t _ => L.length - (intOf t).toNat)
  case atStart => exact ⟨0, by omega, by go_num, Below.refl _ _⟩
  case round =>
    obtain ⟨k, hk, rfl, HW⟩ := hrel
    by_cases hlt : k < L.length
    · obtain ⟨⟨op, x⟩, hr, hne⟩ := HG.out k hlt
      obtain ⟨g1, rfl, l1, n1⟩ := H1.out hne
      obtain ⟨g2, rfl, l2, n2⟩ := H2.out hne
      obtain ⟨a0, a1, a2, a3, a4, a5, a6⟩ := (ndl_below n1 HW.out l1) k _ hr
      obtain ⟨d0, d1, d2, d3, d4, d5, d6⟩ := (ndl_below n2 HW.out l2) k _ hr
      dsimp only at a0 a3 a4 a5 a6 d0 d3 d4 d5 d6
      have z0 : (0 : Int) ≤ (k : Int) := by omega
      have z1 : (k : Int) < (L.length : Int) := by omega
      clear hr HG H1 H2 n1 n2 hne
      generalize wd x 0 = x0 at *
      generalize wd x 1 = x1 at *
      generalize wd x 2 = x2 at *
      generalize wd x 3 = x3 at *
      generalize L.length = n at *
      have hneq := node_neq op x0 x1 x2 x3
      go_wp2_with fail
      go_quiet (fail)
      have HW2 := (show Hid (Below w.heap.size w (wr.drewN nq)) from HW.out.trans (below_drewN (Below.refl _ _) _))
      generalize wr.drewN nq = w2 at *
      clear hneq a0 a1 a2 a3 a4 a5 a6 d0 d1 d2 d3 d4 d5 d6 HW
      go_wp2
      go_roundw
      case rel => exact ⟨k + 1, by omega, by go_num, HW2⟩
      case measure => simp [intOf]; omega
    · obtain rfl : k = L.length := by omega
      clear HG H1 H2
      go_wp2
      go_ret
      exact ⟨rfl, HW.out⟩
/-- Seven cells of a row that the call owns are written anew. -/
theorem stored7 {W : World} {B g n cap : Nat} {xs : List Value} (h : W.ownsRow B 80 7 (.slice (some ⟨g, 0, none⟩) n cap) n xs) (o : Nat) (a0 a1 a2 a3 a4 a5 a6 : Value) :
    ∃ ys, (((((((W.setCell ⟨g, o, none⟩ a0).setCell ⟨g, o + 1, none⟩ a1).setCell ⟨g, o + 2, none⟩ a2).setCell ⟨g, o + 3, none⟩ a3).setCell ⟨g, o + 4, none⟩ a4).setCell ⟨g, o + 5, none⟩ a5).setCell ⟨g, o + 6, none⟩ a6).ownsRow B 80 7 (.slice (some ⟨g, 0, none⟩) n cap) n ys ∧
      W.grownBy (((((((W.setCell ⟨g, o, none⟩ a0).setCell ⟨g, o + 1, none⟩ a1).setCell ⟨g, o + 2, none⟩ a2).setCell ⟨g, o + 3, none⟩ a3).setCell ⟨g, o + 4, none⟩ a4).setCell ⟨g, o + 5, none⟩ a5).setCell ⟨g, o + 6, none⟩ a6) (some g) := by
  obtain ⟨s0, g0⟩ := h.stored o a0
  obtain ⟨s1, g1⟩ := s0.stored (o + 1) a1
  obtain ⟨s2, g2⟩ := s1.stored (o + 2) a2
  obtain ⟨s3, g3⟩ := s2.stored (o + 3) a3
  obtain ⟨s4, g4⟩ := s3.stored (o + 4) a4
  obtain ⟨s5, g5⟩ := s4.stored (o + 5) a5
  obtain ⟨s6, g6⟩ := s5.stored (o + 6) a6
  exact ⟨_, s6, ((((((g0.trans g1).trans g2).trans g3).trans g4).trans g5).trans g6)⟩

set_option maxRecDepth 100000 in
set_option maxHeartbeats 8000000 in
theorem spoilPattern_any (v : Value) (n B : Nat) (xs : List Value) (w : World) (h : w.ownsRow B 80 7 v n xs) (hB : B ≤ w.heap.size) (hn : n ≤ 20000000) :
    Calls Tryd.prog 29 #[v, .int .i64 (-7)] w fun e w' => (∃ u, e = .returned u) ∧ w.grownBy w' v.ownBlock := by
  obtain ⟨i0, hinf, hz0, hz1, hz2⟩ := info_parts Tryd.info80
  obtain ⟨A, c, rfl⟩ : ∃ A c, v = .slice A n c := by
    rcases h.2 with ⟨rfl, h0⟩ | ⟨g, cap, cur, rfl, _⟩
    · exact ⟨none, 0, by rw [h0]⟩
    · exact ⟨_, _, rfl⟩
  have HA := (show Hid (∃ ys, w.ownsRow B 80 7 (.slice A n c) n ys) from ⟨xs, h⟩)
  have HX := (show Hid (0 < n → ∃ g, A = some ⟨g, 0, none⟩) from fun h0 => by
    obtain ⟨g, cap, e, _⟩ := h.form h0
    cases e
    exact ⟨g, rfl⟩)
  clear h
  go_enter Tryd.func29, Tryd.ntmps29
  go_wp2_with fail
  go_loopw [4] (fun t wr => ∃ k : Nat, k ≤ n ∧ t = .int .i64 k ∧ Hid (∃ ys, wr.ownsRow B 80 7 (.slice A n c) n ys) ∧ Hid (w.grownBy wr (Value.slice A n c).ownBlock)) (fun t _ => n - (intOf t).toNat)
  case atStart => exact ⟨0, by omega, by go_num, HA, World.grownBy.refl _ _⟩
  case round =>
    obtain ⟨k, hk, rfl, HO, HW⟩ := hrel
    clear HA
    by_cases hlt : k < n
    · obtain ⟨g, rfl⟩ := HX.out (by omega)
      obtain ⟨ys, ho⟩ := HO.out
      have hyl : ys.length = n * 7 := ho.1
      have key : ∀ i, i < 7 → ∃ y, wr.cell? ⟨g, k * 7 + i, none⟩ = some y := fun i hi => by
        have hcl := ho.cells (g := g) rfl (k * 7 + i) _ (List.getElem?_eq_getElem (by omega))
        rw [Addr.add_lit, Nat.zero_add] at hcl
        exact ⟨_, hcl⟩
      obtain ⟨y0, c0⟩ := key 0 (by omega)
      obtain ⟨y1, c1⟩ := key 1 (by omega)
      obtain ⟨y2, c2⟩ := key 2 (by omega)
      obtain ⟨y3, c3⟩ := key 3 (by omega)
      obtain ⟨y4, c4⟩ := key 4 (by omega)
      obtain ⟨y5, c5⟩ := key 5 (by omega)
      obtain ⟨y6, c6⟩ := key 6 (by omega)
      rw [Nat.add_zero] at c0
      have f0 := ho.frozenAt (k * 7)
      have f1 := ho.frozenAt (k * 7 + 1)
      have f2 := ho.frozenAt (k * 7 + 2)
      have f3 := ho.frozenAt (k * 7 + 3)
      have f4 := ho.frozenAt (k * 7 + 4)
      have f5 := ho.frozenAt (k * 7 + 5)
      have f6 := ho.frozenAt (k * 7 + 6)
      obtain ⟨zs, st1, st2⟩ := stored7 ho (k * 7) (.int .i64 (-7)) (.int .i64 0) (.string ⟨#[]⟩) (.int .u64 0) (.int .u64 0) (.int .u64 0) (.int .u64 0)
      have HO2 := (show Hid (∃ ys, _) from ⟨_, st1⟩)
      have HW2 := (show Hid _ from HW.out.trans st2)
      have z0 : (0 : Int) ≤ (k : Int) := by omega
      have z1 : (k : Int) < (n : Int) := by omega
      clear HO HW st1 st2 ho hyl HX key
      go_wp2
      go_roundw
      case rel => exact ⟨k + 1, by omega, by go_num, HO2, HW2⟩
      case measure => simp [intOf]; omega
    · obtain rfl : k = n := by omega
      obtain ⟨ys, hO1⟩ := HO.out
      have hsz := HW.out.size
      clear HX
      go_wp2_with (at_builtin; refine wpList_append_own _ rfl _ _ 47 rfl B 80 i0 (.agg #[.int .i64 0, .int .i64 0, .string ⟨#[]⟩, .int .u64 0, .int .u64 0, .int .u64 0, .int .u64 0]) 7 64 Tryd.underlying47 hinf hz0 hz1 hz2 rfl (by decide) _ _ _ rfl (hO1.alloc _) ⟨wr.heap.size, 0, none⟩ 1 1 (ndZ (-7)).toList rfl rfl (news_one wr (ndZ (-7))) (by rw [ndZ_eq]; exact nd_one _) ?c3 ?c4 ?c5 ?_)
      case c3 => unfold maxLen; omega
      case c4 => omega
      case c5 => simp; omega
      intro v' w3 hown' hgrow _
      have HG := (show Hid _ from HW.out.trans ((World.grownBy_alloc wr (.cells (ndZ (-7)) 80) _).trans hgrow))
      clear hown' hgrow hO1 HO HW
      go_wp2
      go_end0
      exact ⟨⟨_, rfl⟩, HG.out⟩
end Go.Proofs.YtiillgahnbimjaaDoor
