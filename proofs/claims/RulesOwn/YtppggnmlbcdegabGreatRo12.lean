/- DERIVED. Plain mathematics and walks, laid together (12). -/
import Derived.Test.YtppggnmlbcdegabGreatRo11
namespace Go.Proofs.YtppggnmlbcdegabGreat.N
open Go.RowKit Go.Maps
open Go.Proofs.YtppggnmlbcdegabGreat.T

open U (nI own_get own_slice wpList_app1 below_grown TT Out info_split)
/-- A table of truth values that is read. -/
structure WyR (w : World) (gs : GL) (v : Value) (M : List (List Bool)) (xs : List Value) (N : Nat) : Prop where
  t : TT w N 73 4 v (bM M) xs
  b : Tb gs.length M
theorem WyR.form {w : World} {gs : GL} {v : Value} {M : List (List Bool)} {xs : List Value} {N : Nat} (h : WyR w gs v M xs N) : ∃ A c, v = .slice A gs.length c := by
  have hlx : xs.length = gs.length := h.t.len.trans ((bM_len M).trans h.b.len)
  obtain ⟨A, c, e⟩ := own_slice h.t.o
  rw [hlx] at e
  exact ⟨A, c, e⟩
theorem WyR.get {w wr : World} {gs : GL} {A : Option Addr} {cv N : Nat} {M : List (List Bool)} {xs : List Value} (h : WyR w gs (.slice A gs.length cv) M xs N) (hb : Below w.heap.size w wr) {i k : Nat} (hi : i < gs.length) (hk : k < gs.length) : ∃ g0 gi ci, A = some ⟨g0, 0, none⟩ ∧ xs[i]? = some (.slice (some ⟨gi, 0, none⟩) gs.length ci) ∧ wr.cell? ⟨g0, i, none⟩ = some (.slice (some ⟨gi, 0, none⟩) gs.length ci) ∧ wr.cell? ⟨gi, k, none⟩ = some (.bool (tb M i k)) := by
  obtain ⟨l, hl, hll⟩ := h.b.at' hi
  obtain ⟨x, r, hx, hr, ho⟩ := h.t.at' (i := i) (by rw [bM_len, h.b.len]; exact hi)
  rw [bM_get hl] at hr
  cases hr
  rw [List.length_map, hll] at ho
  obtain ⟨g1, c1, e1, _, lt1, x1, f1⟩ := own_get ho (j := k) (x := .bool (tb M i k)) (by
    rw [List.getElem?_map, tb_of hl, List.getElem?_eq_getElem (by omega)]; rfl)
  subst e1
  obtain ⟨g2, c2, e2, _, lt2, x2, _⟩ := own_get h.t.o hx
  have e3 : A = some ⟨g2, 0, none⟩ := by injection e2
  exact ⟨g2, g1, c1, e3, hx, (hb.cell (p := ⟨g2, i, none⟩) lt2).trans x2, (hb.cell (p := ⟨g1, k, none⟩) lt1).trans x1⟩
/-- While the ways are found. -/
structure WaS (w wr : World) (gs : GL) (v : Value) (M : List (List Bool)) (xs : List Value) : Prop where
  b : Below w.heap.size w wr
  t : TT wr w.heap.size 73 4 v (bM M) xs
  r : ∀ l ∈ M, l.length = gs.length
  i : ∀ (i : Nat) l, M[i]? = some l → ∀ j, l[j]? = some true ↔ Rc gs.length (cG gs) i j
theorem WaS.push {w wr w4 w5 : World} {gs : GL} {v u : Value} {k g3 cap3 : Nat} {M : List (List Bool)} {xs : List Value} {l : List Bool} (h : WaS w wr gs v M xs) (hx : xs.length = k) (b4 : Below wr.heap.size wr w4) (hl : l.length = gs.length) (hm : ∀ j, l[j]? = some true ↔ Rc gs.length (cG gs) k j) (ho4 : w4.ownsRow wr.heap.size 4 1 u gs.length (l.map Value.bool))
    (ho : w5.ownsRow w.heap.size 73 1 (.slice (some ⟨g3, 0, none⟩) (k + 1) cap3) (k + 1) (xs ++ [u])) (hg : w4.grownBy w5 v.ownBlock) (hat : v.ownBlock = some g3 ∨ g3 = w4.heap.size + 1) : WaS w w5 gs (.slice (some ⟨g3, 0, none⟩) (k + 1) cap3) (M ++ [l]) (xs ++ [u]) := by
  have hb4 : Below w.heap.size w w4 := h.b.trans (b4.mono h.b.size)
  have ht4 := h.t.below b4
  have hML : M.length = k := by have := h.t.len; rw [bM_len] at this; omega
  refine ⟨below_grown hb4 hg (fun j e => (ht4.o.lt j e).1), ?_, fun x hx => ?_, fun i x hi => ?_⟩
  · rw [bM_app]
    have ho' := ho
    rw [← hx] at ho' ⊢
    refine ht4.push (y := u) ?_ (fun j e => ?_) ho' hg (fun j e => ?_)
    · rw [List.length_map, hl]; exact U.own_base ho4 h.b.size
    · have := (ho4.lt j e).1
      exact h.t.new this
    · have e : g3 = j := Option.some.inj e
      subst e
      rcases hat with q | q
      · exact .inl q
      · exact .inr (by omega)
  · rcases List.mem_append.1 hx with q | q
    · exact h.r x q
    · rw [List.mem_singleton.1 q]; exact hl
  · by_cases q : i < M.length
    · rw [List.getElem?_append_left q] at hi; exact h.i i x hi
    · rw [List.getElem?_append_right (by omega)] at hi
      have hi0 : i - M.length = 0 := by
        by_cases q2 : i - M.length = 0
        · exact q2
        · rw [List.getElem?_eq_none (by simp; omega)] at hi; cases hi
      rw [hi0] at hi
      cases hi
      have : i = k := by omega
      rw [this]; exact hm
set_option maxRecDepth 100000 in
set_option maxHeartbeats 8000000 in
theorem ways_any {gs : GL} (hR : RtG gs) {N : Nat} {v : Value} {ys : List Value} (w : World) (hT : TT w N 36 3 v (ntM gs) ys) :
    Calls Tryz.prog 28 #[v] w fun e w' => (∃ u xs M, e = .returned u ∧ WyR w' gs u M xs w.heap.size ∧ IsR gs.length (cG gs) (tb M)) ∧ Below w.heap.size w w' := by
  have hn := hR.n2
  have hly : ys.length = gs.length := hT.len.trans (ntM_len gs)
  obtain ⟨Av, cv, hv⟩ := own_slice hT.o
  rw [hly] at hv
  subst hv
  have HS := (show Hid (WaS w w gs (.slice none 0 0) [] []) from ⟨Below.refl _ _, TT.nil _ _ _ _, (fun l h => by cases h), fun i l h => by simp at h⟩)
  have HC := (show Hid (∀ (k : Nat) (wr : World), k < gs.length → Below w.heap.size w wr → Calls Tryz.prog 31 #[.slice Av gs.length cv, .int .i64 (k : Int)] wr fun e w' => CmV wr w' gs k e ∧ Below wr.heap.size wr w') from fun k wr hk hb => comesTo_any hR hk wr (hT.below hb))
  clear hT hR hly
  go_enter Tryz.func28, Tryz.ntmps28
  go_wp2_with fail
  go_loopw [3, 7] (fun u t wr => ∃ (k : Nat) (M : List (List Bool)) (xs : List Value) (A2 : Option Addr) (c2 : Nat), k ≤ gs.length ∧ t = .int .i64 (k : Int) ∧ u = .slice A2 k c2 ∧ Hid (xs.length = k) ∧ Hid (WaS w wr gs (.slice A2 k c2) M xs)) (fun _ t _ => gs.length - (intOf t).toNat)
  case atStart => exact ⟨0, [], [], none, 0, by omega, by go_num, rfl, rfl, HS⟩
  case round =>
    obtain ⟨k, M, xs, A2, c2, hk, rfl, rfl, HL, HW⟩ := hrel
    clear HS
    by_cases hlt : k < gs.length
    · have HC2 := (show Hid (∀ _ : Unit, Calls Tryz.prog 31 #[.slice Av gs.length cv, .int .i64 (k : Int)] wr fun e w' => CmV wr w' gs k e ∧ Below wr.heap.size wr w') from fun _ => HC.out k wr hlt HW.out.b)
      clear HC
      go_wp2_with fail
      refine (HC2.out ()).mono ?_
      rintro e w4 ⟨⟨u, l, rfl, hl, hm, ho4, _⟩, b4⟩
      obtain ⟨A4, c4, rfl⟩ := own_slice ho4
      have HO := (show Hid (w4.ownsRow w.heap.size 73 1 (.slice A2 k c2) k xs) from by have h := (HW.out.t.below b4).o; rw [HL.out] at h; exact h)
      have HBw := (show Hid (w.heap.size ≤ w4.heap.size) from Nat.le_trans HW.out.b.size b4.size)
      have HPu := (show Hid (∀ (g3 cap3 : Nat) (w5 : World), w5.ownsRow w.heap.size 73 1 (.slice (some ⟨g3, 0, none⟩) (k + 1) cap3) (k + 1) (xs ++ [.slice A4 gs.length c4]) → w4.grownBy w5 (Value.slice A2 k c2).ownBlock → ((Value.slice A2 k c2).ownBlock = some g3 ∨ g3 = w4.heap.size + 1) → WaS w w5 gs (.slice (some ⟨g3, 0, none⟩) (k + 1) cap3) (M ++ [l]) (xs ++ [.slice A4 gs.length c4])) from fun g3 cap3 w5 h1 h2 h3 => HW.out.push HL.out b4 hl hm ho4 h1 h2 h3)
      have HL2 := (show Hid ((xs ++ [Value.slice A4 gs.length c4]).length = k + 1) from by show _ = _; rw [List.length_append, HL.out]; rfl)
      clear HC2 hl hm ho4 b4 HW HL
      go_wp2_with (at_builtin; refine wpList_app1 rfl _ _ 69 rfl (.slice none 0 0) 24 Tryz.underlying69 Tryz.info45 rfl w.heap.size k _ xs rfl rfl HO.out rfl (by omega) (by decide) HBw.out ?_; intro g3 cap3 w5 ho5 hg5 hat5 hl5; have HW5 := (show Hid (WaS w w5 gs (.slice (some ⟨g3, 0, none⟩) (k + 1) cap3) (M ++ [l]) (xs ++ [.slice A4 gs.length c4])) from HPu.out g3 cap3 w5 ho5 hg5 hat5); clear ho5 hg5 hat5 hl5 HPu HO HBw)
      go_roundw
      case rel => exact ⟨k + 1, M ++ [l], xs ++ [.slice A4 gs.length c4], some ⟨g3, 0, none⟩, cap3, by omega, by go_num, rfl, HL2, HW5⟩
      case measure => simp [intOf]; omega
    · obtain rfl : k = gs.length := by omega
      have hML : M.length = gs.length := by have := HW.out.t.len; rw [bM_len, HL.out] at this; omega
      have HF := (show Hid (WyR wr gs (.slice A2 gs.length c2) M xs w.heap.size ∧ IsR gs.length (cG gs) (tb M)) from by
        have hTb : Tb gs.length M := ⟨hML, HW.out.r⟩
        refine ⟨⟨HW.out.t, hTb⟩, ⟨fun i j q => cG_lt q, fun i j hi hj => ?_⟩⟩
        obtain ⟨l, hl, hll⟩ := hTb.at' hi
        rw [← HW.out.i i l hl j, tb_of hl, List.getElem?_eq_getElem (by omega)]
        simp)
      have HB := (show Hid (Below w.heap.size w wr) from HW.out.b)
      clear HW HL HC hML
      go_wp2_with fail
      go_ret
      exact ⟨⟨_, xs, M, rfl, HF.out.1, HF.out.2⟩, HB.out⟩
end Go.Proofs.YtppggnmlbcdegabGreat.N

namespace Go.Proofs.YtppggnmlbcdegabGreat.N
open Go.RowKit Go.Maps
open Go.Proofs.YtppggnmlbcdegabGreat.T

open U (nI own_get own_slice wpList_app1 below_grown TT Out info_split)
/-- Free, by the marks of what is told. -/
def fP (n : Nat) (M : List (List Bool)) (tl : List Bool) (r : Nat) : Bool := (List.range n).all fun k => !(tb M r k) || (tl[k]?).getD false || tb M k r
theorem fP_t {n : Nat} {M : List (List Bool)} {tl : List Bool} {r : Nat} (h : ∀ k, k < n → tb M r k = true → (tl[k]?).getD false = true ∨ tb M k r = true) : fP n M tl r = true := by
  unfold fP
  rw [List.all_eq_true]
  intro k hk
  rw [Bool.or_eq_true, Bool.or_eq_true]
  cases q : tb M r k
  · exact .inl (.inl rfl)
  · rcases h k (List.mem_range.1 hk) q with e | e
    · exact .inl (.inr e)
    · exact .inr e
theorem fP_f {n : Nat} {M : List (List Bool)} {tl : List Bool} {r k : Nat} (hk : k < n) (h1 : tb M r k = true) (h2 : (tl[k]?).getD false = false) (h3 : tb M k r = false) : fP n M tl r = false := by
  unfold fP
  rw [List.all_eq_false]
  exact ⟨k, List.mem_range.2 hk, by rw [h1, h2, h3]; decide⟩
def nF (n : Nat) (M : List (List Bool)) (tl : List Bool) : Nat := ((List.range n).find? fun r => !((tl[r]?).getD false) && fP n M tl r).getD n
theorem nF_at {n : Nat} {M : List (List Bool)} {tl : List Bool} {k : Nat} (hk : k < n) (h0 : ∀ j, j < k → (!((tl[j]?).getD false) && fP n M tl j) = false) (h1 : (!((tl[k]?).getD false) && fP n M tl k) = true) : nF n M tl = k := by
  have : (List.range n).find? (fun r => !((tl[r]?).getD false) && fP n M tl r) = some k := by
    rw [List.find?_range_eq_some]
    exact ⟨h1, List.mem_range.2 hk, fun j hj => by rw [h0 j hj]; rfl⟩
  unfold nF
  rw [this]
  rfl
theorem nF_end {n : Nat} {M : List (List Bool)} {tl : List Bool} (h0 : ∀ j, j < n → (!((tl[j]?).getD false) && fP n M tl j) = false) : nF n M tl = n := by
  have : (List.range n).find? (fun r => !((tl[r]?).getD false) && fP n M tl r) = none := by
    rw [List.find?_eq_none]
    intro j hj q
    rw [h0 j (List.mem_range.1 hj)] at q
    cases q
  unfold nF
  rw [this]
  rfl
theorem row_get {w wr : World} {B n : Nat} {A : Option Addr} {c : Nat} {tl : List Bool} (ho : w.ownsRow B 4 1 (.slice A n c) n (tl.map Value.bool)) (hb : Below w.heap.size w wr) {k : Nat} (hk : k < n) : ∃ g, A = some ⟨g, 0, none⟩ ∧ wr.cell? ⟨g, k, none⟩ = some (.bool ((tl[k]?).getD false)) := by
  have hl : tl.length = n := by have := ho.1; rw [List.length_map] at this; omega
  obtain ⟨g, cp, e, _, lt, x, _⟩ := own_get ho (j := k) (x := .bool ((tl[k]?).getD false)) (by rw [List.getElem?_map, List.getElem?_eq_getElem (by omega)]; rfl)
  have e1 : A = some ⟨g, 0, none⟩ := by injection e
  exact ⟨g, e1, (hb.cell (p := ⟨g, k, none⟩) lt).trans x⟩
set_option maxRecDepth 100000 in
set_option maxHeartbeats 8000000 in
theorem isFree_any {gs : GL} {M : List (List Bool)} {tl : List Bool} {v tv : Value} {xs : List Value} {N B r : Nat} (hn : gs.length ≤ 200) (hr : r < gs.length) (w : World) (hW : WyR w gs v M xs N) (ht : w.ownsRow B 4 1 tv gs.length (tl.map Value.bool)) :
    Calls Tryz.prog 64 #[v, .int .i64 (r : Int), tv] w fun e w' => e = .returned (.bool (fP gs.length M tl r)) ∧ w' = w := by
  obtain ⟨A, c, rfl⟩ := hW.form
  obtain ⟨At, ct, rfl⟩ := own_slice ht
  obtain ⟨g0, gr, cr, rfl, hxr, x0, _⟩ := hW.get (Below.refl _ _) hr hr
  have HG := (show Hid (∀ k, k < gs.length → ∃ gk ck gt, w.cell? ⟨gr, k, none⟩ = some (.bool (tb M r k)) ∧ w.cell? ⟨g0, k, none⟩ = some (.slice (some ⟨gk, 0, none⟩) gs.length ck) ∧ w.cell? ⟨gk, r, none⟩ = some (.bool (tb M k r)) ∧ At = some ⟨gt, 0, none⟩ ∧ w.cell? ⟨gt, k, none⟩ = some (.bool ((tl[k]?).getD false))) from fun k hk => by
    obtain ⟨g1, gr1, cr1, e1, hx1, _, y1⟩ := hW.get (Below.refl _ _) hr hk
    rw [hxr] at hx1
    have e2 : gr = gr1 := by have e := Option.some.inj hx1; injection e with e; injection e with e; injection e
    subst e2
    obtain ⟨g2, gk, ck, e3, _, y2, y3⟩ := hW.get (Below.refl _ _) hk hr
    have e4 : g0 = g2 := by injection e3 with e3; injection e3
    subst e4
    obtain ⟨gt, e5, y4⟩ := row_get ht (Below.refl _ _) hk
    exact ⟨gk, ck, gt, y1, y2, y3, e5, y4⟩)
  have z0 : (0 : Int) ≤ (r : Int) := by omega
  have z1 : (r : Int) < (gs.length : Int) := by omega
  clear hW ht hxr
  go_enter Tryz.func64, Tryz.ntmps64
  go_wp2_with fail
  go_loopw [15] (fun t wr => ∃ k : Nat, k ≤ gs.length ∧ t = .int .i64 (k : Int) ∧ wr = w ∧ Hid (∀ j, j < k → tb M r j = true → (tl[j]?).getD false = true ∨ tb M j r = true)) (fun t _ => gs.length - (intOf t).toNat)
  case atStart => exact ⟨0, by omega, by go_num, rfl, fun j hj => by omega⟩
  case round =>
    obtain ⟨k, hk, rfl, rfl, HX⟩ := hrel
    by_cases hlt : k < gs.length
    · obtain ⟨gk, ck, gt, y1, y2, y3, rfl, y4⟩ := HG.out k hlt
      have v0 : (0 : Int) ≤ (k : Int) := by omega
      have v1 : (k : Int) < (gs.length : Int) := by omega
      cases h1 : tb M r k with
      | false =>
        rw [h1] at y1
        have HX2 := (show Hid (∀ j, j < k + 1 → tb M r j = true → (tl[j]?).getD false = true ∨ tb M j r = true) from fun j hj q => by
          by_cases e : j = k
          · subst e; rw [h1] at q; cases q
          · exact HX.out j (by omega) q)
        clear HX h1 HG
        go_wp2_with fail
        go_roundw
        case rel => exact ⟨k + 1, by omega, by go_num, by first | rfl | trivial, HX2⟩
        case measure => simp [intOf]; omega
      | true =>
        rw [h1] at y1
        cases h2 : (tl[k]?).getD false with
        | true =>
          rw [h2] at y4
          have HX2 := (show Hid (∀ j, j < k + 1 → tb M r j = true → (tl[j]?).getD false = true ∨ tb M j r = true) from fun j hj q => by
            by_cases e : j = k
            · subst e; exact .inl h2
            · exact HX.out j (by omega) q)
          clear HX h1 h2 HG
          go_wp2_with fail
          go_roundw
          case rel => exact ⟨k + 1, by omega, by go_num, by first | rfl | trivial, HX2⟩
          case measure => simp [intOf]; omega
        | false =>
          rw [h2] at y4
          cases h3 : tb M k r with
          | true =>
            rw [h3] at y3
            have HX2 := (show Hid (∀ j, j < k + 1 → tb M r j = true → (tl[j]?).getD false = true ∨ tb M j r = true) from fun j hj q => by
              by_cases e : j = k
              · subst e; exact .inr h3
              · exact HX.out j (by omega) q)
            clear HX h1 h2 h3 HG
            go_wp2_with fail
            go_roundw
            case rel => exact ⟨k + 1, by omega, by go_num, by first | rfl | trivial, HX2⟩
            case measure => simp [intOf]; omega
          | false =>
            rw [h3] at y3
            have HE := (show Hid (fP gs.length M tl r = false) from fP_f hlt h1 h2 h3)
            clear HX h1 h2 h3 HG
            go_wp2_with fail
            go_ret
            exact ⟨by rw [HE.out]; rfl, rfl⟩
    · obtain rfl : k = gs.length := by omega
      have HE := (show Hid (fP gs.length M tl r = true) from fP_t HX.out)
      clear HX HG
      go_wp2_with fail
      go_ret
      exact ⟨by rw [HE.out]; rfl, rfl⟩
set_option maxRecDepth 100000 in
set_option maxHeartbeats 8000000 in
theorem nextFree_any {gs : GL} {M : List (List Bool)} {tl : List Bool} {v tv : Value} {xs : List Value} {N B : Nat} (hn : gs.length ≤ 200) (w : World) (hW : WyR w gs v M xs N) (ht : w.ownsRow B 4 1 tv gs.length (tl.map Value.bool)) :
    Calls Tryz.prog 51 #[v, tv] w fun e w' => e = .returned (.int .i64 (nF gs.length M tl : Int)) ∧ w' = w := by
  have HF := (show Hid (∀ r, r < gs.length → Calls Tryz.prog 64 #[v, .int .i64 (r : Int), tv] w fun e w' => e = .returned (.bool (fP gs.length M tl r)) ∧ w' = w) from fun r hr => isFree_any hn hr w hW ht)
  obtain ⟨A, c, rfl⟩ := hW.form
  obtain ⟨At, ct, rfl⟩ := own_slice ht
  have HT := (show Hid (∀ k, k < gs.length → ∃ gt, At = some ⟨gt, 0, none⟩ ∧ w.cell? ⟨gt, k, none⟩ = some (.bool ((tl[k]?).getD false))) from fun k hk => row_get ht (Below.refl _ _) hk)
  clear hW ht
  go_enter Tryz.func51, Tryz.ntmps51
  go_wp2_with fail
  go_loopw [8] (fun t wr => ∃ k : Nat, k ≤ gs.length ∧ t = .int .i64 (k : Int) ∧ wr = w ∧ Hid (∀ j, j < k → (!((tl[j]?).getD false) && fP gs.length M tl j) = false)) (fun t _ => gs.length - (intOf t).toNat)
  case atStart => exact ⟨0, by omega, by go_num, rfl, fun j hj => by omega⟩
  case round =>
    obtain ⟨k, hk, rfl, rfl, HX⟩ := hrel
    by_cases hlt : k < gs.length
    · obtain ⟨gt, rfl, y4⟩ := HT.out k hlt
      have v0 : (0 : Int) ≤ (k : Int) := by omega
      have v1 : (k : Int) < (gs.length : Int) := by omega
      have HF2 := (show Hid (∀ _ : Unit, Calls Tryz.prog 64 #[.slice A gs.length c, .int .i64 (k : Int), .slice (some ⟨gt, 0, none⟩) gs.length ct] wr fun e w' => e = .returned (.bool (fP gs.length M tl k)) ∧ w' = wr) from fun _ => HF.out k hlt)
      cases h2 : (tl[k]?).getD false with
      | true =>
        rw [h2] at y4
        have HX2 := (show Hid (∀ j, j < k + 1 → (!((tl[j]?).getD false) && fP gs.length M tl j) = false) from fun j hj => by
          by_cases e : j = k
          · subst e; rw [h2]; rfl
          · exact HX.out j (by omega))
        clear HX h2 HT HF HF2
        go_wp2_with fail
        go_roundw
        case rel => exact ⟨k + 1, by omega, by go_num, by first | rfl | trivial, HX2⟩
        case measure => simp [intOf]; omega
      | false =>
        rw [h2] at y4
        cases h3 : fP gs.length M tl k with
        | true =>
          rw [h3] at HF2
          have HE := (show Hid (nF gs.length M tl = k) from nF_at hlt HX.out (by rw [h2, h3]; rfl))
          clear HX h2 HT HF h3
          go_wp2_with fail
          refine (HF2.out ()).mono ?_
          rintro e w2 ⟨rfl, rfl⟩
          clear HF2
          go_wp2_with fail
          go_ret
          exact ⟨by rw [HE.out]; rfl, rfl⟩
        | false =>
          rw [h3] at HF2
          have HX2 := (show Hid (∀ j, j < k + 1 → (!((tl[j]?).getD false) && fP gs.length M tl j) = false) from fun j hj => by
            by_cases e : j = k
            · subst e; rw [h3, Bool.and_false]
            · exact HX.out j (by omega))
          clear HX h2 HT HF h3
          go_wp2_with fail
          refine (HF2.out ()).mono ?_
          rintro e w2 ⟨rfl, rfl⟩
          clear HF2
          go_wp2_with fail
          go_roundw
          case rel => exact ⟨k + 1, by omega, by go_num, by first | rfl | trivial, HX2⟩
          case measure => simp [intOf]; omega
    · obtain rfl : k = gs.length := by omega
      have HE := (show Hid (nF gs.length M tl = gs.length) from nF_end HX.out)
      clear HX HT HF
      go_wp2_with fail
      go_ret
      exact ⟨by rw [HE.out]; rfl, rfl⟩
end Go.Proofs.YtppggnmlbcdegabGreat.N

namespace Go.Proofs.YtppggnmlbcdegabGreat.N
open Go.RowKit Go.Maps
open Go.Proofs.YtppggnmlbcdegabGreat.T

open U (nI own_get own_slice wpList_app1 below_grown TT Out info_split)
def gq (M : List (List Bool)) (r k : Nat) : Bool := k == r || (tb M r k && tb M k r)
def gqL (n : Nat) (M : List (List Bool)) (r k : Nat) : List Bool := (List.range n).map fun j => decide (j < k) && gq M r j
theorem gqL_len (n : Nat) (M : List (List Bool)) (r k : Nat) : (gqL n M r k).length = n := by unfold gqL; rw [List.length_map, List.length_range]
theorem gqL_zero (n : Nat) (M : List (List Bool)) (r : Nat) : gqL n M r 0 = List.replicate n false := by
  unfold gqL
  apply List.ext_getElem?
  intro i
  rw [List.getElem?_map, List.getElem?_replicate]
  by_cases h : i < n
  · rw [List.getElem?_range h, if_pos h]; simp
  · rw [List.getElem?_eq_none (by rw [List.length_range]; omega), if_neg h]; rfl
theorem gqL_set {n : Nat} {M : List (List Bool)} {r k : Nat} (hk : k < n) : gqL n M r (k + 1) = (gqL n M r k).set k (gq M r k) := by
  apply List.ext_getElem?
  intro i
  by_cases hi : i < n
  · by_cases e : i = k
    · subst e
      rw [List.getElem?_set_self (by rw [gqL_len]; exact hi)]
      unfold gqL
      rw [List.getElem?_map, List.getElem?_range hi]
      simp
    · rw [List.getElem?_set_ne (Ne.symm e)]
      unfold gqL
      rw [List.getElem?_map, List.getElem?_map, List.getElem?_range hi]
      have : decide (i < k + 1) = decide (i < k) := by rw [decide_eq_decide]; omega
      simp [this]
  · rw [List.getElem?_eq_none (by rw [gqL_len]; omega), List.getElem?_eq_none (by rw [List.length_set, gqL_len]; omega)]
theorem gqL_end (n : Nat) (M : List (List Bool)) (r : Nat) : lsB (gqL n M r n) = gpL n (tb M) r := by
  unfold lsB gpL
  rw [gqL_len]
  refine List.filter_congr fun k hk => ?_
  unfold gqL
  rw [List.getElem?_map, List.getElem?_range (List.mem_range.1 hk)]
  have : decide (k < n) = true := decide_eq_true (List.mem_range.1 hk)
  simp [this, gq]
/-- A row of marks that is filled. -/
structure GoS (w wr : World) (n g : Nat) (l : List Bool) : Prop where
  b : Below w.heap.size w wr
  o : wr.ownsRow w.heap.size 4 1 (.slice (some ⟨g, 0, none⟩) n n) n (l.map Value.bool)
theorem GoS.set {w wr : World} {n g : Nat} {l : List Bool} (h : GoS w wr n g l) (k : Nat) (b : Bool) : GoS w (wr.setCell ⟨g, k, none⟩ (.bool b)) n g (l.set k b) := by
  obtain ⟨st1, st2⟩ := h.o.stored k (.bool b)
  exact ⟨below_grown h.b st2 (fun j e => by cases e; exact (h.o.lt g rfl).1), by rw [List.map_set]; exact st1⟩
theorem make_bools (w : World) (B n : Nat) (hB : B ≤ w.heap.size) (hn : n ≤ 200) : ∃ w1, (Instr.makeSlice 73 (.int .i64 (n : Int)) (.int .i64 (n : Int))).run Tryz.prog w = .ok (.slice (some ⟨w.heap.size, 0, none⟩) n n) w1 ∧ w1.ownsRow B 4 1 (.slice (some ⟨w.heap.size, 0, none⟩) n n) n (List.replicate n (.bool false)) ∧ w.grownBy w1 none := by
  obtain ⟨i0, hinf, hz0, hz1, hz2⟩ := info_split Tryz.info4
  obtain ⟨w2, hmk, ho2, hg2⟩ := run_make_full (P := Tryz.prog) w B 73 4 i0 (.bool false) 1 Tryz.underlying73 hinf hz0 hz1 .i64 .i64 n (by rw [hz2]; omega) (by unfold maxLen; omega) hB
  have e : (madeCells (Value.cells (.bool false)) (n * 1)).toList = List.replicate n (Value.bool false) := by rw [Nat.mul_one]; exact toList_madeCells_one _ _
  rw [e] at ho2
  exact ⟨w2, hmk, ho2, hg2⟩
set_option maxRecDepth 100000 in
set_option maxHeartbeats 8000000 in
theorem groupOf_any {gs : GL} {M : List (List Bool)} {v : Value} {xs : List Value} {N r : Nat} (hn : gs.length ≤ 200) (hr : r < gs.length) (w : World) (hW : WyR w gs v M xs N) :
    Calls Tryz.prog 52 #[v, .int .i64 (r : Int)] w fun e w' => (∃ u, e = .returned u ∧ w'.ownsRow w.heap.size 3 1 u (gpL gs.length (tb M) r).length ((gpL gs.length (tb M) r).map nI)) ∧ Below w.heap.size w w' := by
  obtain ⟨w1, hmk, ho1, hg1⟩ := make_bools w w.heap.size gs.length (Nat.le_refl _) hn
  have HS := (show Hid (GoS w w1 gs.length w.heap.size (gqL gs.length M r 0)) from ⟨below_grown (Below.refl _ _) hg1 (fun j e => by cases e), by rw [gqL_zero, List.map_replicate]; exact ho1⟩)
  obtain ⟨A, c, rfl⟩ := hW.form
  have HG := (show Hid (∀ (k : Nat) (wr : World), k < gs.length → Below w.heap.size w wr → ∃ g0 gr cr gk ck, A = some ⟨g0, 0, none⟩ ∧ wr.cell? ⟨g0, r, none⟩ = some (.slice (some ⟨gr, 0, none⟩) gs.length cr) ∧ wr.cell? ⟨gr, k, none⟩ = some (.bool (tb M r k)) ∧ wr.cell? ⟨g0, k, none⟩ = some (.slice (some ⟨gk, 0, none⟩) gs.length ck) ∧ wr.cell? ⟨gk, r, none⟩ = some (.bool (tb M k r))) from fun k wr hk hb => by
    obtain ⟨g0, gr, cr, e1, _, y1, y2⟩ := hW.get hb hr hk
    obtain ⟨g2, gk, ck, e3, _, y3, y4⟩ := hW.get hb hk hr
    rw [e1] at e3
    have e4 : g0 = g2 := by injection e3 with e3; injection e3
    subst e4
    exact ⟨g0, gr, cr, gk, ck, e1, y1, y2, y3, y4⟩)
  have z0 : (0 : Int) ≤ (r : Int) := by omega
  have z1 : (r : Int) < (gs.length : Int) := by omega
  clear hW ho1 hg1
  go_enter Tryz.func52, Tryz.ntmps52
  go_wp2_with fail
  clear hmk
  go_loopw [12] (fun t wr => ∃ k : Nat, k ≤ gs.length ∧ t = .int .i64 (k : Int) ∧ Hid (GoS w wr gs.length w.heap.size (gqL gs.length M r k))) (fun t _ => gs.length - (intOf t).toNat)
  case atStart => exact ⟨0, by omega, by go_num, HS⟩
  case round =>
    obtain ⟨k, hk, rfl, HW⟩ := hrel
    clear HS
    by_cases hlt : k < gs.length
    · obtain ⟨g0, gr, cr, gk, ck, rfl, y1, y2, y3, y4⟩ := HG.out k wr hlt HW.out.b
      obtain ⟨gm, cm, em, _, _, xm, fm⟩ := own_get HW.out.o (j := k) (x := .bool (((gqL gs.length M r k)[k]?).getD false)) (by rw [List.getElem?_map, List.getElem?_eq_getElem (by rw [gqL_len]; exact hlt)]; rfl)
      have emg : w.heap.size = gm := by injection em with e1; injection e1 with e1; injection e1
      clear em
      subst emg
      have v0 : (0 : Int) ≤ (k : Int) := by omega
      have v1 : (k : Int) < (gs.length : Int) := by omega
      by_cases e : k = r
      · have te : ((k : Int) == (r : Int)) = true := beq_iff_eq.2 (by omega)
        have HQ := (show Hid (gq M r k = true) from by show _ = _; unfold gq; rw [e]; simp)
        have HW2 := (show Hid (GoS w (wr.setCell ⟨w.heap.size, k, none⟩ (.bool true)) gs.length w.heap.size (gqL gs.length M r (k + 1))) from by show GoS _ _ _ _ _; rw [gqL_set hlt, HQ.out]; exact HW.out.set k true)
        clear HW HQ HG e
        go_wp2_with fail
        go_roundw
        case rel => exact ⟨k + 1, by omega, by go_num, HW2⟩
        case measure => simp [intOf]; omega
      · have te : ((k : Int) == (r : Int)) = false := beq_eq_false_iff_ne.2 (by omega)
        have hkr : (k == r) = false := beq_eq_false_iff_ne.2 e
        cases h1 : tb M r k with
        | false =>
          rw [h1] at y2
          have HQ := (show Hid (gq M r k = false) from by show _ = _; unfold gq; rw [hkr, h1]; rfl)
          clear h1 hkr
          have HW2 := (show Hid (GoS w (wr.setCell ⟨w.heap.size, k, none⟩ (.bool false)) gs.length w.heap.size (gqL gs.length M r (k + 1))) from by show GoS _ _ _ _ _; rw [gqL_set hlt, HQ.out]; exact HW.out.set k false)
          clear HW HQ HG e
          go_wp2_with fail
          go_roundw
          case rel => exact ⟨k + 1, by omega, by go_num, HW2⟩
          case measure => simp [intOf]; omega
        | true =>
          rw [h1] at y2
          cases h2 : tb M k r with
          | false =>
            rw [h2] at y4
            have HQ := (show Hid (gq M r k = false) from by show _ = _; unfold gq; rw [hkr, h1, h2]; rfl)
            clear h1 hkr h2
            have HW2 := (show Hid (GoS w (wr.setCell ⟨w.heap.size, k, none⟩ (.bool false)) gs.length w.heap.size (gqL gs.length M r (k + 1))) from by show GoS _ _ _ _ _; rw [gqL_set hlt, HQ.out]; exact HW.out.set k false)
            clear HW HQ HG e
            go_wp2_with fail
            go_roundw
            case rel => exact ⟨k + 1, by omega, by go_num, HW2⟩
            case measure => simp [intOf]; omega
          | true =>
            rw [h2] at y4
            have HQ := (show Hid (gq M r k = true) from by show _ = _; unfold gq; rw [hkr, h1, h2]; rfl)
            clear h1 hkr h2
            have HW2 := (show Hid (GoS w (wr.setCell ⟨w.heap.size, k, none⟩ (.bool true)) gs.length w.heap.size (gqL gs.length M r (k + 1))) from by show GoS _ _ _ _ _; rw [gqL_set hlt, HQ.out]; exact HW.out.set k true)
            clear HW HQ HG e
            go_wp2_with fail
            go_roundw
            case rel => exact ⟨k + 1, by omega, by go_num, HW2⟩
            case measure => simp [intOf]; omega
    · obtain rfl : k = gs.length := by omega
      have HMk := (show Hid (∀ _ : Unit, Calls Tryz.prog 32 #[.slice (some ⟨w.heap.size, 0, none⟩) gs.length gs.length] wr fun e w' => (∃ u, e = .returned u ∧ w'.ownsRow wr.heap.size 3 1 u (gpL gs.length (tb M) r).length ((gpL gs.length (tb M) r).map nI)) ∧ Below wr.heap.size wr w') from fun _ => by
        have h := marked_any (gqL gs.length M r gs.length) (by rw [gqL_len]; exact hn) (B4 := w.heap.size) wr (by rw [gqL_len]; exact HW.out.o)
        rw [gqL_end] at h
        exact h)
      have HB := (show Hid (Below w.heap.size w wr) from HW.out.b)
      clear HW HG
      go_wp2_with fail
      refine (HMk.out ()).mono ?_
      rintro e w6 ⟨⟨u6, rfl, ho6⟩, b6⟩
      have HB6 := (show Hid (Below w.heap.size w w6) from HB.out.trans (b6.mono HB.out.size))
      have HO6 := (show Hid (w6.ownsRow w.heap.size 3 1 u6 (gpL gs.length (tb M) r).length ((gpL gs.length (tb M) r).map nI)) from U.own_base ho6 HB.out.size)
      clear ho6 b6 HMk HB
      go_wp2_with fail
      go_ret
      exact ⟨⟨_, rfl, HO6.out⟩, HB6.out⟩
end Go.Proofs.YtppggnmlbcdegabGreat.N

namespace Go.Proofs.YtppggnmlbcdegabGreat.N
open Go.RowKit Go.Maps
open Go.Proofs.YtppggnmlbcdegabGreat.T

open U (nI own_get own_slice wpList_app1 below_grown TT Out info_split)
/-- Rows of numbers, as values. -/
def nM (o : List (List Nat)) : List (List Value) := o.map fun l => l.map nI
theorem nM_len (o : List (List Nat)) : (nM o).length = o.length := by unfold nM; rw [List.length_map]
theorem nM_app (o : List (List Nat)) (l : List Nat) : nM (o ++ [l]) = nM o ++ [l.map nI] := by unfold nM; rw [List.map_append]; rfl
theorem nM_get {o : List (List Nat)} {i : Nat} {l : List Nat} (h : o[i]? = some l) : (nM o)[i]? = some (l.map nI) := by unfold nM; rw [List.getElem?_map, h]; rfl
theorem gsI_len {n : Nat} {c : Mx} {told : List Nat} {out : List (List Nat)} (h : GsI n c told out) : out.length ≤ told.length := by
  rw [← h.fl]
  have key : ∀ (o : List (List Nat)), (∀ g ∈ o, g ≠ []) → o.length ≤ o.flatten.length := by
    intro o
    induction o with
    | nil => intro _; exact Nat.le_refl _
    | cons g o ih =>
      intro hg
      rw [List.flatten_cons, List.length_append, List.length_cons]
      have h1 := ih fun x hx => hg x (List.mem_cons_of_mem _ hx)
      have h2 : 0 < g.length := List.length_pos_iff.2 (hg g (List.mem_cons_self ..))
      omega
  exact key out h.ne
theorem gsI_few {n : Nat} {c : Mx} {told : List Nat} {out : List (List Nat)} (h : GsI n c told out) : told.length ≤ n := few_below n told h.nd h.lt
/-- The next one, by marks and by list. -/
theorem nF_nx {n : Nat} {c : Mx} {M : List (List Bool)} {tl : List Bool} {told : List Nat} {out : List (List Nat)} (hI : IsR n c (tb M)) (h : GsI n c told out) (hl : tl.length = n) (ht : ∀ k, tl[k]? = some true ↔ k ∈ told) : nF n M tl = (nxG n c (tb M) told).getD n := by
  rw [← nx_same hI h]
  unfold nF nxP
  congr 1
  have hc : ∀ k, k < n → (tl[k]?).getD false = told.contains k := fun k hk => by
    rw [Bool.eq_iff_iff, List.contains_iff_mem, ← ht k, List.getElem?_eq_getElem (by omega)]
    simp
  refine find_same _ fun i hi => ?_
  have hi := List.mem_range.1 hi
  rw [hc i hi]
  congr 1
  unfold fP frP
  rw [Bool.eq_iff_iff, List.all_eq_true, List.all_eq_true]
  constructor
  · intro q k hk
    have := q k hk
    rw [hc k (List.mem_range.1 hk)] at this
    exact this
  · intro q k hk
    rw [hc k (List.mem_range.1 hk)]
    exact q k hk
/-- What is told so far. -/
structure TlI (n : Nat) (c : Mx) (M : List (List Bool)) (told : List Nat) (out : List (List Nat)) (tl : List Bool) : Prop where
  g : GsI n c told out
  l : tl.length = n
  m : ∀ k, tl[k]? = some true ↔ k ∈ told
  f : ∃ f, n < f + told.length ∧ gsG n c (tb M) (n + 1) [] [] = gsG n c (tb M) f told out
theorem TlI.start (n : Nat) (c : Mx) (M : List (List Bool)) : TlI n c M [] [] (List.replicate n false) := by
  refine ⟨GsI.nil n c, List.length_replicate, fun k => ?_, ⟨n + 1, by simp, rfl⟩⟩
  constructor
  · intro q
    rw [List.getElem?_replicate] at q
    split at q <;> cases q
  · intro q; cases q
theorem TlI.done {n : Nat} {c : Mx} {M : List (List Bool)} {told : List Nat} {out : List (List Nat)} {tl : List Bool} (h : TlI n c M told out tl) (hx : nxG n c (tb M) told = none) : out = gsG n c (tb M) (n + 1) [] [] := by
  obtain ⟨f, h1, h2⟩ := h.f
  rw [h2]
  cases f with
  | zero => rfl
  | succ f => rw [gsG, hx]
theorem TlI.step {n : Nat} {c : Mx} {M : List (List Bool)} {told : List Nat} {out : List (List Nat)} {tl tl2 : List Bool} {i : Nat} (hI : IsR n c (tb M)) (h : TlI n c M told out tl) (hx : nxG n c (tb M) told = some i) (hl : tl2.length = n) (hm : ∀ k, tl2[k]? = some true ↔ k ∈ told ∨ k ∈ gpL n (tb M) i) : TlI n c M (told ++ gpL n (tb M) i) (out ++ [gpL n (tb M) i]) tl2 ∧ told.length < (told ++ gpL n (tb M) i).length := by
  obtain ⟨g1, g2⟩ := h.g.step hI hx
  refine ⟨⟨g1, hl, fun k => by rw [hm k, List.mem_append], ?_⟩, g2⟩
  obtain ⟨f, h1, h2⟩ := h.f
  cases f with
  | zero => have := gsI_few h.g; omega
  | succ f => exact ⟨f, by omega, by rw [h2, gsG, hx]⟩
/-- While the groups are told. -/
structure GrS (w wr : World) (gs : GL) (v : Value) (out : List (List Nat)) (xs : List Value) (gt : Nat) (tl : List Bool) : Prop where
  b : Below w.heap.size w wr
  t : TT wr w.heap.size 36 3 v (nM out) xs
  o : wr.ownsRow w.heap.size 4 1 (.slice (some ⟨gt, 0, none⟩) gs.length gs.length) gs.length (tl.map Value.bool)
theorem GrS.out {w wr : World} {gs : GL} {v : Value} {out : List (List Nat)} {xs : List Value} {gt : Nat} {tl : List Bool} (h : GrS w wr gs v out xs gt tl) : Out v xs gt :=
  ⟨own_apart h.o h.t.o (by decide) rfl, fun i x hx => by
    obtain ⟨r, _, hr⟩ := h.t.both hx
    exact own_apart h.o hr (by decide) rfl⟩
theorem GrS.later {w wr W' : World} {gs : GL} {v : Value} {out : List (List Nat)} {xs : List Value} {gt : Nat} {tl : List Bool} (h : GrS w wr gs v out xs gt tl) (hb : Below wr.heap.size wr W') : GrS w W' gs v out xs gt tl := ⟨h.b.trans (hb.mono h.b.size), h.t.below hb, U.own_below h.o hb⟩
/-- .. and a group's members are marked. -/
structure GmS (w wr : World) (gs : GL) (v : Value) (out : List (List Nat)) (xs : List Value) (gt : Nat) (tl : List Bool) (u : Value) (gp : List Nat) : Prop where
  c : GrS w wr gs v out xs gt tl
  r : wr.ownsRow w.heap.size 3 1 u gp.length (gp.map nI)
  q : ∀ k, u.ownBlock = some k → Out v xs k
theorem GmS.set {w wr : World} {gs : GL} {v u : Value} {out : List (List Nat)} {xs : List Value} {gt : Nat} {tl : List Bool} {gp : List Nat} (h : GmS w wr gs v out xs gt tl u gp) (k : Nat) : GmS w (wr.setCell ⟨gt, k, none⟩ (.bool true)) gs v out xs gt (tl.set k true) u gp := by
  obtain ⟨st1, st2⟩ := h.c.o.stored k (.bool true)
  exact ⟨⟨below_grown h.c.b st2 (fun j e => by cases e; exact (h.c.o.lt gt rfl).1), h.c.t.turn h.c.out st2, by rw [List.map_set]; exact st1⟩, U.own_kept h.r st2 (fun j e => by cases e; exact own_apart h.c.o h.r (by decide) rfl), h.q⟩
theorem GmS.push {w wr w5 : World} {gs : GL} {v u : Value} {out : List (List Nat)} {xs : List Value} {gt m g3 cap3 : Nat} {tl : List Bool} {gp : List Nat} (h : GmS w wr gs v out xs gt tl u gp) (hm : xs.length = m)
    (ho : w5.ownsRow w.heap.size 36 1 (.slice (some ⟨g3, 0, none⟩) (m + 1) cap3) (m + 1) (xs ++ [u])) (hg : wr.grownBy w5 v.ownBlock) (hat : v.ownBlock = some g3 ∨ g3 = wr.heap.size + 1) : GrS w w5 gs (.slice (some ⟨g3, 0, none⟩) (m + 1) cap3) (out ++ [gp]) (xs ++ [u]) gt tl := by
  refine ⟨below_grown h.c.b hg (fun j e => (h.c.t.o.lt j e).1), ?_, U.own_kept h.c.o hg (fun j e => own_apart h.c.t.o h.c.o (by decide) e)⟩
  rw [nM_app]
  rw [← hm] at ho ⊢
  refine h.c.t.push (y := u) (by rw [List.length_map]; exact h.r) h.q ho hg (fun j e => ?_)
  have e : g3 = j := Option.some.inj e
  subst e
  rcases hat with q | q
  · exact .inl q
  · exact .inr (by omega)
set_option maxRecDepth 100000 in
set_option maxHeartbeats 16000000 in
theorem groups_any {gs : GL} {M : List (List Bool)} {v : Value} {ys : List Value} {N : Nat} (hn : gs.length ≤ 200) (hI : IsR gs.length (cG gs) (tb M)) (w : World) (hW : WyR w gs v M ys N) :
    Calls Tryz.prog 29 #[v] w fun e w' => (∃ u xs, e = .returned u ∧ TT w' w.heap.size 36 3 u (nM (gsG gs.length (cG gs) (tb M) (gs.length + 1) [] [])) xs) ∧ Below w.heap.size w w' := by
  obtain ⟨w1, hmk, ho1, hg1⟩ := make_bools w w.heap.size gs.length (Nat.le_refl _) hn
  have HS := (show Hid (GrS w w1 gs (.slice none 0 0) [] [] w.heap.size (List.replicate gs.length false)) from ⟨below_grown (Below.refl _ _) hg1 (fun j e => by cases e), TT.nil _ _ _ _, by rw [List.map_replicate]; exact ho1⟩)
  have HT0 := (show Hid (TlI gs.length (cG gs) M [] [] (List.replicate gs.length false)) from TlI.start _ _ _)
  obtain ⟨A, c, rfl⟩ := hW.form
  have HN := (show Hid (∀ (wr : World) (tl : List Bool) (B : Nat) (tv : Value), Below w.heap.size w wr → wr.ownsRow B 4 1 tv gs.length (tl.map Value.bool) → Calls Tryz.prog 51 #[.slice A gs.length c, tv] wr fun e w' => e = .returned (.int .i64 (nF gs.length M tl : Int)) ∧ w' = wr) from fun wr tl B tv hb ht => nextFree_any hn wr ⟨hW.t.below hb, hW.b⟩ ht)
  have HGo := (show Hid (∀ (wr : World) (r : Nat), r < gs.length → Below w.heap.size w wr → Calls Tryz.prog 52 #[.slice A gs.length c, .int .i64 (r : Int)] wr fun e w' => (∃ u, e = .returned u ∧ w'.ownsRow wr.heap.size 3 1 u (gpL gs.length (tb M) r).length ((gpL gs.length (tb M) r).map nI)) ∧ Below wr.heap.size wr w') from fun wr r hr hb => groupOf_any hn hr wr ⟨hW.t.below hb, hW.b⟩)
  have HI := (show Hid (IsR gs.length (cG gs) (tb M)) from hI)
  clear hW ho1 hg1 hI
  go_enter Tryz.func29, Tryz.ntmps29
  go_wp2_with fail
  clear hmk
  refine (HN.out w1 _ _ _ HS.out.b HS.out.o).mono ?_
  rintro e w2 ⟨rfl, rfl⟩
  go_wp2_with fail
  go_loopg [3, 5] (gs.length - ([] : List Nat).length) (fun gk u t wr => ∃ (m : Nat) (told : List Nat) (out : List (List Nat)) (tl : List Bool) (xs : List Value) (A2 : Option Addr) (c2 : Nat), u = .slice A2 m c2 ∧ t = .int .i64 (nF gs.length M tl : Int) ∧ m ≤ 200 ∧ Hid (xs.length = m ∧ gs.length - told.length = gk) ∧ Hid (TlI gs.length (cG gs) M told out tl) ∧ Hid (GrS w wr gs (.slice A2 m c2) out xs w.heap.size tl))
  case atStart => exact ⟨0, [], [], List.replicate gs.length false, [], none, 0, rfl, rfl, by omega, ⟨rfl, rfl⟩, HT0, HS⟩
  case round =>
    obtain ⟨m, told, out, tl, xs, A2, c2, rfl, rfl, hm, HL, HT, HW⟩ := hrel
    clear HS HT0
    have hnf := nF_nx HI.out HT.out.g HT.out.l HT.out.m
    cases hx : nxG gs.length (cG gs) (tb M) told with
    | none =>
      rw [hx] at hnf
      have hnf2 : nF gs.length M tl = gs.length := hnf
      rw [hnf2]
      have HE := (show Hid (out = gsG gs.length (cG gs) (tb M) (gs.length + 1) [] []) from HT.out.done hx)
      have HTT := (show Hid (TT wr w.heap.size 36 3 (.slice A2 m c2) (nM (gsG gs.length (cG gs) (tb M) (gs.length + 1) [] [])) xs) from by show TT _ _ _ _ _ _ _; rw [← HE.out]; exact HW.out.t)
      have HB := (show Hid (Below w.heap.size w wr) from HW.out.b)
      clear hx hnf hnf2 HT HW HL HN HGo HI HE
      go_wp2_with fail
      go_ret
      exact ⟨⟨_, xs, rfl, HTT.out⟩, HB.out⟩
    | some i =>
      rw [hx] at hnf
      have hnf2 : nF gs.length M tl = i := hnf
      rw [hnf2]
      have hi := nxG_lt hx
      have z1 : (i : Int) < (gs.length : Int) := by omega
      have HX := (show Hid (nxG gs.length (cG gs) (tb M) told = some i) from hx)
      have HGo2 := (show Hid (∀ _ : Unit, Calls Tryz.prog 52 #[.slice A gs.length c, .int .i64 (i : Int)] wr fun e w' => (∃ u, e = .returned u ∧ w'.ownsRow wr.heap.size 3 1 u (gpL gs.length (tb M) i).length ((gpL gs.length (tb M) i).map nI)) ∧ Below wr.heap.size wr w') from fun _ => HGo.out wr i hi HW.out.b)
      clear hx hnf hnf2 HGo
      go_wp2_with fail
      refine (HGo2.out ()).mono ?_
      rintro e w4 ⟨⟨u4, rfl, ho4⟩, b4⟩
      obtain ⟨gp, hgp⟩ : ∃ gp, gp = gpL gs.length (tb M) i := ⟨_, rfl⟩
      rw [← hgp] at ho4
      obtain ⟨A4, c4, rfl⟩ := own_slice ho4
      have HS4 := (show Hid (GmS w w4 gs (.slice A2 m c2) out xs w.heap.size tl (.slice A4 gp.length c4) gp) from ⟨HW.out.later b4, U.own_base ho4 HW.out.b.size, fun k e => HW.out.t.new (ho4.lt k e).1⟩)
      have HGp := (show Hid (gp = gpL gs.length (tb M) i ∧ (∀ k ∈ gp, k < gs.length) ∧ gp.length ≤ 200) from ⟨hgp, fun k hk => by
        rw [hgp] at hk
        exact ((gpL_mem HI.out hi).1 hk).1, by
        have := few_below gs.length gp (by rw [hgp]; exact gpL_nodup _ _ _) (fun k hk => by rw [hgp] at hk; exact ((gpL_mem HI.out hi).1 hk).1)
        omega⟩)
      have hgl := HGp.out.2.2
      have HM0 := (show Hid (tl.length = gs.length ∧ ∀ k, tl[k]? = some true ↔ k ∈ told ∨ k ∈ gp.take 0) from ⟨HT.out.l, fun k => by rw [HT.out.m k]; simp⟩)
      clear HGo2 ho4 b4 HW hgp
      go_wp2_with fail
      go_loopw [27] (fun t wr => ∃ (j : Nat) (tl2 : List Bool), j ≤ gp.length ∧ t = .int .i64 (j : Int) ∧ Hid (tl2.length = gs.length ∧ ∀ k, tl2[k]? = some true ↔ k ∈ told ∨ k ∈ gp.take j) ∧ Hid (GmS w wr gs (.slice A2 m c2) out xs w.heap.size tl2 (.slice A4 gp.length c4) gp)) (fun t _ => gp.length - (intOf t).toNat)
      case atStart => exact ⟨0, tl, by omega, by go_num, HM0, HS4⟩
      case round =>
        obtain ⟨j, tl2, hj, rfl, HM, HW⟩ := hrel
        clear HM0 HS4
        by_cases hjl : j < gp.length
        · obtain ⟨y, hy⟩ : ∃ y, gp[j]? = some y := ⟨_, List.getElem?_eq_getElem hjl⟩
          have hyn := HGp.out.2.1 y (List.mem_of_getElem? hy)
          obtain ⟨g6, c6, e6, _, _, x6, _⟩ := own_get HW.out.r (j := j) (x := nI y) (by rw [List.getElem?_map, hy]; rfl)
          have e7 : A4 = some ⟨g6, 0, none⟩ := by injection e6
          clear e6
          subst e7
          have x6' : wr.cell? ⟨g6, j, none⟩ = some (.int .i64 (y : Int)) := x6
          obtain ⟨gm, cm, em, _, _, xm, fm⟩ := own_get HW.out.c.o (j := y) (x := .bool ((tl2[y]?).getD false)) (by rw [List.getElem?_map, List.getElem?_eq_getElem (by have := HM.out.1; omega)]; rfl)
          have emg : w.heap.size = gm := by injection em with e1; injection e1 with e1; injection e1
          clear em
          subst emg
          have HM2 := (show Hid ((tl2.set y true).length = gs.length ∧ ∀ k, (tl2.set y true)[k]? = some true ↔ k ∈ told ∨ k ∈ gp.take (j + 1)) from ⟨by rw [List.length_set]; exact HM.out.1, fun k => by
            rw [get_set, HM.out.2 k, List.take_add_one, hy, List.mem_append]
            have h9 := HM.out.1
            constructor
            · rintro (⟨rfl, _⟩ | q | q)
              · exact .inr (.inr (by simp))
              · exact .inl q
              · exact .inr (.inl q)
            · rintro (q | q | q)
              · exact .inr (.inl q)
              · exact .inr (.inr q)
              · have : k = y := by simpa using q
                exact .inl ⟨this, by omega⟩⟩)
          have HW2 := (show Hid (GmS w (wr.setCell ⟨w.heap.size, y, none⟩ (.bool true)) gs (.slice A2 m c2) out xs w.heap.size (tl2.set y true) (.slice (some ⟨g6, 0, none⟩) gp.length c4) gp) from HW.out.set y)
          have v0 : (0 : Int) ≤ (j : Int) := by omega
          have v1 : (j : Int) < (gp.length : Int) := by omega
          have v2 : (0 : Int) ≤ (y : Int) := by omega
          have v3 : (y : Int) < (gs.length : Int) := by omega
          clear HM HW hy hyn x6 HN HI HX HT HL
          go_wp2_with fail
          go_roundw
          case rel => exact ⟨j + 1, tl2.set y true, by omega, by go_num, HM2, HW2⟩
          case measure => simp [intOf]; omega
        · obtain rfl : j = gp.length := by omega
          obtain ⟨T1, T2⟩ := HT.out.step HI.out HX.out HM.out.1 (fun k => by have h := HM.out.2 k; rw [List.take_length] at h; rw [h, HGp.out.1])
          rw [← HGp.out.1] at T1 T2
          have HT2 := (show Hid (TlI gs.length (cG gs) M (told ++ gp) (out ++ [gp]) tl2) from T1)
          have hm2 : m + 1 ≤ 200 := by
            have h1 := gsI_len T1.g
            have h2 := gsI_few T1.g
            have h3 : (nM out).length = xs.length := HW.out.c.t.len.symm
            rw [nM_len, HL.out.1] at h3
            rw [List.length_append, List.length_singleton] at h1
            omega
          have HL2 := (show Hid ((xs ++ [Value.slice A4 gp.length c4]).length = m + 1) from by show _ = _; rw [List.length_append, HL.out.1]; rfl)
          have HL3 := (show Hid (gs.length - (told ++ gp).length < gk) from by
            have h1 := gsI_few T1.g
            have h2 := HL.out.2
            show gs.length - (told ++ gp).length < gk
            omega)
          have HO := (show Hid (wr.ownsRow w.heap.size 36 1 (.slice A2 m c2) m xs) from by have h := HW.out.c.t.o; rw [HL.out.1] at h; exact h)
          have HBw := (show Hid (w.heap.size ≤ wr.heap.size) from HW.out.c.b.size)
          have HPu := (show Hid (∀ (g3 cap3 : Nat) (w5 : World), w5.ownsRow w.heap.size 36 1 (.slice (some ⟨g3, 0, none⟩) (m + 1) cap3) (m + 1) (xs ++ [.slice A4 gp.length c4]) → wr.grownBy w5 (Value.slice A2 m c2).ownBlock → ((Value.slice A2 m c2).ownBlock = some g3 ∨ g3 = wr.heap.size + 1) → GrS w w5 gs (.slice (some ⟨g3, 0, none⟩) (m + 1) cap3) (out ++ [gp]) (xs ++ [.slice A4 gp.length c4]) w.heap.size tl2) from fun g3 cap3 w5 h1 h2 h3 => HW.out.push HL.out.1 h1 h2 h3)
          clear HM HW HI HX HT HL T1 T2 HGp
          go_wp2_with (at_builtin; refine wpList_app1 rfl _ _ 32 rfl (.slice none 0 0) 24 Tryz.underlying32 Tryz.info37 rfl w.heap.size m _ xs rfl rfl HO.out rfl (by omega) (by decide) HBw.out ?_; intro g3 cap3 w5 ho5 hg5 hat5 hl5; have HW5 := (show Hid (GrS w w5 gs (.slice (some ⟨g3, 0, none⟩) (m + 1) cap3) (out ++ [gp]) (xs ++ [.slice A4 gp.length c4]) w.heap.size tl2) from HPu.out g3 cap3 w5 ho5 hg5 hat5); clear ho5 hg5 hat5 hl5 HPu HO HBw)
          refine (HN.out w5 _ _ _ HW5.out.b HW5.out.o).mono ?_
          rintro e w6 ⟨rfl, rfl⟩
          clear HN
          go_wp2_with fail
          go_roundg (gs.length - (told ++ gp).length)
          case measure => exact HL3.out
          case rel => exact ⟨m + 1, told ++ gp, out ++ [gp], tl2, xs ++ [.slice A4 gp.length c4], some ⟨g3, 0, none⟩, cap3, rfl, rfl, hm2, ⟨HL2.out, rfl⟩, HT2, HW5⟩
end Go.Proofs.YtppggnmlbcdegabGreat.N

namespace Go.Proofs.YtppggnmlbcdegabGreat.N
open Go.RowKit Go.Maps
open Go.Proofs.YtppggnmlbcdegabGreat.T

open U (nI own_get own_slice wpList_app1 below_grown TT Out info_split)
/-- What Groups answers. -/
def GpR (gs : GL) (out : List (List Nat)) : Prop := ((ckG gs).2 = 0 → ∃ R, IsR gs.length (cG gs) R ∧ out = gsG gs.length (cG gs) R (gs.length + 1) [] []) ∧ ((ckG gs).2 ≠ 0 → out = [])
theorem GpR.same {gs : GL} {a b : List (List Nat)} (h : GpR gs a) (g : GpR gs b) : a = b := by
  by_cases q : (ckG gs).2 = 0
  · obtain ⟨R, h1, rfl⟩ := h.1 q
    obtain ⟨S, g1, rfl⟩ := g.1 q
    exact gsG_same h1 g1 _ _ _
  · rw [h.2 q, g.2 q]
/-- What Again answers. -/
def AgR (gs : GL) (l : List Bool) : Prop := ((ckG gs).2 = 0 → l.length = gs.length ∧ ∀ i, l[i]? = some true ↔ i < gs.length ∧ Rc gs.length (cG gs) i i) ∧ ((ckG gs).2 ≠ 0 → l = [])
theorem AgR.same {gs : GL} {a b : List Bool} (h : AgR gs a) (g : AgR gs b) : a = b := by
  by_cases q : (ckG gs).2 = 0
  · obtain ⟨h1, h2⟩ := h.1 q
    obtain ⟨g1, g2⟩ := g.1 q
    refine List.ext_getElem (by omega) fun i hi hj => ?_
    have e : a[i]? = some true ↔ b[i]? = some true := by rw [h2, g2]
    rw [List.getElem?_eq_getElem hi, List.getElem?_eq_getElem hj] at e
    cases ha : a[i] <;> cases hb : b[i] <;> simp [ha, hb] at e ⊢
  · rw [h.2 q, g.2 q]
set_option maxRecDepth 100000 in
set_option maxHeartbeats 4000000 in
theorem groupsP_any (gs : GL) (A : Option Addr) (c : Nat) (w : World) (hp : GI w A gs) :
    Calls Tryz.prog 10 #[.agg #[.slice A gs.length c]] w fun e w' => (∃ v xs out, e = .returned (.tuple #[v, .int .i64 (ckG gs).2]) ∧ GpR gs out ∧ TT w' w.heap.size 36 3 v (nM out) xs) ∧ Below w.heap.size w w' := by
  obtain ⟨w1, hw1⟩ : ∃ w1, w1 = (w.alloc (.cells #[.slice A gs.length c] 24)) := ⟨_, rfl⟩
  have HB1 : Hid (Below w.heap.size w w1) := by show Below _ _ _; rw [hw1]; exact below_box _ _
  have HN := (show Hid (∀ _ : Unit, Calls Tryz.prog 27 #[.agg #[.slice A gs.length c]] w1 fun e w' => NwV w1 w' gs (ckG gs).2 e ∧ Below w1.heap.size w1 w') from fun _ => netOf_any gs A c w1 (hp.later HB1.out))
  clear hp
  go_enter Tryz.func10, Tryz.ntmps10
  go_wp2_with fail
  rw [← hw1]
  refine (HN.out ()).mono ?_
  rintro e w3 ⟨⟨v, rfl, h1, h2⟩, b3⟩
  have HB := (show Hid (Below w.heap.size w w3) from HB1.out.trans (b3.mono HB1.out.size))
  clear HN b3 hw1 HB1
  by_cases hz : (ckG gs).2 = 0
  · obtain ⟨xs, hT⟩ := h2 hz
    have tz : ((ckG gs).2 != 0) = false := by rw [hz]; rfl
    have hR := ckG_ok.1 hz
    have HC := (show Hid (∀ _ : Unit, Calls Tryz.prog 28 #[v] w3 fun e w' => (∃ u xs M, e = .returned u ∧ WyR w' gs u M xs w3.heap.size ∧ IsR gs.length (cG gs) (tb M)) ∧ Below w3.heap.size w3 w') from fun _ => ways_any hR w3 hT)
    have H200 := (show Hid (gs.length ≤ 200) from hR.n2)
    have HZ := (show Hid ((ckG gs).2 = 0) from hz)
    clear h1 h2 hT hz hR
    generalize hcd : (ckG gs).2 = cd at *
    have HCD := (show Hid ((ckG gs).2 = cd) from hcd)
    clear hcd
    go_wp2_with fail
    refine (HC.out ()).mono ?_
    rintro e w4 ⟨⟨u, ys, M, rfl, hW, hI⟩, b4⟩
    have HB4 := (show Hid (Below w.heap.size w w4) from HB.out.trans (b4.mono HB.out.size))
    have HG := (show Hid (∀ _ : Unit, Calls Tryz.prog 29 #[u] w4 fun e w' => (∃ u xs, e = .returned u ∧ TT w' w4.heap.size 36 3 u (nM (gsG gs.length (cG gs) (tb M) (gs.length + 1) [] [])) xs) ∧ Below w4.heap.size w4 w') from fun _ => groups_any H200.out hI w4 hW)
    have HI := (show Hid (IsR gs.length (cG gs) (tb M)) from hI)
    clear HC hW hI b4 HB
    go_wp2_with fail
    refine (HG.out ()).mono ?_
    rintro e w5 ⟨⟨u5, zs, rfl, hT5⟩, b5⟩
    have HB5 := (show Hid (Below w.heap.size w w5) from HB4.out.trans (b5.mono HB4.out.size))
    have HT5 := (show Hid (TT w5 w.heap.size 36 3 u5 (nM (gsG gs.length (cG gs) (tb M) (gs.length + 1) [] [])) zs) from hT5.base HB4.out.size)
    clear HG hT5 b5 HB4
    go_wp2_with fail
    refine bodyPost_ret (v := .tuple #[u5, .int .i64 0]) (by simp [results, Tryz.results10, go_sem]) rfl ⟨⟨u5, zs, _, by rw [HCD.out, HZ.out], ⟨fun _ => ⟨tb M, HI.out, rfl⟩, fun q => absurd (HCD.out.trans HZ.out) q⟩, HT5.out⟩, HB5.out⟩
  · obtain rfl := h1 hz
    have tz : ((ckG gs).2 != 0) = true := by rw [bne, beq_eq_false_iff_ne.2 hz]; rfl
    have HZ := (show Hid ((ckG gs).2 ≠ 0) from hz)
    clear h1 h2 hz
    generalize hcd : (ckG gs).2 = cd at *
    have HCD := (show Hid ((ckG gs).2 = cd) from hcd)
    clear hcd
    go_wp2_with fail
    refine bodyPost_ret (v := .tuple #[.slice none 0 0, .int .i64 cd]) (by simp [results, Tryz.results10, go_sem]) rfl ⟨⟨_, [], [], by rw [HCD.out], ⟨fun q => absurd (HCD.out.symm.trans q) HZ.out, fun _ => rfl⟩, TT.nil _ _ _ _⟩, HB.out⟩
/-- While it is told which rules come to themselves. -/
structure AgS (w wr : World) (gs : GL) (u : Value) (l : List Bool) : Prop where
  b : Below w.heap.size w wr
  o : wr.ownsRow w.heap.size 4 1 u l.length (l.map Value.bool)
  i : ∀ i, l[i]? = some true ↔ i < l.length ∧ Rc gs.length (cG gs) i i
theorem AgS.push {w wr w4 w5 : World} {gs : GL} {u u' : Value} {l : List Bool} {b : Bool} (h : AgS w wr gs u l) (b4 : Below wr.heap.size wr w4) (hb : b = true ↔ Rc gs.length (cG gs) l.length l.length) (ho : w5.ownsRow w.heap.size 4 1 u' (l.length + 1) (l.map Value.bool ++ [.bool b])) (hg : w4.grownBy w5 u.ownBlock) : AgS w w5 gs u' (l ++ [b]) := by
  have hb4 : Below w.heap.size w w4 := h.b.trans (b4.mono h.b.size)
  refine ⟨below_grown hb4 hg (fun j e => (h.o.lt j e).1), by rw [List.length_append, List.map_append]; exact ho, fun i => ?_⟩
  rw [List.length_append, List.length_singleton]
  by_cases q : i < l.length
  · rw [List.getElem?_append_left q, h.i i]
    constructor
    · rintro ⟨_, r⟩; exact ⟨by omega, r⟩
    · rintro ⟨_, r⟩; exact ⟨q, r⟩
  · rw [List.getElem?_append_right (by omega)]
    by_cases q2 : i = l.length
    · subst q2
      rw [Nat.sub_self]
      constructor
      · intro e
        have e : b = true := by simpa using e
        exact ⟨by omega, hb.1 e⟩
      · rintro ⟨_, r⟩
        rw [hb.2 r]; rfl
    · rw [List.getElem?_eq_none (by simp; omega)]
      constructor
      · intro e; cases e
      · rintro ⟨r, _⟩; omega
set_option maxRecDepth 100000 in
set_option maxHeartbeats 8000000 in
theorem againP_any (gs : GL) (A : Option Addr) (c : Nat) (w : World) (hp : GI w A gs) :
    Calls Tryz.prog 34 #[.agg #[.slice A gs.length c]] w fun e w' => (∃ v l, e = .returned (.tuple #[v, .int .i64 (ckG gs).2]) ∧ AgR gs l ∧ w'.ownsRow w.heap.size 4 1 v l.length (l.map Value.bool)) ∧ Below w.heap.size w w' := by
  obtain ⟨w1, hw1⟩ : ∃ w1, w1 = (w.alloc (.cells #[.slice A gs.length c] 24)) := ⟨_, rfl⟩
  have HB1 : Hid (Below w.heap.size w w1) := by show Below _ _ _; rw [hw1]; exact below_box _ _
  have HN := (show Hid (∀ _ : Unit, Calls Tryz.prog 27 #[.agg #[.slice A gs.length c]] w1 fun e w' => NwV w1 w' gs (ckG gs).2 e ∧ Below w1.heap.size w1 w') from fun _ => netOf_any gs A c w1 (hp.later HB1.out))
  clear hp
  go_enter Tryz.func34, Tryz.ntmps34
  go_wp2_with fail
  rw [← hw1]
  refine (HN.out ()).mono ?_
  rintro e w3 ⟨⟨v, rfl, h1, h2⟩, b3⟩
  have HB := (show Hid (Below w.heap.size w w3) from HB1.out.trans (b3.mono HB1.out.size))
  clear HN b3 hw1 HB1
  by_cases hz : (ckG gs).2 = 0
  · obtain ⟨xs, hT⟩ := h2 hz
    have tz : ((ckG gs).2 != 0) = false := by rw [hz]; rfl
    have hR := ckG_ok.1 hz
    have hn := hR.n2
    have HC := (show Hid (∀ (k : Nat) (wr : World), k < gs.length → Below w3.heap.size w3 wr → Calls Tryz.prog 31 #[v, .int .i64 (k : Int)] wr fun e w' => CmV wr w' gs k e ∧ Below wr.heap.size wr w') from fun k wr hk hb => comesTo_any hR hk wr (hT.below hb))
    have hlx : xs.length = gs.length := hT.len.trans (ntM_len gs)
    obtain ⟨Av, cv, hv⟩ := own_slice hT.o
    rw [hlx] at hv
    subst hv
    have HS := (show Hid (AgS w3 w3 gs (.slice none 0 0) []) from ⟨Below.refl _ _, World.ownsRow_nil _ _ _ _, fun i => by simp⟩)
    have HZ := (show Hid ((ckG gs).2 = 0) from hz)
    clear h1 h2 hT hz hR hlx
    generalize hcd : (ckG gs).2 = cd at *
    have HCD := (show Hid ((ckG gs).2 = cd) from hcd)
    clear hcd
    go_wp2_with fail
    go_loopw [6, 18] (fun u t wr => ∃ (k : Nat) (l : List Bool) (A2 : Option Addr) (c2 : Nat), k ≤ gs.length ∧ t = .int .i64 (k : Int) ∧ u = .slice A2 k c2 ∧ Hid (l.length = k) ∧ Hid (AgS w3 wr gs (.slice A2 k c2) l)) (fun _ t _ => gs.length - (intOf t).toNat)
    case atStart => exact ⟨0, [], none, 0, by omega, by go_num, rfl, rfl, HS⟩
    case round =>
      obtain ⟨k, l, A2, c2, hk, rfl, rfl, HL, HW⟩ := hrel
      clear HS
      by_cases hlt : k < gs.length
      · have HC2 := (show Hid (∀ _ : Unit, Calls Tryz.prog 31 #[.slice Av gs.length cv, .int .i64 (k : Int)] wr fun e w' => CmV wr w' gs k e ∧ Below wr.heap.size wr w') from fun _ => HC.out k wr hlt HW.out.b)
        clear HC
        go_wp2_with fail
        refine (HC2.out ()).mono ?_
        rintro e w4 ⟨⟨u, l4, rfl, hl4, hm4, ho4, _⟩, b4⟩
        obtain ⟨bk, hbk⟩ : ∃ bk, l4[k]? = some bk := ⟨_, List.getElem?_eq_getElem (by omega)⟩
        obtain ⟨g4, c4, rfl, _, _, x4, _⟩ := own_get ho4 (j := k) (x := .bool bk) (by rw [List.getElem?_map, hbk]; rfl)
        have hbR : bk = true ↔ Rc gs.length (cG gs) k k := by
          rw [← hm4 k, hbk]; simp
        have HO := (show Hid (w4.ownsRow w3.heap.size 4 1 (.slice A2 k c2) k (l.map Value.bool)) from by have h := U.own_below HW.out.o b4; rw [HL.out] at h; exact h)
        have HBw := (show Hid (w3.heap.size ≤ w4.heap.size) from Nat.le_trans HW.out.b.size b4.size)
        have HPu := (show Hid (∀ (u' : Value) (w5 : World), w5.ownsRow w3.heap.size 4 1 u' (k + 1) (l.map Value.bool ++ [.bool bk]) → w4.grownBy w5 (Value.slice A2 k c2).ownBlock → AgS w3 w5 gs u' (l ++ [bk])) from fun u' w5 h1 h2 => HW.out.push b4 (by rw [HL.out]; exact hbR) (by rw [HL.out]; exact h1) h2)
        have HL2 := (show Hid ((l ++ [bk]).length = k + 1) from by show _ = _; rw [List.length_append, HL.out]; rfl)
        have v0 : (0 : Int) ≤ (k : Int) := by omega
        have v1 : (k : Int) < (gs.length : Int) := by omega
        clear HC2 hl4 hm4 ho4 b4 HW HL hbk hbR
        go_wp2_with (at_builtin; refine wpList_app1 rfl _ _ 73 rfl (.bool false) 1 Tryz.underlying73 Tryz.info4 rfl w3.heap.size k _ (l.map Value.bool) rfl rfl HO.out rfl (by omega) (by decide) HBw.out ?_; intro g5 cap5 w5 ho5 hg5 hat5 hl5; have HW5 := (show Hid (AgS w3 w5 gs (.slice (some ⟨g5, 0, none⟩) (k + 1) cap5) (l ++ [bk])) from HPu.out _ _ ho5 hg5); clear ho5 hg5 hat5 hl5 HPu HO HBw x4)
        go_roundw
        case rel => exact ⟨k + 1, l ++ [bk], some ⟨g5, 0, none⟩, cap5, by omega, by go_num, rfl, HL2, HW5⟩
        case measure => simp [intOf]; omega
      · obtain rfl : k = gs.length := by omega
        have HO := (show Hid (wr.ownsRow w.heap.size 4 1 (.slice A2 gs.length c2) l.length (l.map Value.bool)) from U.own_base HW.out.o HB.out.size)
        have HA := (show Hid (AgR gs l) from ⟨fun _ => ⟨HL.out, fun i => by rw [HW.out.i i, HL.out]⟩, fun q => absurd (HCD.out.trans HZ.out) q⟩)
        have HB6 := (show Hid (Below w.heap.size w wr) from HB.out.trans (HW.out.b.mono HB.out.size))
        clear HW HL HC HB
        go_wp2_with fail
        refine bodyPost_ret (v := .tuple #[.slice A2 gs.length c2, .int .i64 0]) (by simp [results, Tryz.results34, go_sem]) rfl ⟨⟨_, l, by rw [HCD.out, HZ.out], HA.out, HO.out⟩, HB6.out⟩
  · obtain rfl := h1 hz
    have tz : ((ckG gs).2 != 0) = true := by rw [bne, beq_eq_false_iff_ne.2 hz]; rfl
    have HZ := (show Hid ((ckG gs).2 ≠ 0) from hz)
    clear h1 h2 hz
    generalize hcd : (ckG gs).2 = cd at *
    have HCD := (show Hid ((ckG gs).2 = cd) from hcd)
    clear hcd
    go_wp2_with fail
    refine bodyPost_ret (v := .tuple #[.slice none 0 0, .int .i64 cd]) (by simp [results, Tryz.results34, go_sem]) rfl ⟨⟨_, [], by rw [HCD.out], ⟨fun q => absurd (HCD.out.symm.trans q) HZ.out, fun _ => rfl⟩, World.ownsRow_nil _ _ _ _⟩, HB.out⟩
end Go.Proofs.YtppggnmlbcdegabGreat.N

namespace Go.Proofs.YtppggnmlbcdegabGreat.N
open Go.RowKit Go.Maps
open Go.Proofs.YtppggnmlbcdegabGreat.T

open U (nI own_get own_slice wpList_app1 below_grown TT Out info_split)
set_option maxRecDepth 100000 in
set_option maxHeartbeats 8000000 in
theorem groupD_any {gs : GL} {M : List (List Bool)} {v : Value} {xs : List Value} {N r : Nat} (hn : gs.length ≤ 200) (hr : r < gs.length) (w : World) (hW : WyR w gs v M xs N) :
    Calls Tryz.prog 56 #[v, .int .i64 (r : Int)] w fun e w' => (∃ u, e = .returned u ∧ w'.ownsRow w.heap.size 3 1 u (gpL gs.length (tb M) r).length ((gpL gs.length (tb M) r).map nI)) ∧ Below w.heap.size w w' := by
  have HS := (show Hid (LsS w w (.slice none 0 0) []) from ⟨Below.refl _ _, World.ownsRow_nil _ _ _ _⟩)
  obtain ⟨A, c, rfl⟩ := hW.form
  have HG := (show Hid (∀ (k : Nat) (wr : World), k < gs.length → Below w.heap.size w wr → ∃ g0 gr cr gk ck, A = some ⟨g0, 0, none⟩ ∧ wr.cell? ⟨g0, r, none⟩ = some (.slice (some ⟨gr, 0, none⟩) gs.length cr) ∧ wr.cell? ⟨gr, k, none⟩ = some (.bool (tb M r k)) ∧ wr.cell? ⟨g0, k, none⟩ = some (.slice (some ⟨gk, 0, none⟩) gs.length ck) ∧ wr.cell? ⟨gk, r, none⟩ = some (.bool (tb M k r))) from fun k wr hk hb => by
    obtain ⟨g0, gr, cr, e1, _, y1, y2⟩ := hW.get hb hr hk
    obtain ⟨g2, gk, ck, e3, _, y3, y4⟩ := hW.get hb hk hr
    rw [e1] at e3
    have e4 : g0 = g2 := by injection e3 with e3; injection e3
    subst e4
    exact ⟨g0, gr, cr, gk, ck, e1, y1, y2, y3, y4⟩)
  have z0 : (0 : Int) ≤ (r : Int) := by omega
  have z1 : (r : Int) < (gs.length : Int) := by omega
  clear hW
  go_enter Tryz.func56, Tryz.ntmps56
  go_wp2_with fail
  go_loopw [5, 6] (fun u t wr => ∃ (k m : Nat) (ls : List Nat) (A2 : Option Addr) (c2 : Nat), k ≤ gs.length ∧ t = .int .i64 (k : Int) ∧ u = .slice A2 m c2 ∧ m ≤ k ∧ Hid (ls.length = m ∧ ls = (List.range k).filter (gq M r)) ∧ Hid (LsS w wr (.slice A2 m c2) ls)) (fun _ t _ => gs.length - (intOf t).toNat)
  case atStart => exact ⟨0, 0, [], none, 0, by omega, by go_num, rfl, by omega, ⟨rfl, rfl⟩, HS⟩
  case round =>
    obtain ⟨k, m, ls, A2, c2, hk, rfl, rfl, hm, HL, HW⟩ := hrel
    clear HS
    by_cases hlt : k < gs.length
    · obtain ⟨g0, gr, cr, gk, ck, rfl, y1, y2, y3, y4⟩ := HG.out k wr hlt HW.out.b
      have v0 : (0 : Int) ≤ (k : Int) := by omega
      have v1 : (k : Int) < (gs.length : Int) := by omega
      by_cases e : k = r
      · have te : ((k : Int) == (r : Int)) = true := beq_iff_eq.2 (by omega)
        have HQ := (show Hid (gq M r k = true) from by show _ = _; unfold gq; rw [e]; simp)
        have HL2 := (show Hid ((ls ++ [k]).length = m + 1 ∧ ls ++ [k] = (List.range (k + 1)).filter (gq M r)) from ⟨by rw [List.length_append, HL.out.1]; rfl, by rw [List.range_succ, List.filter_append, ← HL.out.2, List.filter_cons, HQ.out]; rfl⟩)
        have HO := (show Hid (wr.ownsRow w.heap.size 3 1 (.slice A2 m c2) m (ls.map nI)) from by have h := HW.out.o; rw [HL.out.1] at h; exact h)
        have HBw := (show Hid (w.heap.size ≤ wr.heap.size) from HW.out.b.size)
        have HPu := (show Hid (∀ (u' : Value) (w5 : World), w5.ownsRow w.heap.size 3 1 u' (m + 1) (ls.map nI ++ [nI k]) → wr.grownBy w5 (Value.slice A2 m c2).ownBlock → LsS w w5 u' (ls ++ [k])) from fun u' w5 h1 h2 => HW.out.push (by rw [HL.out.1]; exact h1) h2)
        clear HQ HL HW HG e
        go_wp2_with (at_builtin; refine wpList_app1 rfl _ _ 36 rfl (.int .i64 0) 8 Tryz.underlying36 Tryz.info3 rfl w.heap.size m _ (ls.map nI) rfl rfl HO.out rfl (by omega) (by decide) HBw.out ?_; intro g3 cap3 w5 ho5 hg5 hat5 hl5; have HW5 := (show Hid (LsS w w5 (.slice (some ⟨g3, 0, none⟩) (m + 1) cap3) (ls ++ [k])) from HPu.out _ _ ho5 hg5); clear ho5 hg5 hat5 hl5 HPu HO HBw y1 y2 y3 y4)
        go_roundw
        case rel => exact ⟨k + 1, m + 1, ls ++ [k], some ⟨g3, 0, none⟩, cap3, by omega, by go_num, rfl, by omega, HL2, HW5⟩
        case measure => simp [intOf]; omega
      · have te : ((k : Int) == (r : Int)) = false := beq_eq_false_iff_ne.2 (by omega)
        have hkr : (k == r) = false := beq_eq_false_iff_ne.2 e
        cases h1 : tb M r k with
        | false =>
          rw [h1] at y2
          have HQ := (show Hid (gq M r k = false) from by show _ = _; unfold gq; rw [hkr, h1]; rfl)
          clear h1 hkr
          have HL2 := (show Hid (ls.length = m ∧ ls = (List.range (k + 1)).filter (gq M r)) from ⟨HL.out.1, by rw [List.range_succ, List.filter_append, ← HL.out.2, List.filter_cons, HQ.out]; exact (List.append_nil ls).symm⟩)
          clear HQ HL HG e
          go_wp2_with fail
          go_roundw
          case rel => exact ⟨k + 1, m, ls, A2, c2, by omega, by go_num, rfl, by omega, HL2, HW⟩
          case measure => simp [intOf]; omega
        | true =>
          rw [h1] at y2
          cases h2 : tb M k r with
          | false =>
            rw [h2] at y4
            have HQ := (show Hid (gq M r k = false) from by show _ = _; unfold gq; rw [hkr, h1, h2]; rfl)
            clear h1 hkr h2
            have HL2 := (show Hid (ls.length = m ∧ ls = (List.range (k + 1)).filter (gq M r)) from ⟨HL.out.1, by rw [List.range_succ, List.filter_append, ← HL.out.2, List.filter_cons, HQ.out]; exact (List.append_nil ls).symm⟩)
            clear HQ HL HG e
            go_wp2_with fail
            go_roundw
            case rel => exact ⟨k + 1, m, ls, A2, c2, by omega, by go_num, rfl, by omega, HL2, HW⟩
            case measure => simp [intOf]; omega
          | true =>
            rw [h2] at y4
            have HQ := (show Hid (gq M r k = true) from by show _ = _; unfold gq; rw [hkr, h1, h2]; rfl)
            clear h1 hkr h2
            have HL2 := (show Hid ((ls ++ [k]).length = m + 1 ∧ ls ++ [k] = (List.range (k + 1)).filter (gq M r)) from ⟨by rw [List.length_append, HL.out.1]; rfl, by rw [List.range_succ, List.filter_append, ← HL.out.2, List.filter_cons, HQ.out]; rfl⟩)
            have HO := (show Hid (wr.ownsRow w.heap.size 3 1 (.slice A2 m c2) m (ls.map nI)) from by have h := HW.out.o; rw [HL.out.1] at h; exact h)
            have HBw := (show Hid (w.heap.size ≤ wr.heap.size) from HW.out.b.size)
            have HPu := (show Hid (∀ (u' : Value) (w5 : World), w5.ownsRow w.heap.size 3 1 u' (m + 1) (ls.map nI ++ [nI k]) → wr.grownBy w5 (Value.slice A2 m c2).ownBlock → LsS w w5 u' (ls ++ [k])) from fun u' w5 h1 h2 => HW.out.push (by rw [HL.out.1]; exact h1) h2)
            clear HQ HL HW HG e
            go_wp2_with (at_builtin; refine wpList_app1 rfl _ _ 36 rfl (.int .i64 0) 8 Tryz.underlying36 Tryz.info3 rfl w.heap.size m _ (ls.map nI) rfl rfl HO.out rfl (by omega) (by decide) HBw.out ?_; intro g3 cap3 w5 ho5 hg5 hat5 hl5; have HW5 := (show Hid (LsS w w5 (.slice (some ⟨g3, 0, none⟩) (m + 1) cap3) (ls ++ [k])) from HPu.out _ _ ho5 hg5); clear ho5 hg5 hat5 hl5 HPu HO HBw y1 y2 y3 y4)
            go_roundw
            case rel => exact ⟨k + 1, m + 1, ls ++ [k], some ⟨g3, 0, none⟩, cap3, by omega, by go_num, rfl, by omega, HL2, HW5⟩
            case measure => simp [intOf]; omega
    · obtain rfl : k = gs.length := by omega
      have HO := (show Hid (wr.ownsRow w.heap.size 3 1 (.slice A2 m c2) (gpL gs.length (tb M) r).length ((gpL gs.length (tb M) r).map nI)) from by
        show World.ownsRow _ _ _ _ _ _ _
        have h : ls = gpL gs.length (tb M) r := HL.out.2
        rw [← h]
        exact HW.out.o)
      have HB := (show Hid (Below w.heap.size w wr) from HW.out.b)
      clear HW HG HL
      go_wp2_with fail
      go_ret
      exact ⟨⟨_, rfl, HO.out⟩, HB.out⟩
/-- Free, by marks, as the document says it. -/
def fD (n : Nat) (Mc : List (List Bool)) (tl : List Bool) (own : List Nat) : Bool := own.all fun p => (List.range n).all fun k => !(tb Mc p k) || (tl[k]?).getD false || own.contains k
theorem fD_f {n : Nat} {Mc : List (List Bool)} {tl : List Bool} {own : List Nat} {p k : Nat} (hp : p ∈ own) (hk : k < n) (h1 : tb Mc p k = true) (h2 : (tl[k]?).getD false = false) (h3 : k ∉ own) : fD n Mc tl own = false := by
  unfold fD
  rw [List.all_eq_false]
  refine ⟨p, hp, ?_⟩
  rw [Bool.not_eq_true, List.all_eq_false]
  refine ⟨k, List.mem_range.2 hk, ?_⟩
  have h4 : own.contains k = false := by
    cases q : own.contains k
    · rfl
    · exact absurd (List.contains_iff_mem.1 q) h3
  rw [h1, h2, h4]
  decide
theorem fD_t {n : Nat} {Mc : List (List Bool)} {tl : List Bool} {own : List Nat} (h : ∀ (i : Nat) p, own[i]? = some p → ∀ k, k < n → tb Mc p k = true → (tl[k]?).getD false = true ∨ k ∈ own) : fD n Mc tl own = true := by
  unfold fD
  rw [List.all_eq_true]
  intro p hp
  rw [List.all_eq_true]
  intro k hk
  obtain ⟨i, hi, e⟩ := List.mem_iff_getElem.1 hp
  rw [Bool.or_eq_true, Bool.or_eq_true, List.contains_iff_mem]
  cases q : tb Mc p k
  · exact .inl (.inl rfl)
  · rcases h i p (by rw [List.getElem?_eq_getElem hi, e]) k (List.mem_range.1 hk) q with x | x
    · exact .inl (.inr x)
    · exact .inr x
set_option maxRecDepth 100000 in
set_option maxHeartbeats 16000000 in
theorem freeD_any {gs : GL} {M : List (List Bool)} {tl : List Bool} {own : List Nat} {v tv ov : Value} {xs : List Value} {N B B3 : Nat} (hn : gs.length ≤ 200) (hown : ∀ k ∈ own, k < gs.length) (hol : own.length ≤ 200) (w : World) (hW : WyR w gs v M xs N) (ht : w.ownsRow B 4 1 tv gs.length (tl.map Value.bool)) (ho : w.ownsRow B3 3 1 ov own.length (own.map nI)) :
    Calls Tryz.prog 55 #[v, tv, ov] w fun e w' => e = .returned (.bool (fD gs.length M tl own)) ∧ Below w.heap.size w w' := by
  obtain ⟨w1, hmk, ho1, hg1⟩ := make_bools w w.heap.size gs.length (Nat.le_refl _) hn
  have HS := (show Hid (GoS w w1 gs.length w.heap.size (List.replicate gs.length false)) from ⟨below_grown (Below.refl _ _) hg1 (fun j e => by cases e), by rw [List.map_replicate]; exact ho1⟩)
  have HM0 := (show Hid ((List.replicate gs.length false).length = gs.length ∧ ∀ k, (List.replicate gs.length false)[k]? = some true ↔ k ∈ own.take 0) from ⟨List.length_replicate, fun k => by
    rw [List.getElem?_replicate]
    constructor
    · intro q; split at q <;> cases q
    · intro q; simp at q⟩)
  obtain ⟨A, c, rfl⟩ := hW.form
  obtain ⟨At, ct, rfl⟩ := own_slice ht
  obtain ⟨Ao, co, rfl⟩ := own_slice ho
  have HT := (show Hid (∀ (k : Nat) (wr : World), k < gs.length → Below w.heap.size w wr → ∃ gt, At = some ⟨gt, 0, none⟩ ∧ wr.cell? ⟨gt, k, none⟩ = some (.bool ((tl[k]?).getD false))) from fun k wr hk hb => row_get ht hb hk)
  have HOw := (show Hid (∀ (j : Nat) (wr : World), j < own.length → Below w.heap.size w wr → ∃ y go, own[j]? = some y ∧ y < gs.length ∧ Ao = some ⟨go, 0, none⟩ ∧ wr.cell? ⟨go, j, none⟩ = some (.int .i64 (y : Int))) from fun j wr hj hb => by
    have hy : own[j]? = some own[j] := List.getElem?_eq_getElem hj
    obtain ⟨g6, c6, e6, _, lt6, x6, _⟩ := own_get ho (j := j) (x := nI own[j]) (by rw [List.getElem?_map, hy]; rfl)
    have e7 : Ao = some ⟨g6, 0, none⟩ := by injection e6
    exact ⟨own[j], g6, hy, hown _ (List.getElem_mem hj), e7, (hb.cell (p := ⟨g6, j, none⟩) lt6).trans x6⟩)
  have HG := (show Hid (∀ (p k : Nat) (wr : World), p < gs.length → k < gs.length → Below w.heap.size w wr → ∃ g0 gp cp, A = some ⟨g0, 0, none⟩ ∧ wr.cell? ⟨g0, p, none⟩ = some (.slice (some ⟨gp, 0, none⟩) gs.length cp) ∧ wr.cell? ⟨gp, k, none⟩ = some (.bool (tb M p k))) from fun p k wr hp hk hb => by
    obtain ⟨g0, gp, cp, e1, _, y1, y2⟩ := hW.get hb hp hk
    exact ⟨g0, gp, cp, e1, y1, y2⟩)
  clear hW ht ho ho1 hg1 hown
  go_enter Tryz.func55, Tryz.ntmps55
  go_wp2_with fail
  clear hmk
  go_loopw [8] (fun t wr => ∃ (j : Nat) (il : List Bool), j ≤ own.length ∧ t = .int .i64 (j : Int) ∧ Hid (il.length = gs.length ∧ ∀ k, il[k]? = some true ↔ k ∈ own.take j) ∧ Hid (GoS w wr gs.length w.heap.size il)) (fun t _ => own.length - (intOf t).toNat)
  case atStart => exact ⟨0, _, by omega, by go_num, HM0, HS⟩
  case round =>
    obtain ⟨j, il, hj, rfl, HM, HW⟩ := hrel
    clear HM0 HS
    by_cases hjl : j < own.length
    · obtain ⟨y, go, hy, hyn, rfl, x6⟩ := HOw.out j wr hjl HW.out.b
      obtain ⟨gm, cm, em, _, _, xm, fm⟩ := own_get HW.out.o (j := y) (x := .bool ((il[y]?).getD false)) (by rw [List.getElem?_map, List.getElem?_eq_getElem (by have := HM.out.1; omega)]; rfl)
      have emg : w.heap.size = gm := by injection em with e1; injection e1 with e1; injection e1
      clear em
      subst emg
      have HM2 := (show Hid ((il.set y true).length = gs.length ∧ ∀ k, (il.set y true)[k]? = some true ↔ k ∈ own.take (j + 1)) from ⟨by rw [List.length_set]; exact HM.out.1, fun k => by
        rw [get_set, HM.out.2 k, List.take_add_one, hy, List.mem_append]
        have h9 := HM.out.1
        constructor
        · rintro (⟨rfl, _⟩ | q)
          · exact .inr (by simp)
          · exact .inl q
        · rintro (q | q)
          · exact .inr q
          · have : k = y := by simpa using q
            exact .inl ⟨this, by omega⟩⟩)
      have HW2 := (show Hid (GoS w (wr.setCell ⟨w.heap.size, y, none⟩ (.bool true)) gs.length w.heap.size (il.set y true)) from HW.out.set y true)
      have v0 : (0 : Int) ≤ (j : Int) := by omega
      have v1 : (j : Int) < (own.length : Int) := by omega
      have v2 : (0 : Int) ≤ (y : Int) := by omega
      have v3 : (y : Int) < (gs.length : Int) := by omega
      clear HM HW hy hyn HG HT HOw
      go_wp2_with fail
      go_roundw
      case rel => exact ⟨j + 1, il.set y true, by omega, by go_num, HM2, HW2⟩
      case measure => simp [intOf]; omega
    · obtain rfl : j = own.length := by omega
      have HMi := (show Hid (∀ k, k < gs.length → ∃ g5, wr.cell? ⟨w.heap.size, k, none⟩ = some (.bool ((il[k]?).getD false)) ∧ g5 = w.heap.size ∧ ((il[k]?).getD false = true ↔ k ∈ own)) from fun k hk => by
        obtain ⟨g, e, x⟩ := row_get HW.out.o (Below.refl _ _) hk
        have e : w.heap.size = g := by injection e with e; injection e
        subst e
        refine ⟨_, x, rfl, ?_⟩
        have h := HM.out.2 k
        rw [List.take_length] at h
        rw [← h, List.getElem?_eq_getElem (by have := HM.out.1; omega)]
        simp)
      have HB := (show Hid (Below w.heap.size w wr) from HW.out.b)
      clear HM HW
      obtain ⟨wC, rfl⟩ : ∃ wC, wC = wr := ⟨_, rfl⟩
      go_wp2_with fail
      go_loopw [9] (fun t ws => ∃ i : Nat, i ≤ own.length ∧ t = .int .i64 (i : Int) ∧ ws = wC ∧ Hid (∀ (a : Nat) p, a < i → own[a]? = some p → ∀ k, k < gs.length → tb M p k = true → (tl[k]?).getD false = true ∨ k ∈ own)) (fun t _ => own.length - (intOf t).toNat)
      case atStart => exact ⟨0, by omega, by go_num, rfl, fun a p h => by omega⟩
      case round =>
        obtain ⟨i, hi, rfl, hwC, HX⟩ := hrel
        subst hwC
        by_cases hil : i < own.length
        · obtain ⟨p, go, hp, hpn, rfl, x6⟩ := HOw.out i _ hil HB.out
          have v0 : (0 : Int) ≤ (i : Int) := by omega
          have v1 : (i : Int) < (own.length : Int) := by omega
          have v2 : (0 : Int) ≤ (p : Int) := by omega
          have v3 : (p : Int) < (gs.length : Int) := by omega
          have HP := (show Hid (own[i]? = some p ∧ p < gs.length) from ⟨hp, hpn⟩)
          clear HOw hp hpn
          obtain ⟨wC, hwC⟩ : ∃ wC, wC = wr := ⟨_, rfl⟩
          subst hwC
          go_wp2_with fail
          go_loopw [10] (fun t ws => ∃ k : Nat, k ≤ gs.length ∧ t = .int .i64 (k : Int) ∧ ws = wC ∧ Hid (∀ a, a < k → tb M p a = true → (tl[a]?).getD false = true ∨ a ∈ own)) (fun t _ => gs.length - (intOf t).toNat)
          case atStart => exact ⟨0, by omega, by go_num, rfl, fun a h => by omega⟩
          case round =>
            obtain ⟨k, hk, rfl, hwC, HY⟩ := hrel
            subst hwC
            by_cases hkl : k < gs.length
            · obtain ⟨g0, gp, cp, rfl, y1, y2⟩ := HG.out p k _ HP.out.2 hkl HB.out
              obtain ⟨gt, rfl, y3⟩ := HT.out k _ hkl HB.out
              obtain ⟨_, y4, _, y5⟩ := HMi.out k hkl
              have u0 : (0 : Int) ≤ (k : Int) := by omega
              have u1 : (k : Int) < (gs.length : Int) := by omega
              cases h1 : tb M p k with
              | false =>
                rw [h1] at y2
                have HY2 := (show Hid (∀ a, a < k + 1 → tb M p a = true → (tl[a]?).getD false = true ∨ a ∈ own) from fun a ha q => by
                  by_cases e : a = k
                  · subst e; rw [h1] at q; cases q
                  · exact HY.out a (by omega) q)
                clear HY h1 y5 HG HT HMi
                go_wp2_with fail
                go_roundw
                case rel => exact ⟨k + 1, by omega, by go_num, by first | rfl | trivial, HY2⟩
                case measure => simp [intOf]; omega
              | true =>
                rw [h1] at y2
                cases h2 : (tl[k]?).getD false with
                | true =>
                  rw [h2] at y3
                  have HY2 := (show Hid (∀ a, a < k + 1 → tb M p a = true → (tl[a]?).getD false = true ∨ a ∈ own) from fun a ha q => by
                    by_cases e : a = k
                    · subst e; exact .inl h2
                    · exact HY.out a (by omega) q)
                  clear HY h1 h2 y5 HG HT HMi
                  go_wp2_with fail
                  go_roundw
                  case rel => exact ⟨k + 1, by omega, by go_num, by first | rfl | trivial, HY2⟩
                  case measure => simp [intOf]; omega
                | false =>
                  rw [h2] at y3
                  cases h3 : (il[k]?).getD false with
                  | true =>
                    rw [h3] at y4
                    have HY2 := (show Hid (∀ a, a < k + 1 → tb M p a = true → (tl[a]?).getD false = true ∨ a ∈ own) from fun a ha q => by
                      by_cases e : a = k
                      · subst e; exact .inr (y5.1 h3)
                      · exact HY.out a (by omega) q)
                    clear HY h1 h2 h3 y5 HG HT HMi
                    go_wp2_with fail
                    go_roundw
                    case rel => exact ⟨k + 1, by omega, by go_num, by first | rfl | trivial, HY2⟩
                    case measure => simp [intOf]; omega
                  | false =>
                    rw [h3] at y4
                    have HE := (show Hid (fD gs.length M tl own = false) from fD_f (List.mem_of_getElem? HP.out.1) hkl h1 h2 (fun q => by rw [y5.2 q] at h3; cases h3))
                    clear HY h1 h2 h3 y5 HG HT HMi HX HP
                    go_wp2_with fail
                    go_ret
                    exact ⟨by rw [HE.out]; rfl, HB.out⟩
            · obtain rfl : k = gs.length := by omega
              have HX2 := (show Hid (∀ (a : Nat) q, a < i + 1 → own[a]? = some q → ∀ k, k < gs.length → tb M q k = true → (tl[k]?).getD false = true ∨ k ∈ own) from fun a q ha hq k hk h => by
                by_cases e : a = i
                · subst e; rw [HP.out.1] at hq; cases hq; exact HY.out k hk h
                · exact HX.out a q (by omega) hq k hk h)
              clear HY HX HP HG HT HMi
              go_wp2_with fail
              go_roundw
              case rel => exact ⟨i + 1, by omega, by go_num, by first | rfl | trivial, HX2⟩
              case measure => simp [intOf]; omega
        · obtain rfl : i = own.length := by omega
          have HE := (show Hid (fD gs.length M tl own = true) from fD_t (fun a p hp k hk h => HX.out a p (List.getElem?_eq_some_iff.1 hp).1 hp k hk h))
          clear HX HG HT HMi HOw
          go_wp2_with fail
          go_ret
          exact ⟨by rw [HE.out]; rfl, HB.out⟩
end Go.Proofs.YtppggnmlbcdegabGreat.N
