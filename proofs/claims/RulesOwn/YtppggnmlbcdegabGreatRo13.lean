/- RulesOwn: of every grammar, number and name the law returns true: what Rename, Groups and Reach hand back is new memory, so that what is written into it changes no later answer; no conditions. -/
import Derived.Deep.RegionHeld3
import Derived.Test.YtppggnmlbcdegabGreatRo12
namespace Go.Proofs.YtppggnmlbcdegabGreat.N
open Go.RowKit Go.Maps
open Go.Proofs.YtppggnmlbcdegabGreat.T

open U (nI own_get own_slice wpList_app1 below_grown TT Out info_split)
theorem cM_tb {gs : GL} {i j : Nat} (hi : i < gs.length) (hj : j < gs.length) : tb (cM gs) i j = cG gs i j := by
  rw [tb_of (cM_get hi), List.getElem?_map, List.getElem?_range hj]; rfl
theorem cM_Tb (gs : GL) : Tb gs.length (cM gs) := ⟨cM_len gs, fun l hl => by
  obtain ⟨i, hi, rfl⟩ := List.mem_iff_getElem.1 hl
  have h2 := cM_get (gs := gs) (i := i) (by rw [cM_len] at hi; exact hi)
  rw [List.getElem?_eq_getElem hi] at h2
  rw [Option.some.inj h2, List.length_map, List.length_range]⟩
/-- Is a rule the next one to be told? -/
def cnd (n : Nat) (c : Mx) (M : List (List Bool)) (told : List Nat) (i : Nat) : Bool := !(told.contains i) && frB n c told (gpL n (tb M) i)
theorem fD_fr {gs : GL} {tl : List Bool} {told own : List Nat} (ho : ∀ k ∈ own, k < gs.length) (hl : tl.length = gs.length) (ht : ∀ k, tl[k]? = some true ↔ k ∈ told) : fD gs.length (cM gs) tl own = frB gs.length (cG gs) told own := by
  unfold fD frB
  rw [Bool.eq_iff_iff, List.all_eq_true, List.all_eq_true]
  have hc : ∀ k, k < gs.length → (tl[k]?).getD false = told.contains k := fun k hk => by
    rw [Bool.eq_iff_iff, List.contains_iff_mem, ← ht k, List.getElem?_eq_getElem (by omega)]
    simp
  have key : ∀ p ∈ own, ((List.range gs.length).all fun k => !(tb (cM gs) p k) || (tl[k]?).getD false || own.contains k) = ((List.range gs.length).all fun k => !(cG gs p k) || told.contains k || own.contains k) := fun p hp => by
    rw [Bool.eq_iff_iff, List.all_eq_true, List.all_eq_true]
    constructor
    · intro q k hk
      have := q k hk
      rw [hc k (List.mem_range.1 hk), cM_tb (ho p hp) (List.mem_range.1 hk)] at this
      exact this
    · intro q k hk
      rw [hc k (List.mem_range.1 hk), cM_tb (ho p hp) (List.mem_range.1 hk)]
      exact q k hk
  constructor
  · intro q p hp; rw [← key p hp]; exact q p hp
  · intro q p hp; rw [key p hp]; exact q p hp
theorem nx_at {n : Nat} {c : Mx} {M : List (List Bool)} {told : List Nat} {i : Nat} (hi : i < n) (h0 : ∀ j, j < i → cnd n c M told j = false) (h1 : cnd n c M told i = true) : nxG n c (tb M) told = some i := by
  unfold nxG
  rw [List.find?_range_eq_some]
  exact ⟨h1, List.mem_range.2 hi, fun j hj => by have := h0 j hj; unfold cnd at this; rw [this]; rfl⟩
theorem nx_no {n : Nat} {c : Mx} {M : List (List Bool)} {told : List Nat} (h0 : ∀ j, j < n → cnd n c M told j = false) : nxG n c (tb M) told = none := by
  unfold nxG
  rw [List.find?_eq_none]
  intro j hj q
  have := h0 j (List.mem_range.1 hj)
  unfold cnd at this
  rw [this] at q
  cases q
def gdM (n k i : Nat) : Nat := (n - k) * (n + 1) + (n - i)
theorem gdM_i {n k i : Nat} (h : i < n) : gdM n k (i + 1) < gdM n k i := by unfold gdM; omega
theorem gdM_k {n k k' i : Nat} (h : k < k') (h2 : k' ≤ n) : gdM n k' 0 < gdM n k i := by
  unfold gdM
  obtain ⟨d, rfl⟩ : ∃ d, k' = k + 1 + d := ⟨k' - k - 1, by omega⟩
  have e : n - k = (n - (k + 1 + d)) + 1 + d := by omega
  rw [e, Nat.add_mul, Nat.add_mul, Nat.one_mul]
  have := Nat.zero_le (d * (n + 1))
  omega
set_option maxRecDepth 100000 in
set_option maxHeartbeats 32000000 in
theorem groupsD_any (gs : GL) (A : Option Addr) (c : Nat) (w : World) (hp : GI w A gs) :
    Calls Tryz.prog 33 #[.agg #[.slice A gs.length c]] w fun e w' => (∃ v xs out, e = .returned (.tuple #[v, .int .i64 (ckG gs).2]) ∧ GpR gs out ∧ TT w' w.heap.size 36 3 v (nM out) xs) ∧ Below w.heap.size w w' := by
  obtain ⟨w1, hw1⟩ : ∃ w1, w1 = (w.alloc (.cells #[.slice A gs.length c] 24)) := ⟨_, rfl⟩
  have HB1 : Hid (Below w.heap.size w w1) := by show Below _ _ _; rw [hw1]; exact below_box _ _
  have HG1 : Hid (GX w1 w.heap.size (.slice A gs.length c)) := by show GX _ _ _; rw [hw1]; exact GX.mk (heap_alloc_new w _)
  have HP := (show Hid (GI w A gs) from hp)
  have HN := (show Hid (∀ _ : Unit, Calls Tryz.prog 44 #[.agg #[.slice A gs.length c]] w1 fun e w' => e = .returned (.tuple #[.agg #[.int .i64 (ckG gs).1.1, .int .i64 (ckG gs).1.2], .int .i64 (ckG gs).2]) ∧ Below w1.heap.size w1 w') from fun _ => checkD_any gs A c w1 (hp.later HB1.out))
  clear hp
  go_enter Tryz.func33, Tryz.ntmps33
  go_wp2_with fail
  rw [← hw1]
  refine (HN.out ()).mono ?_
  rintro e w3 ⟨rfl, b3⟩
  obtain ⟨w4, hw4⟩ : ∃ w4, w4 = w3.alloc (.cells #[.int .i64 ((ckG gs).1.1 : Int), .int .i64 ((ckG gs).1.2 : Int)] 61) := ⟨_, rfl⟩
  have HB := (show Hid (Below w.heap.size w w4) from by show Below _ _ _; rw [hw4]; exact (HB1.out.trans (b3.mono HB1.out.size)).alloc (HB1.out.trans (b3.mono HB1.out.size)).size _)
  have HG := (show Hid (GX w4 w.heap.size (.slice A gs.length c)) from by show GX _ _ _; rw [hw4]; exact (HG1.out.below b3).below (below_box _ _))
  have q1 := HG.out.cl
  clear HN b3 hw1 HB1 HG1
  by_cases hz : (ckG gs).2 = 0
  · have tz : ((ckG gs).2 != 0) = false := by rw [hz]; rfl
    have hR := ckG_ok.1 hz
    have hn := hR.n2
    have HZ := (show Hid ((ckG gs).2 = 0) from hz)
    have HE4 := (show Hid (w3.alloc (.cells #[.int .i64 ((ckG gs).1.1 : Int), .int .i64 ((ckG gs).1.2 : Int)] 61) = w4) from hw4.symm)
    have HC1 := (show Hid (∀ W, Below w4.heap.size w4 W → Calls Tryz.prog 53 #[.agg #[.slice A gs.length c]] W fun e w' => (∃ v xs, e = .returned v ∧ TT w' w4.heap.size 73 4 v (bM (cM gs)) xs) ∧ Below w4.heap.size w4 w' ∧ Below W.heap.size W w') from fun W hW => by
      refine (callsT_any hR A c W ((HP.out.later HB.out).later hW)).mono ?_
      rintro e w' ⟨⟨v, xs, rfl, hT⟩, b⟩
      exact ⟨⟨v, xs, rfl, hT.base (Nat.le_trans hW.size (Nat.le_succ _))⟩, hW.trans (b.mono hW.size), b⟩)
    have HC2 := (show Hid (∀ W, Below w4.heap.size w4 W → Calls Tryz.prog 54 #[.agg #[.slice A gs.length c]] W fun e w' => (∃ v xs M, e = .returned v ∧ TT w' w4.heap.size 73 4 v (bM M) xs ∧ Tb gs.length M ∧ IsR gs.length (cG gs) (tb M)) ∧ Below w4.heap.size w4 w' ∧ Below W.heap.size W w') from fun W hW => by
      refine (comes_any hR A c W ((HP.out.later HB.out).later hW)).mono ?_
      rintro e w' ⟨⟨v, xs, M, rfl, hT, h3, h4⟩, b⟩
      exact ⟨⟨v, xs, M, rfl, hT.base hW.size, h3, h4⟩, hW.trans (b.mono hW.size), b⟩)
    have HKe := (show Hid (∀ W, Below w4.heap.size w4 W → W.cell? ⟨w.heap.size, 0, none⟩ = some (.slice A gs.length c)) from fun W hW => (HG.out.below hW).cl)
    clear hz HP hR hw4 HG
    generalize hcd : (ckG gs).2 = cd at *
    have HCD := (show Hid ((ckG gs).2 = cd) from hcd)
    clear hcd
    go_wp2_with (rw [HE4.out])
    go_region_held3 (fun W => W.cell? ⟨w.heap.size, 0, none⟩ = some (.slice A gs.length c)) (first | go_keep | exact HKe.out _ bA | exact HKe.out _ bB) (first | (go_at_call 53; with_reducible refine (HC1.out _ (by first | exact bB | exact (Below.refl _ _).drew)).mono ?_; rintro e wA ⟨⟨v1, xs1, rfl, hT1⟩, bA, cA⟩) | (go_at_call 54; with_reducible refine (HC2.out _ (by first | exact bA | exact (Below.refl _ _).drew)).mono ?_; rintro e wB ⟨⟨v2, xs2, M, rfl, hT2, hTb, hI⟩, bB, cB⟩))
    rename_i hHeld
    obtain ⟨w5, hmk, ho5, hg5⟩ := make_bools wB wB.heap.size gs.length (Nat.le_refl _) hn
    have q1 := HKe.out _ bB
    have hW1 : WyR wB gs v1 (cM gs) xs1 w4.heap.size := ⟨hT1.below cB, cM_Tb gs⟩
    have hW2 : WyR wB gs v2 M xs2 w4.heap.size := ⟨hT2, hTb⟩
    obtain ⟨A1, c1, rfl⟩ := hW1.form
    obtain ⟨A2, c2, rfl⟩ := hW2.form
    have HGo := (show Hid (∀ (wr : World) (r : Nat), r < gs.length → Below wB.heap.size wB wr → Calls Tryz.prog 56 #[.slice A2 gs.length c2, .int .i64 (r : Int)] wr fun e w' => (∃ u, e = .returned u ∧ w'.ownsRow wr.heap.size 3 1 u (gpL gs.length (tb M) r).length ((gpL gs.length (tb M) r).map nI)) ∧ Below wr.heap.size wr w') from fun wr r hr hb => groupD_any hn hr wr ⟨hW2.t.below hb, hW2.b⟩)
    have HFr := (show Hid (∀ (wr : World) (tl : List Bool) (own : List Nat) (tv ov : Value) (B B3 : Nat), (∀ k ∈ own, k < gs.length) → own.length ≤ 200 → Below wB.heap.size wB wr → wr.ownsRow B 4 1 tv gs.length (tl.map Value.bool) → wr.ownsRow B3 3 1 ov own.length (own.map nI) → Calls Tryz.prog 55 #[.slice A1 gs.length c1, tv, ov] wr fun e w' => e = .returned (.bool (fD gs.length (cM gs) tl own)) ∧ Below wr.heap.size wr w') from fun wr tl own tv ov B B3 h1 h2 hb h3 h4 => freeD_any hn h1 h2 wr ⟨hW1.t.below hb, hW1.b⟩ h3 h4)
    have HS := (show Hid (GrS wB w5 gs (.slice none 0 0) [] [] wB.heap.size (List.replicate gs.length false)) from ⟨below_grown (Below.refl _ _) hg5 (fun j e => by cases e), TT.nil _ _ _ _, by rw [List.map_replicate]; exact ho5⟩)
    have HT0 := (show Hid (TlI gs.length (cG gs) M [] [] (List.replicate gs.length false) ∧ ∀ j, j < 0 → cnd gs.length (cG gs) M [] j = false) from ⟨TlI.start _ _ _, fun j hj => by omega⟩)
    have HI := (show Hid (IsR gs.length (cG gs) (tb M)) from hI)
    have HBB := (show Hid (Below w.heap.size w wB) from HB.out.trans (bB.mono HB.out.size))
    clear hHeld hT1 bA cA hT2 hTb hI bB cB hW1 hW2 ho5 hg5 HC1 HC2 HKe HB HE4
    go_wp2_with fail
    clear hmk q1
    go_loopg [9, 10] (gdM gs.length 0 0) (fun gk u t wr => ∃ (i m : Nat) (told : List Nat) (out : List (List Nat)) (tl : List Bool) (xs : List Value) (A3 : Option Addr) (c3 : Nat), u = .slice A3 m c3 ∧ t = .int .i64 (i : Int) ∧ i ≤ gs.length ∧ m ≤ 200 ∧ Hid (xs.length = m ∧ gdM gs.length told.length i = gk) ∧ Hid (TlI gs.length (cG gs) M told out tl ∧ ∀ j, j < i → cnd gs.length (cG gs) M told j = false) ∧ Hid (GrS wB wr gs (.slice A3 m c3) out xs wB.heap.size tl))
    case atStart => exact ⟨0, 0, [], [], List.replicate gs.length false, [], none, 0, rfl, by go_num, by omega, by omega, ⟨rfl, rfl⟩, HT0, HS⟩
    case round =>
      obtain ⟨i, m, told, out, tl, xs, A3, c3, rfl, rfl, hi, hm, HL, HT, HW⟩ := hrel
      clear HS HT0
      by_cases hil : i < gs.length
      · obtain ⟨gt, egt, y1⟩ := row_get HW.out.o (Below.refl _ _) hil
        have egt2 : wB.heap.size = gt := by injection egt with e; injection e
        clear egt
        subst egt2
        have v0 : (0 : Int) ≤ (i : Int) := by omega
        have v1 : (i : Int) < (gs.length : Int) := by omega
        have hct : (tl[i]?).getD false = told.contains i := by
          rw [Bool.eq_iff_iff, List.contains_iff_mem, ← HT.out.1.m i, List.getElem?_eq_getElem (by have := HT.out.1.l; omega)]
          simp
        cases h1 : (tl[i]?).getD false with
        | true =>
          rw [h1] at y1
          have HT2 := (show Hid (TlI gs.length (cG gs) M told out tl ∧ ∀ j, j < i + 1 → cnd gs.length (cG gs) M told j = false) from ⟨HT.out.1, fun j hj => by
            by_cases e : j = i
            · subst e; unfold cnd; rw [← hct, h1]; rfl
            · exact HT.out.2 j (by omega)⟩)
          have HL3 := (show Hid (gdM gs.length told.length (i + 1) < gk) from by have h := HL.out.2; show _ < gk; rw [← h]; exact gdM_i hil)
          have HL1 := (show Hid (xs.length = m) from HL.out.1)
          clear h1 hct HT HL HGo HFr
          go_wp2_with fail
          go_roundg (gdM gs.length told.length (i + 1))
          case measure => exact HL3.out
          case rel => exact ⟨i + 1, m, told, out, tl, xs, A3, c3, rfl, by go_num, by omega, hm, ⟨HL1.out, rfl⟩, HT2, HW⟩
        | false =>
          rw [h1] at y1
          obtain ⟨gp, hgp⟩ : ∃ gp, gp = gpL gs.length (tb M) i := ⟨_, rfl⟩
          have HGp := (show Hid (gp = gpL gs.length (tb M) i ∧ (∀ k ∈ gp, k < gs.length) ∧ gp.length ≤ 200) from ⟨hgp, fun k hk => by
            rw [hgp] at hk
            exact ((gpL_mem HI.out hil).1 hk).1, by
            have := few_below gs.length gp (by rw [hgp]; exact gpL_nodup _ _ _) (fun k hk => by rw [hgp] at hk; exact ((gpL_mem HI.out hil).1 hk).1)
            omega⟩)
          have HGo2 := (show Hid (∀ W, Below wB.heap.size wB W → Calls Tryz.prog 56 #[.slice A2 gs.length c2, .int .i64 (i : Int)] W fun e w' => (∃ u, e = .returned u ∧ w'.ownsRow W.heap.size 3 1 u gp.length (gp.map nI)) ∧ Below W.heap.size W w') from fun W hb => by have h := HGo.out W i hil hb; rw [← hgp] at h; exact h)
          have HHt := (show Hid (told.contains i = false) from by show _ = _; rw [← hct]; exact h1)
          clear hgp HGo h1 hct
          go_wp2_with fail
          refine (HGo2.out _ HW.out.b).mono ?_
          rintro e w6 ⟨⟨u6, rfl, ho6⟩, b6⟩
          have HW6 := (show Hid (GrS wB w6 gs (.slice A3 m c3) out xs wB.heap.size tl) from HW.out.later b6)
          have HF2 := (show Hid (∀ _ : Unit, Calls Tryz.prog 55 #[.slice A1 gs.length c1, .slice (some ⟨wB.heap.size, 0, none⟩) gs.length gs.length, u6] w6 fun e w' => e = .returned (.bool (frB gs.length (cG gs) told gp)) ∧ Below w6.heap.size w6 w') from fun _ => by
            have h := HFr.out w6 tl gp (.slice (some ⟨wB.heap.size, 0, none⟩) gs.length gs.length) u6 _ _ HGp.out.2.1 HGp.out.2.2 HW6.out.b HW6.out.o ho6
            rw [fD_fr HGp.out.2.1 HT.out.1.l HT.out.1.m] at h
            exact h)
          clear HW ho6 b6 y1 HFr
          go_wp2_with fail
          refine (HF2.out ()).mono ?_
          rintro e w7 ⟨rfl, b7⟩
          have HW7 := (show Hid (GrS wB w7 gs (.slice A3 m c3) out xs wB.heap.size tl) from HW6.out.later b7)
          clear HF2 b7 HW6
          cases h2 : frB gs.length (cG gs) told gp with
          | false =>
            have HT2 := (show Hid (TlI gs.length (cG gs) M told out tl ∧ ∀ j, j < i + 1 → cnd gs.length (cG gs) M told j = false) from ⟨HT.out.1, fun j hj => by
              by_cases e : j = i
              · subst e; unfold cnd; rw [← HGp.out.1, h2, Bool.and_false]
              · exact HT.out.2 j (by omega)⟩)
            have HL3 := (show Hid (gdM gs.length told.length (i + 1) < gk) from by have h := HL.out.2; show _ < gk; rw [← h]; exact gdM_i hil)
            have HL1 := (show Hid (xs.length = m) from HL.out.1)
            clear h2 HT HL HGo2 HGp HHt
            go_wp2_with fail
            go_roundg (gdM gs.length told.length (i + 1))
            case measure => exact HL3.out
            case rel => exact ⟨i + 1, m, told, out, tl, xs, A3, c3, rfl, by go_num, by omega, hm, ⟨HL1.out, rfl⟩, HT2, HW7⟩
          | true =>
            have HX := (show Hid (nxG gs.length (cG gs) (tb M) told = some i) from nx_at hil HT.out.2 (by unfold cnd; rw [HHt.out, ← HGp.out.1, h2]; rfl))
            clear h2 HHt
            go_wp2_with fail
            refine (HGo2.out _ HW7.out.b).mono ?_
            rintro e w8 ⟨⟨u8, rfl, ho8⟩, b8⟩
            obtain ⟨A4, c4, rfl⟩ := own_slice ho8
            have HS4 := (show Hid (GmS wB w8 gs (.slice A3 m c3) out xs wB.heap.size tl (.slice A4 gp.length c4) gp) from ⟨HW7.out.later b8, U.own_base ho8 HW7.out.b.size, fun k e => HW7.out.t.new (ho8.lt k e).1⟩)
            have hgl := HGp.out.2.2
            have HM0 := (show Hid (tl.length = gs.length ∧ ∀ k, tl[k]? = some true ↔ k ∈ told ∨ k ∈ gp.take 0) from ⟨HT.out.1.l, fun k => by rw [HT.out.1.m k]; simp⟩)
            clear HGo2 ho8 b8 HW7
            go_wp2_with fail
            go_loopw [12] (fun t wr => ∃ (j : Nat) (tl2 : List Bool), j ≤ gp.length ∧ t = .int .i64 (j : Int) ∧ Hid (tl2.length = gs.length ∧ ∀ k, tl2[k]? = some true ↔ k ∈ told ∨ k ∈ gp.take j) ∧ Hid (GmS wB wr gs (.slice A3 m c3) out xs wB.heap.size tl2 (.slice A4 gp.length c4) gp)) (fun t _ => gp.length - (intOf t).toNat)
            case atStart => exact ⟨0, tl, by omega, by go_num, HM0, HS4⟩
            case round =>
              obtain ⟨j, tl2, hj, rfl, HM, HW⟩ := hrel
              clear HM0 HS4
              by_cases hjl : j < gp.length
              · obtain ⟨y, hy⟩ : ∃ y, gp[j]? = some y := ⟨_, List.getElem?_eq_getElem hjl⟩
                have hyn := HGp.out.2.1 y (List.mem_of_getElem? hy)
                obtain ⟨g6, c6, e6, _, _, x6, _⟩ := own_get HW.out.r (j := j) (x := nI y) (by rw [List.getElem?_map, hy]; rfl)
                have e7 : A4 = some ⟨g6, 0, none⟩ := by injection e6
                clear e6
                subst e7
                have x6' : wr.cell? ⟨g6, j, none⟩ = some (.int .i64 (y : Int)) := x6
                obtain ⟨gm, cm, em, _, _, xm, fm⟩ := own_get HW.out.c.o (j := y) (x := .bool ((tl2[y]?).getD false)) (by rw [List.getElem?_map, List.getElem?_eq_getElem (by have := HM.out.1; omega)]; rfl)
                have emg : wB.heap.size = gm := by injection em with e1; injection e1 with e1; injection e1
                clear em
                subst emg
                have HM2 := (show Hid ((tl2.set y true).length = gs.length ∧ ∀ k, (tl2.set y true)[k]? = some true ↔ k ∈ told ∨ k ∈ gp.take (j + 1)) from ⟨by rw [List.length_set]; exact HM.out.1, fun k => by
                  rw [get_set, HM.out.2 k, List.take_add_one, hy, List.mem_append]
                  have h9 := HM.out.1
                  constructor
                  · rintro (⟨rfl, _⟩ | q | q)
                    · exact .inr (.inr (by simp))
                    · exact .inl q
                    · exact .inr (.inl q)
                  · rintro (q | q | q)
                    · exact .inr (.inl q)
                    · exact .inr (.inr q)
                    · have : k = y := by simpa using q
                      exact .inl ⟨this, by omega⟩⟩)
                have HW2 := (show Hid (GmS wB (wr.setCell ⟨wB.heap.size, y, none⟩ (.bool true)) gs (.slice A3 m c3) out xs wB.heap.size (tl2.set y true) (.slice (some ⟨g6, 0, none⟩) gp.length c4) gp) from HW.out.set y)
                have u0 : (0 : Int) ≤ (j : Int) := by omega
                have u1 : (j : Int) < (gp.length : Int) := by omega
                have u2 : (0 : Int) ≤ (y : Int) := by omega
                have u3 : (y : Int) < (gs.length : Int) := by omega
                clear HM HW hy hyn x6 HI HX HT HL
                go_wp2_with fail
                go_roundw
                case rel => exact ⟨j + 1, tl2.set y true, by omega, by go_num, HM2, HW2⟩
                case measure => simp [intOf]; omega
              · obtain rfl : j = gp.length := by omega
                obtain ⟨T1, T2⟩ := HT.out.1.step HI.out HX.out HM.out.1 (fun k => by have h := HM.out.2 k; rw [List.take_length] at h; rw [h, HGp.out.1])
                rw [← HGp.out.1] at T1 T2
                have HT2 := (show Hid (TlI gs.length (cG gs) M (told ++ gp) (out ++ [gp]) tl2 ∧ ∀ j, j < 0 → cnd gs.length (cG gs) M (told ++ gp) j = false) from ⟨T1, fun j hj => by omega⟩)
                have hm2 : m + 1 ≤ 200 := by
                  have h1 := gsI_len T1.g
                  have h2 := gsI_few T1.g
                  have h3 : (nM out).length = xs.length := HW.out.c.t.len.symm
                  rw [nM_len, HL.out.1] at h3
                  rw [List.length_append, List.length_singleton] at h1
                  omega
                have HL2 := (show Hid ((xs ++ [Value.slice A4 gp.length c4]).length = m + 1) from by show _ = _; rw [List.length_append, HL.out.1]; rfl)
                have HL3 := (show Hid (gdM gs.length (told ++ gp).length 0 < gk) from by
                  have h := HL.out.2
                  show _ < gk
                  rw [← h]
                  exact gdM_k T2 (gsI_few T1.g))
                have HO := (show Hid (wr.ownsRow wB.heap.size 36 1 (.slice A3 m c3) m xs) from by have h := HW.out.c.t.o; rw [HL.out.1] at h; exact h)
                have HBw := (show Hid (wB.heap.size ≤ wr.heap.size) from HW.out.c.b.size)
                have HPu := (show Hid (∀ (g3 cap3 : Nat) (w5 : World), w5.ownsRow wB.heap.size 36 1 (.slice (some ⟨g3, 0, none⟩) (m + 1) cap3) (m + 1) (xs ++ [.slice A4 gp.length c4]) → wr.grownBy w5 (Value.slice A3 m c3).ownBlock → ((Value.slice A3 m c3).ownBlock = some g3 ∨ g3 = wr.heap.size + 1) → GrS wB w5 gs (.slice (some ⟨g3, 0, none⟩) (m + 1) cap3) (out ++ [gp]) (xs ++ [.slice A4 gp.length c4]) wB.heap.size tl2) from fun g3 cap3 w5 h1 h2 h3 => HW.out.push HL.out.1 h1 h2 h3)
                clear HM HW HI HX HT HL T1 T2 HGp
                go_wp2_with (at_builtin; refine wpList_app1 rfl _ _ 32 rfl (.slice none 0 0) 24 Tryz.underlying32 Tryz.info37 rfl wB.heap.size m _ xs rfl rfl HO.out rfl (by omega) (by decide) HBw.out ?_; intro g3 cap3 w5 ho5 hg5 hat5 hl5; have HW5 := (show Hid (GrS wB w5 gs (.slice (some ⟨g3, 0, none⟩) (m + 1) cap3) (out ++ [gp]) (xs ++ [.slice A4 gp.length c4]) wB.heap.size tl2) from HPu.out g3 cap3 w5 ho5 hg5 hat5); clear ho5 hg5 hat5 hl5 HPu HO HBw)
                go_roundg (gdM gs.length (told ++ gp).length 0)
                case measure => exact HL3.out
                case rel => exact ⟨0, m + 1, told ++ gp, out ++ [gp], tl2, xs ++ [.slice A4 gp.length c4], some ⟨g3, 0, none⟩, cap3, rfl, by go_num, by omega, hm2, ⟨HL2.out, rfl⟩, HT2, HW5⟩
      · obtain rfl : i = gs.length := by omega
        have HE := (show Hid (out = gsG gs.length (cG gs) (tb M) (gs.length + 1) [] []) from HT.out.1.done (nx_no HT.out.2))
        have HTT := (show Hid (TT wr w.heap.size 36 3 (.slice A3 m c3) (nM out) xs) from HW.out.t.base HBB.out.size)
        have HBz := (show Hid (Below w.heap.size w wr) from HBB.out.trans (HW.out.b.mono HBB.out.size))
        have HGr := (show Hid (GpR gs out) from ⟨fun _ => ⟨tb M, HI.out, HE.out⟩, fun q => absurd (HCD.out.trans HZ.out) q⟩)
        clear HT HW HL HGo HFr HI HE HBB
        go_wp2_with fail
        refine bodyPost_ret (v := .tuple #[.slice A3 m c3, .int .i64 0]) (by simp [results, Tryz.results33, go_sem]) rfl ⟨⟨_, xs, out, by rw [HCD.out, HZ.out], HGr.out, HTT.out⟩, HBz.out⟩
  · have tz : ((ckG gs).2 != 0) = true := by rw [bne, beq_eq_false_iff_ne.2 hz]; rfl
    have HZ := (show Hid ((ckG gs).2 ≠ 0) from hz)
    clear hz HP HG
    subst hw4
    generalize hcd : (ckG gs).2 = cd at *
    have HCD := (show Hid ((ckG gs).2 = cd) from hcd)
    clear hcd
    go_wp2_with fail
    refine bodyPost_ret (v := .tuple #[.slice none 0 0, .int .i64 cd]) (by simp [results, Tryz.results33, go_sem]) rfl ⟨⟨_, [], [], by rw [HCD.out], ⟨fun q => absurd (HCD.out.symm.trans q) HZ.out, fun _ => rfl⟩, TT.nil _ _ _ _⟩, HB.out⟩
end Go.Proofs.YtppggnmlbcdegabGreat.N

namespace Go.Proofs.YtppggnmlbcdegabGreat.N
open Go.RowKit Go.Maps
open Go.Proofs.YtppggnmlbcdegabGreat.T

open U (nI own_get own_slice wpList_app1 below_grown TT Out info_split)
set_option maxRecDepth 100000 in
set_option maxHeartbeats 8000000 in
theorem againD_any (gs : GL) (A : Option Addr) (c : Nat) (w : World) (hp : GI w A gs) :
    Calls Tryz.prog 35 #[.agg #[.slice A gs.length c]] w fun e w' => (∃ v l, e = .returned (.tuple #[v, .int .i64 (ckG gs).2]) ∧ AgR gs l ∧ w'.ownsRow w.heap.size 4 1 v l.length (l.map Value.bool)) ∧ Below w.heap.size w w' := by
  obtain ⟨w1, hw1⟩ : ∃ w1, w1 = (w.alloc (.cells #[.slice A gs.length c] 24)) := ⟨_, rfl⟩
  have HB1 : Hid (Below w.heap.size w w1) := by show Below _ _ _; rw [hw1]; exact below_box _ _
  have HG1 : Hid (GX w1 w.heap.size (.slice A gs.length c)) := by show GX _ _ _; rw [hw1]; exact GX.mk (heap_alloc_new w _)
  have HP := (show Hid (GI w A gs) from hp)
  have HN := (show Hid (∀ _ : Unit, Calls Tryz.prog 44 #[.agg #[.slice A gs.length c]] w1 fun e w' => e = .returned (.tuple #[.agg #[.int .i64 (ckG gs).1.1, .int .i64 (ckG gs).1.2], .int .i64 (ckG gs).2]) ∧ Below w1.heap.size w1 w') from fun _ => checkD_any gs A c w1 (hp.later HB1.out))
  clear hp
  go_enter Tryz.func35, Tryz.ntmps35
  go_wp2_with fail
  rw [← hw1]
  refine (HN.out ()).mono ?_
  rintro e w3 ⟨rfl, b3⟩
  obtain ⟨w4, hw4⟩ : ∃ w4, w4 = w3.alloc (.cells #[.int .i64 ((ckG gs).1.1 : Int), .int .i64 ((ckG gs).1.2 : Int)] 61) := ⟨_, rfl⟩
  have HB := (show Hid (Below w.heap.size w w4) from by show Below _ _ _; rw [hw4]; exact (HB1.out.trans (b3.mono HB1.out.size)).alloc (HB1.out.trans (b3.mono HB1.out.size)).size _)
  have HG := (show Hid (GX w4 w.heap.size (.slice A gs.length c)) from by show GX _ _ _; rw [hw4]; exact (HG1.out.below b3).below (below_box _ _))
  have q1 := HG.out.cl
  clear HN b3 hw1 HB1 HG1
  by_cases hz : (ckG gs).2 = 0
  · have tz : ((ckG gs).2 != 0) = false := by rw [hz]; rfl
    have hR := ckG_ok.1 hz
    have hn := hR.n2
    have HZ := (show Hid ((ckG gs).2 = 0) from hz)
    have HE4 := (show Hid (w3.alloc (.cells #[.int .i64 ((ckG gs).1.1 : Int), .int .i64 ((ckG gs).1.2 : Int)] 61) = w4) from hw4.symm)
    have HC2 := (show Hid (∀ _ : Unit, Calls Tryz.prog 54 #[.agg #[.slice A gs.length c]] w4 fun e w' => (∃ v xs M, e = .returned v ∧ TT w' w4.heap.size 73 4 v (bM M) xs ∧ Tb gs.length M ∧ IsR gs.length (cG gs) (tb M)) ∧ Below w4.heap.size w4 w') from fun _ => comes_any hR A c w4 (HP.out.later HB.out))
    clear hz HP hR hw4 HG
    generalize hcd : (ckG gs).2 = cd at *
    have HCD := (show Hid ((ckG gs).2 = cd) from hcd)
    clear hcd
    go_wp2_with (rw [HE4.out])
    refine (HC2.out ()).mono ?_
    rintro e w5 ⟨⟨v, xs, M, rfl, hT, hTb, hI⟩, b5⟩
    have hW : WyR w5 gs v M xs w4.heap.size := ⟨hT, hTb⟩
    obtain ⟨A2, c2, rfl⟩ := hW.form
    have HG := (show Hid (∀ (i : Nat) (wr : World), i < gs.length → Below w5.heap.size w5 wr → ∃ g0 gi ci, A2 = some ⟨g0, 0, none⟩ ∧ wr.cell? ⟨g0, i, none⟩ = some (.slice (some ⟨gi, 0, none⟩) gs.length ci) ∧ wr.cell? ⟨gi, i, none⟩ = some (.bool (tb M i i))) from fun i wr hi hb => by
      obtain ⟨g0, gi, ci, e1, _, y1, y2⟩ := hW.get hb hi hi
      exact ⟨g0, gi, ci, e1, y1, y2⟩)
    have HI := (show Hid (IsR gs.length (cG gs) (tb M)) from hI)
    have HB5 := (show Hid (Below w.heap.size w w5) from HB.out.trans (b5.mono HB.out.size))
    have HS := (show Hid (AgS w5 w5 gs (.slice none 0 0) []) from ⟨Below.refl _ _, World.ownsRow_nil _ _ _ _, fun i => by simp⟩)
    clear HC2 hT hTb hI b5 hW HB HE4 q1
    go_wp2_with fail
    go_loopw [7, 8] (fun u t wr => ∃ (k : Nat) (l : List Bool) (A3 : Option Addr) (c3 : Nat), k ≤ gs.length ∧ t = .int .i64 (k : Int) ∧ u = .slice A3 k c3 ∧ Hid (l.length = k) ∧ Hid (AgS w5 wr gs (.slice A3 k c3) l)) (fun _ t _ => gs.length - (intOf t).toNat)
    case atStart => exact ⟨0, [], none, 0, by omega, by go_num, rfl, rfl, HS⟩
    case round =>
      obtain ⟨k, l, A3, c3, hk, rfl, rfl, HL, HW⟩ := hrel
      clear HS
      by_cases hlt : k < gs.length
      · obtain ⟨g0, gi, ci, rfl, y1, y2⟩ := HG.out k wr hlt HW.out.b
        have v0 : (0 : Int) ≤ (k : Int) := by omega
        have v1 : (k : Int) < (gs.length : Int) := by omega
        obtain ⟨bk, hbk⟩ : ∃ bk, tb M k k = bk := ⟨_, rfl⟩
        rw [hbk] at y2
        have hbR : bk = true ↔ Rc gs.length (cG gs) k k := by rw [← hbk]; exact HI.out.rl k k hlt hlt
        have HO := (show Hid (wr.ownsRow w5.heap.size 4 1 (.slice A3 k c3) k (l.map Value.bool)) from by have h := HW.out.o; rw [HL.out] at h; exact h)
        have HBw := (show Hid (w5.heap.size ≤ wr.heap.size) from HW.out.b.size)
        have HPu := (show Hid (∀ (u' : Value) (w7 : World), w7.ownsRow w5.heap.size 4 1 u' (k + 1) (l.map Value.bool ++ [.bool bk]) → wr.grownBy w7 (Value.slice A3 k c3).ownBlock → AgS w5 w7 gs u' (l ++ [bk])) from fun u' w7 h1 h2 => HW.out.push (Below.refl _ _) (by rw [HL.out]; exact hbR) (by rw [HL.out]; exact h1) h2)
        have HL2 := (show Hid ((l ++ [bk]).length = k + 1) from by show _ = _; rw [List.length_append, HL.out]; rfl)
        clear HW HL hbk hbR HG HI
        go_wp2_with (at_builtin; refine wpList_app1 rfl _ _ 73 rfl (.bool false) 1 Tryz.underlying73 Tryz.info4 rfl w5.heap.size k _ (l.map Value.bool) rfl rfl HO.out rfl (by omega) (by decide) HBw.out ?_; intro g5 cap5 w7 ho5 hg5 hat5 hl5; have HW5 := (show Hid (AgS w5 w7 gs (.slice (some ⟨g5, 0, none⟩) (k + 1) cap5) (l ++ [bk])) from HPu.out _ _ ho5 hg5); clear ho5 hg5 hat5 hl5 HPu HO HBw y1 y2)
        go_roundw
        case rel => exact ⟨k + 1, l ++ [bk], some ⟨g5, 0, none⟩, cap5, by omega, by go_num, rfl, HL2, HW5⟩
        case measure => simp [intOf]; omega
      · obtain rfl : k = gs.length := by omega
        have HO := (show Hid (wr.ownsRow w.heap.size 4 1 (.slice A3 gs.length c3) l.length (l.map Value.bool)) from U.own_base HW.out.o HB5.out.size)
        have HA := (show Hid (AgR gs l) from ⟨fun _ => ⟨HL.out, fun i => by rw [HW.out.i i, HL.out]⟩, fun q => absurd (HCD.out.trans HZ.out) q⟩)
        have HB6 := (show Hid (Below w.heap.size w wr) from HB5.out.trans (HW.out.b.mono HB5.out.size))
        clear HW HL HG HI HB5
        go_wp2_with fail
        refine bodyPost_ret (v := .tuple #[.slice A3 gs.length c3, .int .i64 0]) (by simp [results, Tryz.results35, go_sem]) rfl ⟨⟨_, l, by rw [HCD.out, HZ.out], HA.out, HO.out⟩, HB6.out⟩
  · have tz : ((ckG gs).2 != 0) = true := by rw [bne, beq_eq_false_iff_ne.2 hz]; rfl
    have HZ := (show Hid ((ckG gs).2 ≠ 0) from hz)
    clear hz HP HG
    subst hw4
    generalize hcd : (ckG gs).2 = cd at *
    have HCD := (show Hid ((ckG gs).2 = cd) from hcd)
    clear hcd
    go_wp2_with fail
    refine bodyPost_ret (v := .tuple #[.slice none 0 0, .int .i64 cd]) (by simp [results, Tryz.results35, go_sem]) rfl ⟨⟨_, [], by rw [HCD.out], ⟨fun q => absurd (HCD.out.symm.trans q) HZ.out, fun _ => rfl⟩, World.ownsRow_nil _ _ _ _⟩, HB.out⟩
end Go.Proofs.YtppggnmlbcdegabGreat.N

namespace Go.Proofs.YtppggnmlbcdegabGreat.N
open Go.RowKit Go.Maps
open Go.Proofs.YtppggnmlbcdegabGreat.T

open U (nI own_get own_slice TT)
theorem agR_len {gs : GL} {l : List Bool} (h : AgR gs l) : l.length ≤ 100000 := by
  by_cases q : (ckG gs).2 = 0
  · have h1 := (h.1 q).1
    have h2 := (ckG_ok.1 q).n2
    omega
  · rw [h.2 q]; exact Nat.zero_le _
/-- The groups hold each rule once. -/
theorem gpR_all {gs : GL} {out : List (List Nat)} (h : GpR gs out) (q : (ckG gs).2 = 0) : ∃ told, GsI gs.length (cG gs) told out ∧ ∀ i, i < gs.length → i ∈ told := by
  obtain ⟨R, h1, rfl⟩ := h.1 q
  exact gsG_all h1 (gs.length + 1) [] [] (GsI.nil _ _) (by simp)
theorem gsI_row {n : Nat} {c : Mx} {told : List Nat} {out : List (List Nat)} (h : GsI n c told out) {l : List Nat} (hl : l ∈ out) : l.length ≤ n ∧ l.Nodup ∧ (∀ x ∈ l, x < n) := by
  have hsub : l.Sublist told := by rw [← h.fl]; exact List.sublist_flatten_of_mem hl
  have hnd := hsub.nodup h.nd
  have hlt : ∀ x ∈ l, x < n := fun x hx => h.lt x (hsub.subset hx)
  exact ⟨few_below n l hnd hlt, hnd, hlt⟩
theorem gpR_len {gs : GL} {out : List (List Nat)} (h : GpR gs out) : out.length ≤ 100000 ∧ ∀ l ∈ out, l.length ≤ 100000 := by
  by_cases q : (ckG gs).2 = 0
  · obtain ⟨told, h1, _⟩ := gpR_all h q
    have h2 := (ckG_ok.1 q).n2
    have h3 := gsI_len h1
    have h4 := gsI_few h1
    exact ⟨by omega, fun l hl => by have := (gsI_row h1 hl).1; omega⟩
  · rw [h.2 q]; exact ⟨Nat.zero_le _, fun l hl => by cases hl⟩
set_option maxRecDepth 100000 in
set_option maxHeartbeats 8000000 in
theorem groups_law (gs : GL) (A : Option Addr) (c : Nat) (w : World) (hg : GrIn w A c gs) : Calls Tryz.prog 13 #[.agg #[.slice A gs.length c]] w fun e w' => e = .returned (.bool true) ∧ Below w.heap.size w w' := by
  have hl := hg.len
  obtain ⟨w0, hw0⟩ : ∃ w0, w0 = w.alloc (.cells #[.slice A gs.length c] 24) := ⟨_, rfl⟩
  have hb0 : Below w.heap.size w w0 := by rw [hw0]; exact below_box w _
  have HX0 := (show Hid (GX w0 w.heap.size (.slice A gs.length c)) from by rw [hw0]; exact GX.mk (heap_alloc_new w _))
  have HE0 := (show Hid (w.alloc (.cells #[.slice A gs.length c] 24) = w0) from hw0.symm)
  have hg0 : GrIn w0 A c gs := hg.later hb0
  have HLe : Hid (∀ _ : Unit, Calls Tryz.prog 4 #[.agg #[.slice A gs.length c]] w0 fun e w' => ∃ g cap ov, e = .returned (.agg #[.slice (some ⟨g, 0, none⟩) gs.length cap]) ∧ ov.map (·.1) = gs ∧ LgB w0 w' g cap ov) := fun _ => lendG_any gs A c w0 hg0
  have HK : Hid (∀ (w' : World) (g cap : Nat) (ov : List Le), ov.map (·.1) = gs → LgB w0 w' g cap ov → GrD w' A gs → Calls Tryz.prog 15 #[.agg #[.slice (some ⟨g, 0, none⟩) gs.length cap], .agg #[.slice A gs.length c]] w' fun e w'' => e = .returned (.bool true) ∧ Below w'.heap.size w' w'') := fun w' g cap ov h0 h1 h2 => keptG_any h0 (fun r hr => by
    obtain ⟨k, hk⟩ := List.getElem?_of_mem hr
    obtain ⟨_, _, h6, _⟩ := hg.each k r hk
    exact h6.2.2.2.1) hl h1 h2
  have HWk := (show Hid (∀ W, Calls Tryz.prog 8 #[] W fun e w' => e = .returned (.bool true) ∧ Below W.heap.size W w') from lives_any)
  have HP := (show Hid (GI w0 A gs) from hg0.gi)
  have HB0 := (show Hid (Below w.heap.size w w0) from hb0)
  have x0 := HX0.out.cl
  have HA1 : Hid (∀ (w' : World) (Ap : Option Addr) (cp : Nat), GI w' Ap gs → Calls Tryz.prog 10 #[.agg #[.slice Ap gs.length cp]] w' fun e w'' => (∃ v xs out, e = .returned (.tuple #[v, .int .i64 (ckG gs).2]) ∧ GpR gs out ∧ TT w'' w'.heap.size 36 3 v (nM out) xs) ∧ Below w'.heap.size w' w'') := fun w' Ap cp h => groupsP_any gs Ap cp w' h
  have HD1 : Hid (∀ (w' : World) (Ap : Option Addr) (cp : Nat), GI w' Ap gs → Calls Tryz.prog 33 #[.agg #[.slice Ap gs.length cp]] w' fun e w'' => (∃ v xs out, e = .returned (.tuple #[v, .int .i64 (ckG gs).2]) ∧ GpR gs out ∧ TT w'' w'.heap.size 36 3 v (nM out) xs) ∧ Below w'.heap.size w' w'') := fun w' Ap cp h => groupsD_any gs Ap cp w' h
  have HA2 : Hid (∀ (w' : World) (Ap : Option Addr) (cp : Nat), GI w' Ap gs → Calls Tryz.prog 34 #[.agg #[.slice Ap gs.length cp]] w' fun e w'' => (∃ v l, e = .returned (.tuple #[v, .int .i64 (ckG gs).2]) ∧ AgR gs l ∧ w''.ownsRow w'.heap.size 4 1 v l.length (l.map Value.bool)) ∧ Below w'.heap.size w' w'') := fun w' Ap cp h => againP_any gs Ap cp w' h
  have HD2 : Hid (∀ (w' : World) (Ap : Option Addr) (cp : Nat), GI w' Ap gs → Calls Tryz.prog 35 #[.agg #[.slice Ap gs.length cp]] w' fun e w'' => (∃ v l, e = .returned (.tuple #[v, .int .i64 (ckG gs).2]) ∧ AgR gs l ∧ w''.ownsRow w'.heap.size 4 1 v l.length (l.map Value.bool)) ∧ Below w'.heap.size w' w'') := fun w' Ap cp h => againD_any gs Ap cp w' h
  generalize (ckG gs).2 = cd at *
  clear hg hl hg0 hw0 hb0
  go_enter Tryz.func13, Tryz.ntmps13
  go_wp2_with (rw [HE0.out])
  refine (HLe.out ()).mono ?_
  rintro e w1 ⟨g, cap, ov, rfl, hm, ho⟩
  have HM := (show Hid (ov.map (·.1) = gs) from hm)
  obtain ⟨w2, hw2⟩ : ∃ w2, w2 = w1.alloc (.cells #[.slice (some ⟨g, 0, none⟩) gs.length cap] 24) := ⟨_, rfl⟩
  have HE2 := (show Hid (w1.alloc (.cells #[.slice (some ⟨g, 0, none⟩) gs.length cap] 24) = w2) from hw2.symm)
  have HS2 := (show Hid (LyS w0 w2 w.heap.size w1.heap.size (.slice A gs.length c) (.slice (some ⟨g, 0, none⟩) gs.length cap) g cap ov) from by
    have hb : Below w1.heap.size w1 w2 := by rw [hw2]; exact below_box w1 _
    have hX1 : GX w1 w.heap.size (.slice A gs.length c) := HX0.out.same (ho.b.block _ HX0.out.lt)
    exact ⟨ho.later hb, hX1.below hb, by rw [hw2]; exact GX.mk (heap_alloc_new w1 _)⟩)
  have y1 := HS2.out.x1.cl
  have y2 := HS2.out.x2.cl
  have HIn := (show Hid (∀ W, LyS w0 W w.heap.size w1.heap.size (.slice A gs.length c) (.slice (some ⟨g, 0, none⟩) gs.length cap) g cap ov → GI W (some ⟨g, 0, none⟩) gs ∧ GI W A gs) from fun W h => ⟨⟨h.l.gr HM.out, HP.out.l, HP.out.t⟩, HP.out.later h.l.b⟩)
  clear ho hm HLe hw2 x0 HX0
  go_wp2_with (rw [HE2.out])
  generalize w1.heap.size = k1 at *
  refine (HA1.out w2 _ _ (HIn.out _ HS2.out).1).mono ?_
  rintro e w3 ⟨⟨va, xa, oa, rfl, ra, ta⟩, b3⟩
  have HS3 := (show Hid (LyS w0 w3 w.heap.size k1 (.slice A gs.length c) (.slice (some ⟨g, 0, none⟩) gs.length cap) g cap ov) from HS2.out.later b3)
  generalize w2.heap.size = ba at ta
  have HRa := (show Hid (GpR gs oa) from ra)
  clear ra
  have HTa_3 := (show Hid (TT w3 ba 36 3 va (nM oa) xa) from ta)
  clear b3 HS2 y1 y2 HA1 HE2 ta
  have y1 := HS3.out.x1.cl
  have y2 := HS3.out.x2.cl
  go_wp2_with fail
  refine (HD1.out w3 _ _ (HIn.out _ HS3.out).2).mono ?_
  rintro e w4 ⟨⟨vb, xb, ob, rfl, rb, tb⟩, b4⟩
  have HS4 := (show Hid (LyS w0 w4 w.heap.size k1 (.slice A gs.length c) (.slice (some ⟨g, 0, none⟩) gs.length cap) g cap ov) from HS3.out.later b4)
  have HTa_4 := (show Hid (TT w4 ba 36 3 va (nM oa) xa) from (TT.below HTa_3.out b4))
  generalize w3.heap.size = bb at tb
  obtain rfl : oa = ob := HRa.out.same rb
  clear rb
  have HTb_4 := (show Hid (TT w4 bb 36 3 vb (nM oa) xb) from tb)
  clear b4 HS3 HTa_3 y1 y2 HD1 tb
  have y1 := HS4.out.x1.cl
  have y2 := HS4.out.x2.cl
  go_wp2_with fail
  refine (HA2.out w4 _ _ (HIn.out _ HS4.out).1).mono ?_
  rintro e w5 ⟨⟨vc, lc, rfl, rc, oc⟩, b5⟩
  have HS5 := (show Hid (LyS w0 w5 w.heap.size k1 (.slice A gs.length c) (.slice (some ⟨g, 0, none⟩) gs.length cap) g cap ov) from HS4.out.later b5)
  have HTa_5 := (show Hid (TT w5 ba 36 3 va (nM oa) xa) from (TT.below HTa_4.out b5))
  have HTb_5 := (show Hid (TT w5 bb 36 3 vb (nM oa) xb) from (TT.below HTb_4.out b5))
  generalize w4.heap.size = bc at oc
  have HRc := (show Hid (AgR gs lc) from rc)
  clear rc
  have HOc_5 := (show Hid (World.ownsRow w5 bc 4 1 vc lc.length (lc.map Value.bool)) from oc)
  clear b5 HS4 HTa_4 HTb_4 y1 y2 HA2 oc
  have y1 := HS5.out.x1.cl
  have y2 := HS5.out.x2.cl
  go_wp2_with fail
  refine (HD2.out w5 _ _ (HIn.out _ HS5.out).2).mono ?_
  rintro e w6 ⟨⟨vd, ld, rfl, rd, od⟩, b6⟩
  have HS6 := (show Hid (LyS w0 w6 w.heap.size k1 (.slice A gs.length c) (.slice (some ⟨g, 0, none⟩) gs.length cap) g cap ov) from HS5.out.later b6)
  have HTa_6 := (show Hid (TT w6 ba 36 3 va (nM oa) xa) from (TT.below HTa_5.out b6))
  have HTb_6 := (show Hid (TT w6 bb 36 3 vb (nM oa) xb) from (TT.below HTb_5.out b6))
  have HOc_6 := (show Hid (World.ownsRow w6 bc 4 1 vc lc.length (lc.map Value.bool)) from U.own_below HOc_5.out b6)
  generalize w5.heap.size = bd at od
  obtain rfl : lc = ld := HRc.out.same rd
  clear rd
  have HOd_6 := (show Hid (World.ownsRow w6 bd 4 1 vd lc.length (lc.map Value.bool)) from od)
  clear b6 HS5 HTa_5 HTb_5 HOc_5 y1 y2 HD2 od
  have y1 := HS6.out.x1.cl
  have y2 := HS6.out.x2.cl
  go_wp2_with fail
  refine (HWk.out w6).mono ?_
  rintro e w7 ⟨rfl, b7⟩
  have HS7 := (show Hid (LyS w0 w7 w.heap.size k1 (.slice A gs.length c) (.slice (some ⟨g, 0, none⟩) gs.length cap) g cap ov) from HS6.out.later b7)
  have HTa_7 := (show Hid (TT w7 ba 36 3 va (nM oa) xa) from (TT.below HTa_6.out b7))
  have HTb_7 := (show Hid (TT w7 bb 36 3 vb (nM oa) xb) from (TT.below HTb_6.out b7))
  have HOc_7 := (show Hid (World.ownsRow w7 bc 4 1 vc lc.length (lc.map Value.bool)) from U.own_below HOc_6.out b7)
  have HOd_7 := (show Hid (World.ownsRow w7 bd 4 1 vd lc.length (lc.map Value.bool)) from U.own_below HOd_6.out b7)
  clear b7 HS6 HTa_6 HTb_6 HOc_6 HOd_6 y1 y2 HWk
  have HLc := (show Hid (lc.length ≤ 100000) from agR_len HRc.out)
  have HGl := (show Hid (oa.length ≤ 100000 ∧ ∀ l ∈ oa, l.length ≤ 100000) from gpR_len HRa.out)
  obtain ⟨Aa, ca, ea⟩ := own_slice HTa_7.out.o
  obtain ⟨Ab, cb, eb⟩ := own_slice HTb_7.out.o
  have hla : xa.length = oa.length := HTa_7.out.len.trans (nM_len oa)
  have hlb : xb.length = oa.length := HTb_7.out.len.trans (nM_len oa)
  rw [hla] at ea
  rw [hlb] at eb
  subst ea eb
  have hgl := HGl.out.1
  clear HRc HRa hla hlb
  have y1 := HS7.out.x1.cl
  have y2 := HS7.out.x2.cl
  go_wp2_with fail
  refine (sameB_any _ _ _ _ _ lc HLc.out w7 HOc_7.out HOd_7.out).mono ?_
  rintro e w8 ⟨rfl, b8⟩
  have HS8 := (show Hid (LyS w0 w8 w.heap.size k1 (.slice A gs.length c) (.slice (some ⟨g, 0, none⟩) gs.length cap) g cap ov) from HS7.out.later b8)
  have HTa_8 := (show Hid (TT w8 ba 36 3 (.slice Aa oa.length ca) (nM oa) xa) from (TT.below HTa_7.out b8))
  have HTb_8 := (show Hid (TT w8 bb 36 3 (.slice Ab oa.length cb) (nM oa) xb) from (TT.below HTb_7.out b8))
  have HOc_8 := (show Hid (World.ownsRow w8 bc 4 1 vc lc.length (lc.map Value.bool)) from U.own_below HOc_7.out b8)
  have HOd_8 := (show Hid (World.ownsRow w8 bd 4 1 vd lc.length (lc.map Value.bool)) from U.own_below HOd_7.out b8)
  clear b8 HS7 HTa_7 HTb_7 HOc_7 HOd_7 y1 y2 
  clear HOc_8 HOd_8 HLc
  have HRd := (show Hid (∀ (k : Nat) (W : World), k < oa.length → Below w8.heap.size w8 W → ∃ g1 A3 c3 g2 A4 c4 n, Aa = some ⟨g1, 0, none⟩ ∧ W.cell? ⟨g1, k, none⟩ = some (.slice A3 n c3) ∧ Ab = some ⟨g2, 0, none⟩ ∧ W.cell? ⟨g2, k, none⟩ = some (.slice A4 n c4) ∧ Calls Tryz.prog 37 #[.slice A3 n c3, .slice A4 n c4] W fun e w' => e = .returned (.bool true) ∧ Below W.heap.size W w') from fun k W hk hb => by
    have hl : oa[k]? = some oa[k] := List.getElem?_eq_getElem hk
    obtain ⟨x1, r1, hx1, hr1, ho1⟩ := HTa_8.out.at' (i := k) (by rw [nM_len]; exact hk)
    obtain ⟨x2, r2, hx2, hr2, ho2⟩ := HTb_8.out.at' (i := k) (by rw [nM_len]; exact hk)
    rw [nM_get hl] at hr1 hr2
    cases hr1
    cases hr2
    rw [List.length_map] at ho1 ho2
    obtain ⟨A3, c3, rfl⟩ := own_slice ho1
    obtain ⟨A4, c4, rfl⟩ := own_slice ho2
    obtain ⟨g1, d1, e1, _, l1, y1, _⟩ := own_get HTa_8.out.o hx1
    obtain ⟨g2, d2, e2, _, l2, y2, _⟩ := own_get HTb_8.out.o hx2
    have f1 : Aa = some ⟨g1, 0, none⟩ := by injection e1
    have f2 : Ab = some ⟨g2, 0, none⟩ := by injection e2
    exact ⟨g1, A3, c3, g2, A4, c4, oa[k].length, f1, (hb.cell (p := ⟨g1, k, none⟩) l1).trans y1, f2, (hb.cell (p := ⟨g2, k, none⟩) l2).trans y2, sameI_any _ _ _ _ _ oa[k] (HGl.out.2 _ (List.getElem_mem hk)) W (U.own_below ho1 hb) (U.own_below ho2 hb)⟩)
  go_wp2_with fail
  go_loopw [12] (fun t wr => ∃ k : Nat, k ≤ oa.length ∧ t = .int .i64 (k : Int) ∧ Hid (Below w8.heap.size w8 wr)) (fun t _ => oa.length - (intOf t).toNat)
  case atStart => exact ⟨0, by omega, by go_num, Below.refl _ _⟩
  case round =>
    obtain ⟨k, hk, rfl, HBk⟩ := hrel
    by_cases hlt : k < oa.length
    · obtain ⟨g1, A3, c3, g2, A4, c4, n, rfl, y1, rfl, y2, _⟩ := HRd.out k wr hlt HBk.out
      have HCs := (show Hid (∀ W, Below wr.heap.size wr W → (W.cell? ⟨g1, k, none⟩ = some (.slice A3 n c3) ∧ W.cell? ⟨g2, k, none⟩ = some (.slice A4 n c4)) ∧ Calls Tryz.prog 37 #[.slice A3 n c3, .slice A4 n c4] W fun e w' => e = .returned (.bool true) ∧ Below wr.heap.size wr w') from fun W hW => by
        have hb : Below w8.heap.size w8 W := HBk.out.trans (hW.mono HBk.out.size)
        have z1 := (hW.cell (p := ⟨g1, k, none⟩) (World.block_lt_of_cell? wr _ y1)).trans y1
        have z2 := (hW.cell (p := ⟨g2, k, none⟩) (World.block_lt_of_cell? wr _ y2)).trans y2
        refine ⟨⟨z1, z2⟩, ?_⟩
        obtain ⟨g1', A3', c3', g2', A4', c4', n', e1, x1, e2, x2, hc⟩ := HRd.out k W hlt hb
        have f1 : g1 = g1' := by injection e1 with e1; injection e1
        have f2 : g2 = g2' := by injection e2 with e2; injection e2
        subst f1 f2
        rw [z1] at x1
        rw [z2] at x2
        cases x1
        cases x2
        refine hc.mono ?_
        rintro e w' ⟨rfl, b⟩
        exact ⟨rfl, hW.trans (b.mono hW.size)⟩)
      have v0 : (0 : Int) ≤ (k : Int) := by omega
      have v1 : (k : Int) < (oa.length : Int) := by omega
      clear HRd HK
      go_wp2_with fail
      go_region_held3 (fun W => W.cell? ⟨g1, k, none⟩ = some (.slice A3 n c3) ∧ W.cell? ⟨g2, k, none⟩ = some (.slice A4 n c4)) (first | go_keep | exact (HCs.out _ bq).1) ((go_at_call 37; with_reducible refine (HCs.out _ ((Below.refl _ _).drew)).2.mono ?_; rintro e wq ⟨rfl, bq⟩))
      all_goals
        have HB2 := (show Hid (Below w8.heap.size w8 wq) from HBk.out.trans (bq.mono HBk.out.size))
        clear bq HCs y1 y2 HBk
        go_wp2_with fail
        go_roundw
        case rel => exact ⟨k + 1, by omega, by go_num, HB2⟩
        case measure => simp [intOf]; omega
    · obtain rfl : k = oa.length := by omega
      have HSk := (show Hid (LyS w0 wr w.heap.size k1 (.slice A gs.length c) (.slice (some ⟨g, 0, none⟩) gs.length cap) g cap ov) from HS8.out.later HBk.out)
      have y1 := HSk.out.x1.cl
      have y2 := HSk.out.x2.cl
      clear HRd HS8 HTa_8 HTb_8
      go_wp2_with fail
      refine (HK.out _ g cap ov HM.out HSk.out.l (HP.out.d.later HSk.out.l.b)).mono ?_
      rintro e wz ⟨rfl, bz⟩
      have HBz := (show Hid (Below w.heap.size w wz) from HB0.out.trans ((HSk.out.l.b.trans (bz.mono HSk.out.l.b.size)).mono HB0.out.size))
      clear bz HK HSk HP y1 y2
      go_wp2_with fail
      go_ret
      exact ⟨rfl, HBz.out⟩
end Go.Proofs.YtppggnmlbcdegabGreat.N

namespace Go.Proofs.YtppggnmlbcdegabGreat.N
open Go.RowKit Go.Maps
open Go.Proofs.YtppggnmlbcdegabGreat.T

open U (nI TT)
theorem rnG_small (gs : GL) (r : Int) (s : ByteArray) : (rnG gs r s).length ≤ 200 ∧ ∀ g ∈ rnG gs r s, g.2.length ≤ 2048 := by
  unfold rnG
  split
  · rename_i h
    have hR := (lkR_zero (rnE_zero h).1).1
    refine ⟨by rw [reG_len]; exact hR.n2, fun g hg => ?_⟩
    obtain ⟨k, hk⟩ := List.getElem?_of_mem hg
    rw [reG_get] at hk
    cases hx : gs[k]? with
    | none => rw [hx] at hk; cases hk
    | some x =>
      rw [hx] at hk
      cases hk
      show (List.map _ _).length ≤ _
      rw [List.length_map]
      exact (rt_sizes hR x (List.mem_of_getElem? hx)).2
  · exact ⟨Nat.zero_le _, (fun g hg => by cases hg)⟩
/-- What lies there all the way: the grammar, the lent one, the document's answer. -/
structure OwS (w0 wr : World) (wb k k2 : Nat) (u1 u2 u4 : Value) (g cap : Nat) (ov : List Le) (hs : GL) : Prop where
  s : LyS w0 wr wb k u1 u2 g cap ov
  x4 : GX wr k2 u4
  r4 : GrR wr u4 hs
theorem OwS.later {w0 wr W' : World} {wb k k2 : Nat} {u1 u2 u4 : Value} {g cap : Nat} {ov : List Le} {hs : GL} (h : OwS w0 wr wb k k2 u1 u2 u4 g cap ov hs) (hb : Below wr.heap.size wr W') : OwS w0 W' wb k k2 u1 u2 u4 g cap ov hs :=
  ⟨h.s.later hb, h.x4.below hb, h.r4.later hb⟩
/-- While groups are spoilt: from the row k on they are as they were. -/
structure SpR (W wr : World) (v : Value) (m : Nat) (xs : List Value) (k : Nat) : Prop where
  b : Below W.heap.size W wr
  o : wr.ownsRow W.heap.size 36 1 v m xs
  e : ∀ (j : Nat) x, k ≤ j → xs[j]? = some x → ∃ n r, wr.ownsRow W.heap.size 3 1 x n r ∧ n ≤ 100000
  ap : ∀ (i j : Nat) x y q, xs[i]? = some x → xs[j]? = some y → i ≠ j → x.ownBlock = some q → y.ownBlock ≠ some q
theorem SpR.next {W wr w' : World} {v : Value} {m : Nat} {xs : List Value} {k : Nat} {x : Value} (h : SpR W wr v m xs k) (hx : xs[k]? = some x) (hg : wr.grownBy w' x.ownBlock) : SpR W w' v m xs (k + 1) := by
  obtain ⟨n, r, hxo, _⟩ := h.e k x (Nat.le_refl _) hx
  refine ⟨h.b.grown hg h.b.size (fun q e => (hxo.lt q e).1), own_same h.o fun q hq => hg.block q (h.o.lt q hq).2 (fun e => own_apart h.o hxo (by decide) hq e.symm), fun j y hj hy => ?_, h.ap⟩
  obtain ⟨n2, r2, hyo, h2⟩ := h.e j y (by omega) hy
  exact ⟨n2, r2, own_same hyo fun q hq => hg.block q (hyo.lt q hq).2 (fun e => h.ap k j x y q hx hy (by omega) e.symm hq), h2⟩
set_option maxRecDepth 100000 in
set_option maxHeartbeats 16000000 in
theorem own_law (gs : GL) (A : Option Addr) (c : Nat) (r : Int) (s : ByteArray) (hs : s.size ≤ 140737488355328) (w : World) (hg : GrIn w A c gs) : Calls Tryz.prog 3 #[.agg #[.slice A gs.length c], .int .i64 r, .string s] w fun e w' => e = .returned (.bool true) ∧ Below w.heap.size w w' := by
  have hl := hg.len
  obtain ⟨w0, hw0⟩ : ∃ w0, w0 = w.alloc (.cells #[.slice A gs.length c] 24) := ⟨_, rfl⟩
  have hb0 : Below w.heap.size w w0 := by rw [hw0]; exact below_box w _
  have HX0 := (show Hid (GX w0 w.heap.size (.slice A gs.length c)) from by rw [hw0]; exact GX.mk (heap_alloc_new w _))
  have HE0 := (show Hid (w.alloc (.cells #[.slice A gs.length c] 24) = w0) from hw0.symm)
  have hg0 : GrIn w0 A c gs := hg.later hb0
  have HLe : Hid (∀ _ : Unit, Calls Tryz.prog 4 #[.agg #[.slice A gs.length c]] w0 fun e w' => ∃ g cap ov, e = .returned (.agg #[.slice (some ⟨g, 0, none⟩) gs.length cap]) ∧ ov.map (·.1) = gs ∧ LgB w0 w' g cap ov) := fun _ => lendG_any gs A c w0 hg0
  have HK : Hid (∀ (w' : World) (g cap : Nat) (ov : List Le), ov.map (·.1) = gs → LgB w0 w' g cap ov → GrD w' A gs → Calls Tryz.prog 15 #[.agg #[.slice (some ⟨g, 0, none⟩) gs.length cap], .agg #[.slice A gs.length c]] w' fun e w'' => e = .returned (.bool true) ∧ Below w'.heap.size w' w'') := fun w' g cap ov h0 h1 h2 => keptG_any h0 (fun r hr => by
    obtain ⟨k, hk⟩ := List.getElem?_of_mem hr
    obtain ⟨_, _, h6, _⟩ := hg.each k r hk
    exact h6.2.2.2.1) hl h1 h2
  have HWk := (show Hid (∀ W, Calls Tryz.prog 8 #[] W fun e w' => e = .returned (.bool true) ∧ Below W.heap.size W w') from lives_any)
  have HP := (show Hid (GI w0 A gs) from hg0.gi)
  have HB0 := (show Hid (Below w.heap.size w w0) from hb0)
  have x0 := HX0.out.cl
  have HGm := (show Hid (GmL gs) from ⟨by omega, fun g hgm => (hg0.gi.t g hgm).2.1⟩)
  have HGn := (show Hid (GmL (rnG gs r s)) from rnG_sizes HGm.out)
  have HSm := (show Hid ((rnG gs r s).length ≤ 200 ∧ ∀ g ∈ rnG gs r s, g.2.length ≤ 2048) from rnG_small gs r s)
  have HA1 : Hid (∀ (w' : World) (Ap : Option Addr) (cp : Nat), GI w' Ap gs → Calls Tryz.prog 6 #[.agg #[.slice Ap gs.length cp], .int .i64 r, .string s] w' fun e w'' => (∃ Av nv cv ov, e = .returned (.tuple #[.agg #[.slice Av nv cv], .int .i64 (rnE gs r s)]) ∧ ov.map (·.1) = rnG gs r s ∧ OG w'' w'.heap.size (.slice Av nv cv) ov) ∧ Below w'.heap.size w' w'') := fun w' Ap cp h => by
    refine (renameP_any gs Ap cp r s hs w' h).mono ?_
    rintro e w'' ⟨⟨v, ov, rfl, h1, h2⟩, hb⟩
    obtain ⟨Av, cv, rfl⟩ := own_sl h2.o
    exact ⟨⟨Av, _, cv, ov, rfl, h1, h2⟩, hb⟩
  have HD1 : Hid (∀ (w' : World) (Ap : Option Addr) (cp : Nat), GI w' Ap gs → Calls Tryz.prog 5 #[.agg #[.slice Ap gs.length cp], .int .i64 r, .string s] w' fun e w'' => (∃ Av nv cv ov, e = .returned (.tuple #[.agg #[.slice Av nv cv], .int .i64 (rnE gs r s)]) ∧ ov.map (·.1) = rnG gs r s ∧ OG w'' w'.heap.size (.slice Av nv cv) ov) ∧ Below w'.heap.size w' w'') := fun w' Ap cp h => by
    refine (renameD_any gs Ap cp r s hs w' h).mono ?_
    rintro e w'' ⟨⟨v, ov, rfl, h1, h2⟩, hb⟩
    obtain ⟨Av, cv, rfl⟩ := own_sl h2.o
    exact ⟨⟨Av, _, cv, ov, rfl, h1, h2⟩, hb⟩
  have HGr : Hid (∀ (w' : World) (Ap : Option Addr) (cp : Nat), GI w' Ap gs → Calls Tryz.prog 10 #[.agg #[.slice Ap gs.length cp]] w' fun e w'' => (∃ A2 m c2 xs, e = .returned (.tuple #[.slice A2 m c2, .int .i64 (ckG gs).2]) ∧ m ≤ 100000 ∧ SpR w' w'' (.slice A2 m c2) m xs 0) ∧ Below w'.heap.size w' w'') := fun w' Ap cp h => by
    refine (groupsP_any gs Ap cp w' h).mono ?_
    rintro e w'' ⟨⟨v, xs, out, rfl, h1, h2⟩, hb⟩
    obtain ⟨A2, c2, rfl⟩ := own_sl h2.o
    have hl2 := gpR_len h1
    have hle : xs.length = out.length := h2.len.trans (nM_len out)
    refine ⟨⟨A2, _, c2, xs, rfl, by omega, hb, h2.o, fun j x _ hx => ?_, h2.apart⟩, hb⟩
    obtain ⟨rr, q1, q2⟩ := h2.both hx
    refine ⟨_, _, q2, ?_⟩
    unfold nM at q1
    rw [List.getElem?_map] at q1
    cases ho : out[j]? with
    | none => rw [ho] at q1; cases q1
    | some l =>
      rw [ho] at q1
      cases q1
      rw [List.length_map]
      exact hl2.2 l (List.mem_of_getElem? ho)
  have HRc : Hid (∀ (w' : World) (Ap : Option Addr) (cp : Nat), GI w' Ap gs → Calls Tryz.prog 12 #[.agg #[.slice Ap gs.length cp], .int .i64 r] w' fun e w'' => (∃ v n xs, e = .returned (.tuple #[v, .int .i64 (lkR gs r)]) ∧ n ≤ 100000 ∧ w''.ownsRow w'.heap.size 3 1 v n xs) ∧ Below w'.heap.size w' w'') := fun w' Ap cp h => by
    refine (reachP_any gs Ap cp r w' h).mono ?_
    rintro e w'' ⟨⟨v, l, rfl, h1, h2⟩, hb⟩
    exact ⟨⟨v, _, _, rfl, rhR_len h1, h2⟩, hb⟩
  have HGl : Hid (∀ W, Below w0.heap.size w0 W → Calls Tryz.prog 13 #[.agg #[.slice A gs.length c]] W fun e w' => e = .returned (.bool true) ∧ Below W.heap.size W w') := fun W hW => groups_law gs A c W (hg0.later hW)
  have HCl : Hid (∀ W, Below w0.heap.size w0 W → Calls Tryz.prog 14 #[.agg #[.slice A gs.length c], .int .i64 r, .string s] W fun e w' => e = .returned (.bool true) ∧ Below W.heap.size W w') := fun W hW => calls_law gs A c r s hs W (hg0.later hW)
  generalize rnE gs r s = re at *
  generalize rnG gs r s = rg at *
  generalize (ckG gs).2 = ce at *
  generalize lkR gs r = le at *
  clear hg hl hg0 hw0 hb0
  go_enter Tryz.func3, Tryz.ntmps3
  go_wp2_with (rw [HE0.out])
  refine (HLe.out ()).mono ?_
  rintro e w1 ⟨g, cap, ov, rfl, hm, ho⟩
  have HM := (show Hid (ov.map (·.1) = gs) from hm)
  obtain ⟨w2, hw2⟩ : ∃ w2, w2 = w1.alloc (.cells #[.slice (some ⟨g, 0, none⟩) gs.length cap] 24) := ⟨_, rfl⟩
  have HE2 := (show Hid (w1.alloc (.cells #[.slice (some ⟨g, 0, none⟩) gs.length cap] 24) = w2) from hw2.symm)
  have HS2 := (show Hid (LyS w0 w2 w.heap.size w1.heap.size (.slice A gs.length c) (.slice (some ⟨g, 0, none⟩) gs.length cap) g cap ov) from by
    have hb : Below w1.heap.size w1 w2 := by rw [hw2]; exact below_box w1 _
    have hX1 : GX w1 w.heap.size (.slice A gs.length c) := HX0.out.same (ho.b.block _ HX0.out.lt)
    exact ⟨ho.later hb, hX1.below hb, by rw [hw2]; exact GX.mk (heap_alloc_new w1 _)⟩)
  have y1 := HS2.out.x1.cl
  have y2 := HS2.out.x2.cl
  have HIn := (show Hid (∀ W, LyS w0 W w.heap.size w1.heap.size (.slice A gs.length c) (.slice (some ⟨g, 0, none⟩) gs.length cap) g cap ov → GI W (some ⟨g, 0, none⟩) gs ∧ GI W A gs) from fun W h => ⟨⟨h.l.gr HM.out, HP.out.l, HP.out.t⟩, HP.out.later h.l.b⟩)
  clear ho hm HLe hw2 x0 HX0
  go_wp2_with (rw [HE2.out])
  generalize w1.heap.size = k1 at *
  refine (HD1.out w2 _ _ (HIn.out _ HS2.out).2).mono ?_
  rintro e w3 ⟨⟨A3, n3, c3, ov3, rfl, hm3, ho3⟩, b3⟩
  obtain ⟨w4, hw4⟩ : ∃ w4, w4 = w3.alloc (.cells #[.slice A3 n3 c3] 24) := ⟨_, rfl⟩
  have HE4 := (show Hid (w3.alloc (.cells #[.slice A3 n3 c3] 24) = w4) from hw4.symm)
  have b4 : Below w3.heap.size w3 w4 := by rw [hw4]; exact below_box w3 _
  have HS4 := (show Hid (OwS w0 w4 w.heap.size k1 w3.heap.size (.slice A gs.length c) (.slice (some ⟨g, 0, none⟩) gs.length cap) (.slice A3 n3 c3) g cap ov rg) from ⟨(HS2.out.later b3).later b4, by rw [hw4]; exact GX.mk (heap_alloc_new w3 _), (ho3.rd hm3).later b4⟩)
  clear b3 b4 hw4 HS2 y1 y2 HD1 HE2 hm3 ho3
  go_wp2_with (rw [HE4.out])
  generalize w3.heap.size = k3 at *
  clear HE4
  go_loopw [10] (fun t wr => ∃ i : Nat, i ≤ 2 ∧ t = .int .i64 (i : Int) ∧ Hid (OwS w0 wr w.heap.size k1 k3 (.slice A gs.length c) (.slice (some ⟨g, 0, none⟩) gs.length cap) (.slice A3 n3 c3) g cap ov rg)) (fun t _ => 2 - (intOf t).toNat)
  case atStart => exact ⟨0, by omega, by go_num, HS4⟩
  case round =>
    obtain ⟨i, hi, rfl, HW⟩ := hrel
    clear HS4
    have y2 := HW.out.s.x2.cl
    by_cases hlt : i < 2
    · have v1 : (i : Int) < 2 := by omega
      go_wp2_with fail
      refine (HA1.out wr _ _ (HIn.out _ HW.out.s).1).mono ?_
      rintro e w5 ⟨⟨A5, n5, c5, ov5, rfl, hm5, ho5⟩, b5⟩
      obtain ⟨w6, hw6⟩ : ∃ w6, w6 = w5.alloc (.cells #[.slice A5 n5 c5] 24) := ⟨_, rfl⟩
      have HE6 := (show Hid (w5.alloc (.cells #[.slice A5 n5 c5] 24) = w6) from hw6.symm)
      have b6 : Below w5.heap.size w5 w6 := by rw [hw6]; exact below_box w5 _
      have HS6 := (show Hid (OwS w0 w6 w.heap.size k1 k3 (.slice A gs.length c) (.slice (some ⟨g, 0, none⟩) gs.length cap) (.slice A3 n3 c3) g cap ov rg) from (HW.out.later b5).later b6)
      have HX6 := (show Hid (GX w6 w5.heap.size (.slice A5 n5 c5)) from by rw [hw6]; exact GX.mk (heap_alloc_new w5 _))
      have HO6 := (show Hid (OG w6 wr.heap.size (.slice A5 n5 c5) ov5) from ho5.later b6)
      have HB6 := (show Hid (Below wr.heap.size wr w6) from b5.trans (b6.mono b5.size))
      have HM5 := (show Hid (ov5.map (·.1) = rg) from hm5)
      have y6 := HX6.out.cl
      have y7 := HS6.out.x4.cl
      clear b5 b6 hw6 y2 hm5 ho5
      go_wp2_with (rw [HE6.out])
      generalize w5.heap.size = k5 at *
      refine (sameH_any HGn.out HGn.out (HO6.out.rd HM5.out) HS6.out.r4).mono ?_
      rintro e w7 ⟨rfl, b7⟩
      have HS7 := (show Hid (OwS w0 w7 w.heap.size k1 k3 (.slice A gs.length c) (.slice (some ⟨g, 0, none⟩) gs.length cap) (.slice A3 n3 c3) g cap ov rg) from HS6.out.later b7)
      have HX7 := (show Hid (GX w7 k5 (.slice A5 n5 c5)) from HX6.out.below b7)
      have HO7 := (show Hid (OG w7 wr.heap.size (.slice A5 n5 c5) ov5) from HO6.out.later b7)
      have HB7 := (show Hid (Below wr.heap.size wr w7) from HB6.out.trans (b7.mono HB6.out.size))
      rw [gmB_t rfl]
      clear b7 y6 y7 HS6 HX6 HO6 HB6 HE6
      go_wp2_with fail
      refine (HWk.out w7).mono ?_
      rintro e w8 ⟨rfl, b8⟩
      have HS8 := (show Hid (OwS w0 w8 w.heap.size k1 k3 (.slice A gs.length c) (.slice (some ⟨g, 0, none⟩) gs.length cap) (.slice A3 n3 c3) g cap ov rg) from HS7.out.later b8)
      have HX8 := (show Hid (GX w8 k5 (.slice A5 n5 c5)) from HX7.out.below b8)
      have HO8 := (show Hid (OG w8 wr.heap.size (.slice A5 n5 c5) ov5) from HO7.out.later b8)
      have HB8 := (show Hid (Below wr.heap.size wr w8) from HB7.out.trans (b8.mono HB7.out.size))
      have y8 := HX8.out.cl
      have HSp := (show Hid (∀ _ : Unit, Calls Tryz.prog 9 #[.agg #[.slice A5 n5 c5], .int .i64 (-3)] w8 fun e w' => e = .returned (.tuple #[]) ∧ Below wr.heap.size wr w') from fun _ => spoilG_any (-3) HB8.out HO8.out.o HO8.out (fun x hx => HSm.out.2 x.1 (by rw [← HM5.out]; exact List.mem_map_of_mem hx)) (by have := HSm.out.1; rw [← HM5.out, List.length_map] at this; exact this))
      clear b8 HS7 HX7 HO7 HB7
      go_wp2_with fail
      refine (HSp.out ()).mono ?_
      rintro e w9 ⟨rfl, b9⟩
      have HW9 := (show Hid (OwS w0 w9 w.heap.size k1 k3 (.slice A gs.length c) (.slice (some ⟨g, 0, none⟩) gs.length cap) (.slice A3 n3 c3) g cap ov rg) from HW.out.later b9)
      clear b9 HSp HS8 HX8 HO8 HB8 y8 HM5 HW
      go_wp2_with fail
      go_roundw
      case rel => exact ⟨i + 1, by omega, by go_num, HW9⟩
      case measure => simp [intOf]; omega
    · obtain rfl : i = 2 := by omega
      clear hi hlt HA1 HGn HSm
      go_wp2_with fail
      refine (HGr.out wr _ _ (HIn.out _ HW.out.s).1).mono ?_
      rintro e wG ⟨⟨A2, m, c2, xs, rfl, hm, hsp⟩, bG⟩
      have HSp := (show Hid (SpR wr wG (.slice A2 m c2) m xs 0) from hsp)
      clear y2 bG hsp HGr
      go_wp2_with fail
      obtain ⟨wQ, hwQ⟩ : ∃ wQ, wQ = wr := ⟨_, rfl⟩
      subst hwQ
      go_loopw [15] (fun t wr => ∃ i : Nat, i ≤ m ∧ t = .int .i64 (i : Int) ∧ Hid (SpR wQ wr (.slice A2 m c2) m xs i)) (fun t _ => m - (intOf t).toNat)
      case atStart => exact ⟨0, by omega, by go_num, HSp⟩
      case round =>
        obtain ⟨i, hi, rfl, HR⟩ := hrel
        clear HSp
        by_cases hlt : i < m
        · have hxl : xs.length = m := by have := HR.out.o.1; omega
          obtain ⟨x, hx⟩ : ∃ x, xs[i]? = some x := ⟨_, List.getElem?_eq_getElem (by omega)⟩
          obtain ⟨g2, cap2, e2, _⟩ := HR.out.o.form (by omega)
          obtain ⟨rfl, rfl⟩ : A2 = some ⟨g2, 0, none⟩ ∧ c2 = cap2 := by injection e2 with e1 e2 e3; exact ⟨e1, e3⟩
          have y3 : wr.cell? ⟨g2, i, none⟩ = some x := by rw [HR.out.o.cellAt i (by omega)]; exact hx
          obtain ⟨n2, r2, ho2, hn2⟩ := HR.out.e i x (Nat.le_refl _) hx
          have HSi := (show Hid (∀ _ : Unit, Calls Tryz.prog 11 #[x, .int .i64 (-7)] wr fun e w' => e = .returned (.tuple #[]) ∧ SpR wQ w' (.slice (some ⟨g2, 0, none⟩) m c2) m xs (i + 1)) from fun _ => (spoilI_any (-7) x n2 wQ.heap.size r2 wr ho2 HR.out.b.size (by omega)).mono fun e w' q => ⟨q.1, HR.out.next hx q.2⟩)
          have v0 : (0 : Int) ≤ (i : Int) := by omega
          have v1 : (i : Int) < (m : Int) := by omega
          clear hxl hx e2 ho2 hn2 HR
          go_wp2_with fail
          refine (HSi.out ()).mono ?_
          rintro e w' ⟨rfl, hR2⟩
          have HR2 := (show Hid _ from hR2)
          clear hR2 HSi y3
          go_wp2_with fail
          go_roundw
          case rel => exact ⟨i + 1, by omega, by go_num, HR2⟩
          case measure => simp [intOf]; omega
        · obtain rfl : i = m := by omega
          have HV := (show Hid (OwS w0 wr w.heap.size k1 k3 (.slice A gs.length c) (.slice (some ⟨g, 0, none⟩) gs.length cap) (.slice A3 n3 c3) g cap ov rg) from HW.out.later HR.out.b)
          have y4 := HV.out.s.x2.cl
          clear HR HW
          go_wp2_with fail
          refine (HRc.out wr _ _ (HIn.out _ HV.out.s).1).mono ?_
          rintro e wa ⟨⟨va, na, xa, rfl, hna, hoa⟩, ba⟩
          have HSi := (show Hid (∀ _ : Unit, Calls Tryz.prog 11 #[va, .int .i64 (-8)] wa fun e w' => e = .returned (.tuple #[]) ∧ Below wr.heap.size wr w') from fun _ => (spoilI_any (-8) va na wr.heap.size xa wa hoa ba.size (by omega)).mono fun e w' q => ⟨q.1, ba.grown q.2 ba.size (fun j e => (hoa.lt j e).1)⟩)
          clear hna hoa ba y4
          go_wp2_with fail
          refine (HSi.out ()).mono ?_
          rintro e wb ⟨rfl, bb⟩
          have HVb := (show Hid (OwS w0 wb w.heap.size k1 k3 (.slice A gs.length c) (.slice (some ⟨g, 0, none⟩) gs.length cap) (.slice A3 n3 c3) g cap ov rg) from HV.out.later bb)
          have y1 := HVb.out.s.x1.cl
          clear bb HSi HV
          go_wp2_with fail
          refine (HGl.out wb HVb.out.s.l.b).mono ?_
          rintro e wc ⟨rfl, bc⟩
          have HVc := (show Hid (OwS w0 wc w.heap.size k1 k3 (.slice A gs.length c) (.slice (some ⟨g, 0, none⟩) gs.length cap) (.slice A3 n3 c3) g cap ov rg) from HVb.out.later bc)
          clear bc y1 HVb
          have y1 := HVc.out.s.x1.cl
          go_wp2_with fail
          refine (HCl.out wc HVc.out.s.l.b).mono ?_
          rintro e wd ⟨rfl, bd⟩
          have HVd := (show Hid (OwS w0 wd w.heap.size k1 k3 (.slice A gs.length c) (.slice (some ⟨g, 0, none⟩) gs.length cap) (.slice A3 n3 c3) g cap ov rg) from HVc.out.later bd)
          clear bd y1 HVc
          have y1 := HVd.out.s.x1.cl
          have y2 := HVd.out.s.x2.cl
          go_wp2_with fail
          refine (HK.out _ g cap ov HM.out HVd.out.s.l (HP.out.d.later HVd.out.s.l.b)).mono ?_
          rintro e wz ⟨rfl, bz⟩
          have HBz := (show Hid (Below w.heap.size w wz) from HB0.out.trans ((HVd.out.s.l.b.trans (bz.mono HVd.out.s.l.b.size)).mono HB0.out.size))
          clear bz HK HVd HP y1 y2
          go_wp2_with fail
          go_ret
          exact ⟨rfl, HBz.out⟩
end Go.Proofs.YtppggnmlbcdegabGreat.N

namespace Go.Proofs.YtppggnmlbcdegabGreat
open Go.ChangeShapes Go.WideShapes Go.ChangeAt Go.RowKit
open Go.ChangeMaps (open_string shut_string)
set_option maxRecDepth 100000 in
theorem rulesOwn_lifted (os : Os) (started : os.Started) (H : Type) (enc : TypeId × Value → H) :
    ReturnsInHanded {} Tryz.checked os 3 .any (Rows.rulesOwnSpec.pre6 enc Tryz.prog Tryz.f3 Rows.rulesOwnRow.domain false) (Rows.rulesOwnSpec.post enc Tryz.prog Tryz.f3 false true false false) := by
  refine returnsInHanded_of_change_sized (C := Tryz.checked) T.own started (by kernel_rfl) Tryz.func3
    (ChangeSpec.witness6 (enc := enc) (C := Tryz.checked) false ⟨#[], #[.agg #[.slice none 0 0], .int .i64 0, .string ByteArray.empty], []⟩ 8 (by kernel_rfl) (by kernel_rfl) (by kernel_rfl) (by kernel_rfl)) ?_
  intro W base args ds gs before hval0 hW hcnd hsz _
  have hval : ∀ (j : Nat) t v, Tryz.f3.params[j]? = some t → args[j]? = some v → Value.okWide Tryz.prog W .any base t v := hval0
  have hW' := hW
  obtain ⟨p, q, hA0, hV, rfl, hfz, hnd⟩ := hW
  have hA : DataW.TrodAll enc Tryz.prog W 0 (fun _ => true) true Tryz.f3.params.toList args.toList ds p := hA0
  rw [Tryz.params3] at hA hval
  have hsz : (DataW.weightsEach Tryz.prog (#[24, 3, 9].toList ++ Rows.rulesOwnSpec.plain.varTypes Tryz.prog) (ds ++ gs)).all (· ≤ reachBytes) = true := hsz
  obtain ⟨v0, v1, v2, d0, d1, d2, p0, p1, p2, rfl, rfl, rfl, h0, h1, h2⟩ := trodAll_three hA
  obtain ⟨rfl, rfl⟩ := trodVars_none hV
  have lt0 : ∀ x ∈ p0, x.block < W.heap.size := by obtain ⟨m, hm⟩ := h0; exact DataW.trod_lt m _ _ _ hm
  obtain ⟨A0, c0, L0, rfl, r0⟩ := N.open_gram h0 (hval 0 24 v0 rfl rfl) (T.sized_at hsz (j := 0) rfl rfl)
  obtain ⟨n1, rfl, rfl, rfl, wm1⟩ := open_int Tryz.underlying3 (hval 1 3 v1 rfl rfl) h1
  have sz2 := T.sized_at hsz (j := 2) rfl rfl
  obtain ⟨s2, rfl, rfl, rfl, hs2⟩ := open_string Tryz.underlying9 (hval 2 9 v2 rfl rfl) h2
  have hb2 : s2.size ≤ 140737488355328 := by
    have hr : reachBytes = 140737488351232 := by decide
    have h := sz2 s2.size (by simp only [DataW.weights, List.mem_singleton]; rw [Array.length_toList]; rfl)
    rw [hr] at h
    omega
  clear hA0 hval0
  refine (N.own_law L0 A0 c0 n1 s2 hb2 W r0).mono fun e W' ⟨he, bel⟩ => ?_
  subst he
  exact ⟨_, rfl, _, _, _, [], _, [], hW', trodAll_mk1 (shut_bool Tryz.underlying4 _), (trodAll_cons_mk (Below.trod T.laidOut (by kernel_rfl) (of_decide_eq_true (by kernel_rfl)) h0 bel lt0) (trodAll_cons_mk (shut_int Tryz.underlying3 wm1) (trodAll_cons_mk (shut_string Tryz.underlying9 hs2) trodAll_mk0))), rfl, bel.frame _, fun h => by cases h⟩

theorem rulesOwn_holds : Rows.RulesOwnSaid :=
  OpenClaim.holds_of_wide 3 Tryz.f3 rfl rfl rfl rfl rfl rfl rfl ⟨rfl, rfl, rfl, rfl, rfl⟩ rfl rfl rfl rfl rfl (by kernel_rfl) Tryz.func3 (by kernel_rfl)
    (of_decide_eq_true (by kernel_rfl)) (by unfold Func.isWrapper; first | (rw [if_pos (by decide +kernel)]; kernel_rfl) | (rw [if_neg (by decide +kernel)]; exact ⟨rfl, rfl⟩))
    (fun os started H enc _ => rulesOwn_lifted os started H enc)
end Go.Proofs.YtppggnmlbcdegabGreat
