/- DERIVED. Walks: Place, by the program. -/
import Derived.Test.YtafnjidackofpabSpA
import Derived.Test.YtafnjidackofpabPlF
import Derived.Sort.QuietIn
namespace Go.Proofs.Ytafnjidackofpab
open Go.RowKit Go.Shelf

attribute [local go_sem] Oper.semAt_some

/-- A box of one cell. -/
structure Box1 (W : World) (b : Nat) (v : Value) : Prop where
  c : W.cell? ⟨b, 0, none⟩ = some v
  f : W.frozen? ⟨b, 0, none⟩ = false
theorem Box1.new (W : World) (v : Value) (t : TypeId) : Box1 (W.alloc (.cells #[v] t)) W.heap.size v := by
  have h := World.alloc_heap_new W (.cells #[v] t)
  exact ⟨by unfold World.cell?; rw [h]; rfl, by unfold World.frozen?; rw [h]; rfl⟩
theorem Box1.kept {W W' : World} {b : Nat} {v : Value} {row : Option Nat} (h : Box1 W b v) (hg : W.grownBy W' row) (hr : ∀ r, row = some r → ∃ o : Obj, W.heap[r]? = some o ∧ o.isCells = false) : Box1 W' b v :=
  ⟨cell_kept h.1 hg hr, (frozen_kept h.1 hg hr).trans h.2⟩
theorem Box1.alloc {W : World} {b : Nat} {v : Value} (h : Box1 W b v) (o : Obj) : Box1 (W.alloc o) b v := h.kept (World.grownBy_alloc W o none) (fun r e => by cases e)
theorem Box1.set {W : World} {b : Nat} {v : Value} (h : Box1 W b v) (u : Value) : Box1 (W.setCell ⟨b, 0, none⟩ u) b u :=
  ⟨World.cell?_setCell_same' _ _ _ (by rw [h.1]; rfl), by rw [World.frozen?_setCell]; exact h.2⟩
theorem Box1.other {W : World} {b c j : Nat} {v : Value} (h : Box1 W b v) (hne : b ≠ c) (u : Value) : Box1 (W.setCell ⟨c, j, none⟩ u) b v := by
  obtain ⟨h1, h2⟩ := h
  constructor <;> simp [go_sem, *]

/-- A box with a spot. -/
structure Box3 (W : World) (b : Nat) (x : Spot) : Prop where
  c0 : W.cell? ⟨b, 0, none⟩ = some (.int .i64 (x.1 : Int))
  c1 : W.cell? ⟨b, 1, none⟩ = some (.int .i64 (x.2.1 : Int))
  c2 : W.cell? ⟨b, 2, none⟩ = some (.int .i64 (x.2.2 : Int))
  f0 : W.frozen? ⟨b, 0, none⟩ = false
  f1 : W.frozen? ⟨b, 1, none⟩ = false
  f2 : W.frozen? ⟨b, 2, none⟩ = false
theorem Box3.new (W : World) (x : Spot) : Box3 (W.alloc (.cells #[.int .i64 (x.1 : Int), .int .i64 (x.2.1 : Int), .int .i64 (x.2.2 : Int)] 36)) W.heap.size x := by
  constructor <;> simp [go_sem]
theorem Box3.kept {W W' : World} {b : Nat} {x : Spot} {row : Option Nat} (h : Box3 W b x) (hg : W.grownBy W' row) (hr : ∀ r, row = some r → ∃ o : Obj, W.heap[r]? = some o ∧ o.isCells = false) : Box3 W' b x :=
  ⟨cell_kept h.c0 hg hr, cell_kept h.c1 hg hr, cell_kept h.c2 hg hr, (frozen_kept h.c0 hg hr).trans h.f0, (frozen_kept h.c1 hg hr).trans h.f1, (frozen_kept h.c2 hg hr).trans h.f2⟩
theorem Box3.alloc {W : World} {b : Nat} {x : Spot} (h : Box3 W b x) (o : Obj) : Box3 (W.alloc o) b x := h.kept (World.grownBy_alloc W o none) (fun r e => by cases e)
/-- Three cells laid anew. -/
abbrev put3 (W : World) (b : Nat) (x : Spot) : World := ((W.setCell ⟨b, 0, none⟩ (.int .i64 (x.1 : Int))).setCell ⟨b, 1, none⟩ (.int .i64 (x.2.1 : Int))).setCell ⟨b, 2, none⟩ (.int .i64 (x.2.2 : Int))
theorem Box3.put {W : World} {b : Nat} {x : Spot} (h : Box3 W b x) (y : Spot) : Box3 (put3 W b y) b y := by
  obtain ⟨c0, c1, c2, f0, f1, f2⟩ := h
  constructor <;> simp [go_sem, *]
theorem Box1.put3 {W : World} {b c : Nat} {v : Value} (h : Box1 W b v) (hne : b ≠ c) (y : Spot) : Box1 (put3 W c y) b v :=
  ((h.other hne _).other hne _).other hne _
theorem put3_keeps (W : World) (b : Nat) (x : Spot) : KeepsOthers W (put3 W b x) := ((KeepsOthers.setCell _ _ _).trans (KeepsOthers.setCell _ _ _)).trans (KeepsOthers.setCell _ _ _)
theorem put3_keepW {W : World} {b c : Nat} (h : c ≠ b) (x : Spot) : KeepW c W (put3 W b x) := ((KeepW.setCell (p := ⟨b, 0, none⟩) h _).trans (KeepW.setCell (p := ⟨b, 1, none⟩) h _)).trans (KeepW.setCell (p := ⟨b, 2, none⟩) h _)
theorem put3_below {B : Nat} {w W : World} {b : Nat} (hb : Below B w W) (h : B ≤ b) (x : Spot) : Below B w (put3 W b x) :=
  ((hb.setCell (p := ⟨b, 0, none⟩) h _).setCell (p := ⟨b, 1, none⟩) h _).setCell (p := ⟨b, 2, none⟩) h _

/-- Ahead of the loop of Place. -/
abbrev plW (w : World) (m : Nat) (s : ByteArray) : World := ((w.alloc (.cells #[.int .i64 (m : Int)] 3)).alloc (.cells #[.int .i64 0, .int .i64 0, .int .i64 0] 36)).alloc (.cells #[.string s] 9)
/-- What holds in the loop of Place: the last spot so far. -/
structure AtP (w : World) (m : Nat) (pre : List Spot) (W : World) : Prop where
  b0 : Box1 W w.heap.size (.int .i64 (m : Int))
  b1 : Box3 W (w.heap.size + 1) (lastOf pre)
  le : ∀ x ∈ pre, x.1 ≤ m
  sz : w.heap.size + 1 + 1 < W.heap.size
theorem AtP.own (w : World) (m : Nat) : Own (fun pre W => AtP w m pre W) := fun _ _ _ _ hs hg hr => ⟨hs.b0.kept hg hr, hs.b1.kept hg hr, hs.le, Nat.lt_of_lt_of_le hs.sz hg.size⟩
theorem AtP.alloc {w : World} {m : Nat} {pre : List Spot} {W : World} (h : AtP w m pre W) (o : Obj) : AtP w m pre (W.alloc o) := AtP.own w m pre W _ none h (World.grownBy_alloc W o none) (fun r e => by cases e)
theorem AtP.put {w : World} {m : Nat} {pre : List Spot} {W : World} (h : AtP w m pre W) (x : Spot) (hx : x.1 ≤ m) : AtP w m (pre ++ [x]) (put3 W (w.heap.size + 1) x) := by
  refine ⟨h.b0.put3 (by omega) x, by rw [lastOf_snoc]; exact h.b1.put x, fun y hy => ?_, Nat.lt_of_lt_of_le h.sz (put3_keeps W _ x).size⟩
  rcases List.mem_append.1 hy with hy | hy
  · exact h.le y hy
  · rw [List.mem_singleton] at hy; subst hy; exact hx
theorem AtP.start (w : World) (m : Nat) (s : ByteArray) : AtP w m [] (plW w m s) ∧ Below w.heap.size w (plW w m s) ∧ TBox (plW w m s) (w.heap.size + 1 + 1) s := by
  refine ⟨⟨((Box1.new w _ 3).alloc _).alloc _, ?_, fun x hx => (by cases hx), (by simp)⟩, (((Below.refl _ _).alloc (Nat.le_refl _) _).alloc (by simp) _).alloc (by simp; omega) _, ?_⟩
  · have h := (Box3.new (w.alloc (.cells #[.int .i64 (m : Int)] 3)) (0, 0, 0)).alloc (.cells #[.string s] 9)
    rw [World.size_alloc] at h
    exact h
  · have h := World.alloc_heap_new ((w.alloc (.cells #[.int .i64 (m : Int)] 3)).alloc (.cells #[.int .i64 0, .int .i64 0, .int .i64 0] 36)) (.cells #[.string s] 9)
    rw [World.size_alloc, World.size_alloc] at h
    exact h

set_option maxRecDepth 100000 in
set_option maxHeartbeats 4000000 in
theorem place_in (n : Nat) (hn : 3 ≤ n) (s : ByteArray) (m : Nat) (hs : s.size ≤ 65536) (hm : m ≤ s.size) (w : World) :
    CallsIn Fence.wide n Try.prog 5 #[.string s, .int .i64 (m : Int)] w fun e W' => e = .returned (plV (plP s m)) ∧ Below w.heap.size w W' := by
  have h1 : 1 ≤ n := by omega
  have HC : Hid (∀ w, Calls Try.prog 10 #[.string s, .int .i64 (m : Int)] w fun e w' => e = .returned (.int .i64 0) ∧ w' = w) := fun w => by
    have h := checkPlace_any s m w
    rw [show cpE s (m : Int) = 0 from by unfold cpE; rw [if_neg (by omega), if_neg (by omega)]] at h
    exact h
  have HST := (show Hid _ from AtP.start w m s)
  refine callsIn_of_wp_marks Try.func5 rfl trivial ?_ rfl
  simp only [Try.ntmps5, List.size_toArray, List.length_cons, List.length_nil, Nat.reduceAdd, Nat.reduceSub, Array.replicate_succ, Array.replicate_zero, List.push_toArray, List.append_toArray, List.nil_append, List.cons_append]
  gi_wp2_with fail
  refine ⟨trivial, (callsIn_wide.2 (HC.out _)).mono ?_⟩
  rintro e w' ⟨rfl, rfl⟩
  gi_wp2_with fail
  refine ⟨trivial, (spots_in (n - 1) s _).mono ?_⟩
  rintro e w' ⟨rfl, rfl⟩
  gi_wp2_with fail
  have hsz : (plW w m s).heap.size = w.heap.size + 1 + 1 + 1 := by simp
  refine wpIn_rangeFunc_ownH rfl h1 (gf := 15) (lb := #[.pointer (some ⟨w.heap.size + 1 + 1, 0, none⟩)]) rfl trivial (enters_of Try.func15 (by kernel_rfl) rfl)
    (spots_stops (n - 1) (by omega) (w.heap.size + 1 + 1) s hs (plW w m s) HST.out.2.2) KeepW.trans (KeepW.put HST.out.2.2.lt) (Below.refl _ _) (fun _ => rfl)
    (fun pre W => AtP w m pre W ∧ Below w.heap.size w W)
    (fun c pre W => (c = .exit 0 ∧ ∃ l x, pre = l ++ [x] ∧ m < x.1 ∧ AtP w m l W) ∧ Below w.heap.size w W)
    (OwnFrom.and (Own.from (AtP.own w m) _) (ownFrom_below (Nat.le_refl _) (by rw [hsz]; omega)))
    (fun c => OwnFrom.and (Own.from (fun s A B row hs hg hr => ⟨hs.1, let ⟨l, x, e, hx, ha⟩ := hs.2; ⟨l, x, e, hx, AtP.own w m l A B row ha hg hr⟩⟩) _) (ownFrom_below (Nat.le_refl _) (by rw [hsz]; omega)))
    ⟨HST.out.1, HST.out.2.1⟩
    (fun x a' W => ∃ b, w.heap.size + 1 + 1 < b ∧ a' = { tmps := #[.string s, .int .i64 (m : Int), undef, .pointer (some ⟨w.heap.size, 0, none⟩), .int .i64 0, .int .i64 0, .int .i64 0, .int .i64 0, .pointer (some ⟨w.heap.size + 1, 0, none⟩), .pointer (some ⟨b, 0, none⟩), .string s, .int .i64 (m : Int), .int .i64 0, .int .i64 0, .bool false, undef, .string s, .func (.func 15) #[] #[.pointer (some ⟨w.heap.size + 1 + 1, 0, none⟩)], spV x, undef, undef, undef, undef, undef, undef, undef, undef, undef], defers := [] } ∧ Box3 W b x)
    ?hAx ?assign ?body ?done ?stop
  case hAx =>
    intro x a'
    refine Own.from (fun _ A B row hs hg hr => ?_) _
    obtain ⟨b, hb, he, h3⟩ := hs
    exact ⟨b, hb, he, h3.kept hg hr⟩
  case assign =>
    intro l pre x W K hI hK
    have HI := (show Hid _ from hI)
    have HK := (show Hid _ from hK)
    clear hI hK
    have hsW : w.heap.size + 1 + 1 < W.heap.size := HI.out.1.sz
    obtain ⟨x1, x2, x3⟩ := x
    dsimp only [spV]
    gi_wp2
    exact HK.out _ _ ((KeepsOthers.alloc _ _).from _) (KeepW.alloc (by omega) _) ⟨HI.out.1.alloc _, HI.out.2.alloc HI.out.2.size _⟩ ⟨_, hsW, rfl, Box3.new W (x1, x2, x3)⟩
  case body =>
    rintro l pre x a' W hl hr ⟨ha, hB⟩ ⟨b, hb, rfl, h3⟩ _
    have HA := (show Hid _ from ha)
    have HB := (show Hid _ from hB)
    have H3 := (show Hid _ from h3)
    obtain ⟨x1, x2, x3⟩ := x
    obtain ⟨c0, c1, c2, f0, f1, f2⟩ := h3
    obtain ⟨d0, g0⟩ := ha.b0
    obtain ⟨e0, e1, e2, k0, k1, k2⟩ := ha.b1
    clear ha hB hr
    dsimp only [spV]
    dsimp only at c0 c1 c2
    generalize lastOf pre = z at *
    by_cases hlt : m < x1
    · have hI : (m : Int) < (x1 : Int) := by omega
      gi_wp2
      exact ⟨KeepsFrom.refl _ _, ⟨rfl, pre, (x1, x2, x3), rfl, hlt, HA.out⟩, HB.out⟩
    · have hI : ¬ (m : Int) < (x1 : Int) := by omega
      gi_wp2
      exact ⟨(put3_keeps W _ (x1, x2, x3)).from _, put3_keepW (by omega) (x1, x2, x3), HA.out.put (x1, x2, x3) (by show x1 ≤ m; omega), put3_below HB.out (by omega) (x1, x2, x3)⟩
  case done =>
    rintro D ys W hD rfl ⟨ha, hB⟩ hK
    have HE := (show Hid _ from plP_all ha.le)
    have HB := (show Hid _ from hB)
    have c1 := ha.b1.c1
    have c2 := ha.b1.c2
    generalize lastOf (spots s) = z at *
    clear ha hB
    gi_wp2
    gi_quiet (fail)
    gi_wp2
    have hKq : (W.drewN nq).heap[D]? = some (.deferred (some [])) := hK
    have hBq : Below w.heap.size w (W.drewN nq) := ⟨HB.out.os, HB.out.tape, HB.out.output, HB.out.size, HB.out.block⟩
    refine ⟨by simp, .inl ⟨_, _, rfl, run_takeDeferred hKq, ?_⟩⟩
    refine ⟨plV z, by simp [results, Try.results5, go_sem, plV], by rw [HE.out], hBq.trans (belowK_b (w := w) (Nat.le_refl _) _ D _ _ (by simp at hD; omega) hKq rfl rfl)⟩
  case stop =>
    rintro D c pre W hD hpre ⟨⟨rfl, l, x, rfl, hx, ha⟩, hB⟩ hK
    have HE := (show Hid _ from plP_upto hpre ha.le hx)
    have HB := (show Hid _ from hB)
    have c1 := ha.b1.c1
    have c2 := ha.b1.c2
    generalize lastOf l = z at *
    clear ha hB
    gi_wp2
    gi_quiet (fail)
    gi_wp2
    have hKq : (W.drewN nq).heap[D]? = some (.deferred (some [])) := hK
    have hBq : Below w.heap.size w (W.drewN nq) := ⟨HB.out.os, HB.out.tape, HB.out.output, HB.out.size, HB.out.block⟩
    refine ⟨by simp, .inl ⟨_, _, rfl, run_takeDeferred hKq, ?_⟩⟩
    refine ⟨plV z, by simp [results, Try.results5, go_sem, plV], by rw [HE.out], hBq.trans (belowK_b (w := w) (Nat.le_refl _) _ D _ _ (by simp at hD; omega) hKq rfl rfl)⟩

/-- What Place answers at any place. -/
def placeV (s : ByteArray) (i : Int) : Value := if cpE s i = 0 then plV (plP s i.toNat) else .tuple #[.int .i64 0, .int .i64 0, .int .i64 (cpE s i)]

set_option maxRecDepth 100000 in
set_option maxHeartbeats 2000000 in
theorem place_any (s : ByteArray) (i : Int) (w : World) :
    Calls Try.prog 5 #[.string s, .int .i64 i] w fun e w' => e = .returned (placeV s i) ∧ Below w.heap.size w w' := by
  by_cases h : cpE s i = 0
  · have hc : ¬ 65536 < s.size ∧ ¬ (i < 0 ∨ (s.size : Int) < i) := by
      unfold cpE at h; split at h
      · omega
      · split at h
        · omega
        · next a b => exact ⟨a, b⟩
    obtain ⟨n, rfl⟩ := Int.eq_ofNat_of_zero_le (show 0 ≤ i by omega)
    have h2 := (callsIn_wide (n := 3)).1 (place_in 3 (by omega) s n (by omega) (by omega) w)
    unfold placeV
    rw [if_pos h, Int.toNat_natCast]
    exact h2
  · have HP : Hid (∀ w, Calls Try.prog 10 #[.string s, .int .i64 i] w fun e w' => e = .returned (.int .i64 (cpE s i)) ∧ w' = w) := fun w => checkPlace_any s i w
    have HE := (show Hid (placeV s i = .tuple #[.int .i64 0, .int .i64 0, .int .i64 (cpE s i)]) from (by show _ = _; unfold placeV; rw [if_neg h]))
    have ec : (cpE s i != 0) = true := bne_iff_ne.2 h
    clear h
    generalize cpE s i = c at *
    go_enter Try.func5, Try.ntmps5
    go_wp2_with fail
    refine (HP.out _).mono ?_
    rintro e w1 ⟨rfl, rfl⟩
    go_wp2
    go_ret3
    exact ⟨by rw [HE.out]; rfl, (Below.refl _ _).alloc (Nat.le_refl _) _⟩
end Go.Proofs.Ytafnjidackofpab
