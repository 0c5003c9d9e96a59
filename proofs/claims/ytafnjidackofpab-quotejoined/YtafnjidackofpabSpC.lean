/- DERIVED. Walks: At, by the program. -/
import Derived.Test.YtafnjidackofpabSpB
namespace Go.Proofs.Ytafnjidackofpab
open Go.RowKit Go.Shelf

attribute [local go_sem] Oper.semAt_some

/-- Ahead of the loop of At. -/
abbrev atW (w : World) (ln co : Int) (s : ByteArray) : World := ((((w.alloc (.cells #[.int .i64 ln] 3)).alloc (.cells #[.int .i64 co] 3)).alloc (.cells #[.int .i64 0] 3)).alloc (.cells #[.int .i64 0] 22)).alloc (.cells #[.string s] 9)
/-- The boxes of At. -/
structure AtA (w : World) (ln co p q : Int) (W : World) : Prop where
  b0 : Box1 W w.heap.size (.int .i64 ln)
  b1 : Box1 W (w.heap.size + 1) (.int .i64 co)
  b2 : Box1 W (w.heap.size + 1 + 1) (.int .i64 p)
  b3 : Box1 W (w.heap.size + 1 + 1 + 1) (.int .i64 q)
  sz : w.heap.size + 1 + 1 + 1 + 1 < W.heap.size
theorem AtA.kept {w : World} {ln co p q : Int} {A B : World} {row : Option Nat} (h : AtA w ln co p q A) (hg : A.grownBy B row) (hr : ∀ r, row = some r → ∃ o : Obj, A.heap[r]? = some o ∧ o.isCells = false) : AtA w ln co p q B :=
  ⟨h.b0.kept hg hr, h.b1.kept hg hr, h.b2.kept hg hr, h.b3.kept hg hr, Nat.lt_of_lt_of_le h.sz hg.size⟩
theorem AtA.alloc {w : World} {ln co p q : Int} {W : World} (h : AtA w ln co p q W) (o : Obj) : AtA w ln co p q (W.alloc o) := h.kept (World.grownBy_alloc W o none) (fun r e => by cases e)
/-- Both results laid. -/
abbrev put2 (w W : World) (p q : Int) : World := (W.setCell ⟨w.heap.size + 1 + 1, 0, none⟩ (.int .i64 p)).setCell ⟨w.heap.size + 1 + 1 + 1, 0, none⟩ (.int .i64 q)
theorem AtA.put {w : World} {ln co p q : Int} {W : World} (h : AtA w ln co p q W) (p' q' : Int) : AtA w ln co p' q' (put2 w W p' q') :=
  ⟨(h.b0.other (by omega) _).other (by omega) _, (h.b1.other (by omega) _).other (by omega) _, (h.b2.set _).other (by omega) _, (h.b3.other (by omega) _).set _,
    Nat.lt_of_lt_of_le h.sz ((KeepsOthers.setCell W ⟨w.heap.size + 1 + 1, 0, none⟩ (.int .i64 p')).trans (KeepsOthers.setCell _ ⟨w.heap.size + 1 + 1 + 1, 0, none⟩ (.int .i64 q'))).size⟩
theorem put2_below {w W : World} (hb : Below w.heap.size w W) (p q : Int) : Below w.heap.size w (put2 w W p q) :=
  (hb.setCell (p := ⟨w.heap.size + 1 + 1, 0, none⟩) (show w.heap.size ≤ w.heap.size + 1 + 1 by omega) _).setCell (p := ⟨w.heap.size + 1 + 1 + 1, 0, none⟩) (show w.heap.size ≤ w.heap.size + 1 + 1 + 1 by omega) _
theorem put2_keeps (w W : World) (p q : Int) : KeepsOthers W (put2 w W p q) := (KeepsOthers.setCell _ _ _).trans (KeepsOthers.setCell _ _ _)
theorem AtA.start (w : World) (ln co : Int) (s : ByteArray) : AtA w ln co 0 0 (atW w ln co s) ∧ Below w.heap.size w (atW w ln co s) ∧ TBox (atW w ln co s) (w.heap.size + 1 + 1 + 1 + 1) s := by
  refine ⟨⟨((((Box1.new w _ 3).alloc _).alloc _).alloc _).alloc _, ?_, ?_, ?_, by simp⟩, (((((Below.refl _ _).alloc (Nat.le_refl _) _).alloc (by simp) _).alloc (by simp; omega) _).alloc (by simp; omega) _).alloc (by simp; omega) _, ?_⟩
  · have h := (((Box1.new (w.alloc (.cells #[.int .i64 ln] 3)) (.int .i64 co) 3).alloc (.cells #[.int .i64 0] 3)).alloc (.cells #[.int .i64 0] 22)).alloc (.cells #[.string s] 9)
    rw [World.size_alloc] at h
    exact h
  · have h := ((Box1.new ((w.alloc (.cells #[.int .i64 ln] 3)).alloc (.cells #[.int .i64 co] 3)) (.int .i64 0) 3).alloc (.cells #[.int .i64 0] 22)).alloc (.cells #[.string s] 9)
    rw [World.size_alloc, World.size_alloc] at h
    exact h
  · have h := (Box1.new (((w.alloc (.cells #[.int .i64 ln] 3)).alloc (.cells #[.int .i64 co] 3)).alloc (.cells #[.int .i64 0] 3)) (.int .i64 0) 22).alloc (.cells #[.string s] 9)
    rw [World.size_alloc, World.size_alloc, World.size_alloc] at h
    exact h
  · have h := World.alloc_heap_new ((((w.alloc (.cells #[.int .i64 ln] 3)).alloc (.cells #[.int .i64 co] 3)).alloc (.cells #[.int .i64 0] 3)).alloc (.cells #[.int .i64 0] 22)) (.cells #[.string s] 9)
    rw [World.size_alloc, World.size_alloc, World.size_alloc, World.size_alloc] at h
    exact h
theorem atB_no1 {ln co : Int} {x1 x2 x3 : Nat} (h : (x2 : Int) ≠ ln) : atB ln co (x1, x2, x3) = false := decide_eq_false (fun q => h q.1)
theorem atB_no2 {ln co : Int} {x1 x2 x3 : Nat} (h : (x3 : Int) ≠ co) : atB ln co (x1, x2, x3) = false := decide_eq_false (fun q => h q.2)
theorem no_snoc {ln co : Int} {l : List Spot} {x : Spot} (h : ∀ y ∈ l, atB ln co y = false) (hx : atB ln co x = false) : ∀ y ∈ l ++ [x], atB ln co y = false := fun y hy => by
  rcases List.mem_append.1 hy with hy | hy
  · exact h y hy
  · rw [List.mem_singleton] at hy; subst hy; exact hx

set_option maxRecDepth 100000 in
set_option maxHeartbeats 4000000 in
theorem at_in (n : Nat) (hn : 3 ≤ n) (s : ByteArray) (ln co : Int) (hs : s.size ≤ 65536) (w : World) :
    CallsIn Fence.wide n Try.prog 7 #[.string s, .int .i64 ln, .int .i64 co] w fun e W' => e = .returned (atV (atP s ln co)) ∧ Below w.heap.size w W' := by
  have h1 : 1 ≤ n := by omega
  have hsI : ¬ (65536 : Int) < (s.size : Int) := by omega
  have HST := (show Hid _ from AtA.start w ln co s)
  refine callsIn_of_wp_marks Try.func7 rfl trivial ?_ rfl
  simp only [Try.ntmps7, List.size_toArray, List.length_cons, List.length_nil, Nat.reduceAdd, Nat.reduceSub, Array.replicate_succ, Array.replicate_zero, List.push_toArray, List.append_toArray, List.nil_append, List.cons_append]
  gi_wp2_with fail
  refine ⟨trivial, (spots_in (n - 1) s _).mono ?_⟩
  rintro e w' ⟨rfl, rfl⟩
  gi_wp2_with fail
  have hsz : (atW w ln co s).heap.size = w.heap.size + 1 + 1 + 1 + 1 + 1 := by simp
  refine wpIn_rangeFunc_ownH rfl h1 (gf := 15) (lb := #[.pointer (some ⟨w.heap.size + 1 + 1 + 1 + 1, 0, none⟩)]) rfl trivial (enters_of Try.func15 (by kernel_rfl) rfl)
    (spots_stops (n - 1) (by omega) (w.heap.size + 1 + 1 + 1 + 1) s hs (atW w ln co s) HST.out.2.2) KeepW.trans (KeepW.put HST.out.2.2.lt) (Below.refl _ _) (fun _ => rfl)
    (fun pre W => ((∀ y ∈ pre, atB ln co y = false) ∧ AtA w ln co 0 0 W) ∧ Below w.heap.size w W)
    (fun c pre W => (c = .ret ∧ ∃ l x, pre = l ++ [x] ∧ (∀ y ∈ l, atB ln co y = false) ∧ atB ln co x = true ∧ AtA w ln co (x.1 : Int) 0 W) ∧ Below w.heap.size w W)
    (OwnFrom.and (Own.from (fun _ _ _ _ hs hg hr => ⟨hs.1, hs.2.kept hg hr⟩) _) (ownFrom_below (Nat.le_refl _) (by rw [hsz]; omega)))
    (fun c => OwnFrom.and (Own.from (fun _ _ _ _ hs hg hr => ⟨hs.1, let ⟨l, x, e, h2, h3, ha⟩ := hs.2; ⟨l, x, e, h2, h3, ha.kept hg hr⟩⟩) _) (ownFrom_below (Nat.le_refl _) (by rw [hsz]; omega)))
    ⟨⟨fun y hy => (by cases hy), HST.out.1⟩, HST.out.2.1⟩
    (fun x a' W => ∃ b, w.heap.size + 1 + 1 + 1 + 1 < b ∧ a' = { tmps := #[.string s, .int .i64 ln, .int .i64 co, undef, .pointer (some ⟨w.heap.size, 0, none⟩), .pointer (some ⟨w.heap.size + 1, 0, none⟩), .pointer (some ⟨w.heap.size + 1 + 1, 0, none⟩), .pointer (some ⟨w.heap.size + 1 + 1 + 1, 0, none⟩), .pointer (some ⟨b, 0, none⟩), .string s, .int .i64 (s.size : Int), .bool false, .string s, .func (.func 15) #[] #[.pointer (some ⟨w.heap.size + 1 + 1 + 1 + 1, 0, none⟩)], spV x, undef, undef, undef, undef, undef, undef, undef, undef, undef, undef, undef, undef], defers := [] } ∧ Box3 W b x)
    ?hAx ?assign ?body ?done ?stop
  case hAx =>
    intro x a'
    refine Own.from (fun _ A B row hs hg hr => ?_) _
    obtain ⟨b, hb, he, h3⟩ := hs
    exact ⟨b, hb, he, h3.kept hg hr⟩
  case assign =>
    intro l pre x W K hI hK
    have HI := (show Hid _ from hI)
    have HK := (show Hid _ from hK)
    clear hI hK
    have hsW : w.heap.size + 1 + 1 + 1 + 1 < W.heap.size := HI.out.1.2.sz
    obtain ⟨x1, x2, x3⟩ := x
    dsimp only [spV]
    gi_wp2
    exact HK.out _ _ ((KeepsOthers.alloc _ _).from _) (KeepW.alloc (by omega) _) ⟨⟨HI.out.1.1, HI.out.1.2.alloc _⟩, HI.out.2.alloc HI.out.2.size _⟩ ⟨_, hsW, rfl, Box3.new W (x1, x2, x3)⟩
  case body =>
    rintro l pre x a' W hl hr ⟨⟨hno, ha⟩, hB⟩ ⟨b, hb, rfl, h3⟩ _
    have HA := (show Hid _ from ha)
    have HB := (show Hid _ from hB)
    have HN := (show Hid _ from hno)
    obtain ⟨x1, x2, x3⟩ := x
    obtain ⟨c0, c1, c2, f0, f1, f2⟩ := h3
    obtain ⟨d0, g0⟩ := ha.b0
    obtain ⟨d1, g1⟩ := ha.b1
    obtain ⟨d2, g2⟩ := ha.b2
    obtain ⟨d3, g3⟩ := ha.b3
    clear ha hB hr hno
    dsimp only [spV]
    dsimp only at c0 c1 c2
    by_cases e1 : (x2 : Int) = ln
    · have t1 : ((x2 : Int) == ln) = true := beq_iff_eq.2 e1
      by_cases e2 : (x3 : Int) = co
      · have t2 : ((x3 : Int) == co) = true := beq_iff_eq.2 e2
        have HX := (show Hid (atB ln co (x1, x2, x3) = true) from (decide_eq_true ⟨e1, e2⟩))
        clear e1 e2
        gi_wp2
        exact ⟨(put2_keeps w W _ _).from _, ⟨rfl, pre, (x1, x2, x3), rfl, HN.out, HX.out, HA.out.put _ _⟩, put2_below HB.out _ _⟩
      · have t2 : ((x3 : Int) == co) = false := beq_eq_false_iff_ne.2 e2
        have HX := (show Hid (atB ln co (x1, x2, x3) = false) from (atB_no2 e2))
        clear e1 e2
        gi_wp2
        exact ⟨KeepsFrom.refl _ _, KeepW.refl _ _, ⟨no_snoc HN.out HX.out, HA.out⟩, HB.out⟩
    · have t1 : ((x2 : Int) == ln) = false := beq_eq_false_iff_ne.2 e1
      have HX := (show Hid (atB ln co (x1, x2, x3) = false) from (atB_no1 e1))
      clear e1
      gi_wp2
      exact ⟨KeepsFrom.refl _ _, KeepW.refl _ _, ⟨no_snoc HN.out HX.out, HA.out⟩, HB.out⟩
  case done =>
    rintro D ys W hD rfl ⟨⟨hno, ha⟩, hB⟩ hK
    have HE := (show Hid _ from atP_none hno)
    have HA := (show Hid _ from ha)
    have HB := (show Hid _ from hB)
    obtain ⟨d2, g2⟩ := ha.b2
    obtain ⟨d3, g3⟩ := ha.b3
    clear ha hB hno
    gi_wp2
    have hK' := (put2_keeps w W 0 1).same D _ hK rfl
    have HA2 := (HA.out.put 0 1).kept (grownBy_putObj' _ D (.deferred none)) (fun r e => by cases e; exact ⟨_, hK', rfl⟩)
    refine ⟨by simp, .inl ⟨_, _, rfl, run_takeDeferred hK', ?_⟩⟩
    have c2 := HA2.b2.c
    have c3 := HA2.b3.c
    refine ⟨atV none, ?_, by rw [HE.out], (put2_below HB.out 0 1).trans (belowK_b (w := w) (Nat.le_refl _) _ D _ _ (by simp at hD; omega) hK' rfl rfl)⟩
    simp [results, Try.results7, go_sem, atV, c2, c3]
  case stop =>
    rintro D c pre W hD hpre ⟨⟨rfl, l, x, rfl, hno, hx, ha⟩, hB⟩ hK
    have HE := (show Hid _ from atP_some hpre hno hx)
    have HA := (show Hid _ from ha)
    have HB := (show Hid _ from hB)
    clear ha hB hno hx hpre
    gi_wp2
    have HA2 := HA.out.kept (grownBy_putObj' _ D (.deferred none)) (fun r e => by cases e; exact ⟨_, hK, rfl⟩)
    refine ⟨by simp, .inl ⟨_, _, rfl, run_takeDeferred hK, ?_⟩⟩
    have c2 := HA2.b2.c
    have c3 := HA2.b3.c
    refine ⟨atV (some x), ?_, by rw [HE.out], HB.out.trans (belowK_b (w := w) (Nat.le_refl _) _ D _ _ (by simp at hD; omega) hK rfl rfl)⟩
    simp [results, Try.results7, go_sem, atV, c2, c3]

/-- What At answers. -/
def atVV (s : ByteArray) (ln co : Int) : Value := if 65536 < s.size then .tuple #[.int .i64 0, .int .i64 2] else atV (atP s ln co)

set_option maxRecDepth 100000 in
set_option maxHeartbeats 2000000 in
theorem at_any (s : ByteArray) (ln co : Int) (w : World) :
    Calls Try.prog 7 #[.string s, .int .i64 ln, .int .i64 co] w fun e w' => e = .returned (atVV s ln co) ∧ Below w.heap.size w w' := by
  by_cases h : 65536 < s.size
  · have HE := (show Hid (atVV s ln co = .tuple #[.int .i64 0, .int .i64 2]) from (by show _ = _; unfold atVV; rw [if_pos h]))
    have hI : (65536 : Int) < (s.size : Int) := by omega
    clear h
    go_enter Try.func7, Try.ntmps7
    go_wp2
    rw [HE.out]
    refine bodyPost_ret (v := .tuple #[.int .i64 0, .int .i64 2]) (by simp [results, Try.results7, go_sem, *]) rfl ⟨rfl, ?_⟩
    exact ((((Below.refl _ _).alloc (Nat.le_refl _) _).alloc (by simp) _).alloc (by simp; omega) _).alloc (by simp; omega) _
  · have h2 := (callsIn_wide (n := 3)).1 (at_in 3 (by omega) s ln co (by omega) w)
    unfold atVV
    rw [if_neg h]
    exact h2
end Go.Proofs.Ytafnjidackofpab
