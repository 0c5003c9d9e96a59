/- The law TokenLexes of layer 5 holds at every text: the program's tokens, or its fault, are the document's, and the answer is new memory; the program's table of signs lies as its text lays it. -/
import Derived.Test.YthffklhojdldkaaDoorLx14
namespace Go.Proofs.YthffklhojdldkaaDoor
open Go.RowKit
def ex1 : ByteArray := ⟨#[97, 32, 60, 45, 32, 39, 120, 92, 110, 39, 32, 47, 32, 91, 97, 45, 122, 93, 43, 32, 45, 45, 32, 110, 111, 116, 101]⟩
def ex2 : ByteArray := ⟨#[97, 36]⟩
def wk1B : Sum (List Tk) (Nat × Int) → Bool
  | .inl [a, _, c, _, _, _] => a.kd == 1 && a.nn == 0 && a.fr == 0 && a.en == 1 && a.tx.data.toList == [97] && a.s0 == 0 && a.s1 == 0 && a.s2 == 0 && a.s3 == 0 && c.tx.data.toList == [120, 10] && c.en == 10
  | _ => false
def wk2B : Sum (List Tk) (Nat × Int) → Bool
  | .inr q => q.1 == 1 && q.2 == 50
  | _ => false
set_option maxRecDepth 1000000 in
theorem wk2 : wk2B (lexR (oneP ex2) ex2) = true := by kernel_rfl
set_option maxRecDepth 1000000 in
theorem wk1 : wk1B (lexR (oneP ex1) ex1) = true := by kernel_rfl
theorem text_eq {s : ByteArray} {l : List UInt8} (h : (s.data.toList == l) = true) : s = ⟨l.toArray⟩ := by
  have h := beq_iff_eq.1 h
  cases s with
  | mk d => simp at h; rw [← h]
theorem wk1_get : ∃ b c d e f, lexR (oneP ex1) ex1 = .inl [⟨1, 0, 0, 1, ⟨#[97]⟩, 0, 0, 0, 0⟩, b, c, d, e, f] ∧ c.tx = ⟨#[120, 10]⟩ ∧ c.en = 10 := by
  have h := wk1
  generalize lexR (oneP ex1) ex1 = r at *
  match r, h with
  | .inl [a, b, c, d, e, f], h =>
    simp only [wk1B, Bool.and_eq_true, beq_iff_eq] at h
    obtain ⟨⟨⟨⟨⟨⟨⟨⟨⟨⟨h0, h1⟩, h2⟩, h3⟩, h4⟩, h5⟩, h6⟩, h7⟩, h8⟩, h9⟩, h10⟩ := h
    refine ⟨b, c, d, e, f, ?_, text_eq (beq_iff_eq.2 h9), h10⟩
    have h4 := text_eq (beq_iff_eq.2 h4)
    obtain ⟨a0, a1, a2, a3, a4, a5, a6, a7, a8⟩ := a
    dsimp only at *
    subst h0 h1 h2 h3 h4 h5 h6 h7 h8
    rfl
theorem wk2_get : lexR (oneP ex2) ex2 = .inr (1, 50) := by
  have h := wk2
  generalize lexR (oneP ex2) ex2 = r at *
  match r, h with
  | .inr q, h =>
    simp only [wk2B, Bool.and_eq_true, beq_iff_eq] at h
    obtain ⟨a, b⟩ := q
    obtain ⟨h1, h2⟩ := h
    dsimp only at *
    subst h1 h2
    rfl
set_option maxRecDepth 100000 in
set_option maxHeartbeats 8000000 in
theorem works_any (w : World) (hg : SG w) : Calls Tryd.prog 10 #[] w fun e w' => e = .returned (.bool true) ∧ Below w.heap.size w w' := by
  obtain ⟨b, c, d, e, f, hl, htx, hen⟩ := wk1_get
  have HL1 : Hid (Calls Tryd.prog 7 #[.string ex1] w fun e' w' => (∃ v, e' = .returned (.tuple #[v, .agg #[.int .i64 0, .int .i64 0]]) ∧ w'.ownsRow w.heap.size 36 9 v 6 (tkc [⟨1, 0, 0, 1, ⟨#[97]⟩, 0, 0, 0, 0⟩, b, c, d, e, f])) ∧ Below w.heap.size w w') := by
    have h := lexP_any ex1 w hg
    rw [hl] at h
    exact h
  have HL2 : Hid (∀ w, SG w → Calls Tryd.prog 7 #[.string ex2] w fun e' w' => e' = .returned (.tuple #[.slice none 0 0, .agg #[.int .i64 1, .int .i64 50]]) ∧ Below w.heap.size w w') := fun w g => by
    have h := lexP_any ex2 w g
    rw [wk2_get] at h
    exact h
  have HG := (show Hid (SG w) from hg)
  have e1 := eq26 0 0 0 0
  have e2 := eq26 1 50 1 50
  have e3 := tok_eql ⟨1, 0, 0, 1, ⟨#[97]⟩, 0, 0, 0, 0⟩
  unfold ex1 at HL1
  unfold ex2 at HL2
  clear hg hl
  go_enter Tryd.func10, Tryd.ntmps10
  go_wp2_with fail
  refine HL1.out.mono ?_
  rintro e' w1 ⟨⟨v, rfl, ho⟩, b1⟩
  obtain ⟨A, cp, rfl, hr⟩ := own_rdt ho rfl
  have HR1 := (show Hid _ from hr.later (below_box w1 (fxO 0 0)))
  have HB1 := (show Hid (Below w.heap.size w (w1.alloc (fxO 0 0)) ∧ SG (w1.alloc (fxO 0 0))) from ⟨b1.alloc b1.size _, (HG.out.later b1).later (below_box _ _)⟩)
  have HF1 := (show Hid (FX (w1.alloc (fxO 0 0)) w1.heap.size 0 0) from ⟨heap_alloc_new w1 _⟩)
  clear ho b1 hr HL1
  go_wp2_with fail
  refine (HL2.out _ HB1.out.2).mono ?_
  rintro e' w2 ⟨rfl, b2⟩
  have HR2 := (show Hid _ from HR1.out.later b2)
  have HF2 := (show Hid (FX w2 w1.heap.size 0 0) from HF1.out.below b2)
  have HB2 := (show Hid (Below w.heap.size w w2) from HB1.out.1.trans (b2.mono HB1.out.1.size))
  have hb2 := HB2.out.size
  clear b2 HR1 HF1 HB1 HL2
  obtain ⟨g, rfl, lt, hc⟩ := HR2.out.rd (by simp)
  obtain ⟨a0, a1, a2, a3, a4, a5, a6, a7, a8⟩ := hc 0 _ rfl
  obtain ⟨d0, d1, d2, d3, d4, d5, d6, d7, d8⟩ := hc 2 _ rfl
  rw [htx] at d4
  rw [hen] at d3
  have k0 := HF2.out.c0
  have k1 := HF2.out.c1
  have lt2 := HF2.out.lt
  clear hc HR2 HF2 htx hen
  go_wp2_with fail
  go_ret
  exact ⟨rfl, HB2.out.alloc hb2 _⟩
end Go.Proofs.YthffklhojdldkaaDoor

namespace Go.Proofs.YthffklhojdldkaaDoor
open Go.RowKit
theorem chn_len {s : ByteArray} : ∀ {l : List Tk} {i : Nat}, i ≤ s.size → Chn s i l → l.length ≤ s.size - i := by
  intro l
  induction l with
  | nil => intro i _ _; simp
  | cons a l ih =>
    intro i hi hc
    obtain ⟨h1, h2, e, e1, e2, e3, h3⟩ := hc
    have := ih e3 h3
    have := gapN_ge s i hi
    rw [List.length_cons]; omega
/-- While the law goes through the tokens. -/
structure AtV (w wB wr : World) : Prop where
  b : Below w.heap.size w wr
  c : Below wB.heap.size wB wr
theorem AtV.step {w wB wr W : World} (h : AtV w wB wr) (hb : Below wr.heap.size wr W) : AtV w wB W := ⟨h.b.trans (hb.mono h.b.size), h.c.trans (hb.mono h.c.size)⟩
end Go.Proofs.YthffklhojdldkaaDoor

namespace Go.Proofs.YthffklhojdldkaaDoor
open Go.RowKit
set_option maxRecDepth 100000 in
set_option maxHeartbeats 8000000 in
theorem lexes_err (s : ByteArray) (hs : s.size ≤ 140737488355000) (q : Nat × Int) (h : lexR (oneP s) s = .inr q) (w : World) (hg : SG w) : Calls Tryd.prog 3 #[.string s] w fun e w' => e = .returned (.bool true) ∧ Below w.heap.size w w' := by
  have HN : Hid (∀ w, Calls Tryd.prog 6 #[] w fun e w' => e = .returned (.bool true) ∧ w' = w) := fun w => tnames_any w
  have HWk : Hid (∀ w, SG w → Calls Tryd.prog 10 #[] w fun e w' => e = .returned (.bool true) ∧ Below w.heap.size w w') := fun w g => works_any w g
  have HG := (show Hid (SG w) from hg)
  have HL : Hid (∀ w, SG w → Calls Tryd.prog 7 #[.string s] w fun e' w' => e' = .returned (.tuple #[.slice none 0 0, .agg #[.int .i64 q.1, .int .i64 q.2]]) ∧ Below w.heap.size w w') := fun w g => by
    have h1 := lexP_any s w g
    rw [h] at h1
    exact h1
  have HD : Hid (∀ w, Calls Tryd.prog 8 #[.string s] w fun e' w' => e' = .returned (.tuple #[.slice none 0 0, .int .i64 q.1, .int .i64 q.2]) ∧ Below w.heap.size w w') := fun w => by
    have h1 := lexD_any s hs w
    rw [h] at h1
    exact h1
  have HSm : Hid (∀ w, Calls Tryd.prog 9 #[.slice none 0 0, .slice none 0 0] w fun e w' => e = .returned (.bool true) ∧ Below w.heap.size w w') := fun w => tsame_any none none 0 0 [] (by simp) w ⟨fun q => absurd rfl q⟩ ⟨fun q => absurd rfl q⟩
  have v1 : ((q.1 : Int) != (q.1 : Int)) = false := by simp
  have v2 : (q.2 != q.2) = false := by simp
  clear hg h
  go_enter Tryd.func3, Tryd.ntmps3
  go_wp2_with fail
  refine (HN.out _).mono ?_
  rintro e w1 ⟨rfl, rfl⟩
  clear HN
  go_wp2_with fail
  refine (HL.out _ HG.out).mono ?_
  rintro e w2 ⟨rfl, b2⟩
  have HB2 := (show Hid (Below w1.heap.size w1 (w2.alloc (fxO q.1 q.2))) from b2.alloc b2.size _)
  have HF2 := (show Hid (FX (w2.alloc (fxO q.1 q.2)) w2.heap.size q.1 q.2) from ⟨heap_alloc_new w2 _⟩)
  clear b2
  go_wp2_with fail
  refine (HL.out _ (HG.out.below HB2.out HG.out.lt)).mono ?_
  rintro e w3 ⟨rfl, b3⟩
  have HB3 := (show Hid (Below w1.heap.size w1 (w3.alloc (fxO q.1 q.2))) from (HB2.out.trans (b3.mono HB2.out.size)).alloc (Nat.le_trans HB2.out.size b3.size) _)
  have HF3 := (show Hid (FX (w3.alloc (fxO q.1 q.2)) w2.heap.size q.1 q.2) from (HF2.out.below b3).below (below_box _ _))
  clear b3 HB2 HF2 HL
  go_wp2_with fail
  refine (HD.out _).mono ?_
  rintro e w4 ⟨rfl, b4⟩
  have HB4 := (show Hid (Below w1.heap.size w1 w4) from HB3.out.trans (b4.mono HB3.out.size))
  have HF4 := (show Hid (FX w4 w2.heap.size q.1 q.2) from HF3.out.below b4)
  clear b4 HB3 HF3 HD
  go_wp2_with fail
  refine (HSm.out _).mono ?_
  rintro e w5 ⟨rfl, b5⟩
  have HB5 := (show Hid (Below w1.heap.size w1 w5) from HB4.out.trans (b5.mono HB4.out.size))
  have HF5 := (show Hid (FX w5 w2.heap.size q.1 q.2) from HF4.out.below b5)
  clear b5 HB4 HF4
  have k0 := HF5.out.c0
  have k1 := HF5.out.c1
  clear HF5
  go_wp2_with fail
  go_loopw [10] (fun t wr => t = .int .i64 0 ∧ wr = w5) (fun _ _ => 0)
  case atStart => exact ⟨by go_num, rfl⟩
  case round =>
    obtain ⟨rfl, rfl⟩ := hrel
    go_wp2_with fail
    refine (HSm.out _).mono ?_
    rintro e w6 ⟨rfl, b6⟩
    have HB6 := (show Hid (Below w1.heap.size w1 w6) from HB5.out.trans (b6.mono HB5.out.size))
    clear b6 HB5 HSm k0 k1
    go_wp2_with fail
    refine (HWk.out _ (HG.out.below HB6.out HG.out.lt)).mono ?_
    rintro e w7 ⟨rfl, b7⟩
    have HB7 := (show Hid (Below w1.heap.size w1 w7) from HB6.out.trans (b7.mono HB6.out.size))
    clear b7 HB6 HWk
    go_wp2_with fail
    go_ret
    exact ⟨rfl, HB7.out⟩
/-- Nine cells of a row that the call owns are written anew. -/
theorem stored9 {W : World} {B g n cap : Nat} {xs : List Value} (h : W.ownsRow B 36 9 (.slice (some ⟨g, 0, none⟩) n cap) n xs) (o : Nat) (a0 a1 a2 a3 a4 a5 a6 a7 a8 : Value) :
    ∃ ys, (((((((((W.setCell ⟨g, o, none⟩ a0).setCell ⟨g, o + 1, none⟩ a1).setCell ⟨g, o + 2, none⟩ a2).setCell ⟨g, o + 3, none⟩ a3).setCell ⟨g, o + 4, none⟩ a4).setCell ⟨g, o + 5, none⟩ a5).setCell ⟨g, o + 6, none⟩ a6).setCell ⟨g, o + 7, none⟩ a7).setCell ⟨g, o + 8, none⟩ a8).ownsRow B 36 9 (.slice (some ⟨g, 0, none⟩) n cap) n ys ∧
      W.grownBy (((((((((W.setCell ⟨g, o, none⟩ a0).setCell ⟨g, o + 1, none⟩ a1).setCell ⟨g, o + 2, none⟩ a2).setCell ⟨g, o + 3, none⟩ a3).setCell ⟨g, o + 4, none⟩ a4).setCell ⟨g, o + 5, none⟩ a5).setCell ⟨g, o + 6, none⟩ a6).setCell ⟨g, o + 7, none⟩ a7).setCell ⟨g, o + 8, none⟩ a8) (some g) := by
  obtain ⟨s0, g0⟩ := h.stored o a0
  obtain ⟨s1, g1⟩ := s0.stored (o + 1) a1
  obtain ⟨s2, g2⟩ := s1.stored (o + 2) a2
  obtain ⟨s3, g3⟩ := s2.stored (o + 3) a3
  obtain ⟨s4, g4⟩ := s3.stored (o + 4) a4
  obtain ⟨s5, g5⟩ := s4.stored (o + 5) a5
  obtain ⟨s6, g6⟩ := s5.stored (o + 6) a6
  obtain ⟨s7, g7⟩ := s6.stored (o + 7) a7
  obtain ⟨s8, g8⟩ := s7.stored (o + 8) a8
  exact ⟨_, s8, ((((((((g0.trans g1).trans g2).trans g3).trans g4).trans g5).trans g6).trans g7).trans g8)⟩
/-- A row that lies from a place on reads as it did when another block has grown. -/
structure RdF (W : World) (B : Nat) (A : Option Addr) (L : List Tk) : Prop where
  r : RdT W A L
  f : ∀ a, A = some a → B ≤ a.block
theorem own_rdf {W : World} {B n : Nat} {v : Value} {L : List Tk} (h : W.ownsRow B 36 9 v n (tkc L)) (hn : n = L.length) : ∃ A c, v = .slice A L.length c ∧ RdF W B A L := by
  obtain ⟨A, c, e, hr⟩ := own_rdt h hn
  refine ⟨A, c, e, hr, fun a ha => ?_⟩
  subst ha
  rw [e] at h
  obtain ⟨g, o, m⟩ := a
  have := (h.lt g (by rfl)).1
  exact this
theorem RdF.later {W W' : World} {B : Nat} {A : Option Addr} {L : List Tk} (h : RdF W B A L) (hb : Below W.heap.size W W') : RdF W' B A L := ⟨h.r.later hb, h.f⟩
theorem RdF.grown {W W' : World} {B : Nat} {A : Option Addr} {L : List Tk} {row : Option Nat} (h : RdF W B A L) (hg : W.grownBy W' row) (hne : ∀ k, row = some k → k < B) : RdF W' B A L := ⟨⟨fun q => by
  obtain ⟨g, e, lt, hc⟩ := h.r.rd q
  have hB := h.f _ e
  have hblk : W'.heap[g]? = W.heap[g]? := hg.block g lt (fun e => by have := hne g e.symm; simp at hB; omega)
  have key : ∀ j, W'.cell? ⟨g, j, none⟩ = W.cell? ⟨g, j, none⟩ := fun j => World.cell?_of_block (a := ⟨g, j, none⟩) hblk
  have lt' : g < W'.heap.size := by
    have h1 : W.heap[g]? = some W.heap[g] := Array.getElem?_eq_getElem lt
    rw [← hblk] at h1
    exact (Array.getElem?_eq_some_iff.1 h1).1
  refine ⟨g, e, lt', fun k t hk => ?_⟩
  obtain ⟨c0, c1, c2, c3, c4, c5, c6, c7, c8⟩ := hc k t hk
  exact ⟨(key _).trans c0, (key _).trans c1, (key _).trans c2, (key _).trans c3, (key _).trans c4, (key _).trans c5, (key _).trans c6, (key _).trans c7, (key _).trans c8⟩⟩, h.f⟩
set_option maxRecDepth 100000 in
set_option maxHeartbeats 16000000 in
theorem lexes_ok (s : ByteArray) (l : List Tk) (h : lexR (oneP s) s = .inl l) (w : World) (hg : SG w) : Calls Tryd.prog 3 #[.string s] w fun e w' => e = .returned (.bool true) ∧ Below w.heap.size w w' := by
  obtain ⟨hs, hch⟩ := lex_chn h
  have hll : l.length ≤ 65536 := by have := chn_len (Nat.zero_le _) hch; omega
  have HN : Hid (∀ w, Calls Tryd.prog 6 #[] w fun e w' => e = .returned (.bool true) ∧ w' = w) := fun w => tnames_any w
  have HWk : Hid (∀ w, SG w → Calls Tryd.prog 10 #[] w fun e w' => e = .returned (.bool true) ∧ Below w.heap.size w w') := fun w g => works_any w g
  have HG := (show Hid (SG w) from hg)
  have HL : Hid (∀ w, SG w → Calls Tryd.prog 7 #[.string s] w fun e' w' => (∃ v, e' = .returned (.tuple #[v, .agg #[.int .i64 0, .int .i64 0]]) ∧ w'.ownsRow w.heap.size 36 9 v l.length (tkc l)) ∧ Below w.heap.size w w') := fun w g => by
    have h1 := lexP_any s w g
    rw [h] at h1
    exact h1
  have HD : Hid (∀ w, Calls Tryd.prog 8 #[.string s] w fun e' w' => (∃ v, e' = .returned (.tuple #[v, .int .i64 0, .int .i64 0]) ∧ w'.ownsRow w.heap.size 36 9 v l.length (tkc l)) ∧ Below w.heap.size w w') := fun w => by
    have h1 := lexD_any s (by omega) w
    rw [h] at h1
    exact h1
  have HSm : Hid (∀ A1 A2 c1 c2 w, RdT w A1 l → RdT w A2 l → Calls Tryd.prog 9 #[.slice A1 l.length c1, .slice A2 l.length c2] w fun e w' => e = .returned (.bool true) ∧ Below w.heap.size w w') := fun A1 A2 c1 c2 w r1 r2 => tsame_any A1 A2 c1 c2 l (by omega) w r1 r2
  clear hg h hch
  go_enter Tryd.func3, Tryd.ntmps3
  go_wp2_with fail
  refine (HN.out _).mono ?_
  rintro e w1 ⟨rfl, rfl⟩
  clear HN
  go_wp2_with fail
  refine (HL.out _ HG.out).mono ?_
  rintro e w2 ⟨⟨v1, rfl, o1⟩, b2⟩
  have HB2 := (show Hid (Below w1.heap.size w1 (w2.alloc (fxO 0 0))) from b2.alloc b2.size _)
  have HF2 := (show Hid (FX (w2.alloc (fxO 0 0)) w2.heap.size 0 0) from ⟨heap_alloc_new w2 _⟩)
  have HO2 := (show Hid ((w2.alloc (fxO 0 0)).ownsRow w1.heap.size 36 9 v1 l.length (tkc l) ∧ ∀ k, v1.ownBlock = some k → w1.heap.size ≤ k ∧ k < w2.heap.size) from ⟨ownB o1 (below_box _ _), fun k e => o1.lt k e⟩)
  clear b2 o1
  go_wp2_with fail
  refine (HL.out _ (HG.out.below HB2.out HG.out.lt)).mono ?_
  rintro e w3 ⟨⟨v2, rfl, o2⟩, b3⟩
  obtain ⟨A2, cp2, rfl, r2⟩ := own_rdf o2 rfl
  have HB3 := (show Hid (Below w1.heap.size w1 (w3.alloc (fxO 0 0))) from (HB2.out.trans (b3.mono HB2.out.size)).alloc (Nat.le_trans HB2.out.size b3.size) _)
  have HF3 := (show Hid (FX (w3.alloc (fxO 0 0)) w2.heap.size 0 0) from (HF2.out.below b3).below (below_box _ _))
  have HO3 := (show Hid ((w3.alloc (fxO 0 0)).ownsRow w1.heap.size 36 9 v1 l.length (tkc l) ∧ ∀ k, v1.ownBlock = some k → w1.heap.size ≤ k ∧ k < w2.heap.size) from ⟨ownB (ownB HO2.out.1 b3) (below_box _ _), HO2.out.2⟩)
  have HR3 := (show Hid (RdF (w3.alloc (fxO 0 0)) (w2.heap.size + 1) A2 l) from by
    have hsz : (w2.alloc (fxO 0 0)).heap.size = w2.heap.size + 1 := World.size_alloc _ _
    rw [hsz] at r2
    exact r2.later (below_box _ _))
  have hsz3 : w2.heap.size + 1 ≤ w3.heap.size := by have := b3.size; rw [World.size_alloc] at this; exact this
  clear b3 HB2 HF2 HO2 HL o2 r2
  go_wp2_with fail
  refine (HD.out _).mono ?_
  rintro e w4 ⟨⟨v3, rfl, o3⟩, b4⟩
  obtain ⟨A3, cp3, rfl, r3⟩ := own_rdf o3 rfl
  have HB4 := (show Hid (Below w1.heap.size w1 w4) from HB3.out.trans (b4.mono HB3.out.size))
  have HF4 := (show Hid (FX w4 w2.heap.size 0 0) from HF3.out.below b4)
  have HO4 := (show Hid (w4.ownsRow w1.heap.size 36 9 v1 l.length (tkc l) ∧ ∀ k, v1.ownBlock = some k → w1.heap.size ≤ k ∧ k < w2.heap.size) from ⟨ownB HO3.out.1 b4, HO3.out.2⟩)
  have HR4 := (show Hid (RdF w4 (w2.heap.size + 1) A2 l ∧ RdF w4 (w2.heap.size + 1) A3 l) from ⟨HR3.out.later b4, r3.r, fun a e => Nat.le_trans (by rw [World.size_alloc]; omega) (r3.f a e)⟩)
  clear b4 HB3 HF3 HD HO3 HR3 o3 r3
  obtain ⟨A1, cp1, rfl, r1⟩ := own_rdt HO4.out.1 rfl
  have HR1 := (show Hid (RdT w4 A1 l) from r1)
  clear r1
  go_wp2_with fail
  refine (HSm.out _ _ _ _ _ HR1.out HR4.out.2.r).mono ?_
  rintro e w5 ⟨rfl, b5⟩
  have HB5 := (show Hid (Below w1.heap.size w1 w5) from HB4.out.trans (b5.mono HB4.out.size))
  have HF5 := (show Hid (FX w5 w2.heap.size 0 0) from HF4.out.below b5)
  have HO5 := (show Hid (w5.ownsRow w1.heap.size 36 9 (.slice A1 l.length cp1) l.length (tkc l) ∧ ∀ k, (Value.slice A1 l.length cp1).ownBlock = some k → w1.heap.size ≤ k ∧ k < w2.heap.size) from ⟨ownB HO4.out.1 b5, HO4.out.2⟩)
  have HR5 := (show Hid (RdF w5 (w2.heap.size + 1) A2 l ∧ RdF w5 (w2.heap.size + 1) A3 l) from ⟨HR4.out.1.later b5, HR4.out.2.later b5⟩)
  clear b5 HB4 HF4 HO4 HR4 HR1
  have k0 := HF5.out.c0
  have k1 := HF5.out.c1
  have HA := (show Hid (∃ ys, w5.ownsRow w1.heap.size 36 9 (.slice A1 l.length cp1) l.length ys) from ⟨_, HO5.out.1⟩)
  have HX := (show Hid (0 < l.length → ∃ g, A1 = some ⟨g, 0, none⟩) from fun h0 => by
    obtain ⟨g, cap, e, _⟩ := HO5.out.1.form h0
    cases e
    exact ⟨g, rfl⟩)
  have HK := (show Hid (∀ k, (Value.slice A1 l.length cp1).ownBlock = some k → w1.heap.size ≤ k ∧ k < w2.heap.size) from HO5.out.2)
  clear HF5 HO5
  go_wp2_with fail
  clear k0 k1
  go_loopw [10] (fun t wr => ∃ k : Nat, k ≤ l.length ∧ t = .int .i64 k ∧ Hid (∃ ys, wr.ownsRow w1.heap.size 36 9 (.slice A1 l.length cp1) l.length ys) ∧ Hid (w5.grownBy wr (Value.slice A1 l.length cp1).ownBlock)) (fun t _ => l.length - (intOf t).toNat)
  case atStart => exact ⟨0, by omega, by go_num, HA, World.grownBy.refl _ _⟩
  case round =>
    obtain ⟨k, hk, rfl, HO, HW⟩ := hrel
    clear HA
    by_cases hlt : k < l.length
    · obtain ⟨g, rfl⟩ := HX.out (by omega)
      obtain ⟨ys, ho⟩ := HO.out
      have hyl : ys.length = l.length * 9 := ho.1
      have key : ∀ i, i < 9 → ∃ y, wr.cell? ⟨g, k * 9 + i, none⟩ = some y := fun i hi => by
        have hcl := ho.cells (g := g) rfl (k * 9 + i) _ (List.getElem?_eq_getElem (by omega))
        rw [Addr.add_lit, Nat.zero_add] at hcl
        exact ⟨_, hcl⟩
      obtain ⟨y0, c0⟩ := key 0 (by omega)
      obtain ⟨y1, c1⟩ := key 1 (by omega)
      obtain ⟨y2, c2⟩ := key 2 (by omega)
      obtain ⟨y3, c3⟩ := key 3 (by omega)
      obtain ⟨y4, c4⟩ := key 4 (by omega)
      obtain ⟨y5, c5⟩ := key 5 (by omega)
      obtain ⟨y6, c6⟩ := key 6 (by omega)
      obtain ⟨y7, c7⟩ := key 7 (by omega)
      obtain ⟨y8, c8⟩ := key 8 (by omega)
      rw [Nat.add_zero] at c0
      have f0 := ho.frozenAt (k * 9)
      have f1 := ho.frozenAt (k * 9 + 1)
      have f2 := ho.frozenAt (k * 9 + 2)
      have f3 := ho.frozenAt (k * 9 + 3)
      have f4 := ho.frozenAt (k * 9 + 4)
      have f5 := ho.frozenAt (k * 9 + 5)
      have f6 := ho.frozenAt (k * 9 + 6)
      have f7 := ho.frozenAt (k * 9 + 7)
      have f8 := ho.frozenAt (k * 9 + 8)
      obtain ⟨zs, st1, st2⟩ := stored9 ho (k * 9) (.int .i64 (-7)) (.int .i64 0) (.int .i64 0) (.int .i64 0) (.string ⟨#[]⟩) (.int .u64 0) (.int .u64 0) (.int .u64 0) (.int .u64 0)
      have HO2 := (show Hid (∃ ys, _) from ⟨_, st1⟩)
      have HW2 := (show Hid _ from HW.out.trans st2)
      have z0 : (0 : Int) ≤ (k : Int) := by omega
      have z1 : (k : Int) < (l.length : Int) := by omega
      clear HO HW st1 st2 ho hyl HX key
      go_wp2_with fail
      go_roundw
      case rel => exact ⟨k + 1, by omega, by go_num, HO2, HW2⟩
      case measure => simp [intOf]; omega
    · obtain rfl : k = l.length := by omega
      have z1 : ¬ (l.length : Int) < (l.length : Int) := by omega
      have HB6 := (show Hid (Below w1.heap.size w1 wr) from HB5.out.grown HW.out HB5.out.size (fun k e => (HK.out k e).1))
      have HR6 := (show Hid (RdT wr A2 l ∧ RdT wr A3 l) from ⟨(HR5.out.1.grown HW.out (fun k e => by have := (HK.out k e).2; omega)).r, (HR5.out.2.grown HW.out (fun k e => by have := (HK.out k e).2; omega)).r⟩)
      clear HO HW HX HB5 HR5 HK
      go_wp2_with fail
      refine (HSm.out _ _ _ _ _ HR6.out.1 HR6.out.2).mono ?_
      rintro e w6 ⟨rfl, b6⟩
      have HB7 := (show Hid (Below w1.heap.size w1 w6) from HB6.out.trans (b6.mono HB6.out.size))
      clear b6 HB6 HR6 HSm
      go_wp2_with fail
      refine (HWk.out _ (HG.out.below HB7.out HG.out.lt)).mono ?_
      rintro e w7 ⟨rfl, b7⟩
      have HB8 := (show Hid (Below w1.heap.size w1 w7) from HB7.out.trans (b7.mono HB7.out.size))
      clear b7 HB7 HWk
      go_wp2_with fail
      go_ret
      exact ⟨rfl, HB8.out⟩
theorem lexes_any (s : ByteArray) (hs : s.size ≤ 140737488355000) (w : World) (hg : SG w) : Calls Tryd.prog 3 #[.string s] w fun e w' => e = .returned (.bool true) ∧ Below w.heap.size w w' := by
  cases h : lexR (oneP s) s with
  | inr q => exact lexes_err s hs q h w hg
  | inl l => exact lexes_ok s l h w hg
end Go.Proofs.YthffklhojdldkaaDoor

namespace Go.Proofs.YthffklhojdldkaaDoor
open Go.ChangeShapes Go.WideShapes Go.ChangeAt Go.RowKit
open Go.ChangeMaps (open_string shut_string)
set_option maxRecDepth 100000 in
theorem tokenLexes_contract (H : Type) (enc : TypeId × Value → H) (W : World) (base : Nat) (args : Array Value) (ds gs : List (DataW H)) (before : List MemPlace)
    (hval0 : ∀ (j : Nat) t v, Tryd.f3.params[j]? = some t → args[j]? = some v → Value.okWide Tryd.prog W .any base t v)
    (hW : DataW.Whole enc Tryd.prog Tryd.f3.params.toList Rows.tokenLexesSpec.vars false W args.toList ds gs before) (hvb : SG W)
    (hsz : (DataW.weightsEach Tryd.prog (Tryd.f3.params.toList ++ (OpenSpec.ofChange Rows.tokenLexesSpec).bare.plain.varTypes Tryd.prog) (ds ++ gs)).all (· ≤ reachBytes) = true) :
    Calls Tryd.prog 3 args W fun e W' => ∃ v, e = .returned v ∧ Rows.tokenLexesSpec.post enc Tryd.prog Tryd.f3 false true false false W args v W' := by
  have hval : ∀ (j : Nat) t v, Tryd.f3.params[j]? = some t → args[j]? = some v → Value.okWide Tryd.prog W .any base t v := hval0
  have hW' := hW
  obtain ⟨p, q, hA0, hV, rfl, hfz, hnd⟩ := hW
  have hA : DataW.TrodAll enc Tryd.prog W 0 (fun _ => true) true Tryd.f3.params.toList args.toList ds p := hA0
  rw [Tryd.params3] at hA hval hsz
  obtain ⟨v1, d1, rfl, rfl, h1⟩ := trodAll_one hA
  obtain ⟨rfl, rfl⟩ := trodVars_none hV
  obtain ⟨s1, rfl, rfl, rfl, hs1⟩ := open_string Tryd.underlying9 (hval 0 9 v1 rfl rfl) h1
  clear hA0 hval0
  have hb : s1.size ≤ 140737488355000 := by
    have h := sized_string hsz (j := 0) rfl rfl
    have e : s1.data.toList.length = s1.size := rfl
    have r : reachBytes ≤ 140737488355000 := by decide
    omega
  refine (lexes_any s1 hb W hvb).mono fun e W' ⟨he, bel⟩ => ?_
  subst he
  exact ⟨_, rfl, _, _, _, [], _, [], hW', trodAll_mk1 (shut_bool Tryd.underlying4 _), (trodAll_cons_mk (shut_string Tryd.underlying9 hs1) trodAll_mk0), rfl, bel.frame _, fun h => by cases h⟩

theorem tokenLexes_met (os : Os) : laidMet Tryd.prog Rows.tokenLexesRow.laid ((layTab (World.holding Tryd.prog os ⟨#[], #[], []⟩)).forCall (fun _ _ => 0) ⟨#[], #[.string ByteArray.empty], []⟩).memory :=
  laidMet_of_run' 8 (by kernel_rfl) (by kernel_rfl)
theorem tokenLexes_reads (os : Os) {H : Type} (enc : TypeId × Value → H) : ∃ places, DataW.whole enc Tryd.prog ((layTab (World.holding Tryd.prog os ⟨#[], #[], []⟩)).forCall (fun _ _ => 0) ⟨#[], #[.string ByteArray.empty], []⟩).memory Tryd.f3.params.toList Rows.tokenLexesSpec.vars false (#[.string ByteArray.empty] : Array Value).toList 8 = some ([.lit (.string [])], [], places) :=
  ⟨[], by kernel_rfl⟩

set_option maxRecDepth 100000 in
theorem tokenLexes_lifted (os : Os) (started : os.Started) (H : Type) (enc : TypeId × Value → H) (F : Stop.Interp) :
    ReturnsInHanded {} Tryd.checked os 3 .any ((OpenSpec.ofChange Rows.tokenLexesSpec).preRow enc Tryd.prog Tryd.f3 Rows.tokenLexesRow.domain false Rows.tokenLexesRow.laid) (((OpenSpec.ofChange Rows.tokenLexesSpec).at F).post enc Tryd.prog Tryd.f3 false true false false) := by
  obtain ⟨places, hx⟩ := tokenLexes_reads os enc
  refine returnsInHanded_of_row (C := Tryd.checked) (s := OpenSpec.ofChange Rows.tokenLexesSpec) own started (by kernel_rfl) Tryd.func3
    (witness_row_at (enc := enc) (C := Tryd.checked) false (layTab (World.holding Tryd.prog os ⟨#[], #[], []⟩)) #[.string ByteArray.empty] rfl (by kernel_rfl) (by kernel_rfl) (by kernel_rfl)
      (OpenSpec.preRow_of_cond 8 hx (by kernel_rfl) (fun k hk => by cases hk) (by kernel_rfl) (tokenLexes_met os))) ?_
  intro W base args ds gs before hval hW _ hcond hsz hL _ _
  exact tokenLexes_contract H enc W base args ds gs before hval hW (sg_of_laid hL) hsz

theorem tokenLexes_row : Rows.TokenLexesSaid :=
  OpenClaim.holds_of_cond 3 Tryd.f3 rfl rfl rfl rfl rfl rfl rfl ⟨rfl, rfl, rfl, rfl, rfl⟩ rfl rfl rfl rfl rfl (by kernel_rfl) Tryd.func3 (by kernel_rfl)
    (of_decide_eq_true (by kernel_rfl)) (by unfold Func.isWrapper; first | (rw [if_pos (by decide +kernel)]; kernel_rfl) | (rw [if_neg (by decide +kernel)]; exact ⟨rfl, rfl⟩))
    (fun os started H enc _ F => by rw [OpenClaim.pre_eq_preRow]; exact tokenLexes_lifted os started H enc F)
theorem tokenLexes_plain (f : FuncId) (fn : Func) (hf : Tryd.pinned.checked.prog.funcNamed "harrow/harrowlaw05.TokenLexes" = some f) (hfn : Tryd.pinned.checked.prog.funcs[f]? = some fn) :
    false = Tryd.pinned.checked.prog.looks [] ∧ ∀ (j : Nat) t, fn.params[j]? = some t → Tryd.pinned.checked.prog.wantsStandIn t = false := by
  obtain rfl : f = 3 := Option.some.inj ((show Tryd.prog.funcNamed "harrow/harrowlaw05.TokenLexes" = some 3 by kernel_rfl).symm.trans hf) |>.symm
  obtain rfl : fn = Tryd.f3 := (Option.some.inj (Tryd.func3.symm.trans hfn)).symm
  refine ⟨by kernel_rfl, fun j t ht => ?_⟩
  rw [Tryd.params3] at ht
  have hm : t ∈ [9] := by simpa using Array.mem_of_getElem? ht
  have hall : ([9].all fun u => !Tryd.prog.wantsStandIn u) = true := by kernel_rfl
  exact (show Tryd.prog.wantsStandIn t = false by simpa using List.all_eq_true.1 hall t hm)
theorem tokenLexes_holds : Rows.TokenLexesCardSaid :=
  Claim7.holds_tied_plain_at .later [] _ _ _ _ tokenLexes_row (fun _ h => by cases h) (by kernel_rfl) (fun _ h => by cases h) tokenLexes_row_tie rfl ⟨rfl, rfl⟩ (by kernel_rfl) rfl tokenLexes_plain (by kernel_rfl)
end Go.Proofs.YthffklhojdldkaaDoor
