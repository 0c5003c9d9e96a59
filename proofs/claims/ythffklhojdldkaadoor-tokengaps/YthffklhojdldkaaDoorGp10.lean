/- DERIVED. Plain mathematics and walks, laid together (10). -/
import Derived.Test.YthffklhojdldkaaDoorGp09
namespace Go.Proofs.YthffklhojdldkaaDoor
open Go.RowKit
def ex1 : ByteArray := ⟨#[97, 32, 60, 45, 32, 39, 120, 92, 110, 39, 32, 47, 32, 91, 97, 45, 122, 93, 43, 32, 45, 45, 32, 110, 111, 116, 101]⟩
def ex2 : ByteArray := ⟨#[97, 36]⟩
def wk1B : Sum (List Tk) (Nat × Int) → Bool
  | .inl [a, _, c, _, _, _] => a.kd == 1 && a.nn == 0 && a.fr == 0 && a.en == 1 && a.tx.data.toList == [97] && a.s0 == 0 && a.s1 == 0 && a.s2 == 0 && a.s3 == 0 && c.tx.data.toList == [120, 10] && c.en == 10
  | _ => false
def wk2B : Sum (List Tk) (Nat × Int) → Bool
  | .inr q => q.1 == 1 && q.2 == 50
  | _ => false
set_option maxRecDepth 1000000 in
theorem wk2 : wk2B (lexR (oneP ex2) ex2) = true := by kernel_rfl
set_option maxRecDepth 1000000 in
theorem wk1 : wk1B (lexR (oneP ex1) ex1) = true := by kernel_rfl
theorem text_eq {s : ByteArray} {l : List UInt8} (h : (s.data.toList == l) = true) : s = ⟨l.toArray⟩ := by
  have h := beq_iff_eq.1 h
  cases s with
  | mk d => simp at h; rw [← h]
theorem wk1_get : ∃ b c d e f, lexR (oneP ex1) ex1 = .inl [⟨1, 0, 0, 1, ⟨#[97]⟩, 0, 0, 0, 0⟩, b, c, d, e, f] ∧ c.tx = ⟨#[120, 10]⟩ ∧ c.en = 10 := by
  have h := wk1
  generalize lexR (oneP ex1) ex1 = r at *
  match r, h with
  | .inl [a, b, c, d, e, f], h =>
    simp only [wk1B, Bool.and_eq_true, beq_iff_eq] at h
    obtain ⟨⟨⟨⟨⟨⟨⟨⟨⟨⟨h0, h1⟩, h2⟩, h3⟩, h4⟩, h5⟩, h6⟩, h7⟩, h8⟩, h9⟩, h10⟩ := h
    refine ⟨b, c, d, e, f, ?_, text_eq (beq_iff_eq.2 h9), h10⟩
    have h4 := text_eq (beq_iff_eq.2 h4)
    obtain ⟨a0, a1, a2, a3, a4, a5, a6, a7, a8⟩ := a
    dsimp only at *
    subst h0 h1 h2 h3 h4 h5 h6 h7 h8
    rfl
theorem wk2_get : lexR (oneP ex2) ex2 = .inr (1, 50) := by
  have h := wk2
  generalize lexR (oneP ex2) ex2 = r at *
  match r, h with
  | .inr q, h =>
    simp only [wk2B, Bool.and_eq_true, beq_iff_eq] at h
    obtain ⟨a, b⟩ := q
    obtain ⟨h1, h2⟩ := h
    dsimp only at *
    subst h1 h2
    rfl
set_option maxRecDepth 100000 in
set_option maxHeartbeats 8000000 in
theorem works_any (w : World) (hg : SG w) : Calls Tryd.prog 10 #[] w fun e w' => e = .returned (.bool true) ∧ Below w.heap.size w w' := by
  obtain ⟨b, c, d, e, f, hl, htx, hen⟩ := wk1_get
  have HL1 : Hid (Calls Tryd.prog 7 #[.string ex1] w fun e' w' => (∃ v, e' = .returned (.tuple #[v, .agg #[.int .i64 0, .int .i64 0]]) ∧ w'.ownsRow w.heap.size 36 9 v 6 (tkc [⟨1, 0, 0, 1, ⟨#[97]⟩, 0, 0, 0, 0⟩, b, c, d, e, f])) ∧ Below w.heap.size w w') := by
    have h := lexP_any ex1 w hg
    rw [hl] at h
    exact h
  have HL2 : Hid (∀ w, SG w → Calls Tryd.prog 7 #[.string ex2] w fun e' w' => e' = .returned (.tuple #[.slice none 0 0, .agg #[.int .i64 1, .int .i64 50]]) ∧ Below w.heap.size w w') := fun w g => by
    have h := lexP_any ex2 w g
    rw [wk2_get] at h
    exact h
  have HG := (show Hid (SG w) from hg)
  have e1 := eq26 0 0 0 0
  have e2 := eq26 1 50 1 50
  have e3 := tok_eql ⟨1, 0, 0, 1, ⟨#[97]⟩, 0, 0, 0, 0⟩
  unfold ex1 at HL1
  unfold ex2 at HL2
  clear hg hl
  go_enter Tryd.func10, Tryd.ntmps10
  go_wp2_with fail
  refine HL1.out.mono ?_
  rintro e' w1 ⟨⟨v, rfl, ho⟩, b1⟩
  obtain ⟨A, cp, rfl, hr⟩ := own_rdt ho rfl
  have HR1 := (show Hid _ from hr.later (below_box w1 (fxO 0 0)))
  have HB1 := (show Hid (Below w.heap.size w (w1.alloc (fxO 0 0)) ∧ SG (w1.alloc (fxO 0 0))) from ⟨b1.alloc b1.size _, (HG.out.later b1).later (below_box _ _)⟩)
  have HF1 := (show Hid (FX (w1.alloc (fxO 0 0)) w1.heap.size 0 0) from ⟨heap_alloc_new w1 _⟩)
  clear ho b1 hr HL1
  go_wp2_with fail
  refine (HL2.out _ HB1.out.2).mono ?_
  rintro e' w2 ⟨rfl, b2⟩
  have HR2 := (show Hid _ from HR1.out.later b2)
  have HF2 := (show Hid (FX w2 w1.heap.size 0 0) from HF1.out.below b2)
  have HB2 := (show Hid (Below w.heap.size w w2) from HB1.out.1.trans (b2.mono HB1.out.1.size))
  have hb2 := HB2.out.size
  clear b2 HR1 HF1 HB1 HL2
  obtain ⟨g, rfl, lt, hc⟩ := HR2.out.rd (by simp)
  obtain ⟨a0, a1, a2, a3, a4, a5, a6, a7, a8⟩ := hc 0 _ rfl
  obtain ⟨d0, d1, d2, d3, d4, d5, d6, d7, d8⟩ := hc 2 _ rfl
  rw [htx] at d4
  rw [hen] at d3
  have k0 := HF2.out.c0
  have k1 := HF2.out.c1
  have lt2 := HF2.out.lt
  clear hc HR2 HF2 htx hen
  go_wp2_with fail
  go_ret
  exact ⟨rfl, HB2.out.alloc hb2 _⟩
end Go.Proofs.YthffklhojdldkaaDoor

namespace Go.Proofs.YthffklhojdldkaaDoor
open Go.RowKit
theorem lexGo_no (s : ByteArray) : ∀ (f : Nat) (out : List Tk) (i : Nat) (q : Nat × Int), lexGo (oneP s) s f out i = .inr q → q.2 ≠ 0 := by
  intro f
  induction f with
  | zero => intro out i q h; rw [lexGo] at h; cases h
  | succ f ih =>
    intro out i q h
    rw [lexGo] at h
    split at h
    · cases ho : oneP s i with
      | inr p => rw [ho] at h; cases h; exact oneP_no s i _ ho
      | inl t => rw [ho] at h; exact ih _ _ _ h
    · cases h
theorem lexR_no {s : ByteArray} {q : Nat × Int} (h : lexR (oneP s) s = .inr q) : q.2 ≠ 0 := by
  unfold lexR at h
  split at h
  · cases h; simp
  · exact lexGo_no s _ _ _ _ h
/-- While the law goes through the tokens. -/
structure AtV (w wB wr : World) : Prop where
  b : Below w.heap.size w wr
  c : Below wB.heap.size wB wr
theorem AtV.step {w wB wr W : World} (h : AtV w wB wr) (hb : Below wr.heap.size wr W) : AtV w wB W := ⟨h.b.trans (hb.mono h.b.size), h.c.trans (hb.mono h.c.size)⟩
end Go.Proofs.YthffklhojdldkaaDoor

namespace Go.Proofs.YthffklhojdldkaaDoor
open Go.RowKit
/-- Numbers that come in. -/
structure RdK (W : World) (A : Option Addr) (ks : List Int) : Prop where
  rd : ks ≠ [] → ∃ g off, A = some ⟨g, off, none⟩ ∧ g < W.heap.size ∧ ∀ (k : Nat) x, ks[k]? = some x → W.cell? ⟨g, off + k, none⟩ = some (.int .i64 x)
theorem RdK.later {W W' : World} {A : Option Addr} {ks : List Int} {B : Nat} (h : RdK W A ks) (hb : Below B W W') (hB : B = W.heap.size) : RdK W' A ks := ⟨fun hne => by
  obtain ⟨g, off, e, lt, hc⟩ := h.rd hne
  exact ⟨g, off, e, Nat.lt_of_lt_of_le lt hb.size, fun k x hk => (hb.cell (p := ⟨g, off + k, none⟩) (by show g < B; omega)).trans (hc k x hk)⟩⟩
theorem hid_of {p : Prop} (h : p) : Hid p := h
def kfN (ks : List Int) (j : Nat) : Int := if ks = [] then (j : Int) else (ks[j % ks.length]?).getD 0
theorem gpT_len (r : Nat) : (gpT r).size ≤ 15 := by
  unfold gpT
  split; · decide
  split; · decide
  split; · decide
  split; · decide
  split; · decide
  decide
theorem set_same {W : World} {b i : Nat} {cs : Array Value} {t : TypeId} {fr : Nat × Nat} {v : Value} (h : W.heap[b]? = some (.cells cs t fr)) (hi : cs.setIfInBounds i v = cs) : W.setCell ⟨b, i, none⟩ v = W := by
  obtain ⟨hlt, hv⟩ := Array.getElem?_eq_some_iff.1 h
  rw [setCell_eq_setRow W b i cs t fr v h, hi]
  unfold World.setRow
  suffices e : W.heap.modify b (fun | .cells _ elem frozen => .cells cs elem frozen | o => o) = W.heap from by
    show ({ W with heap := W.heap.modify b _ } : World) = W
    exact congrArg (fun h => ({ W with heap := h } : World)) e
  · apply Array.ext
    · simp
    · intro k h1 h2
      simp only [Array.getElem_modify]
      split
      · next hk => subst hk; rw [hv]
      · rfl
theorem byl_bl (s : ByteArray) : BL (Q.byl s) := fun b hb => by
  unfold Q.byl at hb
  obtain ⟨x, _, rfl⟩ := List.mem_map.1 hb
  exact ⟨by omega, by have := x.toNat_lt; omega⟩
theorem BL.app {A B : List Int} (h1 : BL A) (h2 : BL B) : BL (A ++ B) := fun b hb => (List.mem_append.1 hb).elim (h1 b) (h2 b)
theorem gapL_bl (r : Nat) : BL (gapL r) := byl_bl _
theorem gpB_bl (s : ByteArray) (kf : Nat → Int) : ∀ (l : List Tk) (a j : Nat), BL (gpB s kf l a j)
  | [], a, j => (byl_bl _).app (by unfold BL tailB; decide)
  | t :: l, a, j => by
    rw [gpB]
    refine (byl_bl _).app (BL.app ?_ ((byl_bl _).app (gpB_bl s kf l _ _)))
    split
    · exact gapL_bl _
    · intro b hb; cases hb
structure AtGp (w wB wr : World) (v : Value) (out : List Int) : Prop where
  b : Below w.heap.size w wr
  c : Below wB.heap.size wB wr
  o : wr.ownsRow wB.heap.size 5 1 v out.length (out.map (Value.int .u8))
theorem AtGp.step {w wB wr W : World} {v : Value} {out : List Int} (h : AtGp w wB wr v out) (hb : Below wr.heap.size wr W) : AtGp w wB W v out := ⟨h.b.trans (hb.mono h.b.size), h.c.trans (hb.mono h.c.size), ownB h.o hb⟩
theorem AtGp.grow {w wB wr W : World} {v v2 : Value} {out : List Int} {x : ByteArray} (h : AtGp w wB wr v out) (hw : w.heap.size ≤ wB.heap.size) (ho : W.ownsRow wB.heap.size 5 1 v2 (out.length + x.size) (out.map (Value.int .u8) ++ Lib.strCells x)) (hg : wr.grownBy W v.ownBlock) : AtGp w wB W v2 (out ++ Q.byl x) := by
  refine ⟨h.b.grown hg h.b.size (fun k e => Nat.le_trans hw (h.o.lt k e).1), h.c.grown hg h.c.size (fun k e => (h.o.lt k e).1), ?_⟩
  rw [List.length_append, List.map_append, Q.byl_len, ← str_byl]
  exact ho
theorem tx_grown {wB wr W : World} {v : Value} {out : List Int} {b : Nat} {t : Tk} (h : TX wr b t) (ho : wr.ownsRow wB.heap.size 5 1 v out.length (out.map (Value.int .u8))) (hg : wr.grownBy W v.ownBlock) : TX W b t := h.grown hg (by
  rcases ho.2 with ⟨rfl, _⟩ | ⟨g, cap, cur, rfl, hB, hgg, rest⟩
  · intro q; cases q
  · intro q
    cases q
    rw [h.heap] at hgg
    injection hgg with h1
    injection h1 with h2 h3
    cases h3)
theorem tm2 (k : Int) : IntKind.i64.wrap (k.tmod 2) = k.tmod 2 := by
  have h1 : -2 < k.tmod 2 := by have := Int.lt_tmod_of_pos k (b := 2) (by decide); omega
  have h2 : k.tmod 2 < 2 := Int.tmod_lt_of_pos k (by decide)
  rw [IntKind.wrap_i64]; omega
end Go.Proofs.YthffklhojdldkaaDoor

namespace Go.Proofs.YthffklhojdldkaaDoor
open Go.RowKit
set_option maxRecDepth 100000 in
set_option maxHeartbeats 16000000 in
theorem gaps_ok0 (s : ByteArray) (l : List Tk) (A : Option Addr) (c : Nat) (ks : List Int) (hks : ks = []) (h : lexR (oneP s) s = .inl l) (h400 : l.length ≤ 400) (h8000 : s.size ≤ 8000) (w : World) (hg : SG w) (hk : RdK w A ks) :
    Calls Tryd.prog 5 #[.string s, .slice A ks.length c] w fun e w' => e = .returned (.bool true) ∧ Below w.heap.size w w' := by
  obtain ⟨i0, hinf, hz0, hz1, hz2⟩ := info_parts Tryd.info5
  obtain ⟨hs, hch⟩ := lex_chn h
  have HWk : Hid (∀ w, SG w → Calls Tryd.prog 10 #[] w fun e w' => e = .returned (.bool true) ∧ Below w.heap.size w w') := fun w g => works_any w g
  have HG := (show Hid (SG w) from hg)
  have HL : Hid (∀ w, SG w → Calls Tryd.prog 7 #[.string s] w fun e' w' => (∃ v, e' = .returned (.tuple #[v, .agg #[.int .i64 0, .int .i64 0]]) ∧ w'.ownsRow w.heap.size 36 9 v l.length (tkc l)) ∧ Below w.heap.size w w') := fun w g => by
    have h1 := lexP_any s w g
    rw [h] at h1
    exact h1
  have e1 := eq26 0 0 0 0
  have HC := (show Hid (Chn s 0 l) from hch)
  have q1 : ¬ (400 : Int) < (l.length : Int) := by omega
  have q2 : ¬ (8000 : Int) < (s.size : Int) := by omega
  subst hks
  have HK0 := (show Hid (gpB s (kfN []) l 0 0 = [] ++ gpB s (kfN []) (l.drop 0) 0 0) from rfl)
  clear hg h hch hk
  go_enter Tryd.func5, Tryd.ntmps5
  go_wp2_with fail
  refine (HWk.out _ HG.out).mono ?_
  rintro e w1 ⟨rfl, b1⟩
  have HG1 := (show Hid (SG w1) from HG.out.later b1)
  have HB1 := (show Hid (Below w.heap.size w w1) from b1)
  clear b1 HWk
  go_wp2_with fail
  refine (HL.out _ HG1.out).mono ?_
  rintro e w2 ⟨⟨v, rfl, ho⟩, b2⟩
  obtain ⟨A1, cp, rfl, hr⟩ := own_rdt ho rfl
  have HB2 := (show Hid (AtGp w (w2.alloc (fxO 0 0)) (w2.alloc (fxO 0 0)) (.slice none 0 0) []) from ⟨(HB1.out.trans (b2.mono HB1.out.size)).alloc (Nat.le_trans HB1.out.size b2.size) _, Below.refl _ _, World.ownsRow_nil _ _ _ _⟩)
  have HR2 := (show Hid (RdT (w2.alloc (fxO 0 0)) A1 l) from hr.later (below_box _ _))
  have HF2 := (show Hid (FX (w2.alloc (fxO 0 0)) w2.heap.size 0 0) from ⟨heap_alloc_new w2 _⟩)
  clear b2 HB1 HG1 HL ho hr
  go_wp2_with fail
  generalize w2.alloc (fxO 0 0) = wB at *
  have hwB : w.heap.size ≤ wB.heap.size := HB2.out.b.size
  go_loopw [7, 8, 35] (fun v a t wr => ∃ (k i : Nat) (out : List Int), k ≤ l.length ∧ i ≤ s.size ∧ out.length ≤ i + 15 * k ∧ t = .int .i64 k ∧ a = .int .i64 i ∧ Hid (AtGp w wB wr v out) ∧ Hid (Chn s i (l.drop k)) ∧ Hid (gpB s (kfN []) l 0 0 = out ++ gpB s (kfN []) (l.drop k) i k) ∧ Hid (0 < k → ∃ t', l[k - 1]? = some t' ∧ t'.en = i)) (fun _ _ t _ => l.length - (intOf t).toNat)
  case atStart => exact ⟨0, 0, [], by omega, by omega, by simp, by go_num, by go_num, HB2, HC, HK0, fun q => by omega⟩
  case round =>
    obtain ⟨k, i, out, hk, hi, hol, rfl, rfl, HW, HD, HP, HV⟩ := hrel
    clear HB2 HK0
    by_cases hlt : k < l.length
    · obtain ⟨t, ht⟩ : ∃ t, l[k]? = some t := ⟨_, List.getElem?_eq_getElem hlt⟩
      have hdr : l.drop k = t :: l.drop (k + 1) := by
        obtain ⟨h1, h2⟩ := List.getElem?_eq_some_iff.1 ht
        rw [List.drop_eq_getElem_cons h1, h2]
      rw [hdr] at HD HP
      obtain ⟨d1, d2, en, d3, d4, d5, d6⟩ := HD.out
      have d7 := oneP_fr d2
      have hge := gapN_ge s i hi
      generalize gapN s i = b0 at *
      have HD2 := (show Hid (Chn s en (l.drop (k + 1))) from d6)
      have HP2 : Hid (gpB s (kfN []) l 0 0 = out ++ (Q.byl (s.extract i b0) ++ ((if insB k i b0 (kfN [] k) = true then gapL (gpI (kfN [] k)) else []) ++ (Q.byl (s.extract b0 en) ++ gpB s (kfN []) (l.drop (k + 1)) en (k + 1))))) := by
        show _ = _
        rw [HP.out, gpB, d7, d3, Int.toNat_natCast, Int.toNat_natCast]
      have HV2 := (show Hid (0 < k + 1 → ∃ t', l[k + 1 - 1]? = some t' ∧ t'.en = en) from fun _ => ⟨t, by rw [Nat.add_sub_cancel]; exact ht, d3⟩)
      obtain ⟨g, rfl, glt, hc⟩ := (HR2.out.later HW.out.c).rd (by rintro rfl; simp at ht)
      obtain ⟨a0, a1, a2, a3, a4, a5, a6, a7, a8⟩ := hc k t ht
      have HPr := (show Hid (∀ wx, Below wB.heap.size wB wx → 0 < k → wx.cell? ⟨g, (k - 1) * 9 + 3, none⟩ = some (.int .i64 i)) from fun wx bx h0 => by
        obtain ⟨t', x1, x2⟩ := HV.out h0
        obtain ⟨g', e', _, hc'⟩ := (HR2.out.later bx).rd (by rintro rfl; simp at x1)
        cases e'
        have := (hc' (k - 1) t' x1).c3
        rw [x2] at this
        exact this)
      obtain ⟨kd, nn, tf, te, tx, s0, s1, s2, s3⟩ := t
      dsimp only at d3 d7 a0 a1 a2 a3 a4 a5 a6 a7 a8
      subst d3 d7
      have z0 : (0 : Int) ≤ (k : Int) := by omega
      have z1 : (k : Int) < (l.length : Int) := by omega
      have y0 : ¬ (b0 : Int) < (i : Int) := by omega
      have y1 : ¬ (en : Int) < (b0 : Int) := by omega
      have y2 : ¬ (s.size : Int) < (en : Int) := by omega
      have y3 : (0 : Int) ≤ (i : Int) := by omega
      have y4 : (i : Int) ≤ (b0 : Int) := by omega
      have y5 : (b0 : Int) ≤ (s.size : Int) := by omega
      have y6 : (0 : Int) ≤ (b0 : Int) := by omega
      have y7 : (b0 : Int) ≤ (en : Int) := by omega
      have y8 : (en : Int) ≤ (s.size : Int) := by omega
      have hx1 : (s.extract i b0).size ≤ 8000 := by rw [ByteArray.size_extract]; omega
      have hx2 : (s.extract b0 en).size ≤ 8000 := by rw [ByteArray.size_extract]; omega
      have Hx := (show Hid ((s.extract i b0).size = b0 - i ∧ (s.extract b0 en).size = en - b0) from ⟨by rw [ByteArray.size_extract]; omega, by rw [ByteArray.size_extract]; omega⟩)
      have HX := (show Hid (AtGp w wB (wr.alloc (tkO ⟨kd, nn, b0, en, tx, s0, s1, s2, s3⟩)) u7 out ∧ TX (wr.alloc (tkO ⟨kd, nn, b0, en, tx, s0, s1, s2, s3⟩)) wr.heap.size ⟨kd, nn, b0, en, tx, s0, s1, s2, s3⟩) from ⟨HW.out.step (below_box _ _), TX.new wr _⟩)
      have hsB : wB.heap.size ≤ wr.heap.size + 1 := by have := HX.out.1.c.size; rwa [World.size_alloc] at this
      clear HC HD HP HV d1 d2 d4 d6 hdr ht hc HW
      go_wp2_with (at_builtin; refine Lib.wpList_append_own_string _ rfl _ _ 39 9 rfl wB.heap.size 5 i0 Tryd.underlying39 Tryd.underlying9 hinf hz0 hz1 hz2 _ _ _ rfl HX.out.1.o (s.extract i b0) rfl ?d3 ?d4 ?d5 ?_)
      case d3 => unfold maxLen; first | omega | (simp; omega)
      case d4 => first | omega | (simp; omega)
      intro v2 w5 hown2 hgrow2 hxx
      clear hxx
      have HX2 := (show Hid (AtGp w wB w5 v2 (out ++ Q.byl (s.extract i b0)) ∧ TX w5 wr.heap.size ⟨kd, nn, b0, en, tx, s0, s1, s2, s3⟩) from ⟨HX.out.1.grow hwB (x := s.extract i b0) (by rw [ByteArray.size_extract]; exact hown2) hgrow2, tx_grown HX.out.2 HX.out.1.o hgrow2⟩)
      clear hown2 hgrow2 HX a0 a1 a2 a3 a4 a5 a6 a7 a8
      obtain ⟨c0, c1, c2, c3, c4, c5, c6, c7, c8⟩ := HX2.out.2.cells
      dsimp only at c0 c1 c2 c3 c4 c5 c6 c7 c8
      go_wp2_with fail
      have hcp := HPr.out w5 HX2.out.1.c
      by_cases hk0 : k = 0
      · have v0 : decide (0 < k) = false := decide_eq_false (by omega)
        have v0' : decide ((0 : Int) < (k : Int)) = false := decide_eq_false (by omega)
        have HIn := (show Hid (insB k i b0 (kfN [] k) = true) from by unfold insB; rw [hk0]; rfl)
        have HKe := (show Hid (kfN [] k = (k : Int)) from rfl)
        clear hk0 hcp HPr
        go_quiet (fail)
        have HX6 := (show Hid (AtGp w wB (w5.drewN nq) v2 (out ++ Q.byl (s.extract i b0)) ∧ TX (w5.drewN nq) wr.heap.size ⟨kd, nn, b0, en, tx, s0, s1, s2, s3⟩) from ⟨HX2.out.1.step (below_drewN (Below.refl _ _) _), HX2.out.2.below (below_drewN (Below.refl _ _) _)⟩)
        generalize w5.drewN nq = w6 at *
        clear HX2 c0 c1 c2 c3 c4 c5 c6 c7 c8
        have HGp : Hid (∀ w, Calls Tryd.prog 13 #[.int .i64 (k : Int)] w fun e w' => e = .returned (.string (gpT (gpI (k : Int)))) ∧ Below w.heap.size w w') := fun w => gapT_any _ w
        have hgl : (gpT (gpI (k : Int))).size ≤ 15 := gpT_len _
        have HX7 := (show Hid (AtGp w wB w6.drew v2 (out ++ Q.byl (s.extract i b0)) ∧ TX w6.drew wr.heap.size ⟨kd, nn, b0, en, tx, s0, s1, s2, s3⟩) from ⟨HX6.out.1.step (Below.refl _ _).drew, HX6.out.2.below (Below.refl _ _).drew⟩)
        have HGe := (show Hid (gapL (gpI (kfN [] (k))) = Q.byl (gpT (gpI (k : Int)))) from by show _ = _; rw [HKe.out])
        generalize gpT (gpI (k : Int)) = GT at *
        have hq1 : (out ++ Q.byl (s.extract i b0)).length ≤ 30000 := by rw [List.length_append, Q.byl_len]; omega
        have hq2 : (out ++ Q.byl (s.extract i b0) ++ Q.byl GT).length ≤ 30100 := by rw [List.length_append, Q.byl_len]; omega
        have HQ3 := (show Hid ((out ++ Q.byl (s.extract i b0) ++ Q.byl GT ++ Q.byl (s.extract b0 en)).length ≤ en + 15 * (k + 1)) from by show _ ≤ _; rw [List.length_append, List.length_append, List.length_append, Q.byl_len, Q.byl_len, Q.byl_len, Hx.out.1, Hx.out.2]; omega)
        have HP3 := (show Hid (gpB s (kfN []) l 0 0 = out ++ Q.byl (s.extract i b0) ++ Q.byl GT ++ Q.byl (s.extract b0 en) ++ gpB s (kfN []) (l.drop (k + 1)) en (k + 1)) from by show _ = _; rw [HP2.out, if_pos HIn.out, HGe.out]; simp only [List.append_assoc])
        clear HP2 HIn HGe HKe
        have c2 := HX7.out.2.cells.c2
        have c3 := HX7.out.2.cells.c3
        have e2 := HX6.out.2.cells.c2
        have e3 := HX6.out.2.cells.c3
        dsimp only at c2 c3 e2 e3
        go_wp2_with fail
        go_region_law (first
          | (refine step_call1 enters13 (by rfl) _ _ (by rfl) (.int .i64 (k : Int)) (by rfl) ?_; with_reducible refine (HGp.out _).mono ?_; rintro e wA ⟨rfl, bA⟩; refine ⟨_, rfl, ?_⟩; have HXA := hid_of (And.intro (HX7.out.1.step bA) (HX7.out.2.below bA)); have g2 := HXA.out.2.cells.c2; have g3 := HXA.out.2.cells.c3; dsimp only at g2 g3; have hsA := HXA.out.1.c.size)
          | (refine step_append_str (by rfl) _ _ 39 9 (by rfl) wB.heap.size 5 i0 Tryd.underlying39 Tryd.underlying9 hinf hz0 hz1 hz2 _ _ _ (by rfl) HXB.out.1.o (s.extract b0 en) (by rfl) (by unfold maxLen; omega) (by omega) hsBB ?_; intro v4 w8 hown4 hgrow4; have HXC := hid_of (And.intro (HXB.out.1.grow hwB (x := s.extract b0 en) hown4 hgrow4) (tx_grown HXB.out.2 HXB.out.1.o hgrow4)); have k3 := HXC.out.2.cells.c3; dsimp only at k3)
          | (refine step_append_str (by rfl) _ _ 39 9 (by rfl) wB.heap.size 5 i0 Tryd.underlying39 Tryd.underlying9 hinf hz0 hz1 hz2 _ _ _ (by rfl) HXA.out.1.o GT (by rfl) (by unfold maxLen; omega) (by omega) hsA ?_; intro v3 w7 hown3 hgrow3; have HXB := hid_of (And.intro (HXA.out.1.grow hwB (x := GT) hown3 hgrow3) (tx_grown HXA.out.2 HXA.out.1.o hgrow3)); have i2 := HXB.out.2.cells.c2; have i3 := HXB.out.2.cells.c3; dsimp only at i2 i3; have hsBB := HXB.out.1.c.size))
        all_goals (try clear c2 c3 e2 e3 g2 g3 i2 i3 hown3 hgrow3 hown4 hgrow4 HXA HXB HX7 HX6 HGp bA hq1 hq2)
        all_goals (try go_wp2_with fail)
        all_goals (refine ⟨⟨k + 1, en, _, by omega, by omega, HQ3.out, by go_num, by go_num, HXC.out.1, HD2.out, HP3.out, HV2.out⟩, ?_⟩; simp [intOf]; omega)
      · have v0 : (0 : Int) < (k : Int) := by omega
        have hcp := hcp (by omega)
        obtain ⟨k1, rfl⟩ : ∃ j, k = j + 1 := ⟨k - 1, by omega⟩
        rw [Nat.add_sub_cancel] at hcp
        have u1 : IntKind.i64.wrap (((k1 + 1 : Nat) : Int) - 1) = (k1 : Int) := by rw [IntKind.wrap_i64]; omega
        have u2 : IntKind.i64.wrap ((k1 : Int) + 1 - 1) = (k1 : Int) := by rw [IntKind.wrap_i64]; omega
        have z2 : (0 : Int) ≤ (k1 : Int) := by omega
        have z3 : (k1 : Int) < (l.length : Int) := by omega
        have HKe := (show Hid (kfN [] (k1 + 1) = ((k1 + 1 : Nat) : Int)) from rfl)
        by_cases hib : i = b0
        · have v1 : ((i : Int) == (b0 : Int)) = true := by rw [hib]; exact beq_self_eq_true _
          by_cases hev : (((k1 + 1 : Nat) : Int)).tmod 2 = 0
          · have v3 : ((((k1 + 1 : Nat) : Int)).tmod 2 == 0) = true := by rw [hev]; rfl
            have v4 : (((k1 : Int) + 1) % 2 == 0) = true := by rw [show ((k1 : Int) + 1) % 2 = ((k1 + 1 : Nat) : Int).tmod 2 from by rw [Int.tmod_eq_emod_of_nonneg (by omega)]; omega]; exact v3
            have HIn := (show Hid (¬ insB (k1 + 1) i b0 (kfN [] (k1 + 1)) = true) from by show ¬ _; unfold insB; rw [HKe.out, v3, decide_eq_true hib]; simp)
            clear hib HPr hev
            go_quiet (fail)
            clear hcp u1 u2 z2 z3
            have HX6 := (show Hid (AtGp w wB (w5.drewN nq) v2 (out ++ Q.byl (s.extract i b0)) ∧ TX (w5.drewN nq) wr.heap.size ⟨kd, nn, b0, en, tx, s0, s1, s2, s3⟩) from ⟨HX2.out.1.step (below_drewN (Below.refl _ _) _), HX2.out.2.below (below_drewN (Below.refl _ _) _)⟩)
            generalize w5.drewN nq = w6 at *
            clear HX2 c0 c1 c2 c3 c4 c5 c6 c7 c8
            have hq1 : (out ++ Q.byl (s.extract i b0)).length ≤ 30000 := by rw [List.length_append, Q.byl_len]; omega
            have hq1' : out.length + (Q.byl (s.extract i b0)).length ≤ 30000 := by rw [Q.byl_len]; omega
            have HQ3 := (show Hid ((out ++ Q.byl (s.extract i b0) ++ Q.byl (s.extract b0 en)).length ≤ en + 15 * (k1 + 1 + 1)) from by show _ ≤ _; rw [List.length_append, List.length_append, Q.byl_len, Q.byl_len, Hx.out.1, Hx.out.2]; omega)
            have HP3 := (show Hid (gpB s (kfN []) l 0 0 = out ++ Q.byl (s.extract i b0) ++ Q.byl (s.extract b0 en) ++ gpB s (kfN []) (l.drop (k1 + 1 + 1)) en (k1 + 1 + 1)) from by show _ = _; rw [HP2.out, if_neg HIn.out]; simp only [List.append_assoc, List.nil_append])
            clear HP2 HIn HKe
            have e2 := HX6.out.2.cells.c2
            have e3 := HX6.out.2.cells.c3
            dsimp only at e2 e3
            have hsA := HX6.out.1.c.size
            go_wp2_with (at_builtin; refine Lib.wpList_append_own_string _ rfl _ _ 39 9 rfl wB.heap.size 5 i0 Tryd.underlying39 Tryd.underlying9 hinf hz0 hz1 hz2 _ _ _ rfl HX6.out.1.o (s.extract b0 en) rfl ?p3 ?p4 ?p5 ?_)
            case p3 => unfold maxLen; first | omega | (simp; omega)
            case p4 => first | omega | (simp; omega)
            try (case p5 => exact hsA)
            intro v4 w8 hown4 hgrow4 hxx
            clear hxx
            have HXC := (show Hid (AtGp w wB w8 v4 (out ++ Q.byl (s.extract i b0) ++ Q.byl (s.extract b0 en)) ∧ TX w8 wr.heap.size ⟨kd, nn, b0, en, tx, s0, s1, s2, s3⟩) from ⟨HX6.out.1.grow hwB (x := s.extract b0 en) (by rw [List.length_append, List.map_append, List.append_assoc, Hx.out.2]; exact hown4) hgrow4, tx_grown HX6.out.2 HX6.out.1.o hgrow4⟩)
            have k3 := HXC.out.2.cells.c3
            dsimp only at k3
            clear hown4 hgrow4 HX6 e2 e3 hq1 hq1' hsA
            go_wp2_with fail
            all_goals (refine ⟨⟨k1 + 1 + 1, en, _, by omega, by omega, HQ3.out, by go_num, by go_num, HXC.out.1, HD2.out, HP3.out, HV2.out⟩, ?_⟩; simp [intOf]; omega)
          · have v3 : ((((k1 + 1 : Nat) : Int)).tmod 2 == 0) = false := by rw [beq_eq_false_iff_ne]; exact hev
            have v4 : (((k1 : Int) + 1) % 2 == 0) = false := by rw [show ((k1 : Int) + 1) % 2 = ((k1 + 1 : Nat) : Int).tmod 2 from by rw [Int.tmod_eq_emod_of_nonneg (by omega)]; omega]; exact v3
            have HIn := (show Hid (insB (k1 + 1) i b0 (kfN [] (k1 + 1)) = true) from by show _ = _; unfold insB; rw [HKe.out, v3]; simp)
            clear hib HPr hev
            go_quiet (fail)
            clear hcp u1 u2 z2 z3
            have HX6 := (show Hid (AtGp w wB (w5.drewN nq) v2 (out ++ Q.byl (s.extract i b0)) ∧ TX (w5.drewN nq) wr.heap.size ⟨kd, nn, b0, en, tx, s0, s1, s2, s3⟩) from ⟨HX2.out.1.step (below_drewN (Below.refl _ _) _), HX2.out.2.below (below_drewN (Below.refl _ _) _)⟩)
            generalize w5.drewN nq = w6 at *
            clear HX2 c0 c1 c2 c3 c4 c5 c6 c7 c8
            have HGp : Hid (∀ w, Calls Tryd.prog 13 #[.int .i64 ((k1 + 1 : Nat) : Int)] w fun e w' => e = .returned (.string (gpT (gpI ((k1 + 1 : Nat) : Int)))) ∧ Below w.heap.size w w') := fun w => gapT_any _ w
            have hgl : (gpT (gpI ((k1 + 1 : Nat) : Int))).size ≤ 15 := gpT_len _
            have HX7 := (show Hid (AtGp w wB w6.drew v2 (out ++ Q.byl (s.extract i b0)) ∧ TX w6.drew wr.heap.size ⟨kd, nn, b0, en, tx, s0, s1, s2, s3⟩) from ⟨HX6.out.1.step (Below.refl _ _).drew, HX6.out.2.below (Below.refl _ _).drew⟩)
            have HGe := (show Hid (gapL (gpI (kfN [] (k1 + 1))) = Q.byl (gpT (gpI ((k1 + 1 : Nat) : Int)))) from by show _ = _; rw [HKe.out])
            generalize gpT (gpI ((k1 + 1 : Nat) : Int)) = GT at *
            have hq1 : (out ++ Q.byl (s.extract i b0)).length ≤ 30000 := by rw [List.length_append, Q.byl_len]; omega
            have hq2 : (out ++ Q.byl (s.extract i b0) ++ Q.byl GT).length ≤ 30100 := by rw [List.length_append, Q.byl_len]; omega
            have HQ3 := (show Hid ((out ++ Q.byl (s.extract i b0) ++ Q.byl GT ++ Q.byl (s.extract b0 en)).length ≤ en + 15 * (k1 + 1 + 1)) from by show _ ≤ _; rw [List.length_append, List.length_append, List.length_append, Q.byl_len, Q.byl_len, Q.byl_len, Hx.out.1, Hx.out.2]; omega)
            have HP3 := (show Hid (gpB s (kfN []) l 0 0 = out ++ Q.byl (s.extract i b0) ++ Q.byl GT ++ Q.byl (s.extract b0 en) ++ gpB s (kfN []) (l.drop (k1 + 1 + 1)) en (k1 + 1 + 1)) from by show _ = _; rw [HP2.out, if_pos HIn.out, HGe.out]; simp only [List.append_assoc])
            clear HP2 HIn HGe HKe
            have c2 := HX7.out.2.cells.c2
            have c3 := HX7.out.2.cells.c3
            have e2 := HX6.out.2.cells.c2
            have e3 := HX6.out.2.cells.c3
            dsimp only at c2 c3 e2 e3
            go_wp2_with fail
            go_region_law (first
              | (refine step_call1 enters13 (by rfl) _ _ (by rfl) (.int .i64 ((k1 + 1 : Nat) : Int)) (by rfl) ?_; with_reducible refine (HGp.out _).mono ?_; rintro e wA ⟨rfl, bA⟩; refine ⟨_, rfl, ?_⟩; have HXA := hid_of (And.intro (HX7.out.1.step bA) (HX7.out.2.below bA)); have g2 := HXA.out.2.cells.c2; have g3 := HXA.out.2.cells.c3; dsimp only at g2 g3; have hsA := HXA.out.1.c.size)
              | (refine step_append_str (by rfl) _ _ 39 9 (by rfl) wB.heap.size 5 i0 Tryd.underlying39 Tryd.underlying9 hinf hz0 hz1 hz2 _ _ _ (by rfl) HXB.out.1.o (s.extract b0 en) (by rfl) (by unfold maxLen; omega) (by omega) hsBB ?_; intro v4 w8 hown4 hgrow4; have HXC := hid_of (And.intro (HXB.out.1.grow hwB (x := s.extract b0 en) hown4 hgrow4) (tx_grown HXB.out.2 HXB.out.1.o hgrow4)); have k3 := HXC.out.2.cells.c3; dsimp only at k3)
              | (refine step_append_str (by rfl) _ _ 39 9 (by rfl) wB.heap.size 5 i0 Tryd.underlying39 Tryd.underlying9 hinf hz0 hz1 hz2 _ _ _ (by rfl) HXA.out.1.o GT (by rfl) (by unfold maxLen; omega) (by omega) hsA ?_; intro v3 w7 hown3 hgrow3; have HXB := hid_of (And.intro (HXA.out.1.grow hwB (x := GT) hown3 hgrow3) (tx_grown HXA.out.2 HXA.out.1.o hgrow3)); have i2 := HXB.out.2.cells.c2; have i3 := HXB.out.2.cells.c3; dsimp only at i2 i3; have hsBB := HXB.out.1.c.size))
            all_goals (try clear c2 c3 e2 e3 g2 g3 i2 i3 hown3 hgrow3 hown4 hgrow4 HXA HXB HX7 HX6 HGp bA hq1 hq2)
            all_goals (try go_wp2_with fail)
            all_goals (refine ⟨⟨k1 + 1 + 1, en, _, by omega, by omega, HQ3.out, by go_num, by go_num, HXC.out.1, HD2.out, HP3.out, HV2.out⟩, ?_⟩; simp [intOf]; omega)
        · have v1 : ((i : Int) == (b0 : Int)) = false := by rw [beq_eq_false_iff_ne]; omega
          have HIn := (show Hid (insB (k1 + 1) i b0 (kfN [] (k1 + 1)) = true) from by unfold insB; rw [decide_eq_false hib, Bool.and_false, Bool.false_and]; rfl)
          clear hib HPr
          go_quiet (fail)
          clear hcp u1 u2 z2 z3
          have HX6 := (show Hid (AtGp w wB (w5.drewN nq) v2 (out ++ Q.byl (s.extract i b0)) ∧ TX (w5.drewN nq) wr.heap.size ⟨kd, nn, b0, en, tx, s0, s1, s2, s3⟩) from ⟨HX2.out.1.step (below_drewN (Below.refl _ _) _), HX2.out.2.below (below_drewN (Below.refl _ _) _)⟩)
          generalize w5.drewN nq = w6 at *
          clear HX2 c0 c1 c2 c3 c4 c5 c6 c7 c8
          have HGp : Hid (∀ w, Calls Tryd.prog 13 #[.int .i64 ((k1 + 1 : Nat) : Int)] w fun e w' => e = .returned (.string (gpT (gpI ((k1 + 1 : Nat) : Int)))) ∧ Below w.heap.size w w') := fun w => gapT_any _ w
          have hgl : (gpT (gpI ((k1 + 1 : Nat) : Int))).size ≤ 15 := gpT_len _
          have HX7 := (show Hid (AtGp w wB w6.drew v2 (out ++ Q.byl (s.extract i b0)) ∧ TX w6.drew wr.heap.size ⟨kd, nn, b0, en, tx, s0, s1, s2, s3⟩) from ⟨HX6.out.1.step (Below.refl _ _).drew, HX6.out.2.below (Below.refl _ _).drew⟩)
          have HGe := (show Hid (gapL (gpI (kfN [] (k1 + 1))) = Q.byl (gpT (gpI ((k1 + 1 : Nat) : Int)))) from by show _ = _; rw [HKe.out])
          generalize gpT (gpI ((k1 + 1 : Nat) : Int)) = GT at *
          have hq1 : (out ++ Q.byl (s.extract i b0)).length ≤ 30000 := by rw [List.length_append, Q.byl_len]; omega
          have hq2 : (out ++ Q.byl (s.extract i b0) ++ Q.byl GT).length ≤ 30100 := by rw [List.length_append, Q.byl_len]; omega
          have HQ3 := (show Hid ((out ++ Q.byl (s.extract i b0) ++ Q.byl GT ++ Q.byl (s.extract b0 en)).length ≤ en + 15 * (k1 + 1 + 1)) from by show _ ≤ _; rw [List.length_append, List.length_append, List.length_append, Q.byl_len, Q.byl_len, Q.byl_len, Hx.out.1, Hx.out.2]; omega)
          have HP3 := (show Hid (gpB s (kfN []) l 0 0 = out ++ Q.byl (s.extract i b0) ++ Q.byl GT ++ Q.byl (s.extract b0 en) ++ gpB s (kfN []) (l.drop (k1 + 1 + 1)) en (k1 + 1 + 1)) from by show _ = _; rw [HP2.out, if_pos HIn.out, HGe.out]; simp only [List.append_assoc])
          clear HP2 HIn HGe HKe
          have c2 := HX7.out.2.cells.c2
          have c3 := HX7.out.2.cells.c3
          have e2 := HX6.out.2.cells.c2
          have e3 := HX6.out.2.cells.c3
          dsimp only at c2 c3 e2 e3
          go_wp2_with fail
          go_region_law (first
            | (refine step_call1 enters13 (by rfl) _ _ (by rfl) (.int .i64 ((k1 + 1 : Nat) : Int)) (by rfl) ?_; with_reducible refine (HGp.out _).mono ?_; rintro e wA ⟨rfl, bA⟩; refine ⟨_, rfl, ?_⟩; have HXA := hid_of (And.intro (HX7.out.1.step bA) (HX7.out.2.below bA)); have g2 := HXA.out.2.cells.c2; have g3 := HXA.out.2.cells.c3; dsimp only at g2 g3; have hsA := HXA.out.1.c.size)
            | (refine step_append_str (by rfl) _ _ 39 9 (by rfl) wB.heap.size 5 i0 Tryd.underlying39 Tryd.underlying9 hinf hz0 hz1 hz2 _ _ _ (by rfl) HXB.out.1.o (s.extract b0 en) (by rfl) (by unfold maxLen; omega) (by omega) hsBB ?_; intro v4 w8 hown4 hgrow4; have HXC := hid_of (And.intro (HXB.out.1.grow hwB (x := s.extract b0 en) hown4 hgrow4) (tx_grown HXB.out.2 HXB.out.1.o hgrow4)); have k3 := HXC.out.2.cells.c3; dsimp only at k3)
            | (refine step_append_str (by rfl) _ _ 39 9 (by rfl) wB.heap.size 5 i0 Tryd.underlying39 Tryd.underlying9 hinf hz0 hz1 hz2 _ _ _ (by rfl) HXA.out.1.o GT (by rfl) (by unfold maxLen; omega) (by omega) hsA ?_; intro v3 w7 hown3 hgrow3; have HXB := hid_of (And.intro (HXA.out.1.grow hwB (x := GT) hown3 hgrow3) (tx_grown HXA.out.2 HXA.out.1.o hgrow3)); have i2 := HXB.out.2.cells.c2; have i3 := HXB.out.2.cells.c3; dsimp only at i2 i3; have hsBB := HXB.out.1.c.size))
          all_goals (try clear c2 c3 e2 e3 g2 g3 i2 i3 hown3 hgrow3 hown4 hgrow4 HXA HXB HX7 HX6 HGp bA hq1 hq2)
          all_goals (try go_wp2_with fail)
          all_goals (refine ⟨⟨k1 + 1 + 1, en, _, by omega, by omega, HQ3.out, by go_num, by go_num, HXC.out.1, HD2.out, HP3.out, HV2.out⟩, ?_⟩; simp [intOf]; omega)
    · obtain rfl : k = l.length := by omega
      have z1 : ¬ (l.length : Int) < (l.length : Int) := by omega
      rw [List.drop_length] at HP
      have y3 : (0 : Int) ≤ (i : Int) := by omega
      have y4 : (i : Int) ≤ (s.size : Int) := by omega
      have hsB2 := HW.out.c.size
      have hx1 : (s.extract i s.size).size ≤ 8000 := by rw [ByteArray.size_extract]; omega
      have hq1 : (out ++ Q.byl (s.extract i s.size)).length ≤ 30000 := by rw [List.length_append, Q.byl_len]; omega
      have HCC := (show Hid (Chn s 0 l) from HC.out)
      clear HC HD HV
      go_wp2_with (at_builtin; (refine Lib.wpList_append_own_string _ rfl _ _ 39 9 rfl wB.heap.size 5 i0 Tryd.underlying39 Tryd.underlying9 hinf hz0 hz1 hz2 _ _ _ rfl HW.out.o (s.extract i s.size) rfl ?x3 ?x4 ?x5 ?_))
      case x3 => unfold maxLen; first | omega | (simp; omega)
      case x4 => first | omega | (simp; omega)
      intro v5 w5 hown5 hgrow5 hxx
      clear hxx
      have HX5 := (show Hid (AtGp w wB w5 v5 (out ++ Q.byl (s.extract i s.size))) from HW.out.grow hwB (x := s.extract i s.size) (by rw [show (s.extract i s.size).size = s.size - i by rw [ByteArray.size_extract]; omega]; exact hown5) hgrow5)
      have hsB5 := HX5.out.c.size
      clear hown5 hgrow5 HW hsB2
      go_wp2_with (at_builtin; (refine Lib.wpList_append_own_string _ rfl _ _ 39 9 rfl wB.heap.size 5 i0 Tryd.underlying39 Tryd.underlying9 hinf hz0 hz1 hz2 _ _ _ rfl HX5.out.o ⟨#[10, 32, 45, 45, 32, 101, 110, 100]⟩ rfl ?y3 ?y4 ?y5 ?_))
      case y3 => unfold maxLen; show _ + 8 ≤ _; omega
      case y4 => show _ + 8 ≤ _; omega
      case y5 => exact hsB5
      intro v6 w6 hown6 hgrow6 hxx
      clear hxx
      have HX6 := (show Hid (AtGp w wB w6 v6 (out ++ Q.byl (s.extract i s.size) ++ tailB)) from HX5.out.grow hwB (x := ⟨#[10, 32, 45, 45, 32, 101, 110, 100]⟩) (by rw [List.length_append, List.map_append, List.append_assoc]; exact hown6) hgrow6)
      have hq6 : (out ++ Q.byl (s.extract i s.size) ++ tailB).length ≤ 65536 := by rw [List.length_append]; show _ + 8 ≤ _; omega
      obtain ⟨L, hL⟩ : ∃ L, L = out ++ Q.byl (s.extract i s.size) ++ tailB := ⟨_, rfl⟩
      rw [← hL] at HX6 hq6
      have hLg : L = [] ++ gpB s (kfN []) l 0 0 := by rw [HP.out, hL, gpB, List.append_assoc]; rfl
      have hBL : BL L := by rw [hLg]; exact gpB_bl s _ l 0 0
      obtain ⟨l2, hc2, hm2⟩ := chn_gap s (kfN []) L hBL l 0 0 [] hLg (by omega) HCC.out
      have hl2 : l2.length = l.length := by have := congrArg List.length hm2; simpa using this
      have hsz : (asText L).size = L.length := asText_size L
      have HLx : Hid (∀ w, SG w → Calls Tryd.prog 7 #[.string (asText L)] w fun e' w' => (∃ v, e' = .returned (.tuple #[v, .agg #[.int .i64 0, .int .i64 0]]) ∧ w'.ownsRow w.heap.size 36 9 v l2.length (tkc l2)) ∧ Below w.heap.size w w') := fun w g => by
        have h1 := lexP_any (asText L) w g
        rw [lex_of_chn (by omega) hc2] at h1
        exact h1
      have hcv := text_own HX6.out.o
      have HG6 := (show Hid (SG w6) from HG.out.below HX6.out.b HG.out.lt)
      clear hown6 hgrow6 HX5 hsB5 HP hL hLg hBL hc2 hsz hq6 hq1 hx1 HCC
      go_wp2_with fail
      refine (HLx.out _ HG6.out).mono ?_
      rintro e w7 ⟨⟨v7, rfl, ho7⟩, b7⟩
      obtain ⟨A7, cp7, rfl, hr7⟩ := own_rdt ho7 rfl
      have HX7 := (show Hid (AtGp w wB w7 v6 L) from HX6.out.step b7)
      have HF7 := (show Hid (FX w7 w2.heap.size 0 0) from HF2.out.below HX7.out.c)
      have s1 : w7.setCell ⟨w2.heap.size, 0, none⟩ (.int .i64 0) = w7 := set_same HF7.out.heap rfl
      have s2 : w7.setCell ⟨w2.heap.size, 1, none⟩ (.int .i64 0) = w7 := set_same HF7.out.heap rfl
      have k0 := HF7.out.c0
      have k1 := HF7.out.c1
      have k2 := HF7.out.f0
      have k3 := HF7.out.f1
      have HR7 := (show Hid (RdT w7 A7 l2) from hr7)
      have HAl : Hid (∀ wx, Below w7.heap.size w7 wx → Calls Tryd.prog 12 #[.slice A7 l2.length cp7, .slice A1 l.length cp] wx fun e w' => e = .returned (.bool true) ∧ Below wx.heap.size wx w') := fun wx bx => alike_any A7 A1 cp7 cp l2 l hm2 (by omega) wx (HR7.out.later bx) ((HR2.out.later HX7.out.c).later bx)
      clear hcv ho7 b7 hr7 HX6 HLx HG6 hm2 hl2 HR7 HR2 HF2 HG
      go_wp2_with fail
      refine (HAl.out _ (Below.refl _ _)).mono ?_
      rintro e w8 ⟨rfl, b8⟩
      have HX8 := (show Hid (AtGp w wB w8 v6 L) from HX7.out.step b8)
      clear HAl b8 HX7 HF7 s1 s2 k0 k1 k2 k3
      go_wp2_with fail
      go_ret
      exact ⟨rfl, HX8.out.b⟩
end Go.Proofs.YthffklhojdldkaaDoor
